/- Parts of a proof. Conditions: as each row says. -/
import Derived.Test.YtbpodmallknhfaaGreatCr29
import Derived.Test.YtbpodmallknhfaaGreatCr21
import Derived.Test.YtbpodmallknhfaaGreatCr09
import Derived.Test.YtbpodmallknhfaaGreatCr07
import Derived.Test.YtbpodmallknhfaaGreatCr10
import Derived.Test.YtbpodmallknhfaaGreatCr03
namespace Go.Proofs.YtbpodmallknhfaaGreat
open Go.RowKit
namespace Wl
def je(a:Hf)(old:Nat):Hf:=⟨0,0,0,(List.replicate 52 0).take 0++a.log.take old++(List.replicate 52 0).drop (0+old)⟩
def j7(a:Hf)(wl:List Nat)(old sw fresh:Nat):Hf:=⟨0,0,0,(je a old).log.take old++(wl.drop sw).take fresh++(je a old).log.drop (old+fresh)⟩
def mX(a:Hf)(wl:List Nat)(old sw fresh r ep:Nat):Hf:=⟨r,ep,old+fresh,(j7 a wl old sw fresh).log⟩
theorem jB{a:Hf}(h:a.log.length=52){old:Nat}(b:old<=52):(je a old).log.length=52:=by
 unfold je;simp only[List.length_append,List.length_take,List.length_drop,List.length_replicate,h];omega
theorem mn{a:Hf}(h:a.log.length=52){wl:List Nat}{old sw fresh:Nat}(b:old+fresh<=52)(hs:fresh<=wl.length-sw):(j7 a wl old sw fresh).log.length=52:=by
 unfold j7;simp only[List.length_append,List.length_take,List.length_drop,jB h (show old<=52 by omega)];omega
theorem uI{c:Hf}(h:∀b∈c.log,b<256){wl:List Nat}(hw:∀b∈wl,b<256){old sw fresh:Nat}:∀b∈(j7 c wl old sw fresh).log,b<256:=by
 have hz:∀b∈List.replicate 52 0,b<256:=fun b a=>by rw[List.eq_of_mem_replicate a];decide
 have d:∀b∈(je c old).log,b<256:=by
  intro b a;unfold je at a;simp only[List.mem_append]at a;rcases a with(a|a)|a
  ·exact hz b (List.mem_of_mem_take a)
  ·exact h b (List.mem_of_mem_take a)
  ·exact hz b (List.mem_of_mem_drop a)
 intro b a;unfold j7 at a;simp only[List.mem_append]at a;rcases a with(a|a)|a
 ·exact d b (List.mem_of_mem_take a)
 ·exact hw b (List.mem_of_mem_drop (List.mem_of_mem_take a))
 ·exact d b (List.mem_of_mem_drop a)
theorem B5{a:Hf}(h:a.log.length=52){wl:List Nat}{old sw fresh:Nat}(f:old+fresh<=52)(hs:fresh<=wl.length-sw){i:Nat}(g:i<old+fresh):(j7 a wl old sw fresh).log.getD i 0=if i<old then a.log.getD i 0 else wl.getD (sw+(i-old)) 0:=by
 have hl:=jB h (show old<=52 by omega);have e:(j7 a wl old sw fresh).log=(je a old).log.take old++((wl.drop sw).take fresh++(je a old).log.drop (old+fresh)):=List.append_assoc ..;have c:((je a old).log.take old).length=old:=by rw[List.length_take,hl];omega
 rw[e,eW,c];by_cases b:i<old
 ·rw[if_pos b,if_pos b,getD_take b];have d:(je a old).log=a.log.take old++(List.replicate 52 0).drop (0+old):=by unfold je;rw[List.take_zero,List.nil_append]
  rw[d,eW,List.length_take,h,if_pos (by omega),getD_take b]
 ·rw[if_neg b,if_neg b];rw[eW,if_pos (by rw[List.length_take,List.length_drop];omega),getD_take (by omega),kI]
end Wl
theorem Gj(x:Wl.Hf):(gL x)[0]?=some (.int .u32 (x.round:Int)):=rfl
theorem Gi(x:Wl.Hf)(u:Value):((gL x).setIfInBounds 0 u)[1]?=some (.int .u32 (x.ai:Int)):=by rw[Array.getElem?_setIfInBounds_ne (by decide)];rfl
theorem Gh(x:Wl.Hf)(u v:Value):(((gL x).setIfInBounds 0 u).setIfInBounds 1 v)[2]?=some (.int .u32 (x.fill:Int)):=by rw[Array.getElem?_setIfInBounds_ne (by decide),Array.getElem?_setIfInBounds_ne (by decide)];rfl
theorem BU(x:Wl.Hf)(r e f:Nat):(((gL x).setIfInBounds 0 (.int .u32 (r:Int))).setIfInBounds 1 (.int .u32 (e:Int))).setIfInBounds 2 (.int .u32 (f:Int))=gL ⟨r,e,f,x.log⟩:=by
 unfold gL;simp
def vd(x:Wl.Hf)(Q W:Nat)(i:Nat)(v:Value)(w:World):Prop:=
 match i with
 |0=>v=.pointer (some ⟨Q,0,none⟩)
 |1=>v=.pointer (some ⟨Q,0,none⟩)
 |2=>v=.int .u32 (x.round:Int)
 |3=>Own W w v ([]++aw.le 4 x.round)
 |4=>v=.pointer (some ⟨Q,0,none⟩)
 |5=>v=.pointer (some ⟨Q,1,none⟩)
 |6=>v=.int .u32 (x.ai:Int)
 |7=>Own W w v (([]++aw.le 4 x.round)++aw.le 4 x.ai)
 |8=>v=.pointer (some ⟨Q,0,none⟩)
 |9=>v=.pointer (some ⟨Q,2,none⟩)
 |10=>v=.int .u32 (x.fill:Int)
 |11=>Own W w v ((([]++aw.le 4 x.round)++aw.le 4 x.ai)++aw.le 4 x.fill)
 |12=>Own W w v ((([]++aw.le 4 x.round)++aw.le 4 x.ai)++aw.le 4 x.fill)
 |_=>True
theorem Ag(x:Wl.Hf)(Q W:Nat)(i:Nat)(v:Value)(w w':World)(a:Below w.heap.size w w')(h:vd x Q W i v w):vd x Q W i v w':=by
 unfold vd at*
 split at h<;>first|exact h|exact h.below a|trivial
def D5(b a old:Nat)(i:Nat)(v:Value)(_:World):Prop:=
 match i with
 |0=>v=.pointer (some ⟨a,3,none⟩)
 |1=>v=.int .u64 (old:Int)
 |2=>v=.slice (some ⟨a,3,none⟩) old 52
 |3=>v=.pointer (some ⟨b,3,none⟩)
 |4=>v=.slice (some ⟨b,3,none⟩) 52 52
 |_=>True
theorem Ak(b a old:Nat){c:Nat}(i:Nat)(v:Value)(w w':World)(_:Touch (·=c) w w')(h:D5 b a old i v w):D5 b a old i v w':=h
def qj(L b old place ae a d s0:Nat)(c:Value)(e sw nw f:Nat)(i:Nat)(v:Value)(_:World):Prop:=
 match i with
 |0=>v=.pointer (some ⟨b,3,none⟩)
 |1=>v=.int .u64 (old:Int)
 |2=>v=.slice (some ⟨b,3+old,none⟩) (52-old) (52-old)
 |3=>v=.pointer (some ⟨L,0,none⟩)
 |4=>v=.pointer (some ⟨L,0,none⟩)
 |5=>v=.pointer (some ⟨L,8,none⟩)
 |6=>v=c
 |7=>v=.int .u64 (place:Int)
 |8=>v=.int .u64 (old:Int)
 |9=>v=.int .u64 (d:Int)
 |10=>v=.pointer (some ⟨L,0,none⟩)
 |11=>v=.pointer (some ⟨L,0,none⟩)
 |12=>v=.pointer (some ⟨L,0,none⟩)
 |13=>v=.pointer (some ⟨L,1,none⟩)
 |14=>v=.int .u64 (ae:Int)
 |15=>v=.int .u64 (s0:Int)
 |16=>v=.slice (some ⟨e,sw,none⟩) nw f
 |17=>v=.int .i64 (a:Int)
 |18=>v=.int .i64 (a:Int)
 |_=>True
theorem Aj(L f old place ae c b s0:Nat)(a:Value)(d sw nw e:Nat){g:Nat}(i:Nat)(v:Value)(w w':World)(_:Touch (·=g) w w')(h:qj L f old place ae c b s0 a d sw nw e i v w):qj L f old place ae c b s0 a d sw nw e i v w':=h
def sU(L b g r old fresh ep a:Nat)(i:Nat)(v:Value)(_:World):Prop:=
 match i with
 |0=>v=.pointer (some ⟨L,0,none⟩)
 |1=>v=.int .u64 (g:Int)
 |2=>v=.int .u32 (r:Int)
 |3=>v=.pointer (some ⟨L,0,none⟩)
 |4=>v=.pointer (some ⟨L,0,none⟩)
 |5=>v=.pointer (some ⟨L,0,none⟩)
 |6=>v=.pointer (some ⟨L,3,none⟩)
 |7=>v=.int .u32 (ep:Int)
 |8=>v=.int .u64 (old:Int)
 |9=>v=.int .u32 (old:Int)
 |10=>v=.int .i64 (fresh:Int)
 |11=>v=.int .u32 (fresh:Int)
 |12=>v=.int .u32 (a:Int)
 |13=>v=.agg #[.int .u32 (r:Int),.int .u32 (ep:Int),.int .u32 (a:Int)]
 |14=>v=.pointer (some ⟨b,0,none⟩)
 |_=>True
theorem Ai(L b g r old fresh ep a:Nat){c:Nat}(i:Nat)(v:Value)(w w':World)(_:Touch (·=c) w w')(h:sU L b g r old fresh ep a i v w):sU L b g r old fresh ep a i v w':=h
set_option maxHeartbeats 3200000 in
set_option maxRecDepth 20000 in
theorem uw(x:Wl.Hf)(w:World)(hl:x.log.length=52)(hs:∀b∈x.log,b<256):
 Calls Tryz.prog 176 #[Af x] w fun e w'=>∃u,e=.returned u/\Own w.heap.size w' u (Wl.ux x)/\Below w.heap.size w w':=by
 obtain⟨W,B⟩:∃W,W=w.alloc (.cells (gL x) 180):=⟨_,rfl⟩
 have y:Below w.heap.size w W:=by rw[B];exact aj _ _
 have d:iK W w.heap.size x:=by rw[B];exact heap_alloc_last _ _
 obtain⟨Q,E⟩:∃Q,Q=w.heap.size:=⟨_,rfl⟩
 rw[<-E]at d;have l:=Lib.hid d;have n:Hid (Q<W.heap.size):=lt_of_block d;have C0:=Lib.hid d.c0;have C1:=Lib.hid d.c1;have C2:=Lib.hid d.c2;have q:=Lib.hid y;have HL:=Lib.hid hl;have HS:=Lib.hid hs;clear y d hl hs;go_enter Tryz.func176,Tryz.ntmps176;go_upto_region 1 with(fail)
 rw[<-B,<-E];clear B E;refine Ord.walk (vd x Q W.heap.size) (fun _ _ w'=>Below W.heap.size W w') (fun a b=>Below a.heap.size a b)
  (by kernel_rfl) (by kernel_rfl) ?fra ?hfra (fun i v w w' k h=>Ag _ _ _ i v w w' k h) (fun xs=>(Below.refl _ _).kH) ?hea ?henda
 case hfra=>
  intro xs;simp only[Ord.fill,Act.put,List.setIfInBounds_toArray,List.set_cons_zero,List.set_cons_succ];rfl
 case hea=>
  iterate 13 (refine Ord.aa (fun D xs w2 hD hC hP hR c K f=>?_) ?_;rotate_left)
  rotate_left
  ·clear c;go_simp;exact f _ _ ⟨_,rfl,Below.refl _ _,hR,rfl⟩
  ·have q0:=Ord.ab _ c 0 (by decide);simp only[vd]at q0;simp only[q0]at f;clear c;go_simp;exact f _ _ ⟨_,rfl,Below.refl _ _,hR,rfl⟩
  ·have q1:=Ord.ab _ c 1 (by decide);simp only[vd]at q1;simp only[q1]at f;clear c;have cc:=hR.cell (p:=⟨Q,0,none⟩) n.out;rw[C0.out]at cc;go_simp;exact f _ _ ⟨_,rfl,Below.refl _ _,hR,rfl⟩
  ·have q2:=Ord.ab _ c 2 (by decide);simp only[vd]at q2;simp only[q2]at f;clear c;go_simp;refine(de (.slice none 0 0) [] x.round w2 (aX w2) (by decide)).mono ?_;rintro e w'⟨u,rfl,A,k⟩;exact f _ _ ⟨_,rfl,k,hR.trans (k.mono hR.size),A.from hR.size⟩
  ·clear c;go_simp;exact f _ _ ⟨_,rfl,Below.refl _ _,hR,rfl⟩
  ·have Y:=Ord.ab _ c 4 (by decide);simp only[vd]at Y;simp only[Y]at f;clear c;go_simp;exact f _ _ ⟨_,rfl,Below.refl _ _,hR,rfl⟩
  ·have X:=Ord.ab _ c 5 (by decide);simp only[vd]at X;simp only[X]at f;clear c;have cc:=hR.cell (p:=⟨Q,1,none⟩) n.out;rw[C1.out]at cc;go_simp;exact f _ _ ⟨_,rfl,Below.refl _ _,hR,rfl⟩
  ·have V:=Ord.ab _ c 6 (by decide);simp only[vd]at V;have Z:=Ord.ab _ c 3 (by decide);simp only[vd]at Z;simp only[V]at f;clear c;go_simp;refine(de (xs 3) _ x.ai w2 Z.bz (by rw[List.length_append,aw.ao];decide)).mono ?_;rintro e w'⟨u,rfl,A,k⟩;exact f _ _ ⟨_,rfl,k,hR.trans (k.mono hR.size),A.from hR.size⟩
  ·clear c;go_simp;exact f _ _ ⟨_,rfl,Below.refl _ _,hR,rfl⟩
  ·have T:=Ord.ab _ c 8 (by decide);simp only[vd]at T;simp only[T]at f;clear c;go_simp;exact f _ _ ⟨_,rfl,Below.refl _ _,hR,rfl⟩
  ·have S:=Ord.ab _ c 9 (by decide);simp only[vd]at S;simp only[S]at f;clear c;have cc:=hR.cell (p:=⟨Q,2,none⟩) n.out;rw[C2.out]at cc;go_simp;exact f _ _ ⟨_,rfl,Below.refl _ _,hR,rfl⟩
  ·have s:=Ord.ab _ c 10 (by decide);simp only[vd]at s;have U:=Ord.ab _ c 7 (by decide);simp only[vd]at U;simp only[s]at f;clear c;go_simp;refine(de (xs 7) _ x.fill w2 U.bz (by simp only[List.length_append,aw.ao];decide)).mono ?_;rintro e w'⟨u,rfl,A,k⟩;exact f _ _ ⟨_,rfl,k,hR.trans (k.mono hR.size),A.from hR.size⟩
  ·have r:=Ord.ab _ c 11 (by decide);simp only[vd]at r;clear c;go_simp;exact f _ _ ⟨_,rfl,Below.refl _ _,hR,r⟩
  exact Ord.az
 case henda=>
  intro D xs w9 hR j;have N:=(j 0 (by decide)).2;have M:=(j 1 (by decide)).2;have L:=(j 2 (by decide)).2;have J:=(j 4 (by decide)).2;have I:=(j 5 (by decide)).2;have H:=(j 6 (by decide)).2;have G:=(j 8 (by decide)).2;have F:=(j 9 (by decide)).2;have m:=(j 10 (by decide)).2;have g:=(j 12 (by decide)).2;simp only[vd]at N M L J I H G F m g;rw[N];rw[M];rw[L];rw[J];rw[I];rw[H];rw[G];rw[F];rw[m];clear N M L J I H G F m;clear j;generalize xs 3=x3 at*
  generalize xs 7=x7 at*
  generalize xs 11=x11 at*
  generalize xs 12=C at*
  rw[List.nil_append]at g;have R:=Lib.hid g;have o:=Lib.hid hR;have O:Hid (iK w9 Q x):=(o.out.block Q (lt_of_block l.out)).trans l.out;clear hR g;go_upto_region 2 with(fail)
  iterate 10 go_step
  refine aB rfl (.tmp 16) (.tmp 18) rfl W.heap.size C _ rfl R.out _ _ rfl (O.out.bz HL.out HS.out) (by simp only[List.length_append,aw.ao,HL.out];decide) o.out.size ?_;intro u2 w2 z t _;have P:=Lib.hid z;have HE:=Lib.hid (q.out.trans ((o.out.trans t).mono q.out.size));clear z t;go_wp2_with fail
  go_ret;exact⟨_,rfl,P.out.from q.out.size,HE.out⟩
set_option maxHeartbeats 6400000 in
set_option maxRecDepth 20000 in
theorem rR{w:World}{L B a c:Nat}{k:Wl.Kn}{pl:Value}{dn:Bool}{gw ow nw cw:Nat}{wl:List Nat}(h:aH w L k B a c pl (.slice (some ⟨gw,ow,none⟩) nw cw) dn)(hB:aV w (.slice (some ⟨gw,ow,none⟩) nw cw) wl)(aZ:1<=c)(aY:c<=8192)
 (g:Nat) (hr:g/(2*c)<4294967296) (l:Wl.Hf) (af:l.log.length=52) (aC:∀b∈l.log,b<256) {old sw fresh:Nat} (hg:g<=10000000000000) (bX:k.ae<=1000000000000000) (hold:old=max (g*52) k.ae-g*52) (ho:old<52) (aR:sw=g*52+old-k.ae) (bm:sw<nw) (hfr:min (nw-sw) (52-old)=fresh):
 Calls Tryz.prog 175 #[.pointer (some ⟨L,0,none⟩),.int .u64 (g:Int),Af l] w fun e w'=>e=.returned (Af (Wl.mX l wl old sw fresh (g/(2*c)) k.ai))/\Below w.heap.size w w':=by
 obtain⟨W,hW⟩:∃W,W=(w.alloc (.cells (gL l) 180)).alloc (.cells uZ 180):=⟨_,rfl⟩
 have R:Below w.heap.size w W:=by rw[hW];exact((Below.refl _ _).alloc (Nat.le_refl _) _).alloc (by simp) _
 have bn:W.heap.size=w.heap.size+1+1:=by rw[hW];simp
 have G:iK W w.heap.size l:=by
  rw[hW];show(World.alloc _ _).heap[_]?=_;rw[Below.heap_alloc _ _ _ (by simp)];exact heap_alloc_last _ _
 have E:W.heap[w.heap.size+1]?=some (.cells uZ 180 (0,0)):=by
  rw[hW];have:=heap_alloc_last (w.alloc (.cells (gL l) 180)) (.cells uZ 180);rwa[show(w.alloc (.cells (gL l) 180)).heap.size=w.heap.size+1 by simp]at this
 obtain⟨Q1,hQ⟩:∃Q,Q=w.heap.size:=⟨_,rfl⟩
 rw[<-hQ]at G E;obtain⟨W3,ao⟩:∃W3,W3=W.alloc (.cells uZ 180):=⟨_,rfl⟩
 have P:Below W.heap.size W W3:=by rw[ao];exact aj _ _
 have C:W3.heap[W.heap.size]?=some (.cells uZ 180 (0,0)):=by rw[ao];exact heap_alloc_last _ _
 obtain⟨s,aG⟩:∃Q,Q=W.heap.size:=⟨_,rfl⟩
 rw[<-aG]at C;rw[E4]at C;have aE:=h.below R;have hL:=h.lt;have av:=aE.below P;obtain⟨p,cap,hv,ak,-,hp⟩:=hB.form;simp only[Value.slice.injEq]at hv;obtain⟨-,aU,rfl⟩:=hv;have bS:=ak.1;have bR:=ak.2;have bB:=Lib.hid C;have bC:=Lib.hid ((P.block _ (lt_of_block E)).trans E);have bZ:=Lib.hid R;have bl:=Lib.hid (R.trans (P.mono R.size));have HQ:=Lib.hid hQ;have an:=Lib.hid av;have T:Hid (¬L=s):=by show¬L=s;omega
 have bt:=Lib.hid ((G.bz af aC).below P);have bE:Hid (¬Q1=s):=by show¬Q1=s;omega
 have bF:Hid (w.heap.size<=s):=by show _<=_;omega
 have bd:Hid (Q1+1≠s):=by show Q1+1≠s;omega
 have bs:=Lib.hid af;have bY:=Lib.hid aC;have bQ:=Lib.hid ((hB.below R).below P);have bg:Hid (¬gw=s):=by have h1:=hB.fS (by omega) gw rfl;show¬gw=s;omega
 have bD:Hid (g/(2*c)<4294967296):=hr;have bP:=Lib.hid aZ;have bO:=Lib.hid aY;have c1:=aE.cell 1 (v:=.int .u64 (k.ae:Int)) rfl;obtain⟨place,aS⟩:∃p,p=g*52:=⟨_,rfl⟩
 rw[<-aS]at hold aR;have h1:IntKind.u64.wrap ((g:Int)*52)=(place:Int):=by rw[IntWalk.u64_in _ (by omega)];omega
 obtain⟨mx,br⟩:∃m,m=max place k.ae:=⟨_,rfl⟩
 have h2:max (place:Int) (k.ae:Int)=(mx:Int):=by omega
 have h3:IntKind.u64.wrap ((mx:Int)-(place:Int))=(old:Int):=by rw[IntWalk.u64_in _ (by omega)];omega
 have bH:Hid (¬52=old):=by show¬52=old;omega
 have q:Hid (old<=52):=by show old<=52;omega
 obtain⟨po,bo⟩:∃n,n=place+old:=⟨_,rfl⟩
 have H5:Hid (IntKind.u64.wrap ((place:Int)+(old:Int))=(po:Int)):=by show _=_;rw[IntWalk.u64_in _ (by omega)];omega
 have H6:Hid (IntKind.u64.wrap ((po:Int)-(k.ae:Int))=(sw:Int)):=by show _=_;rw[IntWalk.u64_in _ (by omega)];omega
 obtain⟨ff,aX⟩:∃n,n=old+fresh:=⟨_,rfl⟩
 have bL:=Lib.hid aX;have ba:Hid ((sw:Int)<=(nw:Int)):=by show(sw:Int)<=_;omega
 have bu:Hid ((sw:Int)<=(cw:Int)):=by show(sw:Int)<=_;omega
 have bN:Hid (¬cw=sw):=by show¬cw=sw;omega
 have bU:Hid (old+fresh<=52):=by show _<=_;omega
 have bT:Hid (fresh<=nw-sw):=by show _<=_;omega
 have ar:=Lib.hid aU;have bk:=Lib.hid (Wl.jB af (old:=old) (by omega));have bj:=Lib.hid (Wl.mn af (wl:=wl) (old:=old) (sw:=sw) (fresh:=fresh) (by omega) (by omega));have bG:Hid (IntKind.u32.wrap (old:Int)=(old:Int)):=IntWalk.u32_in _ (by omega);have bM:Hid (IntKind.u32.wrap (fresh:Int)=(fresh:Int)):=IntWalk.u32_in _ (by omega);have bw:Hid (IntKind.u32.wrap ((old:Int)+(fresh:Int))=(ff:Int)):=by show _=_;rw[IntWalk.u32_in _ (by omega)];omega
 have bh:Hid (min (nw-sw) (52-old)=fresh):=hfr;clear bo aX R bn G E P C aE hL av ak hp h hB hr hold ho aR bm hfr br aS af aC aZ aY aU;go_enter Tryz.func175,Tryz.ntmps175;go_upto_region 1 with(fail)
 rw[<-hW,<-hQ];clear hW hQ;go_upto_region 4 with(fail)
 rw[<-ao,<-aG];clear ao aG h1 h2 h3 c1;refine Ord.walk (D5 Q1 s old) (fun D _ w'=>TR W3 s 180 (gL ⟨0,0,0,List.replicate 52 0⟩) (gL (Wl.je l old)) 5 D w') (fun a b=>Touch (·=s) a b)
  (by kernel_rfl) (by kernel_rfl) ?fra ?hfra (fun i v w w' hb h=>Ak _ _ _ i v w w' hb h) (fun xs=>TR.first bB.out) ?hea ?henda
 case hfra=>
  intro xs;simp only[Ord.fill,Act.put,List.setIfInBounds_toArray,List.set_cons_zero,List.set_cons_succ];rfl
 case hea=>
  iterate 6 (refine Ord.aa (fun D xs w2 hD hC hP hR d K f=>?_) ?_;rotate_left)
  rotate_left
  ·clear d;go_simp;exact f _ _ ⟨_,rfl,Touch.refl _ _,hR.skip 0 (by decide),rfl⟩
  ·clear d;go_simp;exact f _ _ ⟨_,rfl,Touch.refl _ _,hR.skip 1 (by decide),rfl⟩
  ·have q0:=Ord.ab _ d 0 (by decide);simp only[D5]at q0;have q1:=Ord.ab _ d 1 (by decide);simp only[D5]at q1;simp only[q0,q1]at f;clear d;have bq:(old:Int)<=52:=by have:=q.out;omega
   have bp:old<=52:=q.out;go_simp;exact f _ _ ⟨_,rfl,Touch.refl _ _,hR.skip 2 (by decide),rfl⟩
  ·clear d;go_simp;exact f _ _ ⟨_,rfl,Touch.refl _ _,hR.skip 3 (by decide),rfl⟩
  ·have q3:=Ord.ab _ d 3 (by decide);simp only[D5]at q3;simp only[q3]at f;clear d;go_simp;exact f _ _ ⟨_,rfl,Touch.refl _ _,hR.skip 4 (by decide),rfl⟩
  ·have q2:=Ord.ab _ d 2 (by decide);simp only[D5]at q2;have q4:=Ord.ab _ d 4 (by decide);simp only[D5]at q4;simp only[q2,q4]at f;clear d;have u:=hR.now hD;obtain⟨w8,z,A,ag⟩:=na (o:=0) (dl:=old) (dc:=52) (x:=⟨0,0,0,List.replicate 52 0⟩) u (by simp) (by have:=q.out;omega) (hR.al.bz bt.out (fun _ g' e=>by simp only[Value.ownBlock,Option.some.injEq]at e;subst e;exact bE.out));rw[show min l.log.length old=old by rw[bs.out];have:=q.out;omega]at z A;have z:=z 3;go_simp;exact f _ _ ⟨_,rfl,ag,hR.put ag A,trivial⟩
  exact Ord.az
 case henda=>
  intro D xs w9 hR j;have a6:=(j 5 (by decide)).1;have e0:=(j 0 (by decide)).2;have e1:=(j 1 (by decide)).2;have e2:=(j 2 (by decide)).2;have e3:=(j 3 (by decide)).2;have e4:=(j 4 (by decide)).2;simp only[D5]at e0 e1 e2 e3 e4;rw[e0];rw[e1];rw[e2];rw[e3];rw[e4];clear e0 e1 e2 e3 e4;clear j;generalize xs 5=x5 at*
  have t:=hR.done a6;have bc:=Lib.hid t;have aq:=Lib.hid hR.al;clear t hR a6;obtain⟨W4,a2⟩:∃W4,W4=w9:=⟨_,rfl⟩
  rw[<-a2]at bc aq⊢;clear a2;have an:=Lib.hid (an.out.al aq.out T.out);have ax:=aq.out.bz bQ.out (fun _ g' e=>by simp only[Value.ownBlock,Option.some.injEq]at e;subst e;exact bg.out);have ad:=(ar.out▸ax:aV W4 (.slice (some ⟨gw,ow,none⟩) wl.length cw) wl).drop sw (by have h1:=ba.out;have h2:=ar.out;omega);rw[<-ar.out]at ad;have a7:=Lib.hid ad;have bJ:Hid (¬gw=s):=bg.out;have bK:Hid (min (wl.drop sw).length (52-old)=fresh):=by show _=_;rw[List.length_drop,<-ar.out];exact bh.out
  clear ax ad;have q:Hid (old<=52):=q.out;go_upto_region 5 with(fail)
  refine Ord.walk (qj L s old place k.ae fresh po sw (.slice (some ⟨gw,ow,none⟩) nw cw) gw (ow+sw) (nw-sw) (cw-sw)) (fun D _ w'=>TR W4 s 180 (gL (Wl.je l old)) (gL (Wl.j7 l wl old sw fresh)) 17 D w') (fun a b=>Touch (·=s) a b)
   (by kernel_rfl) (by kernel_rfl) ?frb ?hfrb (fun i v w w' hb h=>Aj _ _ _ _ _ _ _ _ _ _ _ _ _ i v w w' hb h) (fun xs=>TR.first bc.out) ?heb ?hendb
  case hfrb=>
   intro xs;simp only[Ord.fill,Act.put,List.setIfInBounds_toArray,List.set_cons_zero,List.set_cons_succ];rfl
  case heb=>
   iterate 19 (refine Ord.aa (fun D xs w2 hD hC hP hR d K f=>?_) ?_;rotate_left)
   rotate_left
   ·clear d;go_simp;exact f _ _ ⟨_,rfl,Touch.refl _ _,hR.skip 0 (by decide),rfl⟩
   ·clear d;go_simp;exact f _ _ ⟨_,rfl,Touch.refl _ _,hR.skip 1 (by decide),rfl⟩
   ·have q0:=Ord.ab _ d 0 (by decide);simp only[qj]at q0;have q1:=Ord.ab _ d 1 (by decide);simp only[qj]at q1;simp only[q0,q1]at f;clear d;have bq:(old:Int)<=52:=by have:=q.out;omega
    have bp:old<=52:=q.out;go_simp;rw[if_neg bH.out];exact f _ _ ⟨_,rfl,Touch.refl _ _,hR.skip 2 (by decide),rfl⟩
   ·clear d;go_simp;exact f _ _ ⟨_,rfl,Touch.refl _ _,hR.skip 3 (by decide),rfl⟩
   ·have q3:=Ord.ab _ d 3 (by decide);simp only[qj]at q3;simp only[q3]at f;clear d;go_simp;exact f _ _ ⟨_,rfl,Touch.refl _ _,hR.skip 4 (by decide),rfl⟩
   ·have q4:=Ord.ab _ d 4 (by decide);simp only[qj]at q4;simp only[q4]at f;clear d;go_simp;exact f _ _ ⟨_,rfl,Touch.refl _ _,hR.skip 5 (by decide),rfl⟩
   ·have q5:=Ord.ab _ d 5 (by decide);simp only[qj]at q5;simp only[q5]at f;clear d;have cc:=(an.out.al hR.al T.out).cell 8 (v:=.slice (some ⟨gw,ow,none⟩) nw cw) rfl;go_simp;exact f _ _ ⟨_,rfl,Touch.refl _ _,hR.skip 6 (by decide),rfl⟩
   ·clear d;go_simp;exact f _ _ ⟨_,rfl,Touch.refl _ _,hR.skip 7 (by decide),rfl⟩
   ·clear d;go_simp;exact f _ _ ⟨_,rfl,Touch.refl _ _,hR.skip 8 (by decide),rfl⟩
   ·have q7:=Ord.ab _ d 7 (by decide);simp only[qj]at q7;have q8:=Ord.ab _ d 8 (by decide);simp only[qj]at q8;simp only[q7,q8]at f;clear d;go_simp;rw[H5.out];exact f _ _ ⟨_,rfl,Touch.refl _ _,hR.skip 9 (by decide),rfl⟩
   ·clear d;go_simp;exact f _ _ ⟨_,rfl,Touch.refl _ _,hR.skip 10 (by decide),rfl⟩
   ·have Z:=Ord.ab _ d 10 (by decide);simp only[qj]at Z;simp only[Z]at f;clear d;go_simp;exact f _ _ ⟨_,rfl,Touch.refl _ _,hR.skip 11 (by decide),rfl⟩
   ·have Y:=Ord.ab _ d 11 (by decide);simp only[qj]at Y;simp only[Y]at f;clear d;go_simp;exact f _ _ ⟨_,rfl,Touch.refl _ _,hR.skip 12 (by decide),rfl⟩
   ·have X:=Ord.ab _ d 12 (by decide);simp only[qj]at X;simp only[X]at f;clear d;go_simp;exact f _ _ ⟨_,rfl,Touch.refl _ _,hR.skip 13 (by decide),rfl⟩
   ·have V:=Ord.ab _ d 13 (by decide);simp only[qj]at V;simp only[V]at f;clear d;have cc:=(an.out.al hR.al T.out).cell 1 (v:=.int .u64 (k.ae:Int)) rfl;go_simp;exact f _ _ ⟨_,rfl,Touch.refl _ _,hR.skip 14 (by decide),rfl⟩
   ·have q9:=Ord.ab _ d 9 (by decide);simp only[qj]at q9;have U:=Ord.ab _ d 14 (by decide);simp only[qj]at U;simp only[q9,U]at f;clear d;go_simp;rw[H6.out];exact f _ _ ⟨_,rfl,Touch.refl _ _,hR.skip 15 (by decide),rfl⟩
   ·have q6:=Ord.ab _ d 6 (by decide);simp only[qj]at q6;have aQ:=Ord.ab _ d 15 (by decide);simp only[qj]at aQ;simp only[q6,aQ]at f;clear d;have bW:=ba.out;have bV:=bu.out;go_simp;rw[if_neg bN.out];exact f _ _ ⟨_,rfl,Touch.refl _ _,hR.skip 16 (by decide),rfl⟩
   ·have q2:=Ord.ab _ d 2 (by decide);simp only[qj]at q2;have aP:=Ord.ab _ d 16 (by decide);simp only[qj]at aP;simp only[q2,aP]at f;clear d;have u:=hR.now hD;obtain⟨w8,z,A,ag⟩:=na (o:=old) (dl:=52-old) (dc:=52-old) u bk.out (by have:=q.out;omega) (hR.al.bz a7.out (fun _ g' e=>by simp only[Value.ownBlock,Option.some.injEq]at e;subst e;exact bJ.out));rw[bK.out]at z A;have z:=z 3;go_simp;exact f _ _ ⟨_,rfl,ag,hR.put ag A,rfl⟩
   ·have aO:=Ord.ab _ d 17 (by decide);simp only[qj]at aO;simp only[aO]at f;clear d;go_simp;exact f _ _ ⟨_,rfl,Touch.refl _ _,hR.skip 18 (by decide),rfl⟩
   exact Ord.az
  case hendb=>
   intro D xs w9 hR j;have ay:=(j 17 (by decide)).1;have e0:=(j 0 (by decide)).2;have e1:=(j 1 (by decide)).2;have e2:=(j 2 (by decide)).2;have e3:=(j 3 (by decide)).2;have e4:=(j 4 (by decide)).2;have e5:=(j 5 (by decide)).2;have e6:=(j 6 (by decide)).2;have e7:=(j 7 (by decide)).2;have e8:=(j 8 (by decide)).2;have e9:=(j 9 (by decide)).2;have N:=(j 10 (by decide)).2;have M:=(j 11 (by decide)).2;have J:=(j 12 (by decide)).2;have I:=(j 13 (by decide)).2;have H:=(j 14 (by decide)).2;have aM:=(j 15 (by decide)).2;have aL:=(j 16 (by decide)).2;have aK:=(j 17 (by decide)).2;have aJ:=(j 18 (by decide)).2;simp only[qj]at e0 e1 e2 e3 e4 e5 e6 e7 e8 e9 N M J I H aM aL aK aJ;rw[e0];rw[e1];rw[e2];rw[e3];rw[e4];rw[e5];rw[e6];rw[e7];rw[e8];rw[e9];rw[N];rw[M];rw[J];rw[I];rw[H];rw[aM];rw[aL];rw[aK];rw[aJ];clear e0 e1 e2 e3 e4 e5 e6 e7 e8 e9 N M J I H aM aL aK aJ;clear j;have t:=hR.done ay;have bb:=Lib.hid t;have aN:=Lib.hid hR.al;clear t hR ay;obtain⟨W5,a1⟩:∃W5,W5=w9:=⟨_,rfl⟩
   rw[<-a1]at bb aN⊢;clear a1;have aB:=Lib.hid (an.out.al aN.out T.out);obtain⟨r,aD⟩:∃r,r=g/(2*c):=⟨_,rfl⟩
   have bx:=Lib.hid aD;have F:=fun w2(hl:aH w2 L k B a c pl (.slice (some ⟨gw,ow,none⟩) nw cw) dn)=>nm hl g bP.out bO.out bD.out;rw[<-aD]at F;clear aD;go_upto_region 6 with(fail)
   refine Ord.walk (sU L s g r old fresh k.ai ff) (fun D _ w'=>TR W5 s 180 (gL (Wl.j7 l wl old sw fresh)) (gL (Wl.mX l wl old sw fresh r k.ai)) 15 D w') (fun a b=>Touch (·=s) a b)
    (by kernel_rfl) (by kernel_rfl) ?frc ?hfrc (fun i v w w' hb h=>Ai _ _ _ _ _ _ _ _ i v w w' hb h) (fun xs=>TR.first bb.out) ?hec ?hendc
   case hfrc=>
    intro xs;simp only[Ord.fill,Act.put,List.setIfInBounds_toArray,List.set_cons_zero,List.set_cons_succ];rfl
   case hec=>
    iterate 16 (refine Ord.aa (fun D xs w2 hD hC hP hR d K f=>?_) ?_;rotate_left)
    rotate_left
    ·clear d;go_simp;exact f _ _ ⟨_,rfl,Touch.refl _ _,hR.skip 0 (by decide),rfl⟩
    ·clear d;go_simp;exact f _ _ ⟨_,rfl,Touch.refl _ _,hR.skip 1 (by decide),rfl⟩
    ·have q0:=Ord.ab _ d 0 (by decide);simp only[sU]at q0;have q1:=Ord.ab _ d 1 (by decide);simp only[sU]at q1;simp only[q0,q1]at f;clear d;go_simp;refine(F w2 (aB.out.al hR.al T.out)).mono ?_;rintro e w'⟨rfl,rfl⟩;exact f _ _ ⟨_,rfl,Touch.refl _ _,hR.skip 2 (by decide),rfl⟩
    ·clear d;go_simp;exact f _ _ ⟨_,rfl,Touch.refl _ _,hR.skip 3 (by decide),rfl⟩
    ·have q3:=Ord.ab _ d 3 (by decide);simp only[sU]at q3;simp only[q3]at f;clear d;go_simp;exact f _ _ ⟨_,rfl,Touch.refl _ _,hR.skip 4 (by decide),rfl⟩
    ·have q4:=Ord.ab _ d 4 (by decide);simp only[sU]at q4;simp only[q4]at f;clear d;go_simp;exact f _ _ ⟨_,rfl,Touch.refl _ _,hR.skip 5 (by decide),rfl⟩
    ·have q5:=Ord.ab _ d 5 (by decide);simp only[sU]at q5;simp only[q5]at f;clear d;go_simp;exact f _ _ ⟨_,rfl,Touch.refl _ _,hR.skip 6 (by decide),rfl⟩
    ·have q6:=Ord.ab _ d 6 (by decide);simp only[sU]at q6;simp only[q6]at f;clear d;have cc:=(aB.out.al hR.al T.out).cell 3 (v:=.int .u32 (k.ai:Int)) rfl;go_simp;exact f _ _ ⟨_,rfl,Touch.refl _ _,hR.skip 7 (by decide),rfl⟩
    ·clear d;go_simp;exact f _ _ ⟨_,rfl,Touch.refl _ _,hR.skip 8 (by decide),rfl⟩
    ·have q8:=Ord.ab _ d 8 (by decide);simp only[sU]at q8;simp only[q8]at f;clear d;go_simp;rw[bG.out];exact f _ _ ⟨_,rfl,Touch.refl _ _,hR.skip 9 (by decide),rfl⟩
    ·clear d;go_simp;exact f _ _ ⟨_,rfl,Touch.refl _ _,hR.skip 10 (by decide),rfl⟩
    ·have Z:=Ord.ab _ d 10 (by decide);simp only[sU]at Z;simp only[Z]at f;clear d;go_simp;rw[bM.out];exact f _ _ ⟨_,rfl,Touch.refl _ _,hR.skip 11 (by decide),rfl⟩
    ·have q9:=Ord.ab _ d 9 (by decide);simp only[sU]at q9;have Y:=Ord.ab _ d 11 (by decide);simp only[sU]at Y;simp only[q9,Y]at f;clear d;go_simp;rw[bw.out];exact f _ _ ⟨_,rfl,Touch.refl _ _,hR.skip 12 (by decide),rfl⟩
    ·have q2:=Ord.ab _ d 2 (by decide);simp only[sU]at q2;have q7:=Ord.ab _ d 7 (by decide);simp only[sU]at q7;have X:=Ord.ab _ d 12 (by decide);simp only[sU]at X;simp only[q2,q7,X]at f;clear d;go_simp;exact f _ _ ⟨_,rfl,Touch.refl _ _,hR.skip 13 (by decide),rfl⟩
    ·clear d;go_simp;exact f _ _ ⟨_,rfl,Touch.refl _ _,hR.skip 14 (by decide),rfl⟩
    ·have V:=Ord.ab _ d 13 (by decide);simp only[sU]at V;have U:=Ord.ab _ d 14 (by decide);simp only[sU]at U;simp only[V,U]at f;clear d;have u:=hR.now hD;have f0:=aI u 0;have s0:=aT (i:=0) u (.int .u32 (r:Int));have f1:=aI s0 1;have s1:=aT (i:=1) s0 (.int .u32 (k.ai:Int));have f2:=aI s1 2;have s2:=aT (i:=2) s1 (.int .u32 (ff:Int));have g0:=ah u 0 (Gj _);have g1:=ah s0 1 (Gi _ _);have g2:=ah s1 2 (Gh _ _ _);rw[BU,show gL ⟨r,k.ai,ff,(Wl.j7 l wl old sw fresh).log⟩=gL (Wl.mX l wl old sw fresh r k.ai)from by rw[bL.out];rfl]at s2;have S2:=Lib.hid s2;clear u s0 s1 s2;go_simp;exact f _ _ ⟨undef,rfl,((Touch.set (S:=(·=s)) s 0 _ rfl).trans (.set s 1 _ rfl)).trans (.set s 2 _ rfl),hR.put (((Touch.set (S:=(·=s)) s 0 _ rfl).trans (.set s 1 _ rfl)).trans (.set s 2 _ rfl)) S2.out,trivial⟩
    exact Ord.az
   case hendc=>
    intro D xs w9 hR j;have aA:=(j 15 (by decide)).1;have e0:=(j 0 (by decide)).2;have e1:=(j 1 (by decide)).2;have e2:=(j 2 (by decide)).2;have e3:=(j 3 (by decide)).2;have e4:=(j 4 (by decide)).2;have e5:=(j 5 (by decide)).2;have e6:=(j 6 (by decide)).2;have e7:=(j 7 (by decide)).2;have e8:=(j 8 (by decide)).2;have e9:=(j 9 (by decide)).2;have N:=(j 10 (by decide)).2;have M:=(j 11 (by decide)).2;have J:=(j 12 (by decide)).2;have I:=(j 13 (by decide)).2;have H:=(j 14 (by decide)).2;simp only[sU]at e0 e1 e2 e3 e4 e5 e6 e7 e8 e9 N M J I H;rw[e0];rw[e1];rw[e2];rw[e3];rw[e4];rw[e5];rw[e6];rw[e7];rw[e8];rw[e9];rw[N];rw[M];rw[J];rw[I];rw[H];clear e0 e1 e2 e3 e4 e5 e6 e7 e8 e9 N M J I H;clear j;generalize xs 15=x15 at*
    have t:=hR.done aA;have bA:=Lib.hid t;have a8:=Lib.hid ((aq.out.trans aN.out).trans hR.al);clear t hR aA F;have aw:(Wl.mX l wl old sw fresh r k.ai).log.length=52:=bj.out;have au:=Lib.hid aw;have bf:=Lib.hid (a8.out.row bC.out bd.out);clear aw;generalize aW:Wl.mX l wl old sw fresh r k.ai=y at*
    have bI:=Lib.hid aW;clear aW;go_upto_region 7 with(fail)
    go_step;refine wpList_load_row rfl 180 (.tmp 9) rfl s rfl _ _ _ _ bA.out Tryz.underlying180 rfl (fC au.out) ?_;refine wpList_store_row rfl 180 (.tmp 6) (.tmp 61) rfl (Q1+1) _ rfl rfl _ _ bf.out (fC au.out) (by rw[jb,au.out];rfl) (j5 _) ?_;have O:=setRow_heap _ _ _ (gL y) _ _ bf.out;have aF:Below w.heap.size w w9:=bl.out.trans (a8.out.below (base:=w.heap.size) (fun i hi=>by rw[hi];exact bF.out) bl.out.size);have HE:=Lib.hid (aF.trans ((df (w:=w9) (Q1+1) (gL y)).below (base:=w.heap.size) (fun i hi=>by rw[hi,HQ.out];exact Nat.le_succ _) aF.size));clear aF;generalize w9.setRow (Q1+1) (gL y)=w10 at O HE⊢;go_wp2_with fail
    refine bodyPost_ret (v:=Af y) ?_ rfl ⟨by rw[<-bI.out,bx.out],HE.out⟩;exact results_cell_row rfl _ _ (Q1+1) 180 _ _ _ rfl O Tryz.underlying180 rfl (fC au.out)
end Go.Proofs.YtbpodmallknhfaaGreat
namespace Go.Proofs.YtbpodmallknhfaaGreat
open Go.RowKit
theorem Bp(w:World)(x:Wl.Hf):iK ((w.alloc (.cells uZ 180)).setRow w.heap.size (gL x)) w.heap.size x/\Below w.heap.size w ((w.alloc (.cells uZ 180)).setRow w.heap.size (gL x)):=
 ⟨setRow_heap _ _ _ _ _ _ (heap_alloc_last _ _),(aj _ _).trans ((df _ _).below (base:=w.heap.size) (fun i a=>by rw[a];exact Nat.le_refl _) (by simp))⟩
theorem BW{d:Dk.aq}(ok:Dk.Ok d){s:Wl.S}(f:s.at_+s.count+2<=Dk.size d)(j:0<s.count)(g:Nat):(Wl.half s d g).log.length=52/\(∀b∈(Wl.half s d g).log,b<256)/\(Wl.half s d g).fill<4294967296:=by
 have m:=Wl.jo (n:=s.count) (h:=g) j;have hs:=Wl.mo ok (i:=s.at_+2+g%(2*s.count)/2) (by omega);have c:=Wl.kF hs.1 (k:=g%2) (by omega);have a:∀x∈Wl.hf (Wl.iM d (s.at_+2+g%(2*s.count)/2)) (g%2),x<256:=fun x e=>hs.2 x (List.mem_of_mem_drop (List.mem_of_mem_take e));refine⟨?_,fun b l=>a b (List.mem_of_mem_drop l),?_⟩
 ·show(List.drop 12 _).length=52;rw[List.length_drop,c]
 ·have:=aw.jz (((Wl.hf (Wl.iM d (s.at_+2+g%(2*s.count)/2)) (g%2)).drop 8).take 4) (fun x e=>a x (List.mem_of_mem_drop (List.mem_of_mem_take e)));rw[List.length_take,List.length_drop,c]at this;exact this
def It(s:Wl.S)(said:Nat)(d:Dk.aq)(w:World)(e:Ending)(w':World):Prop:=∃E acc u,Wl.qc s said d E acc/\e=.returned (.tuple #[u,.int .i64 0])/\aV w' u ((Wl.bytes s).take (E-s.start))/\(∀g,u.ownBlock=some g->w.heap.size<=g)/\Below w.heap.size w w'
set_option maxHeartbeats 6400000 in
set_option maxRecDepth 20000 in
theorem qn{w:World}{L B m1 m2 said:Nat}{s:Wl.S}{pl wa:Value}{dn:Bool}{d:Dk.aq}(h:aH w L ⟨s.start,said,s.bp,s.ai⟩ B s.at_ s.count pl wa dn)(hP:bh w B m1 m2 d)(ho:d.off=false)(hx:Wl.Ex s)(hD:Wl.Dv s said d)(aI:said<=s.stop)(hs:s.stop<=1000000000000):
 Calls Tryz.prog 92 #[.pointer (some ⟨L,0,none⟩)] w fun e w'=>It s said d w e w':=by
 have R:=Lib.hid h;have aW:=Lib.hid hP;have bt:=Lib.hid ho;have HX:=Lib.hid hx;have V:=Lib.hid hD;have bs:=Lib.hid aI;have HS:=Lib.hid hs;have aP:=hx.low;have ax:=hx.high;have aG:s.start<=1000000000000:=by have h1:=hx.aQ.low;have C:=hx.aQ.high;omega
 have br:Hid (s.start<=1000000000000):=aG;have X:Hid (16<=s.count/\s.count<=8192):=⟨aP,ax⟩
 have c0:=h.cell 0 (v:=.int .u64 (s.start:Int)) rfl;obtain⟨f0,aO⟩:∃f,f=s.start/52:=⟨_,rfl⟩
 have h1:IntKind.u64.wrap ((s.start:Int)/52)=(f0:Int):=by rw[IntWalk.u64_in _ (by omega)];omega
 have I:=Lib.hid aO;have al:Hid (f0<=1000000000000):=by show _<=_;omega
 obtain⟨n2,A⟩:∃n,n=2*s.count:=⟨_,rfl⟩
 obtain⟨fe,aN⟩:∃f,f=f0+n2:=⟨_,rfl⟩
 have C:IntKind.u64.wrap ((f0:Int)+(n2:Int))=(fe:Int):=by rw[IntWalk.u64_in _ (by omega)];omega
 have M:=fun wr(hl:aH wr L ⟨s.start,said,s.bp,s.ai⟩ B s.at_ s.count pl wa dn)=>eR hl ax;rw[<-A]at M;have a2:=Lib.hid M;have P:=Lib.hid A;have U:=Lib.hid aN;clear h hP ho hx hD aI hs aP ax aG aO A aN M;go_enter Tryz.func92,Tryz.ntmps92;go_wp2_with fail
 clear c0;go_loopw [4,6] (fun b i wr=>∃(t:Nat)(acc:List Nat),i=.int .u64 (t:Int)/\Own w.heap.size wr b acc/\Wl.Ls s said d t acc/\Below w.heap.size w wr) (fun _ i _=>fe+1-(intOf i).toNat)
 case atStart=>exact⟨f0,[],rfl,aM _ _,by rw[I.out];exact Wl.By s said d,Below.refl _ _⟩
 case round=>
  obtain⟨t,acc,rfl,ho,ab,hb⟩:=hrel;have HO:=Lib.hid ho;have aj:=Lib.hid ab;have HB:=Lib.hid hb;have W:=Lib.hid (a2.out wr (R.out.below hb));have aU:Hid (f0<=t/\t<=fe):=by
   have h1:=ab.low;have C:=ab.high;rw[<-I.out,<-P.out,<-U.out]at C;rw[<-I.out]at h1;exact⟨h1,C⟩
  obtain⟨pv,cv,rfl,-,-,-⟩:=ho.bz.form;clear ho ab hb;by_cases aa:t<fe
  ·have hi:(t:Int)<(fe:Int):=by omega
   have aY:Hid (t<s.start/52+2*s.count):=by show _<_;rw[<-I.out,<-P.out,<-U.out];exact aa
   have ah:Hid (t<=10000000000000):=by have h1:=al.out;have C:=P.out;have h3:=X.out;have h4:=U.out;show _<=_;omega
   have aL:Calls Tryz.prog 125 #[.pointer (some ⟨L,0,none⟩),.int .u64 (t:Int)] wr fun e w'=>e=.returned (.tuple #[Af (Wl.half s d t),.int .i64 0])/\Below wr.heap.size wr w':=
    vv (R.out.below HB.out) (aW.out.below HB.out) bt.out (by have:=X.out;omega) X.out.2 (by have:=V.out.fits;omega) t (by have:=ah.out;omega)
   have aK:=BW aW.out.own.ok V.out.fits (by have:=X.out;omega) t;have a1:=Lib.hid aL;have l:=Lib.hid aK;obtain⟨n,hn⟩:∃n,Wl.aQ said s.ai (2*s.count) t (Wl.half s d t)=n:=⟨_,rfl⟩
   have av:∀w2,Below w.heap.size w w2->Calls Tryz.prog 126 #[.pointer (some ⟨L,0,none⟩),.int .u64 (t:Int),Af (Wl.half s d t)] w2 fun e w'=>e=.returned (.int .i64 ((Wl.aQ said s.ai (2*s.count) t (Wl.half s d t):Nat):Int))/\Below w2.heap.size w2 w':=fun w2 bn=>
    vw (R.out.below bn) (by have:=X.out;omega) X.out.2 t ah.out (Nat.lt_of_le_of_lt (Nat.div_le_div_left (show 32<=2*s.count by have:=X.out;omega) (by decide)) (by have h1:=ah.out;have C:=al.out;have h3:=aU.out;have h4:=U.out;have h5:=P.out;have h6:=X.out;have h7:=br.out;have h8:=I.out;omega)) _ l.out.2.2 (by show said<=_;have h1:=bs.out;have C:=HS.out;omega)
   rw[hn]at av;have a7:=Lib.hid av;have HN:=Lib.hid hn;have p:Hid (n<=52):=by show _<=_;rw[<-hn];exact Wl.xN _ _ _ _ _
   clear aL aK hn av aa;generalize aF:Wl.half s d t=x at*
   have af:=Lib.hid aF;clear aF;go_wp2_with (go_at_call 87;refine W.out.mono ?_;rintro e w'⟨rfl,rfl⟩)
   refine a1.out.mono ?_;rintro e w3⟨rfl,ay⟩;have bc:=Lib.hid (HB.out.trans (ay.mono HB.out.size));have bx:=Lib.hid (HO.out.below ay);clear ay a1 W;dsimp only;have ak:(n:Int)<=52:=by have:=p.out;omega
   have J:n<=52:=p.out;iterate 13 go_step
   refine wpList_store_row rfl 180 (.tmp 7) (.tmp 29) rfl w3.heap.size _ rfl rfl _ _ (heap_alloc_last _ _) (fC l.out.1) (by rw[jb,l.out.1];rfl) (j5 _) ?_;obtain⟨ar,A⟩:=Bp w3 x;generalize(w3.alloc (.cells uZ 180)).setRow w3.heap.size (gL x)=W4 at ar A⊢;have aE:=Lib.hid (bc.out.trans (A.mono bc.out.size));have bw:=Lib.hid (bx.out.below A);have ag:=Lib.hid ar;obtain⟨Q,hQ⟩:∃Q,Q=w3.heap.size:=⟨_,rfl⟩
   rw[<-hQ]at ag⊢;have ba:=Lib.hid (a7.out W4 aE.out);clear ar A hQ a7;go_upto_region 9 with(fail)
   iterate 7 go_step
   refine wpList_load_row rfl 180 (.tmp 7) rfl Q rfl _ _ _ _ ag.out Tryz.underlying180 rfl (fC l.out.1) ?_;go_wp2_with fail
   refine ba.out.mono ?_;rintro e w5⟨rfl,ad⟩;have bb:=Lib.hid (aE.out.trans (ad.mono aE.out.size));have bu:=Lib.hid (bw.out.below ad);have bq:Hid (iK w5 Q x):=(ad.block Q (lt_of_block ag.out)).trans ag.out;clear ad ba;go_upto_region 10 with(fail)
   have ak:(n:Int)<=52:=by have:=p.out;omega
   have J:n<=52:=p.out;iterate 13 go_step
   have aS:aV w5 (.slice (some ⟨Q,3,none⟩) n 52) (x.log.take n):=by
    have h0:=bq.out.bz l.out.1 l.out.2.1;have bo:Value.slice (some ⟨Q,3,none⟩) 52 52=.slice (some ⟨Q,3,none⟩) x.log.length 52:=by rw[l.out.1]
    rw[bo]at h0;exact h0.take n (by rw[l.out.1];exact p.out)
   refine aB rfl (.tmp 38) (.tmp 41) rfl w.heap.size (.slice pv acc.length cv) acc rfl bu.out (.slice (some ⟨Q,3,none⟩) n 52) (x.log.take n) rfl aS (by rw[List.length_take,l.out.1];have h1:=aj.out.len;have C:=aY.out;have h3:=X.out;omega) bb.out.size ?_;intro v6 w6 ae aT bl;obtain⟨o,O⟩:∃a,a=acc++x.log.take n:=⟨_,rfl⟩
   rw[<-O]at ae;obtain⟨p6,c6,rfl⟩:=ae.bz.slice;have Y:=Lib.hid (bb.out.trans aT);have az:=Lib.hid ae;have an:=Lib.hid O;have a8:Hid (0<s.count):=by have:=X.out;show _<_;omega
   have a6:Hid (Wl.aQ said s.ai (2*s.count) t (Wl.half s d t)=n):=by show _=_;rw[af.out];exact HN.out
   have aZ:Hid ((Wl.half s d t).log.length=52):=by show _=_;rw[af.out];exact l.out.1
   clear aT bl ae O aS J;by_cases hn:n<52
   ·have aJ:(n:Int)<52:=by omega
    have hend:=aj.out.stop V.out a8.out HX.out a6.out hn aZ.out;rw[af.out,<-an.out]at hend;generalize t*52+n=E at hend;have j:=Lib.hid hend;clear hend hn;go_upto_region 11 with(fail)
    clear ak;go_upto_region 12 with(fail)
    clear aJ hi;have k:=j.out.found HX.out.aQ;have G:=j.out.len;obtain⟨m,hm⟩:∃m,m=min o.length (s.start%52):=⟨_,rfl⟩
    rw[<-hm]at k;have u:min (o.length:Int) ((s.start%52:Nat):Int)=(m:Int):=by omega
    have K:(m:Int)<=(o.length:Int):=by omega
    have c:m<=o.length:=by omega
    obtain⟨Z,q⟩:∃r,r=s.start%52:=⟨_,rfl⟩
    have bk:(s.start:Int)%52=(Z:Int):=by omega
    have bj:=IntWalk.i64_in (Z:Int) (by omega);have bg:=IntWalk.wrap64_in (Z:Int) (by omega);rw[<-q]at u;have H:=Lib.hid k.1;have bB:=Lib.hid c;have c0:=(R.out.below Y.out).cell 0 (v:=.int .u64 (s.start:Int)) rfl;rcases az.out.form with⟨D,e0⟩|⟨gb,cb,D,aw,aR,N,-⟩
    ·rw[D];have hz:m=0:=by rw[e0]at c;simpa using c
     subst hz;rw[e0]at u;have u:min (0:Int) (Z:Int)=0:=u;have aC:=Lib.hid e0;have au:(0:Int)<=0:=Int.le_refl _;clear D e0 k hm q G c K;go_wp2_with fail
     go_ret2
     exact⟨_,_,_,j.out,rfl,by rw[<-H.out,aC.out];exact aX _,(fun g h=>by cases h),Y.out⟩
    ·rw[D];unfold maxLen at N;have y:=D▸az.out.bz;have z:=y.drop m c;rw[H.out,Nat.zero_add]at z;have aD:=Lib.hid z;have T:Hid (w.heap.size<=gb):=aw;have bC:=Lib.hid y;generalize F:o.length=nn at*
     have aA:=Lib.hid F;by_cases bm:cb=m
     ·have bd:nn=m:=by omega
      have HZ:Hid ((Wl.bytes s).take (E-s.start)=[]):=by
       show _=_;rw[<-H.out];exact List.drop_eq_nil_of_le (by rw[aA.out];omega)
      clear D k hm q G y z F;go_wp2_with fail
      go_ret2
      exact⟨_,_,_,j.out,rfl,by rw[HZ.out];exact fR _ _ _ _ (by omega) (by omega),(fun g h=>by have C:some gb=some g:=h;rw[<-Option.some.inj C];exact T.out),Y.out⟩
     ·clear D k hm q G y z F;go_wp2_with fail
      go_ret2
      exact⟨_,_,_,j.out,rfl,aD.out,(fun g h=>by have C:some gb=some g:=h;rw[<-Option.some.inj C];exact T.out),Y.out⟩
   ·have bf:n=52:=by have:=p.out;omega
    have aJ:¬(n:Int)<52:=by omega
    subst bf;have ao:=aj.out.next V.out a8.out a6.out aZ.out aY.out;rw[af.out,<-an.out]at ao;have bA:=Lib.hid ao;have h6:=IntWalk.u64_in ((t:Int)+1) (by have:=ah.out;omega);clear ao;go_wp2_with fail
    go_roundw
    case rel=>exact⟨t+1,o,by go_num,az.out,bA.out,Y.out⟩
    case measure=>have h1:=aU.out;simp[intOf];omega
  ·have hi:¬(t:Int)<(fe:Int):=by omega
   have hend:=aj.out.done V.out (by have:=X.out;omega) HX.out (by rw[<-I.out,<-P.out,<-U.out];exact aa);generalize t*52=E at hend;have j:=Lib.hid hend;clear hend aa;have k:=j.out.found HX.out.aQ;have G:=j.out.len;obtain⟨m,hm⟩:∃m,m=min acc.length (s.start%52):=⟨_,rfl⟩
   rw[<-hm]at k;have u:min (acc.length:Int) ((s.start%52:Nat):Int)=(m:Int):=by omega
   have K:(m:Int)<=(acc.length:Int):=by omega
   have c:m<=acc.length:=by omega
   obtain⟨Z,q⟩:∃r,r=s.start%52:=⟨_,rfl⟩
   have bk:(s.start:Int)%52=(Z:Int):=by omega
   have bj:=IntWalk.i64_in (Z:Int) (by omega);have bg:=IntWalk.wrap64_in (Z:Int) (by omega);rw[<-q]at u;have H:=Lib.hid k.1;have bB:=Lib.hid c;have c0:=(R.out.below HB.out).cell 0 (v:=.int .u64 (s.start:Int)) rfl;rcases HO.out.form with⟨D,e0⟩|⟨gb,cb,D,aw,aR,N,-⟩
   ·rw[D];have hz:m=0:=by rw[e0]at c;simpa using c
    subst hz;rw[e0]at u;have u:min (0:Int) (Z:Int)=0:=u;have aC:=Lib.hid e0;have au:(0:Int)<=0:=Int.le_refl _;clear D e0 k hm q G c K;go_wp2_with (go_at_call 87;refine W.out.mono ?_;rintro e w'⟨rfl,rfl⟩)
    go_ret2
    exact⟨_,_,_,j.out,rfl,by rw[<-H.out,aC.out];exact aX _,(fun g h=>by cases h),HB.out⟩
   ·rw[D];unfold maxLen at N;have y:=D▸HO.out.bz;have z:=y.drop m c;rw[H.out,Nat.zero_add]at z;have aD:=Lib.hid z;have T:Hid (w.heap.size<=gb):=aw;have bC:=Lib.hid y;generalize F:acc.length=nn at*
    have aA:=Lib.hid F;by_cases bm:cb=m
    ·have bd:nn=m:=by omega
     have HZ:Hid ((Wl.bytes s).take (E-s.start)=[]):=by
      show _=_;rw[<-H.out];exact List.drop_eq_nil_of_le (by rw[aA.out];omega)
     clear D k hm q G y z F;go_wp2_with (go_at_call 87;refine W.out.mono ?_;rintro e w'⟨rfl,rfl⟩)
     go_ret2
     exact⟨_,_,_,j.out,rfl,by rw[HZ.out];exact fR _ _ _ _ (by omega) (by omega),(fun g h=>by have C:some gb=some g:=h;rw[<-Option.some.inj C];exact T.out),HB.out⟩
    ·clear D k hm q G y z F;go_wp2_with (go_at_call 87;refine W.out.mono ?_;rintro e w'⟨rfl,rfl⟩)
     go_ret2
     exact⟨_,_,_,j.out,rfl,aD.out,(fun g h=>by have C:some gb=some g:=h;rw[<-Option.some.inj C];exact T.out),HB.out⟩
end Go.Proofs.YtbpodmallknhfaaGreat
namespace Go.Proofs.YtbpodmallknhfaaGreat
open Go.RowKit
namespace Wl
def iB(fl i:Nat):Nat:=max (i*52) fl-i*52
def yw(fl i:Nat):Nat:=i*52+iB fl i-fl
def fD(fl n i:Nat):Nat:=min (n-yw fl i) (52-iB fl i)
def nw(fl ep a:Nat)(wl:List Nat)(x:Hf)(i:Nat):Hf:=mX x wl (iB fl i) (yw fl i) (fD fl wl.length i) (i/a) ep
structure Sn(fl ep c:Nat)(wl a:List Nat)(h i:Nat)(b:List Nat):Prop where
 sec:Dk.fI b
 new:∀t,h<=t->t<i->dQ (hf b (t%2))=nw fl ep c wl (dQ (hf a (t%2))) t
 old:∀k,k<2->(∀t,h<=t->t<i->t%2≠k)->hf b k=hf a k
theorem AM{fl ep b h:Nat}{wl a:List Nat}(hs:Dk.fI a):Sn fl ep b wl a h h a:=⟨hs,fun t d c=>absurd c (by omega),fun _ _ _=>rfl⟩
def ins(b l:List Nat)(j:Nat):List Nat:=b.take (64*j)++l++b.drop (64*j+64)
theorem BO{b l:List Nat}(c:b.length=128)(hl:l.length=64){j k:Nat}(e:j<2)(d:k<2):hf (ins b l j) k=if k=j then l else hf b k:=by
 obtain rfl|rfl:j=0\/j=1:=by omega
 ·obtain rfl|rfl:k=0\/k=1:=by omega
  ·rw[if_pos rfl];unfold hf ins;rw[Nat.mul_zero,List.take_zero,List.nil_append,List.drop_zero,List.take_left' hl]
  ·rw[if_neg (by decide)];unfold hf ins;rw[Nat.mul_zero,List.take_zero,List.nil_append,Nat.mul_one,List.drop_left' hl,Nat.zero_add]
 ·have a:(b.take 64).length=64:=by rw[List.length_take,c];rfl
  obtain rfl|rfl:k=0\/k=1:=by omega
  ·rw[if_neg (by decide)];unfold hf ins;rw[Nat.mul_zero,List.drop_zero,List.drop_zero,List.append_assoc,Nat.mul_one,List.take_left' a]
  ·rw[if_pos rfl];unfold hf ins;rw[Nat.mul_one,List.append_assoc,List.drop_left' a,List.take_left' hl]
theorem DB{b l:List Nat}(c:Dk.fI b)(hl:l.length=64)(hs:∀x∈l,x<256){j:Nat}(d:j<2):Dk.fI (ins b l j):=by
 refine⟨?_,fun x a=>?_⟩
 ·unfold ins;rw[List.length_append,List.length_append,List.length_take,List.length_drop,c.1,hl];omega
 ·unfold ins at a;simp only[List.mem_append]at a;rcases a with(a|a)|a
  ·exact c.2 x (List.mem_of_mem_take a)
  ·exact hs x a
  ·exact c.2 x (List.mem_of_mem_drop a)
structure xg(fl ep a:Nat)(wl:List Nat)(i:Nat):Prop where
 old:iB fl i<52
 sw:yw fl i<wl.length
 round:i/a<4294967296
 ep:ep<4294967296
theorem xg.length{fl ep a i:Nat}{wl:List Nat}(h:xg fl ep a wl i){x:Hf}(b:x.log.length=52):(nw fl ep a wl x i).log.length=52:=by
 have c:=h.old;refine mn b ?_ ?_
 ·unfold fD;omega
 ·unfold fD;omega
theorem xg.of{fl ep a i:Nat}{wl:List Nat}(h:xg fl ep a wl i)(x:Hf):dQ (ux (nw fl ep a wl x i))=nw fl ep a wl x i:=by
 have b:=h.old;refine BR h.round h.ep ?_;show iB fl i+fD fl wl.length i<_;unfold fD;omega
theorem xI{b:List Nat}(h:∀x∈b,x<256):∀x∈(dQ b).log,x<256:=fun x a=>h x (List.mem_of_mem_drop a)
theorem Ec{b:List Nat}(h:∀x∈b,x<256)(k:Nat):∀x∈hf b k,x<256:=fun x a=>h x (List.mem_of_mem_drop (List.mem_of_mem_take a))
theorem pC{b:List Nat}(h:b.length=128){k:Nat}(a:k<2):(dQ (hf b k)).log.length=52:=by
 show(List.drop 12 _).length=52;rw[List.length_drop,kF h a]
theorem E5{x:Hf}(h:∀b∈x.log,b<256):∀b∈ux x,b<256:=Lr.cM (Lr.cM (Lr.cM (aw.c7 _ _) (aw.c7 _ _)) (aw.c7 _ _)) h
theorem Sn.next{fl ep d h i:Nat}{wl c b:List Nat}(H:Sn fl ep d wl c h i b)(l:Dk.fI c)(hw:∀x∈wl,x<256)(p:h<=i)(g:∀t,h<=t->t<i->t%2≠i%2)(f:xg fl ep d wl i):
 hf b (i%2)=hf c (i%2)/\Sn fl ep d wl c h (i+1) (ins b (ux (nw fl ep d wl (dQ (hf c (i%2))) i)) (i%2)):=by
 have j:i%2<2:=by omega
 have hlen:=f.length (pC l.1 j);have a:(ux (nw fl ep d wl (dQ (hf c (i%2))) i)).length=64:=by rw[pD,hlen]
 refine⟨H.old _ j g,DB H.sec a (E5 (uI (xI (Ec l.2 _)) hw)) j,fun t m q=>?_,fun k o n=>?_⟩
 ·rw[BO H.sec.1 a j (by omega)];by_cases e:t=i
  ·subst e;rw[if_pos rfl,f.of]
  ·rw[if_neg (g t m (by omega))];exact H.new t m (by omega)
 ·rw[BO H.sec.1 a j o,if_neg (fun e=>n i p (by omega) e.symm)];exact H.old k o fun t m q=>n t m (by omega)
end Wl
theorem zL{base w g cap j}{b l:List Nat}{v:Value}(h:iJ base w (.slice (some ⟨g,0,none⟩) 128 cap) b)(z:b.length=128)(P:j<2)(G:aV w v l)(hl:l.length=64):
 ∃w',(∀ty,(Builtin.copy_ #[57,57] ty #[.slice (some ⟨g,64*j,none⟩) 64 (cap-64*j),v]).run Tryz.prog w=.ok (.int .i64 64) w')/\iJ base w' (.slice (some ⟨g,0,none⟩) 128 cap) (Wl.ins b l j)/\Touch (·=g) w w':=by
 obtain⟨S,J,F,K,C,L,s,cur,T,n,hs,M⟩:=h.row (by omega);simp only[Value.slice.injEq,Option.some.injEq,Addr.mk.injEq,and_true]at F;obtain⟨rfl,-,rfl⟩:=F;rw[z]at hs M;obtain⟨p,cs,A,-,-,hp⟩:=G.form;subst A;obtain⟨gs,off,rfl,D⟩:=hp (by omega);have r:=fun ty=>run_copy_row Tryz.prog w 57 57 ty 5 g (64*j) 64 (cap-64*j) ⟨gs,off,none⟩ l.length cs cur T (af l) Tryz.underlying57 lq n (by rw[aF,hl];rfl) (fun i u hu=>by
  have t:(⟨gs,off,none⟩:Addr).add i=⟨gs,off+i,none⟩:=by unfold Addr.add;split<;>simp_all
  have m:i<l.length:=by
   rcases Nat.lt_or_ge i l.length with n|n
   ·exact n
   ·rw[List.getElem?_eq_none (by rw[aF];omega)]at hu;cases hu
  rw[t,D i m,<-hu];simp[af,List.getD_eq_getElem?_getD,m]) (by rw[aF,hl];omega) (fun u hu=>by
  obtain⟨y,-,rfl⟩:=List.mem_map.1 hu;rfl)
 have f:=setRow_heap w g cur (cur.toList.take (64*j)++af l++cur.toList.drop (64*j+(af l).length)).toArray T (0,0) n;have a:(Wl.ins b l j).length=128:=by
  unfold Wl.ins;rw[List.length_append,List.length_append,List.length_take,List.length_drop,z,hl];omega
 have q:∀x∈Wl.ins b l j,x<256:=by
  intro x d;unfold Wl.ins at d;simp only[List.mem_append]at d;rcases d with(d|d)|d
  ·exact h.bz.small x (List.mem_of_mem_take d)
  ·exact G.small x d
  ·exact h.bz.small x (List.mem_of_mem_drop d)
 have c:∀i,i<128->cur[i]?=some (.int .u8 (b.getD i 0:Nat)):=by
  intro i m;obtain⟨N,c3,o,-,-,B⟩:=h.bz.form;simp only[Value.slice.injEq]at o;obtain⟨rfl,-,-⟩:=o;obtain⟨R,O,he4,E⟩:=B (by omega);simp only[Option.some.injEq,Addr.mk.injEq,and_true]at he4;obtain⟨rfl,rfl⟩:=he4;have:=E i (by omega);rw[Nat.zero_add,cell_of_row w g i cur T (0,0) n]at this;exact this
 have k:∀i,i<128->(cur.toList.take (64*j)++af l++cur.toList.drop (64*j+(af l).length)).toArray[i]?=some (.int .u8 ((Wl.ins b l j).getD i 0:Nat)):=by
  intro i m;have I:(cur.toList.take (64*j)).length=64*j:=by rw[List.length_take];simp;omega
  rw[List.getElem?_toArray,aF,hl];unfold Wl.ins;by_cases H:i<64*j
  ·rw[List.append_assoc,List.getElem?_append_left (by omega),List.getElem?_take,if_pos H,List.append_assoc,Wl.eW,List.length_take,if_pos (by omega),Wl.getD_take H];rw[Array.getElem?_toList];exact c i m
  ·by_cases Q:i<64*j+64
   ·rw[List.append_assoc,List.getElem?_append_right (by omega),I,List.getElem?_append_left (by rw[aF];omega),List.append_assoc,Wl.eW,List.length_take,z,if_neg (by omega),Wl.eW,if_pos (by omega)];rw[show min (64*j) 128=64*j by omega];simp[af,List.getD_eq_getElem?_getD,show i-64*j<l.length by omega]
   ·rw[List.append_assoc,List.getElem?_append_right (by omega),I,List.getElem?_append_right (by rw[aF];omega),aF,List.getElem?_drop,List.append_assoc,Wl.eW,List.length_take,z,if_neg (by omega),Wl.eW,if_neg (by omega),Wl.kI];rw[show min (64*j) 128=64*j by omega,hl,show 64*j+64+(i-64*j-64)=i by omega,Array.getElem?_toList];exact c i m
 refine⟨_,fun ty=>by rw[r ty,aF,hl];rfl,⟨⟨⟨some ⟨g,0,none⟩,cap,by rw[a],⟨by rw[a];omega,s⟩,(fun e=>by cases e),fun _=>⟨g,0,rfl,fun i m=>?_⟩⟩,q,by rw[a];decide⟩,fun _=>⟨g,cap,by rw[a],K,by rw[size_setRow];exact C,by rw[a];omega,s,_,T,f,?_,fun i m=>?_⟩⟩,df _ _⟩
 ·rw[Nat.zero_add,cell_of_row _ g i _ T (0,0) f];exact k i (by omega)
 ·rw[a];simp only[List.size_toArray,List.length_append,List.length_take,List.length_drop,aF,hl,Array.length_toList];omega
 ·exact⟨_,by
   rw[List.getD_eq_getElem?_getD,List.getElem?_eq_getElem (by omega)];exact q _ (List.getElem_mem _),k i (by omega)⟩
end Go.Proofs.YtbpodmallknhfaaGreat
namespace Go.Proofs.YtbpodmallknhfaaGreat
open Go.RowKit
set_option maxHeartbeats 6400000 in
set_option maxRecDepth 20000 in
theorem yh{w:World}{L B a c m1 Z:Nat}{k:Wl.Kn}{pl:Value}{gw ow cw:Nat}{wl:List Nat}{d:Dk.aq}(h:aH w L k B a c pl (.slice (some ⟨gw,ow,none⟩) wl.length cw) false)(hP:bh w B m1 Z d)(hB:aV w (.slice (some ⟨gw,ow,none⟩) wl.length cw) wl)
 (ho:d.off=false) (E:1<=c) (Q:c<=8192) (az:a+c+2<=Dk.size d) (g last:Nat) (a8:g<=last) (r:last<=1000000000000) (an:∀i,g<=i->i<=last->Wl.xg k.ae k.ai (2*c) wl i) (aF:¬DS B m1 Z L) (ay:k.ae<=1000000000000000):
 Calls Tryz.prog 147 #[.pointer (some ⟨L,0,none⟩),.int .u64 (g:Int),.int .u64 (last:Int)] w fun e w'=>∃b',Wl.Sn k.ae k.ai (2*c) wl (Wl.iM d (a+2+g%(2*c)/2)) g (min last (g/2*2+1)+1) b'/\
  e=.returned (.int .i64 ((Dk.write d ((a+2+g%(2*c)/2:Nat):Int) b').2:Nat))/\bh w' B m1 Z (Dk.write d ((a+2+g%(2*c)/2:Nat):Int) b').1/\aH w' L k B a c pl (.slice (some ⟨gw,ow,none⟩) wl.length cw) (decide ((Dk.write d ((a+2+g%(2*c)/2:Nat):Int) b').2≠0))/\Touch (ik B m1 Z L) w w':=by
 have aR:=Lib.hid h;have p:=Wl.jo (n:=c) (h:=g) E;have a6:=hP.own.size;have o:=gn h g E Q (show a<=65536 by omega);obtain⟨σ,aa⟩:∃s,s=a+2+g%(2*c)/2:=⟨_,rfl⟩
 rw[<-aa]at o⊢;have aM:Hid (σ<Dk.size d):=by show _<_;omega
 have K:=Lib.hid o;have aO:=Lib.hid hP;have aX:=Lib.hid hB;have bm:=Lib.hid ho;have aP:=Lib.hid an;have aS:=Lib.hid aF;have bx:=Lib.hid E;have bw:=Lib.hid Q;have bu:=Lib.hid ay;have aT:Hid (last<=1000000000000):=r;have m:=Lib.hid (Wl.mo hP.own.ok aM.out);obtain⟨top,I⟩:∃t,t=min last (g/2*2+1):=⟨_,rfl⟩
 have f:Hid (g<=top/\top<=last/\top<=g/2*2+1):=by show _/\_/\_;omega
 have a7:IntKind.u64.wrap ((g:Int)/2)=((g/2:Nat):Int):=by rw[IntWalk.u64_in _ (by omega)];omega
 obtain⟨g2,ax⟩:∃n,n=g/2:=⟨_,rfl⟩
 rw[<-ax]at a7;obtain⟨g4,bc⟩:∃n,n=g2*2:=⟨_,rfl⟩
 have bH:IntKind.u64.wrap ((g2:Int)*2)=(g4:Int):=by rw[IntWalk.u64_in _ (by omega)];omega
 obtain⟨g5,ba⟩:∃n,n=g4+1:=⟨_,rfl⟩
 have bG:IntKind.u64.wrap ((g4:Int)+1)=(g5:Int):=by rw[IntWalk.u64_in _ (by omega)];omega
 have bF:min (last:Int) (g5:Int)=(top:Int):=by omega
 rw[<-I];clear h hP hB ho E Q az an aF ay p a6 o aa a8 r I ax bc ba;go_enter Tryz.func147,Tryz.ntmps147;go_wp2_with fail
 refine K.out.mono ?_;rintro e w1⟨rfl,q,rfl⟩;have F:=below_drewN w.heap.size w q;have X:=Lib.hid (aR.out.below F);have V:=Lib.hid (aO.out.below F);have Y:=Lib.hid (aX.out.below F);have bj:Hid (Touch (ik B m1 Z L) w (w.drewN q)):=(Touch.refl _ _).drewN q;clear K F;generalize w.drewN q=W1 at*
 have c4:=X.out.cell 4 (v:=.pointer (some ⟨B,0,none⟩)) rfl;go_wp2_with fail
 refine(jl V.out bm.out aM.out).mono ?_;rintro e w2⟨u,rfl,hM,aA⟩;obtain⟨gb,cap,hu,aw,av,z,bd⟩:=hM.some (by rw[m.out.1];decide);rw[m.out.1]at hu z;subst hu;have HM:=Lib.hid hM;have bB:=Lib.hid aA;have aU:Hid (W1.heap.size<=gb):=aw;clear hM aA aw av c4;go_wp2_with fail
 go_loopw [10] (fun i wr=>∃(t:Nat)(bb:List Nat),i=.int .u64 (t:Int)/\g<=t/\t<=top+1/\iJ W1.heap.size wr (.slice (some ⟨gb,0,none⟩) 128 cap) bb/\Wl.Sn k.ae k.ai (2*c) wl (Wl.iM d σ) g t bb/\Below W1.heap.size W1 wr) (fun i _=>(top+1)-(intOf i).toNat)
 case atStart=>exact⟨g,_,rfl,Nat.le_refl _,by have:=f.out;omega,HM.out,Wl.AM m.out,bB.out⟩
 case round=>
  obtain⟨t,bb,rfl,aj,ah,hm,ak,hb⟩:=hrel;have W:=Lib.hid hm;have G:=Lib.hid ak;have HB:=Lib.hid hb;have l:Hid (g<=t/\t<=top+1):=⟨aj,ah⟩
  clear hm ak hb aj ah;by_cases p:t<=top
  ·have D:(t:Int)<=(top:Int):=by omega
   have A:=Lib.hid p;obtain⟨au,ar⟩:=G.out.next m.out Y.out.small l.out.1 (fun s h1 h2=>by have:=f.out;omega) (aP.out t l.out.1 (by have:=f.out;omega));have bJ:(t:Int)%2=((t%2:Nat):Int):=by omega
   have C:t%2<2:=by omega
   have bt:=Lib.hid au;have bs:=Lib.hid ar;clear au ar p;generalize t%2=j at*
   have bI:IntKind.u64.wrap ((j:Int)*64)=((64*j:Nat):Int):=by rw[IntWalk.u64_in _ (by omega)];omega
   have bK:¬cap=64*j:=by omega
   have bD:((64*j:Nat):Int)<=128:=by omega
   have bC:(64:Int)<=128-((64*j:Nat):Int):=by omega
   have HJ:=Lib.hid C;have R:=BP W.out.bz G.out.sec.1 z C;rw[bt.out]at R;have N:=Lib.hid (pE _ _ wr R (Wl.kF m.out.1 C));have aK:=Lib.hid (Wl.pC m.out.1 C);have aJ:=Lib.hid (Wl.xI (Wl.Ec m.out.2 j));clear R;generalize a2:Wl.dQ (Wl.hf (Wl.iM d σ) j)=x at*
   have HN:=Lib.hid (aP.out t l.out.1 (by have:=f.out;have:=A.out;omega));have bE:IntKind.u64.wrap ((t:Int)+1)=((t+1:Nat):Int):=by have:=f.out;have:=aT.out;have:=A.out;rw[IntWalk.u64_in _ (by omega)];omega
   clear a2;go_wp2_with fail
   refine N.out.mono ?_;rintro e w3⟨rfl,U⟩;have H:=Lib.hid (HB.out.trans (U.mono HB.out.size));have bq:=Lib.hid (W.out.below U);clear U N;go_wp2_with fail
   have aW:Hid (Calls Tryz.prog 175 #[.pointer (some ⟨L,0,none⟩),.int .u64 (t:Int),Af x] w3 fun e w'=>e=.returned (Af (Wl.nw k.ae k.ai (2*c) wl x t))/\Below w3.heap.size w3 w'):=
    rR (X.out.below H.out) (Y.out.below H.out) bx.out bw.out t HN.out.round x aK.out aJ.out (by have:=f.out;have:=aT.out;have:=A.out;omega) bu.out rfl HN.out.old rfl HN.out.sw rfl
   refine aW.out.mono ?_;clear aW;rintro e w4⟨rfl,T⟩;have aZ:=Lib.hid (H.out.trans (T.mono H.out.size));have bp:=Lib.hid (bq.out.below T);have ad:(Wl.nw k.ae k.ai (2*c) wl x t).log.length=52:=HN.out.length aK.out;have ab:∀b∈(Wl.nw k.ae k.ai (2*c) wl x t).log,b<256:=Wl.uI aJ.out Y.out.small;generalize a1:Wl.nw k.ae k.ai (2*c) wl x t=y at*
   have aI:=Lib.hid ad;have bf:=Lib.hid ab;clear ad ab T a1;go_wp2_with fail
   refine(uw y w4 aI.out bf.out).mono ?_;rintro e w5⟨u5,rfl,aC,S⟩;have aY:=Lib.hid (aZ.out.trans (S.mono aZ.out.size));have bo:=Lib.hid (bp.out.below S);have ao:(Wl.ux y).length=64:=by rw[Wl.pD,aI.out]
   obtain⟨w6,J,aD,ag⟩:=zL bo.out G.out.sec.1 HJ.out aC.bz ao;have J:=J 3;have bn:=Lib.hid aD;have bA:=Lib.hid (aY.out.trans (ag.below (base:=W1.heap.size) (fun i D=>by rw[D];exact aU.out) aY.out.size));clear S aC ao aD ag;go_wp2_with fail
   go_roundw
   case rel=>exact⟨t+1,_,by go_num,by have:=l.out;omega,by have:=A.out;omega,bn.out,bs.out,bA.out⟩
   case measure=>simp[intOf];have:=A.out;omega
  ·obtain rfl:t=top+1:=by have:=l.out;omega
   have D:¬((top+1:Nat):Int)<=(top:Int):=by omega
   have M:=Lib.hid (X.out.below HB.out);have aN:=Lib.hid (V.out.below HB.out);have c4:=M.out.cell 4 (v:=.pointer (some ⟨B,0,none⟩)) rfl;have af:=gD aN.out (σ:Int) _ bb W.out.bz (fun _ g' e hd=>by
    simp only[Value.ownBlock,Option.some.injEq]at e;subst e;have h1:=V.out.lt _ hd;have h2:=aU.out;omega)
   have aL:=Lib.hid af;clear af p;go_wp2_with fail
   refine aL.out.mono ?_;rintro e w7⟨rfl,aB,P⟩;have bl:=Lib.hid aB;have aQ:=Lib.hid (M.out.al P aS.out);have bg:=Lib.hid ((bj.out.trans (Touch.aE HB.out)).trans (P.mono fun i _ D=>Or.inl D));clear aB P c4 aL;go_wp2_with fail
   refine(gM aQ.out _).mono ?_;rintro e w8⟨rfl,aG,O⟩;have HE:=Lib.hid (bg.out.trans (O.mono fun i _ D=>Or.inr D));have br:=Lib.hid aG;have bk:=Lib.hid (bl.out.bQ O (fun i D e=>aS.out (e▸D)));clear aG O;go_wp2_with fail
   go_ret;exact⟨bb,G.out,rfl,bk.out,br.out,HE.out⟩
end Go.Proofs.YtbpodmallknhfaaGreat
namespace Go.Proofs.YtbpodmallknhfaaGreat
open Go.RowKit
namespace Wl
def lr(k:Kn):List Nat:=aw.le 8 k.start++(aw.le 8 k.ae++(aw.le 8 k.bp++(aw.le 4 k.ai++List.replicate 88 0)))
def sH(a c:Nat)(k:Kn):Nat->List Nat
 |0=>head a c k
 |1=>aw.le 4 a++(aw.le 4 c++lr k)
 |2=>aw.le 4 c++lr k
 |_=>lr k
theorem wy(a c:Nat)(k:Kn):head a c k=aw.le 4 (dK.more 0 (jc a c k))++(aw.le 4 a++(aw.le 4 c++lr k)):=by
 unfold head lr;conv=>lhs;rw[show jc a c k=((((aw.le 4 a++aw.le 4 c)++aw.le 8 k.start)++aw.le 8 k.ae)++aw.le 8 k.bp)++aw.le 4 k.ai from rfl]
 simp only[List.append_assoc];rfl
theorem DE{a c:Nat}{k:Kn}(d:a<4294967296)(b:c<4294967296){K:Nat}(h:K<3):∃m,aw.rdNum 4 (sH a c k K) 0=(m,sH a c k (K+1),0):=by
 obtain rfl|rfl|rfl:K=0\/K=1\/K=2:=by omega
 ·exact⟨_,by show aw.rdNum 4 (head a c k) 0=_;rw[wy];exact Lr.ix (Lr.sc (uz a c k)) _⟩
 ·exact⟨_,Lr.ix d _⟩
 ·exact⟨_,Lr.ix b _⟩
structure FE(k:Kn):Prop where
 start:k.start<18446744073709551616
 ae:k.ae<18446744073709551616
 bp:k.bp<18446744073709551616
 ai:k.ai<4294967296
end Wl
def Cw(k:Wl.Kn)(L a c W:Nat)(v0:Value)(i:Nat)(v:Value)(w:World):Prop:=
 match i with
 |0=>v=FQ k
 |1=>v=v0
 |2=>v=.pointer (some ⟨L,0,none⟩)
 |3=>v=FQ k
 |4=>Own W w v (Wl.head a c k)
 |5=>v=.bool true
 |7=>v=.bool true
 |_=>True
theorem zX(k:Wl.Kn)(L a c W:Nat)(v0:Value){Q:Nat}(b:Q<W)(i:Nat)(v:Value)(w w':World)(d:Touch (·=Q) w w')(h:Cw k L a c W v0 i v w):Cw k L a c W v0 i v w':=by
 unfold Cw at*
 split at h<;>first|exact h|exact h.Ew b d|trivial
set_option maxHeartbeats 3200000 in
set_option maxRecDepth 20000 in
theorem vq{w:World}{L B a c:Nat}{k0:Wl.Kn}{pl wa:Value}{dn:Bool}(h:aH w L k0 B a c pl wa dn)(v:Value)(k:Wl.Kn)(hv:aV w v (Wl.head a c k))(N:Wl.FE k)(ha:a<=65536)(hc:c<=8192):
 Calls Tryz.prog 122 #[.pointer (some ⟨L,0,none⟩),v] w fun e w'=>e=.returned (.tuple #[FQ k,.bool true])/\Below w.heap.size w w':=by
 obtain⟨W,hW⟩:∃W,W=w.alloc (.cells #[.int .u64 0,.int .u64 0,.int .u64 0,.int .u32 0] 120):=⟨_,rfl⟩
 have z:Below w.heap.size w W:=by rw[hW];exact aj _ _
 have r:W.heap[w.heap.size]?=some (.cells #[.int .u64 0,.int .u64 0,.int .u64 0,.int .u32 0] 120 (0,0)):=by rw[hW];exact heap_alloc_last _ _
 obtain⟨q,hQ⟩:∃Q,Q=w.heap.size:=⟨_,rfl⟩
 rw[<-hQ]at r;have an:=Lib.hid (h.below z);have Z:=Lib.hid (hv.below z);have x:=Lib.hid r;have M:=Lib.hid z;have HQ:=Lib.hid hQ;have HA:=Lib.hid ha;have HC:=Lib.hid hc;have HK:=Lib.hid N;have aF:Hid (L≠q):=by have:=h.lt;show L≠q;omega
 have aA:Hid (∀g,v.ownBlock=some g->g≠q):=fun g hg=>by
  have:=hv.fS (by rw[Wl.nE];decide) g hg;omega
 clear h z r hv ha hc N;go_enter Tryz.func122,Tryz.ntmps122;go_upto_region 1 with(fail)
 rw[<-hW,<-hQ];clear hW hQ;go_wp2_with fail
 refine(fB v _ W Z.out).mono ?_;rintro e w1⟨R,rfl,hR,T,S⟩;have HR:=Lib.hid hR;have aM:=Lib.hid S;have t:=Lib.hid T;clear hR S T;go_wp2_with fail
 go_loopw [10] (fun i wr=>∃K,K<=3/\i=.int .i64 ((K:Nat):Int)/\Rd 217 (fun b=>W.heap.size<=b/\b<R) wr R (Wl.sH a c k K) 0/\Below W.heap.size W wr) (fun i _=>3-(intOf i).toNat)
 case atStart=>exact⟨0,Nat.zero_le _,rfl,HR.out,aM.out⟩
 case round=>
  obtain⟨K,o,rfl,hr,G⟩:=hrel;have HB:=Lib.hid G;have ad:=Lib.hid hr;clear hr G;by_cases ay:K<3
  ·have hi:(K:Int)<3:=by omega
   have aN:=IntWalk.i64_in ((K:Int)+1) (by omega);obtain⟨m,hm⟩:=Wl.DE (a:=a) (c:=c) (k:=k) (by have:=HA.out;omega) (by have:=HC.out;omega) ay;have s:=fH _ R 0 _ wr ad.out;rw[hm]at s;have F:=Lib.hid s;clear s hm;go_wp2_with fail
   refine F.out.mono ?_;rintro e w2⟨rfl,U,O⟩;have aD:=Lib.hid U;have aL:=Lib.hid (aJ HB.out O HB.out.size t.out);clear U O F;go_wp2_with fail
   go_roundw
   case rel=>exact⟨K+1,by omega,by go_num,aD.out,aL.out⟩
   case measure=>simp[intOf];omega
  ·obtain rfl:K=3:=by omega
   have N:=HK.out;have h1:=dH _ R 0 _ wr ad.out;rw[show Wl.sH a c k 3=Wl.lr k from rfl,show Wl.lr k=aw.le 8 k.start++(aw.le 8 k.ae++(aw.le 8 k.bp++(aw.le 4 k.ai++List.replicate 88 0)))from rfl,Lr.dh N.start]at h1;have H1:=Lib.hid h1;clear h1 N;go_wp2_with fail
   refine H1.out.mono ?_;rintro e ax⟨rfl,j,f⟩;have ar:=Lib.hid (aJ HB.out f HB.out.size t.out);have p:=dH _ R 0 _ ax j;rw[Lr.dh HK.out.ae]at p;have H2:=Lib.hid p;clear p j f H1;go_wp2_with fail
   refine H2.out.mono ?_;rintro e av⟨rfl,j,f⟩;have aq:=Lib.hid (aJ ar.out f ar.out.size t.out);have p:=dH _ R 0 _ av j;rw[Lr.dh HK.out.bp]at p;have H3:=Lib.hid p;clear p j f H2;go_wp2_with fail
   refine H3.out.mono ?_;rintro e au⟨rfl,j,f⟩;have ao:=Lib.hid (aJ aq.out f aq.out.size t.out);have p:=fH _ R 0 _ au j;rw[Lr.ix HK.out.ai]at p;have H4:=Lib.hid p;clear p j f H3;go_wp2_with fail
   refine H4.out.mono ?_;rintro e w3⟨rfl,j,f⟩;have J:=Lib.hid (aJ ao.out f ao.out.size t.out);clear j f H4;obtain⟨I,A⟩:∃I,I=w3.alloc (.cells (qE k) 120):=⟨_,rfl⟩
   have P:Below w3.heap.size w3 I:=by rw[A];exact aj _ _
   have l:I.heap[w3.heap.size]?=some (.cells (qE k) 120 (0,0)):=by rw[A];exact heap_alloc_last _ _
   obtain⟨Q2,H⟩:∃Q,Q=w3.heap.size:=⟨_,rfl⟩
   rw[<-H]at l;have y:=Lib.hid (J.out.trans (P.mono J.out.size));have ag:=Lib.hid l;have E:=Lib.hid ((y.out.block q (lt_of_block x.out)).trans x.out);have ak:Hid (q<I.heap.size):=lt_of_block E.out;have af:Hid (¬Q2=q):=by have h1:=lt_of_block x.out;have p:=J.out.size;show¬Q2=q;omega
   have aK:=Lib.hid (an.out.below y.out);have aI:Hid (¬L=q):=aF.out;have aC:=Lib.hid (Z.out.below y.out);have aB:Hid (0<(Wl.head a c k).length->∀g,v.ownBlock=some g->¬g=q):=fun _ g hg=>aA.out g hg;clear P l;go_upto_region 7 with(fail)
   rw[<-A,<-H];clear A H;refine Ord.walk (Cw k L a c I.heap.size v) (fun D _ w'=>TR I q 120 #[.int .u64 0,.int .u64 0,.int .u64 0,.int .u32 0] (qE k) 6 D w') (fun a b=>Touch (·=q) a b)
    (by kernel_rfl) (by kernel_rfl) ?fra ?hfra (fun i v w w' G h=>zX _ _ _ _ _ _ ak.out i v w w' G h) (fun xs=>TR.first E.out) ?hea ?henda
   case hfra=>
    intro xs;simp only[Ord.fill,Act.put,List.setIfInBounds_toArray,List.set_cons_zero,List.set_cons_succ];rfl
   case hea=>
    iterate 8 (refine Ord.aa (fun D xs w2 hD hC hP hR n K o=>?_) ?_;rotate_left)
    rotate_left
    ·clear n;refine wp_load_row 120 _ rfl Q2 rfl _ _ _ _ (hR.al.row ag.out af.out) Tryz.underlying120 rfl (by kernel_rfl) ?_;exact o _ _ ⟨_,rfl,Touch.refl _ _,hR.skip 0 (by decide),rfl⟩
    ·clear n;go_simp;exact o _ _ ⟨_,rfl,Touch.refl _ _,hR.skip 1 (by decide),rfl⟩
    ·clear n;go_simp;exact o _ _ ⟨_,rfl,Touch.refl _ _,hR.skip 2 (by decide),rfl⟩
    ·clear n;refine wp_load_row 120 _ rfl Q2 rfl _ _ _ _ (hR.al.row ag.out af.out) Tryz.underlying120 rfl (by kernel_rfl) ?_;exact o _ _ ⟨_,rfl,Touch.refl _ _,hR.skip 3 (by decide),rfl⟩
    ·have q2:=Ord.ab _ n 2 (by decide);simp only[Cw]at q2;have q3:=Ord.ab _ n 3 (by decide);simp only[Cw]at q3;simp only[q2,q3]at o;clear n;go_simp;refine(oj (aK.out.al hR.al aI.out) k HA.out HC.out).mono ?_;rintro e w'⟨u,rfl,hO,G⟩;exact o _ _ ⟨_,rfl,Touch.aE G,hR.step 4 (by decide) G,hO.from hR.al.size⟩
    ·have q1:=Ord.ab _ n 1 (by decide);simp only[Cw]at q1;have q4:=Ord.ab _ n 4 (by decide);simp only[Cw]at q4;simp only[q1]at o;clear n;go_simp;refine(aG v (xs 4) _ _ w2 (hR.al.bz aC.out aB.out) q4.bz).mono ?_;rintro e w'⟨rfl,rfl⟩;rw[decide_eq_true rfl];exact o _ _ ⟨_,rfl,Touch.refl _ _,hR.skip 5 (by decide),rfl⟩
    ·have q0:=Ord.ab _ n 0 (by decide);simp only[Cw]at q0;clear n;have Y:=hR.now hD;refine wp_store_row 120 _ _ rfl q (qE k) rfl (by exact q0) _ _ Y (by kernel_rfl) rfl (by simp[Value.oneCell']) ?_;exact o _ _ ⟨undef,rfl,df _ _,hR.put (df _ _) (setRow_heap _ _ _ _ _ _ Y),trivial⟩
    ·have q5:=Ord.ab _ n 5 (by decide);simp only[Cw]at q5;simp only[q5]at o;clear n;go_simp;exact o _ _ ⟨_,rfl,Touch.refl _ _,hR.skip 7 (by decide),rfl⟩
    exact Ord.az
   case henda=>
    intro D xs w9 hR C;have X:=(C 6 (by decide)).1;have e0:=(C 0 (by decide)).2;have e1:=(C 1 (by decide)).2;have e2:=(C 2 (by decide)).2;have e3:=(C 3 (by decide)).2;have e5:=(C 5 (by decide)).2;have e7:=(C 7 (by decide)).2;have V:=(C 4 (by decide)).2;simp only[Cw]at e0 e1 e2 e3 e5 e7 V;rw[e0];rw[e1];rw[e2];rw[e3];rw[e5];rw[e7];clear e0 e1 e2 e3 e5 e7;clear C;generalize xs 4=x4 at*
    generalize xs 6=x6 at*
    have d:=hR.done X;have HE:=Lib.hid ((M.out.trans (y.out.mono M.out.size)).trans (hR.al.below (base:=w.heap.size) (fun i hi=>by rw[hi,HQ.out];exact Nat.le_refl _) (Nat.le_trans M.out.size y.out.size)));have q0:=ah d 0 (v:=.int .u64 (k.start:Int)) rfl;have q1:=ah d 1 (v:=.int .u64 (k.ae:Int)) rfl;have q2:=ah d 2 (v:=.int .u64 (k.bp:Int)) rfl;have q3:=ah d 3 (v:=.int .u32 (k.ai:Int)) rfl;clear hR V X d;go_wp2_with fail
    refine bodyPost_ret (v:=.tuple #[FQ k,.bool true]) (by simp[results,Tryz.results122,go_sem,q0,q1,q2,q3]) rfl ⟨rfl,HE.out⟩
end Go.Proofs.YtbpodmallknhfaaGreat
namespace Go.Proofs.YtbpodmallknhfaaGreat
open Go.RowKit
def rL(B L a c W:Nat)(b:List Nat)(i:Nat)(v:Value)(w:World):Prop:=
 match i with
 |0=>v=.pointer (some ⟨L,0,none⟩)
 |1=>v=.pointer (some ⟨L,0,none⟩)
 |2=>v=.pointer (some ⟨L,4,none⟩)
 |3=>v=.pointer (some ⟨B,0,none⟩)
 |4=>v=.pointer (some ⟨L,0,none⟩)
 |5=>v=.pointer (some ⟨L,0,none⟩)
 |6=>v=.pointer (some ⟨L,5,none⟩)
 |7=>v=.int .i64 (a:Int)
 |8=>v=.int .i64 0
 |9=>v=.int .i64 (c:Int)
 |10=>DV W w v b
 |11=>DV W w v b
 |12=>iJ W w v b
 |13=>v=.int .i64 0
 |14=>iJ W w v b
 |15=>v=.int .i64 0
 |_=>True
theorem Ac(B L a c W:Nat)(b:List Nat)(i:Nat)(v:Value)(w w':World)(d:Below w.heap.size w w')(h:rL B L a c W b i v w):rL B L a c W b i v w':=by
 unfold rL at*
 split at h<;>first|exact h|exact h.below d|trivial
set_option maxHeartbeats 3200000 in
set_option maxRecDepth 20000 in
theorem tj{w:World}{L B a c m1 m2:Nat}{k0:Wl.Kn}{pl C:Value}{d:Dk.aq}(h:aH w L k0 B a c pl C false)(V:bh w B m1 m2 d)(ho:d.off=false)(k:Wl.Kn)(hk:Wl.FE k)(J:a+c+2<=Dk.size d)(hc:c<=8192)(he:Wl.iM d a=Wl.head a c k):
 Calls Tryz.prog 89 #[.pointer (some ⟨L,0,none⟩)] w fun e w'=>e=.returned (.int .i64 0)/\aH w' L k B a c pl C false/\Touch (·=L) w w':=by
 have ad:=V.own.size;have P:=Lib.hid h;have O:Hid (L<w.heap.size):=h.lt;have C4:=Lib.hid (h.cell 4 (v:=.pointer (some ⟨B,0,none⟩)) rfl);have C5:=Lib.hid (h.cell 5 (v:=.int .i64 (a:Int)) rfl);have ak:=Lib.hid V;have al:=Lib.hid ho;have ag:Hid (a<Dk.size d):=by show _<_;omega
 have an:Hid (IntKind.i64.wrap (a:Int)=(a:Int)):=IntWalk.i64_in _ (by omega);have ar:=Lib.hid he;have HK:=Lib.hid hk;have HA:Hid (a<=65536/\c<=8192):=by show _/\_;omega
 clear h V ho hk J hc he ad;go_enter Tryz.func89,Tryz.ntmps89;go_wp2_with fail
 go_loopw [8] (fun i wr=>i=.int .i64 0/\w=wr) (fun _ _=>0)
 case atStart=>exact⟨rfl,rfl⟩
 case round=>
  obtain⟨rfl,rfl⟩:=hrel;go_upto_region 4 with(fail)
  refine Ord.walk (rL B L a a w.heap.size (Wl.head a c k)) (fun _ _ w'=>Below w.heap.size w w') (fun a b=>Below a.heap.size a b)
   (by kernel_rfl) (by kernel_rfl) ?fra ?hfra (fun i v w w' U h=>Ac _ _ _ _ _ _ i v w w' U h) (fun xs=>(Below.refl _ _).kH) ?hea ?henda
  case hfra=>
   intro xs;simp only[Ord.fill,Act.put,List.setIfInBounds_toArray,List.set_cons_zero,List.set_cons_succ];rfl
  case hea=>
   iterate 16 (refine Ord.aa (fun D xs w2 hD hC V hR f K j=>?_) ?_;rotate_left)
   rotate_left
   ·clear f;go_simp;exact j _ _ ⟨_,rfl,Below.refl _ _,hR,rfl⟩
   ·have Z:=Ord.ab _ f 0 (by decide);simp only[rL]at Z;simp only[Z]at j;clear f;go_simp;exact j _ _ ⟨_,rfl,Below.refl _ _,hR,rfl⟩
   ·have Y:=Ord.ab _ f 1 (by decide);simp only[rL]at Y;simp only[Y]at j;clear f;go_simp;exact j _ _ ⟨_,rfl,Below.refl _ _,hR,rfl⟩
   ·have X:=Ord.ab _ f 2 (by decide);simp only[rL]at X;simp only[X]at j;clear f;have cc:=hR.cell (p:=⟨L,4,none⟩) O.out;rw[C4.out]at cc;go_simp;exact j _ _ ⟨_,rfl,Below.refl _ _,hR,rfl⟩
   ·clear f;go_simp;exact j _ _ ⟨_,rfl,Below.refl _ _,hR,rfl⟩
   ·have q4:=Ord.ab _ f 4 (by decide);simp only[rL]at q4;simp only[q4]at j;clear f;go_simp;exact j _ _ ⟨_,rfl,Below.refl _ _,hR,rfl⟩
   ·have q5:=Ord.ab _ f 5 (by decide);simp only[rL]at q5;simp only[q5]at j;clear f;go_simp;exact j _ _ ⟨_,rfl,Below.refl _ _,hR,rfl⟩
   ·have q6:=Ord.ab _ f 6 (by decide);simp only[rL]at q6;simp only[q6]at j;clear f;have cc:=hR.cell (p:=⟨L,5,none⟩) O.out;rw[C5.out]at cc;go_simp;exact j _ _ ⟨_,rfl,Below.refl _ _,hR,rfl⟩
   ·clear f;go_simp;exact j _ _ ⟨_,rfl,Below.refl _ _,hR,rfl⟩
   ·have q7:=Ord.ab _ f 7 (by decide);simp only[rL]at q7;have q8:=Ord.ab _ f 8 (by decide);simp only[rL]at q8;simp only[q7,q8]at j;clear f;go_simp;rw[an.out];exact j _ _ ⟨_,rfl,Below.refl _ _,hR,rfl⟩
   ·have W:=Ord.ab _ f 3 (by decide);simp only[rL]at W;have q9:=Ord.ab _ f 9 (by decide);simp only[rL]at q9;simp only[W,q9]at j;clear f;have I:=jl (ak.out.below hR) al.out ag.out;rw[ar.out]at I;go_simp;refine I.mono ?_;rintro e w'⟨u,rfl,hM,U⟩;exact j _ _ ⟨_,rfl,U,hR.trans (U.mono hR.size),u,rfl,hM.from hR.size⟩
   ·have G:=Ord.ab _ f 10 (by decide);simp only[rL]at G;clear f;go_simp;exact j _ _ ⟨_,rfl,Below.refl _ _,hR,G⟩
   ·have m:=Ord.ab _ f 11 (by decide);simp only[rL]at m;obtain⟨u8,x,m8⟩:=m;clear f;rw[x]at j⊢;go_simp;exact j _ _ ⟨_,rfl,Below.refl _ _,hR,m8⟩
   ·have m:=Ord.ab _ f 11 (by decide);simp only[rL]at m;obtain⟨u8,x,m8⟩:=m;clear f;rw[x]at j⊢;go_simp;exact j _ _ ⟨_,rfl,Below.refl _ _,hR,rfl⟩
   ·have F:=Ord.ab _ f 12 (by decide);simp only[rL]at F;clear f;go_simp;exact j _ _ ⟨_,rfl,Below.refl _ _,hR,F⟩
   ·have E:=Ord.ab _ f 13 (by decide);simp only[rL]at E;simp only[E]at j;clear f;go_simp;exact j _ _ ⟨_,rfl,Below.refl _ _,hR,rfl⟩
   exact Ord.az
  case henda=>
   intro D xs w9 hR l;have e0:=(l 0 (by decide)).2;have e1:=(l 1 (by decide)).2;have e2:=(l 2 (by decide)).2;have e3:=(l 3 (by decide)).2;have e4:=(l 4 (by decide)).2;have e5:=(l 5 (by decide)).2;have e6:=(l 6 (by decide)).2;have e7:=(l 7 (by decide)).2;have x:=(l 8 (by decide)).2;have e9:=(l 9 (by decide)).2;have z:=(l 13 (by decide)).2;have y:=(l 15 (by decide)).2;have n:=(l 14 (by decide)).2;simp only[rL]at e0 e1 e2 e3 e4 e5 e6 e7 x e9 z y n;rw[e0];rw[e1];rw[e2];rw[e3];rw[e4];rw[e5];rw[e6];rw[e7];rw[x];rw[e9];rw[z];rw[y];clear e0 e1 e2 e3 e4 e5 e6 e7 x e9 z y;clear l;generalize xs 10=x10 at*
   generalize xs 11=x11 at*
   generalize xs 12=x12 at*
   generalize xs 14=x14 at*
   have HM:=Lib.hid n;have A:=Lib.hid hR;clear hR n;have s:=Lib.hid (vq (P.out.below A.out) x14 k HM.out.bz HK.out HA.out.1 HA.out.2);go_wp2_with fail
   refine s.out.mono ?_;rintro e w3⟨rfl,N⟩;have T:=Lib.hid (A.out.trans (N.mono A.out.size));obtain⟨o,q⟩:∃o,o=w3.alloc (.cells (qE k) 120):=⟨_,rfl⟩
   have M:Below w3.heap.size w3 o:=by rw[q];exact aj _ _
   have g:o.heap[w3.heap.size]?=some (.cells (qE k) 120 (0,0)):=by rw[q];exact heap_alloc_last _ _
   obtain⟨Q2,t⟩:∃Q,Q=w3.heap.size:=⟨_,rfl⟩
   rw[<-t]at g;have R:=Lib.hid (T.out.trans (M.mono T.out.size));have ao:=Lib.hid (P.out.below R.out);have Z:=ah g 0 (v:=.int .u64 (k.start:Int)) rfl;have Y:=ah g 1 (v:=.int .u64 (k.ae:Int)) rfl;have X:=ah g 2 (v:=.int .u64 (k.bp:Int)) rfl;have W:=ah g 3 (v:=.int .u32 (k.ai:Int)) rfl;have r:=ao.out;have f0:=aI r 0;have s0:aH (o.setCell ⟨L,0,none⟩ (.int .u64 (k.start:Int))) L {k0 with start:=k.start} B a c pl C false:=aT (i:=0) r _;have f1:=aI s0 1;have s1:aH ((o.setCell ⟨L,0,none⟩ (.int .u64 (k.start:Int))).setCell ⟨L,1,none⟩ (.int .u64 (k.ae:Int))) L {k0 with start:=k.start,ae:=k.ae} B a c pl C false:=aT (i:=1) s0 _;have f2:=aI s1 2;have s2:aH (((o.setCell ⟨L,0,none⟩ (.int .u64 (k.start:Int))).setCell ⟨L,1,none⟩ (.int .u64 (k.ae:Int))).setCell ⟨L,2,none⟩ (.int .u64 (k.bp:Int))) L {k0 with start:=k.start,ae:=k.ae,bp:=k.bp} B a c pl C false:=aT (i:=2) s1 _;have f3:=aI s2 3;have s3:aH ((((o.setCell ⟨L,0,none⟩ (.int .u64 (k.start:Int))).setCell ⟨L,1,none⟩ (.int .u64 (k.ae:Int))).setCell ⟨L,2,none⟩ (.int .u64 (k.bp:Int))).setCell ⟨L,3,none⟩ (.int .u32 (k.ai:Int))) L k B a c pl C false:=aT (i:=3) s2 _;have g0:=aH.cell r 0 (v:=.int .u64 (k0.start:Int)) rfl;have g1:=aH.cell s0 1 (v:=.int .u64 (k0.ae:Int)) rfl;have g2:=aH.cell s1 2 (v:=.int .u64 (k0.bp:Int)) rfl;have g3:=aH.cell s2 3 (v:=.int .u32 (k0.ai:Int)) rfl;have S3:=Lib.hid s3;have H:Touch (·=L) o ((((o.setCell ⟨L,0,none⟩ (.int .u64 (k.start:Int))).setCell ⟨L,1,none⟩ (.int .u64 (k.ae:Int))).setCell ⟨L,2,none⟩ (.int .u64 (k.bp:Int))).setCell ⟨L,3,none⟩ (.int .u32 (k.ai:Int))):=(((Touch.set (S:=(·=L)) L 0 _ rfl).trans (.set L 1 _ rfl)).trans (.set L 2 _ rfl)).trans (.set L 3 _ rfl);have af:=Lib.hid ((Touch.aE (S:=(·=L)) R.out).trans H);clear N M g s0 s1 s2 s3 r H s;go_upto_region 8 with(fail)
   rw[<-q,<-t];clear q t;go_wp2_with fail
   go_ret;exact⟨rfl,S3.out,af.out⟩
end Go.Proofs.YtbpodmallknhfaaGreat
