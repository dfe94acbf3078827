/- Parts of a proof. Conditions: as each row says. -/
import Derived.Test.YtbpodmallknhfaaGreatCr05
import Derived.Test.YtbpodmallknhfaaGreatCr18
import Derived.Test.YtbpodmallknhfaaGreatCr10
import Derived.Test.YtbpodmallknhfaaGreatCr03
import Derived.Test.YtbpodmallknhfaaGreatCr28
import Derived.Test.YtbpodmallknhfaaGreatCr06
import Derived.Test.YtbpodmallknhfaaGreatCr13
import Derived.Test.YtbpodmallknhfaaGreatCr07
import Derived.Test.YtbpodmallknhfaaGreatCr09
import Derived.Laws.CopyRow
namespace Go.Proofs.YtbpodmallknhfaaGreat
open Go.RowKit
section
variable{W w:World}{B k i:Nat}{A:Array Value}{T:TypeId}{S:List (Nat×Nat×Value)}{D:Nat->Bool}
theorem dR.fF(h:dR W B A T S D w){i:Nat}{o:Obj}(a:W.heap[i]?=some o)(b:i≠B):w.heap[i]?=some o:=(h.grown.block i (lt_of_block a) (fun e=>b (Option.some.inj e))).trans a
theorem dR.go(h:dR W B A T S D w)(k:Nat)(a:(S.all fun s=>s.1 !=k)=true)(n:Nat):dR W B A T S (Ord.bP D k) (w.drewN n):=⟨ak h.grown (Touch.grownBy ((Touch.refl _ _).drewN n)),by rw[pz _ a];exact h.row⟩
end
def CJ(L Q st ep:Nat)(i:Nat)(v:Value)(_:World):Prop:=
 match i with
 |0=>v=.pointer (some ⟨L,0,none⟩)
 |1=>v=.int .u64 (st:Int)
 |2=>v=.pointer (some ⟨L,0,none⟩)
 |3=>v=.pointer (some ⟨L,0,none⟩)
 |4=>v=.pointer (some ⟨L,0,none⟩)
 |5=>v=.pointer (some ⟨L,3,none⟩)
 |6=>v=.int .u32 (ep:Int)
 |7=>v=.pointer (some ⟨Q,1,none⟩)
 |9=>v=.pointer (some ⟨Q,2,none⟩)
 |_=>True
def nT(L Q st base:Nat)(pl:Value)(i:Nat)(v:Value)(w:World):Prop:=
 match i with
 |0=>v=.pointer (some ⟨L,0,none⟩)
 |1=>v=.pointer (some ⟨L,0,none⟩)
 |2=>v=.pointer (some ⟨L,0,none⟩)
 |3=>v=.pointer (some ⟨L,7,none⟩)
 |4=>v=pl
 |5=>v=.pointer (some ⟨Q,1,none⟩)
 |6=>v=.int .u64 (st:Int)
 |7=>∃a,v=.slice (some ⟨a,0,none⟩) 1 1/\w.cell? ⟨a,0,none⟩=some (.int .u64 (st:Int))/\base<=a
 |9=>v=.pointer (some ⟨L,0,none⟩)
 |10=>v=.pointer (some ⟨L,7,none⟩)
 |_=>True
theorem Touch.E7{S:Nat->Prop}{a b:World}{r:Option Nat}(h:a.grownBy b r)(hs:∀g,r=some g->S g):Touch S a b:=⟨h.os,h.tape,h.output,h.size,fun i d c=>h.block i d fun e=>c (hs i e.symm)⟩
theorem qW{W:World}{L Q st:Nat}{pl:Value}(hT:∀i,(i=L\/pl.ownBlock=some i)->i<W.heap.size)(i:Nat)(v:Value)(w w':World)(c:Touch (fun i=>i=L\/pl.ownBlock=some i) w w')(h:nT L Q st W.heap.size pl i v w):nT L Q st W.heap.size pl i v w':=by
 unfold nT at*
 split at h<;>first|exact h|skip
 obtain⟨a,f,e,d⟩:=h;refine⟨a,f,c.cell e (fun b=>?_),d⟩;have:=hT a b;omega
theorem uf(w:World)(v:Value)(T:TypeId):(w.alloc (.cells #[v] T)).cell? ⟨w.heap.size,0,none⟩=some v:=by
 rw[cell_of_row _ w.heap.size 0 #[v] T (0,0) (heap_alloc_last _ _)];rfl
structure jj(W:World)(L:Nat)(k:Wl.Kn)(B a c:Nat)(pl wa:Value)(l:List Nat)(y:Nat)(D:Nat->Bool)(xs:Nat->Value)(w:World):Prop where
 t:Touch (fun i=>i=L\/pl.ownBlock=some i) W w
 q:D 8=false->QO 0 w pl l
 r:D 8=true->QO 0 w (xs 8) (l++[y])/\((xs 8).ownBlock=pl.ownBlock\/∃i,(xs 8).ownBlock=some i/\W.heap.size<=i)
 at_:D 11=false->aH w L k B a c pl wa false
 ET:D 11=true->aH w L k B a c (xs 8) wa false
section
variable{W w w':World}{L B a c y:Nat}{k:Wl.Kn}{pl wa:Value}{l:List Nat}{D:Nat->Bool}{xs:Nat->Value}
theorem jj.first(b:QO 0 W pl l)(hl:aH W L k B a c pl wa false):jj W L k B a c pl wa l y (fun _=>false) xs W.drew:=
 ⟨(Touch.refl _ _).drew,fun _=>b.below ((Below.refl _ _).kH),(fun h=>by cases h),fun _=>hl,(fun h=>by cases h)⟩
theorem jj.skip(h:jj W L k B a c pl wa l y D xs w)(j:Nat)(g:8≠j)(e:11≠j)(v:Value)(b:Below w.heap.size w w'):jj W L k B a c pl wa l y (Ord.bP D j) (Ord.set xs j v) w':=by
 have f:Ord.bP D j 8=D 8:=if_neg g;have d:Ord.bP D j 11=D 11:=if_neg e;have ex:Ord.set xs j v 8=xs 8:=if_neg g;refine⟨h.t.trans (Touch.aE b),fun hd=>(h.q (f▸hd)).below b,fun hd=>?_,fun hd=>(h.at_ (d▸hd)).below b,fun hd=>?_⟩
 ·rw[ex];exact⟨(h.r (f▸hd)).1.below b,(h.r (f▸hd)).2⟩
 ·rw[ex];exact(h.ET (d▸hd)).below b
theorem jj.app{v:Value}(h:jj W L k B a c pl wa l y D xs w)(_:D 8=false)(b:D 11=false)(g:pl.ownBlock≠some L)(f:QO 0 w' v (l++[y]))(e:Touch (fun i=>pl.ownBlock=some i) w w')(d:v.ownBlock=pl.ownBlock\/∃i,v.ownBlock=some i/\w.heap.size<=i):jj W L k B a c pl wa l y (Ord.bP D 8) (Ord.set xs 8 v) w':=by
 refine⟨h.t.trans (e.mono fun i _ j=>Or.inr j),fun he=>?_,fun _=>⟨f,d.imp id fun⟨i,n,m⟩=>⟨i,n,Nat.le_trans h.t.size m⟩⟩,fun _=>(h.at_ b).al e g,fun he=>?_⟩
 ·rw[show Ord.bP D 8 8=true from if_pos rfl]at he;cases he
 ·rw[show Ord.bP D 8 11=D 11 from if_neg (by decide),b]at he;cases he
theorem jj.put(h:jj W L k B a c pl wa l y D xs w)(hd:D 8=true)(f:D 11=false)(m:pl.ownBlock≠some L)(o:L<W.heap.size)(v:Value):jj W L k B a c pl wa l y (Ord.bP D 11) (Ord.set xs 11 v) (w.setCell ⟨L,7,none⟩ (xs 8)):=by
 have g:Touch (fun i=>i=L) w (w.setCell ⟨L,7,none⟩ (xs 8)):=.set L 7 _ rfl;have n:Ord.bP D 11 8=D 8:=if_neg (by decide);have ex:Ord.set xs 11 v 8=xs 8:=if_neg (by decide);refine⟨h.t.trans (g.mono fun i _ b=>Or.inl b),fun he=>?_,fun _=>?_,fun he=>?_,fun _=>?_⟩
 ·rw[n,hd]at he;cases he
 ·rw[ex];refine⟨(h.r hd).1.al g fun i b e=>?_,(h.r hd).2⟩;rcases(h.r hd).2 with d|⟨j,d,p⟩
  ·exact m (by rw[<-d,b,e])
  ·rw[b]at d;have:=Option.some.inj d;omega
 ·rw[show Ord.bP D 11 11=true from if_pos rfl]at he;cases he
 ·rw[ex];exact aT (i:=7) (h.at_ f) _
end
theorem Wl.oL{s:Wl.S}(h:Wl.Ex s):s.stop<=s.start+851968:=by
 have c:=h.room;have b:=h.high;have a:s.start/52*52<=s.start:=Nat.div_mul_le_self _ _;omega
theorem Wl.pR:∀{l:List Lr.R}{p q:Nat},Wl.chain p l q->p+19*l.length<=q
 | [],p,q,h=>by
  have:p=q:=h;simp only[List.length_nil];omega
 |x::l,p,q,h=>by
  have b:=Wl.pR h.2;have a:=Wl.size_pos x;simp only[List.length_cons];omega
theorem Wl.oZ{s:Wl.S}(h:Wl.Ex s):(Wl.places s).length<=50000:=by
 have b:=Wl.pR h.aQ.chain;have a:=Wl.oL h;unfold Wl.places;rw[List.length_map];omega
theorem Wl.yl{s:Wl.S}(h:Wl.Good s)(x:Lr.R):Wl.waits (Wl.app s x)=Wl.waits s++Lr.form (Wl.bf s x):=by
 have c:=Wl.ef h;have b:=h.high;have a:=h.low;have e:Wl.bytes (Wl.app s x)=Wl.bytes s++Lr.form (Wl.bf s x):=by
  show(s.cd++[Wl.bf s x]).flatMap Lr.form=_;rw[List.flatMap_append];simp[Wl.bytes]
 unfold Wl.waits;rw[e];show(Wl.bytes s++_).drop (s.ae-s.start)=_;rw[List.drop_append_of_le_length (by omega)]
theorem Wl.vV(s:Wl.S)(x:Lr.R):Wl.places (Wl.app s x)=Wl.places s++[s.stop]:=by
 show(s.cd++[Wl.bf s x]).map _=_;rw[List.map_append];rfl
set_option maxHeartbeats 6400000 in
set_option maxRecDepth 20000 in
theorem yf{U V:Nat->Prop}{w:World}{B L:Nat}{d:Dk.aq}{s:Wl.S}(x:Lr.R)(o n u c t:Value)(h:ij U V w B L d s)(hr:bA w x o n u c t)(hf:Lr.xm x)(hs:s.stop<=1000000000000):
 Calls Tryz.prog 29 #[.pointer (some ⟨L,0,none⟩),cz x o n u c t] w fun e w'=>
  e=.returned (.tuple #[.int .u64 ((Wl.dA s x).2.1:Nat),.int .i64 ((Wl.dA s x).2.2:Nat)])/\∃V',ij U V' w' B L d (Wl.dA s x).1/\Touch V w w'/\br V V' w:=by
 have bF:=Lib.hid h;obtain⟨m1,m2,pl,wa,hm,rfl,hp,rfl,bp,said,ba,hd⟩:=h;obtain⟨p,cap,rfl⟩:=ot hm.D9;obtain⟨W,hW⟩:∃W,W=w.alloc (aD x o n u c t):=⟨_,rfl⟩
 have hb:=aj w (aD x o n u c t);have m:=dj w x o n u c t;rw[<-hW]at hb m;obtain⟨Q,hQ⟩:∃Q,Q=w.heap.size:=⟨_,rfl⟩
 rw[<-hQ]at m;have HQ:=Lib.hid hQ;have HB:=Lib.hid hb;have ar:=Lib.hid (hm.below hb);have bC:=Lib.hid hr;have aO:=Lib.hid m;have HF:=Lib.hid hf;have bZ:Hid (Lr.Ok x):=hr.ok;have HS:=Lib.hid hs;have bX:=Lib.hid ba;have HD:=Lib.hid hd;have HP:=Lib.hid hp;have bM:=Lib.hid bp;have aC:Hid (∀i,my L pl (.slice p (Wl.waits s).length cap) i->¬i=Q):=fun i f e=>by
  have:=hm.lt i f;omega
 have aF:Hid (L≠Q):=aC.out L (Or.inl rfl);have he:=hm.end_;have av:Hid ((Wl.kn s).ae+(Wl.waits s).length=s.stop):=he;have b6:Hid ((Wl.kn s).ae+(Wl.waits s).length<18446744073709551616):=by show _<_;rw[av.out];omega
 have aN:Hid (s.stop<18446744073709551616):=by show _<_;omega
 have aR:Hid (s.ai<4294967296):=hm.ex.ep;have b1:Hid ((Wl.kn s).ae+(Wl.waits s).length<=((Wl.kn s).start/52+2*s.count)*52):=by show _<=_;rw[av.out];exact hm.ex.room
 have bB:Hid (s.stop<=(s.start/52+2*s.count)*52):=hm.ex.room;have b3:Hid ((Wl.kn s).start<=1000000000000000):=by have G:=hm.ex.aQ.low;have h2:=hm.ex.aQ.high;show s.start<=_;omega
 have bK:Hid (s.count<=8192):=hm.ex.high;have b2:Hid ((((Wl.kn s).start/52+2*s.count)*52-((Wl.kn s).ae+(Wl.waits s).length):Nat)=(s.start/52+2*s.count)*52-s.stop):=by show _=_;rw[av.out];rfl
 have bb:=np ar.out.log;clear hb m hm hr hf hs ba hd hp bp he;unfold aD at hW;go_enter Tryz.func29,Tryz.ntmps29;go_upto_region 1 with(fail)
 rw[<-hW,<-hQ];clear hW hQ;go_upto_region 4 with(go_at_call 55;refine bb.mono ?_;rintro e w'⟨rfl,rfl⟩)
 clear bb;refine Ord.walk (CJ L Q s.stop s.ai) (fun D _ w'=>dR W Q #[.int .i64 x.kind,.int .u64 (x.bj:Int),.int .u32 (x.ai:Int),.int .u64 (x.bs:Int),.int .u32 (x.aA:Int),.int .u16 (x.off:Int),o,n,u,.int .u64 (x.prev:Int),.int .u64 (x.next:Int),.bool x.jE,.int .u64 (x.bf:Int),c,t] 78 [(8,1,.int .u64 (s.stop:Int)),(10,2,.int .u32 (s.ai:Int))] D w') (fun _ _=>True)
  (by kernel_rfl) (by kernel_rfl) ?fr ?hfr (fun _ _ _ _ _ h=>h) (fun xs=>dR.first aO.out) ?he ?hend
 case hfr=>
  intro xs;simp only[Ord.fill,Act.put,List.setIfInBounds_toArray,List.set_cons_zero,List.set_cons_succ];rfl
 case he=>
  iterate 11 (refine Ord.aa (fun D xs w2 hD hC hP hR l K k=>?_) ?_;rotate_left)
  rotate_left
  ·clear l;go_simp;exact k _ _ ⟨_,rfl,trivial,hR.skip rfl,rfl⟩
  ·have q0:=Ord.ab _ l 0 (by decide);simp only[CJ]at q0;simp only[q0]at k;clear l;have hl:=dR.fF hR ar.out.log aF.out;have hc:=iP (w:=w2) hl b6.out;rw[av.out]at hc;go_simp;refine hc.mono ?_;rintro e w'⟨rfl,q,rfl⟩;exact k _ _ ⟨_,rfl,trivial,dR.go hR 1 rfl q,rfl⟩
  ·clear l;go_simp;exact k _ _ ⟨_,rfl,trivial,hR.skip rfl,rfl⟩
  ·have q2:=Ord.ab _ l 2 (by decide);simp only[CJ]at q2;simp only[q2]at k;clear l;go_simp;exact k _ _ ⟨_,rfl,trivial,hR.skip rfl,rfl⟩
  ·have q3:=Ord.ab _ l 3 (by decide);simp only[CJ]at q3;simp only[q3]at k;clear l;go_simp;exact k _ _ ⟨_,rfl,trivial,hR.skip rfl,rfl⟩
  ·have q4:=Ord.ab _ l 4 (by decide);simp only[CJ]at q4;simp only[q4]at k;clear l;go_simp;exact k _ _ ⟨_,rfl,trivial,hR.skip rfl,rfl⟩
  ·have q5:=Ord.ab _ l 5 (by decide);simp only[CJ]at q5;simp only[q5]at k;clear l;have hl:=dR.fF hR ar.out.log aF.out;have cc:=ah hl 3 (v:=.int .u32 (s.ai:Int)) rfl;go_simp;exact k _ _ ⟨_,rfl,trivial,hR.skip rfl,rfl⟩
  ·clear l;go_simp;exact k _ _ ⟨_,rfl,trivial,hR.skip rfl,rfl⟩
  ·have q7:=Ord.ab _ l 7 (by decide);simp only[CJ]at q7;have q1:=Ord.ab _ l 1 (by decide);simp only[CJ]at q1;simp only[q7,q1]at k;clear l;obtain⟨uu,cu⟩:=hR.there 1 (show 1<15 by decide);have ff:=hR.free 1;go_simp;exact k _ _ ⟨undef,rfl,trivial,hR.put 8 1 _ (by rfl) (by simp) hD,trivial⟩
  ·clear l;go_simp;exact k _ _ ⟨_,rfl,trivial,hR.skip rfl,rfl⟩
  ·have q9:=Ord.ab _ l 9 (by decide);simp only[CJ]at q9;have q6:=Ord.ab _ l 6 (by decide);simp only[CJ]at q6;simp only[q9,q6]at k;clear l;obtain⟨uu,cu⟩:=hR.there 2 (show 2<15 by decide);have ff:=hR.free 2;go_simp;exact k _ _ ⟨undef,rfl,trivial,hR.put 10 2 _ (by rfl) (by simp) hD,trivial⟩
  exact Ord.az
 case hend=>
  intro D xs Z hR a;have r0:=(a 0 (by decide)).2;have r1:=(a 1 (by decide)).2;have r2:=(a 2 (by decide)).2;have r3:=(a 3 (by decide)).2;have r4:=(a 4 (by decide)).2;have r5:=(a 5 (by decide)).2;have r6:=(a 6 (by decide)).2;have r7:=(a 7 (by decide)).2;have r9:=(a 9 (by decide)).2;simp only[CJ]at r0 r1 r2 r3 r4 r5 r6 r7 r9;have m:=hR.row;rw[kB _ (by intro s hs;simp only[List.mem_cons,List.not_mem_nil,or_false]at hs;rcases hs with rfl|rfl;exact(a 8 (by decide)).1;exact(a 10 (by decide)).1)]at m;simp only[Lay,if_true,List.setIfInBounds_toArray,List.set_cons_zero,List.set_cons_succ]at m;have bn:=hR.grown;simp only[r0,r1,r2,r3,r4,r5,r6,r7,r9];clear hR a r0 r1 r2 r3 r4 r5 r6 r7 r9;have aV:Touch (·=Q) W Z:=.fM bn rfl;have aZ:Below w.heap.size w Z:=HB.out.trans (aV.below (fun i f=>by rw[f,HQ.out];exact Nat.le_refl _) HB.out.size);have bl:=ar.out.bQ aV (fun i f=>aC.out i f);have H:=bC.out.below aZ;have E:=Lib.hid m;have aG:=Lib.hid aZ;have aP:=Lib.hid bl;clear bn aV aZ bl m;have C:Calls Tryz.prog 56 #[.agg #[.int .i64 x.kind,.int .u64 (s.stop:Int),.int .u32 (s.ai:Int),.int .u64 (x.bs:Int),.int .u32 (x.aA:Int),.int .u16 (x.off:Int),o,n,u,.int .u64 (x.prev:Int),.int .u64 (x.next:Int),.bool x.jE,.int .u64 (x.bf:Int),c,t]] Z fun e w'=>∃v,e=.returned (.tuple #[v,.int .i64 ((Lr.ru (Lr.oe (Wl.bf s x)) 0 2:Nat):Int)])/\Own Z.heap.size w' v (Lr.ru (Lr.oe (Wl.bf s x)) (Lr.form (Wl.bf s x)) [])/\Below Z.heap.size Z w':=
   lQ (Wl.bf s x) o n u c t Z ⟨H.old,H.new,H.bD,H.dm,H.bR,Wl.tw H.ok aN.out aR.out⟩ (show Lr.xm (Wl.bf s x)from⟨HF.out.1,HF.out.2,HF.out.3,HF.out.4,HF.out.5⟩)
  have aJ:=Lib.hid C;clear C H;go_upto_region 5 with(fail)
  go_step;refine aU rfl (.tmp 3) rfl Q rfl _ E.out rfl ?_;by_cases hM:Lr.oe (Wl.bf s x)
  case neg=>
   have C:=aJ.out;rw[Lr.dN hM,Lr.dN hM,show((2:Nat):Int)=2 from rfl]at C;have N:=Lib.hid C;have F:Hid (Wl.dA s x=(s,0,2)):=by show _=_;unfold Wl.dA;exact Lr.dN hM _ _
   clear C aJ hM;go_wp2_with fail
   refine N.out.mono ?_;rintro e w3⟨v,rfl,hO,J⟩;have ax:=Lib.hid (aG.out.trans (J.mono aG.out.size));clear hO J;go_wp2_with fail
   go_ret2
   exact⟨by rw[F.out];rfl,_,by rw[F.out];exact dS bF.out (T:=fun _=>False) (.aE ax.out) (fun _ _ h=>h),.aE ax.out,fun i f=>Or.inl f⟩
  case pos=>
   have C:=aJ.out;rw[Lr.ed hM,Lr.ed hM,show((0:Nat):Int)=0 from rfl]at C;have N:=Lib.hid C;have HM:=Lib.hid hM;clear C aJ hM;go_wp2_with fail
   refine N.out.mono ?_;rintro e w3⟨v,rfl,hO,J⟩;have ax:=Lib.hid (aG.out.trans (J.mono aG.out.size));have ao:=Lib.hid (aP.out.below J);have ak:=Lib.hid ((J.block _ (lt_of_block E.out)).trans E.out);have HV:=Lib.hid hO;obtain⟨pv,cv,rfl⟩:=hO.bz.slice;have aY:=vt ao.out.log b1.out b3.out bK.out;rw[b2.out]at aY;have a6:=Lib.hid aY;obtain⟨sz,aW⟩:∃z,z=(Lr.form (Wl.bf s x)).length:=⟨_,rfl⟩
   rw[<-aW];have aB:=Lib.hid aW;clear hO J N aY aW;by_cases A:(sz:Int)<=Wl.left s
   case neg=>
    have bP:((((s.start/52+2*s.count)*52-s.stop:Nat):Int)<(sz:Int)):=by
     have G:=bB.out;unfold Wl.left at A;omega
    have F:Hid (Wl.dA s x=(s,0,5)):=by
     refine Wl.nL HM.out ?_;unfold Wl.size;rw[<-aB.out];exact A
    generalize((s.start/52+2*s.count)*52-s.stop)=lf at*
    clear A;go_wp2_with fail
    refine a6.out.mono ?_;rintro e w4⟨rfl,q,rfl⟩;have aw:=Lib.hid (ax.out.trans (below_drewN _ w3 q));go_wp2_with fail
    go_ret2
    exact⟨by rw[F.out];rfl,_,by rw[F.out];exact dS bF.out (T:=fun _=>False) (.aE aw.out) (fun _ _ h=>h),.aE aw.out,fun i f=>Or.inl f⟩
   case pos=>
    have bP:¬((((s.start/52+2*s.count)*52-s.stop:Nat):Int)<(sz:Int)):=by
     have G:=bB.out;unfold Wl.left at A;omega
    have I:(Wl.size (Wl.bf s x):Int)<=Wl.left s:=by
     unfold Wl.size;rw[<-aB.out];exact A
    have F:Hid (Wl.dA s x=(Wl.app s x,s.stop,0)):=Wl.nM HM.out I;have b5:=Lib.hid I;have b7:=Lib.hid A;generalize((s.start/52+2*s.count)*52-s.stop)=lf at*
    clear A I;go_wp2_with fail
    refine a6.out.mono ?_;rintro e w4⟨rfl,q,rfl⟩;have aw:=Lib.hid (ax.out.trans (below_drewN _ w3 q));have b:Hid (mz (w3.drewN q) L B s pl (.slice p (Wl.waits s).length cap)):=ao.out.below (below_drewN _ w3 q);have bw:=Lib.hid (HV.out.below (below_drewN _ w3 q));have ag:Hid ((w3.drewN q).heap[Q]?=_):=ak.out;generalize w3.drewN q=w4 at*
    have bO:=b.out.log.cell 8 (v:=.slice p (Wl.waits s).length cap) rfl;clear a6;go_upto_region 10 with(fail)
    iterate 19 go_step
    have aS:=bw.out.bz;rw[<-aB.out]at aS;have bU:Hid ((Wl.waits s).length+sz<=2000000):=by
     have G:s.ae+(Wl.waits s).length=s.stop:=av.out;have h2:s.start/52*52<=s.start:=Nat.div_mul_le_self _ _;have y:=b.out.ex.aQ.low;have h4:=bK.out;have h5:=b7.out;unfold Wl.left at h5;show _<=_;omega
    refine wpList_plain rfl fun K k=>rP (.tmp 40) (.tmp 41) rfl 0 (.slice p (Wl.waits s).length cap) (Wl.waits s) rfl b.out.D9 (.slice pv sz cv) (Lr.form (Wl.bf s x)) rfl aS (by rw[<-aB.out];have:=bU.out;omega) (Nat.zero_le _) fun v5 w5 X bT bo M=>k _ _ ?_;clear k aS bO;have O:Touch (fun i=>(Value.slice p (Wl.waits s).length cap).ownBlock=some i) w4 w5:=Touch.E7 bo fun g hg=>hg;rw[<-Wl.yl b.out.ex.aQ]at X;obtain⟨p5,c5,rfl⟩:=X.bz.slice;obtain⟨n5,aM⟩:∃n,n=(Wl.waits (Wl.app s x)).length:=⟨_,rfl⟩
    rw[<-aM]at X M⊢;obtain⟨v5,ad⟩:∃v,v=Value.slice p5 n5 c5:=⟨_,rfl⟩
    rw[<-ad]at X M;have ay:=b.out.log.al O b.out.GN;have bd:=b.out.GK.al O fun i f=>b.out.apart i f;have bc:=O.row ag.out (fun h=>aC.out Q (Or.inr (Or.inr h)) rfl);have aX:v5.ownBlock=(Value.slice p (Wl.waits s).length cap).ownBlock\/∃i,v5.ownBlock=some i/\w4.heap.size<=i:=M.imp id fun h=>⟨_,h,Nat.le_refl _⟩
    have bt:Touch (my L pl (.slice p (Wl.waits s).length cap)) w w5:=(Touch.aE aw.out).trans (O.mono fun i _ f=>Or.inr (Or.inr f));have f8:=aI ay 8;have g8:=aH.cell ay 8 (v:=.slice p (Wl.waits s).length cap) rfl;have s8:aH (w5.setCell ⟨L,8,none⟩ v5) L (Wl.kn s) B s.at_ s.count pl v5 false:=aT (i:=8) ay _;have t8:Touch (fun i=>i=L) w5 (w5.setCell ⟨L,8,none⟩ v5):=.set L 8 _ rfl;have an:Hid (v5.ownBlock≠some L):=fun h=>by
     rcases aX with G|⟨i,G,h2⟩
     ·exact b.out.GN (G▸h)
     ·rw[h]at G;have y:=b.out.log.lt;have:L=i:=Option.some.inj G;omega
    have bG:=Lib.hid (X.bQ t8 fun i f e=>an.out (e▸f));have bY:=Lib.hid (bd.al t8 fun i f e=>b.out.Gb (e▸f));have bE:=Lib.hid (t8.row bc (fun h=>aF.out h.symm));have bW:=Lib.hid (bt.trans (t8.mono fun i _ f=>Or.inl f));have bI:=Lib.hid aX;have b4:=Lib.hid s8;have bV:=Lib.hid aw.out.size;have a7:=Lib.hid b.out.ex;have a2:=Lib.hid b.out.Gb;have bN:=Lib.hid b.out.apart;have bJ:=Lib.hid b.out.lt;have bu:Hid (w4.heap.size<=(w5.setCell ⟨L,8,none⟩ v5).heap.size):=Nat.le_trans O.size t8.size;subst ad;clear aM;go_upto_region 11 with(fail)
    clear f8 g8 s8 t8 ay bd bc bt X bT bo M aX O b ag bw HV ao ak aP ar bC aO E;generalize w5.setCell ⟨L,8,none⟩ (.slice p5 n5 c5)=W8 at*
    have bH:Hid (¬(Q=L\/pl.ownBlock=some Q)):=fun h=>h.elim (fun h=>aF.out h.symm) fun h=>aC.out Q (Or.inr (Or.inl h)) rfl;have a1:Hid (∀i,(i=L\/pl.ownBlock=some i)->i<W8.heap.size):=fun i f=>by
     have G:=bJ.out i (f.elim Or.inl fun h=>Or.inr (Or.inl h));have h2:=bu.out;omega
    refine Ord.walk (nT L Q s.stop W8.heap.size pl) (fun D xs w'=>jj W8 L (Wl.kn s) B s.at_ s.count pl (.slice p5 n5 c5) (Wl.places s) s.stop D xs w') (Touch (fun i=>i=L\/pl.ownBlock=some i))
     (by kernel_rfl) (by kernel_rfl) ?fr2 ?hfr2 (fun i v w w' hb h=>qW a1.out i v w w' hb h) (fun xs=>jj.first bY.out b4.out) ?he2 ?hend2
    case hfr2=>
     intro xs;simp only[Ord.fill,Act.put,List.setIfInBounds_toArray,List.set_cons_zero,List.set_cons_succ];rfl
    case he2=>
     iterate 12 (refine Ord.aa (fun D xs w2 hD hC hP hR l K k=>?_) ?_;rotate_left)
     rotate_left
     ·clear l;go_simp;exact k _ _ ⟨_,rfl,Touch.refl _ _,jj.skip hR 0 (by decide) (by decide) _ (Below.refl _ _),rfl⟩
     ·clear l;go_simp;exact k _ _ ⟨_,rfl,Touch.refl _ _,jj.skip hR 1 (by decide) (by decide) _ (Below.refl _ _),rfl⟩
     ·have q1:=Ord.ab _ l 1 (by decide);simp only[nT]at q1;simp only[q1]at k;clear l;go_simp;exact k _ _ ⟨_,rfl,Touch.refl _ _,jj.skip hR 2 (by decide) (by decide) _ (Below.refl _ _),rfl⟩
     ·have q2:=Ord.ab _ l 2 (by decide);simp only[nT]at q2;simp only[q2]at k;clear l;go_simp;exact k _ _ ⟨_,rfl,Touch.refl _ _,jj.skip hR 3 (by decide) (by decide) _ (Below.refl _ _),rfl⟩
     ·have q3:=Ord.ab _ l 3 (by decide);simp only[nT]at q3;simp only[q3]at k;clear l;have h8:D 8=false:=by
       cases hx:D 8 with
       |false=>rfl
       |true=>exact absurd (Ord.aL hC 8 4 rfl hx) (by rw[hD];decide)
      have Y:D 11=false:=by
       cases hx:D 11 with
       |false=>rfl
       |true=>exact absurd (Ord.aL hC 11 8 rfl hx) (by rw[h8];decide)
      have cc:=jj.at_ hR Y;have cc:=aH.cell cc 7 (v:=pl) rfl;go_simp;exact k _ _ ⟨_,rfl,Touch.refl _ _,jj.skip hR 4 (by decide) (by decide) _ (Below.refl _ _),rfl⟩
     ·clear l;go_simp;exact k _ _ ⟨_,rfl,Touch.refl _ _,jj.skip hR 5 (by decide) (by decide) _ (Below.refl _ _),rfl⟩
     ·have q5:=Ord.ab _ l 5 (by decide);simp only[nT]at q5;simp only[q5]at k;clear l;have cc:=hR.t.row bE.out bH.out;have cc:=(au cc).2.1;go_simp;exact k _ _ ⟨_,rfl,Touch.refl _ _,jj.skip hR 6 (by decide) (by decide) _ (Below.refl _ _),rfl⟩
     ·have q6:=Ord.ab _ l 6 (by decide);simp only[nT]at q6;simp only[q6]at k;clear l;go_simp;exact k _ _ ⟨_,rfl,Touch.aE (aj _ _),jj.skip hR 7 (by decide) (by decide) _ (aj _ _),_,rfl,uf _ _ _,hR.t.size⟩
     ·have q4:=Ord.ab _ l 4 (by decide);simp only[nT]at q4;have q7:=Ord.ab _ l 7 (by decide);simp only[nT]at q7;obtain⟨gx,q7,bS,-⟩:=q7;clear l;have Y:D 11=false:=by
       cases hx:D 11 with
       |false=>rfl
       |true=>exact absurd (Ord.aL hC 11 8 rfl hx) (by rw[hD];decide)
      simp only[Region.wanted,if_true];refine lH (.tmp 49) (.tmp 52) rfl q4 (hR.q hD) s.stop gx q7 bS (Nat.le_trans (Wl.oZ a7.out) (by decide)) (Nat.zero_le _) fun v' w' hq hg P=>?_;have ht:Touch (fun i=>pl.ownBlock=some i) w2 w':=Touch.E7 hg fun g hg=>hg;exact k _ _ ⟨_,rfl,ht.mono (fun i _ f=>Or.inr f),jj.app hR hD Y a2.out hq ht P,trivial⟩
     ·have q0:=Ord.ab _ l 0 (by decide);simp only[nT]at q0;simp only[q0]at k;clear l;go_simp;exact k _ _ ⟨_,rfl,Touch.refl _ _,jj.skip hR 9 (by decide) (by decide) _ (Below.refl _ _),rfl⟩
     ·have q9:=Ord.ab _ l 9 (by decide);simp only[nT]at q9;simp only[q9]at k;clear l;go_simp;exact k _ _ ⟨_,rfl,Touch.refl _ _,jj.skip hR 10 (by decide) (by decide) _ (Below.refl _ _),rfl⟩
     ·have a8:=Ord.ab _ l 10 (by decide);simp only[nT]at a8;simp only[a8]at k;clear l;have h8:=hP {on:=8,ground:=.data} (by simp) rfl;obtain⟨p8,c8,e8⟩:=(hR.r h8).1.qu.slice;obtain⟨n8,bk⟩:∃n,n=(Wl.places s++[s.stop]).length:=⟨_,rfl⟩
      rw[<-bk]at e8;have aK:=jj.put hR h8 hD a2.out (a1.out L (Or.inl rfl)) undef;rw[e8]at aK;simp only[e8]at k⊢;clear e8 bk;have ff:=aI (hR.at_ hD) 7;have cc:=aH.cell (hR.at_ hD) 7 (v:=pl) rfl;go_simp;exact k _ _ ⟨undef,rfl,.set L 7 _ (Or.inl rfl),aK,trivial⟩
     exact Ord.az
    case hend2=>
     intro D xs Z2 hR a;have h8:=(a 8 (by decide)).1;have Y:=(a 11 (by decide)).1;obtain⟨hq,P⟩:=hR.r h8;have hl:=hR.ET Y;have ht:=hR.t;clear hR a;have m:=ht.row bE.out bH.out;have c1:=(au m).2.1;have bg:∀i,pl.ownBlock=some i->i<w4.heap.size:=fun i h=>bJ.out i (Or.inr (Or.inl h));have ad:∀i,(Value.slice p5 n5 c5).ownBlock=some i->i<W8.heap.size:=fun i h=>bG.out.Cm i h;have af:∀i,pl.ownBlock=some i->(Value.slice p5 n5 c5).ownBlock≠some i:=fun i G h2=>by
      rcases bI.out with y|⟨j,y,h4⟩
      ·exact bN.out i G (y▸h2)
      ·rw[h2]at y;have h5:=Option.some.inj y;have h6:=bg i G;omega
     have hO:=bG.out.bQ ht (fun i f h=>by
      rcases h with h|h
      ·exact an.out (h▸f)
      ·exact af i h f)
     generalize xs 8=v8 at*
     have bq:∀i,v8.ownBlock=some i->(Value.slice p5 n5 c5).ownBlock≠some i:=fun i G h2=>by
      rcases P with y|⟨j,y,h4⟩
      ·exact af i (y▸G) h2
      ·rw[G]at y;have h5:=Option.some.inj y;have h6:=ad i h2;omega
     have bh:v8.ownBlock≠some L:=fun h=>by
      rcases P with y|⟨j,y,h4⟩
      ·exact a2.out (y▸h)
      ·rw[h]at y;have h5:=Option.some.inj y;have h6:=a1.out L (Or.inl rfl);omega
     have hT:Touch (my L pl (.slice p (Wl.waits s).length cap)) w Z2:=bW.out.trans (ht.mono fun i _ f=>f.elim Or.inl fun h=>Or.inr (Or.inl h));have bm:∀i,my L v8 (.slice p5 n5 c5) i->my L pl (.slice p (Wl.waits s).length cap) i\/w.heap.size<=i:=fun i f=>by
      have G:=bV.out;have h2:=bu.out;rcases f with f|f|f
      ·exact Or.inl (Or.inl f)
      ·rcases P with y|⟨j,y,h4⟩
       ·exact Or.inl (Or.inr (Or.inl (y▸f)))
       ·rw[f]at y;have h5:=Option.some.inj y;exact Or.inr (by omega)
      ·rcases bI.out with y|⟨j,y,h4⟩
       ·exact Or.inl (Or.inr (Or.inr (y▸f)))
       ·rw[f]at y;have h5:=Option.some.inj y;exact Or.inr (by omega)
     have hM:mz Z2 L B (Wl.app s x) v8 (.slice p5 n5 c5):=⟨Wl.Fc a7.out HM.out (Wl.tw bZ.out aN.out aR.out) b5.out,hl,by rw[Wl.vV];exact hq,hO,bh,an.out,bq⟩
     have b0:=Lib.hid hM;have bx:=Lib.hid hT;have bL:=Lib.hid bm;clear hM hT bm bq bh hO af ad bg ht hl hq P h8 Y m;go_wp2_with fail
     go_ret2
     refine⟨by rw[F.out];rfl,my L v8 (.slice p5 n5 c5),?_,bx.out,bL.out⟩;rw[F.out];refine⟨m1,m2,v8,.slice p5 n5 c5,b0.out,rfl,HP.out.bQ bx.out (fun i f hv=>bM.out i f hv),rfl,fun i f hv=>?_,said,Nat.le_trans bX.out (Nat.le_add_right _ _),HD.out.app a7.out.aQ x⟩;rcases bL.out i hv with h|h
     ·exact bM.out i f h
     ·have h2:=HP.out.lt i f;omega
abbrev qE(k:Wl.Kn):Array Value:=#[.int .u64 (k.start:Int),.int .u64 (k.ae:Int),.int .u64 (k.bp:Int),.int .u32 (k.ai:Int)]
abbrev FQ(k:Wl.Kn):Value:=.agg (qE k)
def kj(L a c W:Nat)(i:Nat)(v:Value)(w:World):Prop:=
 match i with
 |0=>v=.pointer (some ⟨L,0,none⟩)
 |1=>v=.pointer (some ⟨L,0,none⟩)
 |2=>v=.pointer (some ⟨L,5,none⟩)
 |3=>v=.int .i64 (a:Int)
 |4=>v=.int .u32 (a:Int)
 |5=>Own W w v ([]++aw.le 4 a)
 |6=>v=.pointer (some ⟨L,0,none⟩)
 |7=>v=.pointer (some ⟨L,0,none⟩)
 |8=>v=.pointer (some ⟨L,6,none⟩)
 |9=>v=.int .i64 (c:Int)
 |10=>v=.int .u32 (c:Int)
 |11=>Own W w v (([]++aw.le 4 a)++aw.le 4 c)
 |12=>Own W w v (([]++aw.le 4 a)++aw.le 4 c)
 |_=>True
theorem xl(L a c W:Nat)(i:Nat)(v:Value)(w w':World)(b:Below w.heap.size w w')(h:kj L a c W i v w):kj L a c W i v w':=by
 unfold kj at*
 split at h<;>first|exact h|exact h.below b|trivial
def lF(k:Wl.Kn)(Q W:Nat)(l:List Nat)(u:Value)(i:Nat)(v:Value)(w:World):Prop:=
 match i with
 |0=>v=u
 |1=>v=.pointer (some ⟨Q,0,none⟩)
 |2=>v=.int .u64 (k.start:Int)
 |3=>Own W w v (l++aw.le 8 k.start)
 |4=>v=.pointer (some ⟨Q,1,none⟩)
 |5=>v=.int .u64 (k.ae:Int)
 |6=>Own W w v ((l++aw.le 8 k.start)++aw.le 8 k.ae)
 |7=>v=.pointer (some ⟨Q,2,none⟩)
 |8=>v=.int .u64 (k.bp:Int)
 |9=>Own W w v (((l++aw.le 8 k.start)++aw.le 8 k.ae)++aw.le 8 k.bp)
 |10=>Own W w v (((l++aw.le 8 k.start)++aw.le 8 k.ae)++aw.le 8 k.bp)
 |_=>True
theorem xk(k:Wl.Kn)(Q W:Nat)(l:List Nat)(u:Value)(i:Nat)(v:Value)(w w':World)(a:Below w.heap.size w w')(h:lF k Q W l u i v w):lF k Q W l u i v w':=by
 unfold lF at*
 split at h<;>first|exact h|exact h.below a|trivial
set_option maxHeartbeats 3200000 in
set_option maxRecDepth 20000 in
theorem oj{w:World}{L B a c:Nat}{k0:Wl.Kn}{pl wa:Value}{dn:Bool}(h:aH w L k0 B a c pl wa dn)(k:Wl.Kn)(ha:a<=65536)(hc:c<=8192):
 Calls Tryz.prog 101 #[.pointer (some ⟨L,0,none⟩),FQ k] w fun e w'=>∃u,e=.returned u/\Own w.heap.size w' u (Wl.head a c k)/\Below w.heap.size w w':=by
 obtain⟨W,hW⟩:∃W,W=w.alloc (.cells (qE k) 120):=⟨_,rfl⟩
 have I:Below w.heap.size w W:=by rw[hW];exact aj _ _
 have o:W.heap[w.heap.size]?=some (.cells (qE k) 120 (0,0)):=by rw[hW];exact heap_alloc_last _ _
 obtain⟨Q,hQ⟩:∃Q,Q=w.heap.size:=⟨_,rfl⟩
 rw[<-hQ]at o;have hl:=h.below I;have ax:Hid (L<W.heap.size):=hl.lt;have C5:=Lib.hid (hl.cell 5 (v:=.int .i64 (a:Int)) rfl);have C6:=Lib.hid (hl.cell 6 (v:=.int .i64 (c:Int)) rfl);have WA:Hid (IntKind.u32.wrap (a:Int)=(a:Int)):=IntWalk.u32_in _ (by omega);have WC:Hid (IntKind.u32.wrap (c:Int)=(c:Int)):=IntWalk.u32_in _ (by omega);have C:=Lib.hid o;have ad:=Lib.hid I;have HQ:=Lib.hid hQ;clear hl h I o ha hc;go_enter Tryz.func101,Tryz.ntmps101;go_upto_region 1 with(fail)
 rw[<-hW,<-hQ];clear hW hQ;refine Ord.walk (kj L a c W.heap.size) (fun _ _ w'=>Below W.heap.size W w') (fun a b=>Below a.heap.size a b)
  (by kernel_rfl) (by kernel_rfl) ?fra ?hfra (fun i v w w' l h=>xl _ _ _ _ i v w w' l h) (fun xs=>(Below.refl _ _).kH) ?hea ?henda
 case hfra=>
  intro xs;simp only[Ord.fill,Act.put,List.setIfInBounds_toArray,List.set_cons_zero,List.set_cons_succ];rfl
 case hea=>
  iterate 13 (refine Ord.aa (fun D xs w2 hD hC hP hR d K f=>?_) ?_;rotate_left)
  rotate_left
  ·clear d;go_simp;exact f _ _ ⟨_,rfl,Below.refl _ _,hR,rfl⟩
  ·have q0:=Ord.ab _ d 0 (by decide);simp only[kj]at q0;simp only[q0]at f;clear d;go_simp;exact f _ _ ⟨_,rfl,Below.refl _ _,hR,rfl⟩
  ·have q1:=Ord.ab _ d 1 (by decide);simp only[kj]at q1;simp only[q1]at f;clear d;go_simp;exact f _ _ ⟨_,rfl,Below.refl _ _,hR,rfl⟩
  ·have q2:=Ord.ab _ d 2 (by decide);simp only[kj]at q2;simp only[q2]at f;clear d;have cc:=hR.cell (p:=⟨L,5,none⟩) ax.out;rw[C5.out]at cc;go_simp;exact f _ _ ⟨_,rfl,Below.refl _ _,hR,rfl⟩
  ·have q3:=Ord.ab _ d 3 (by decide);simp only[kj]at q3;simp only[q3]at f;clear d;go_simp;rw[WA.out];exact f _ _ ⟨_,rfl,Below.refl _ _,hR,rfl⟩
  ·have q4:=Ord.ab _ d 4 (by decide);simp only[kj]at q4;simp only[q4]at f;clear d;go_simp;refine(de (.slice none 0 0) [] a w2 (aX w2) (by decide)).mono ?_;rintro e w'⟨u,rfl,y,l⟩;exact f _ _ ⟨_,rfl,l,hR.trans (l.mono hR.size),y.from hR.size⟩
  ·clear d;go_simp;exact f _ _ ⟨_,rfl,Below.refl _ _,hR,rfl⟩
  ·have q6:=Ord.ab _ d 6 (by decide);simp only[kj]at q6;simp only[q6]at f;clear d;go_simp;exact f _ _ ⟨_,rfl,Below.refl _ _,hR,rfl⟩
  ·have q7:=Ord.ab _ d 7 (by decide);simp only[kj]at q7;simp only[q7]at f;clear d;go_simp;exact f _ _ ⟨_,rfl,Below.refl _ _,hR,rfl⟩
  ·have q8:=Ord.ab _ d 8 (by decide);simp only[kj]at q8;simp only[q8]at f;clear d;have cc:=hR.cell (p:=⟨L,6,none⟩) ax.out;rw[C6.out]at cc;go_simp;exact f _ _ ⟨_,rfl,Below.refl _ _,hR,rfl⟩
  ·have q9:=Ord.ab _ d 9 (by decide);simp only[kj]at q9;simp only[q9]at f;clear d;go_simp;rw[WC.out];exact f _ _ ⟨_,rfl,Below.refl _ _,hR,rfl⟩
  ·have ag:=Ord.ab _ d 10 (by decide);simp only[kj]at ag;have q5:=Ord.ab _ d 5 (by decide);simp only[kj]at q5;simp only[ag]at f;clear d;go_simp;refine(de (xs 5) _ c w2 q5.bz (by rw[List.length_append,aw.ao];decide)).mono ?_;rintro e w'⟨u,rfl,y,l⟩;exact f _ _ ⟨_,rfl,l,hR.trans (l.mono hR.size),y.from hR.size⟩
  ·have af:=Ord.ab _ d 11 (by decide);simp only[kj]at af;clear d;go_simp;exact f _ _ ⟨_,rfl,Below.refl _ _,hR,af⟩
  exact Ord.az
 case henda=>
  intro D xs w9 hR j;have V:=(j 0 (by decide)).2;have U:=(j 1 (by decide)).2;have S:=(j 2 (by decide)).2;have e3:=(j 3 (by decide)).2;have R:=(j 4 (by decide)).2;have e6:=(j 6 (by decide)).2;have P:=(j 7 (by decide)).2;have O:=(j 8 (by decide)).2;have e9:=(j 9 (by decide)).2;have T:=(j 10 (by decide)).2;have m:=(j 12 (by decide)).2;simp only[kj]at V U S e3 R e6 P O e9 T m;rw[V];rw[U];rw[S];rw[e3];rw[R];rw[e6];rw[P];rw[O];rw[e9];rw[T];clear V U S e3 R e6 P O e9 T;clear j;generalize xs 5=x5 at*
  generalize xs 11=x11 at*
  generalize xs 12=E at*
  rw[List.nil_append]at m;have au:=Lib.hid m;have s:=Lib.hid hR;clear hR m;obtain⟨X,an⟩:∃X,X=w9:=⟨_,rfl⟩
  rw[<-an]at au s⊢;clear an;have n:Hid (X.heap[Q]?=some (.cells (qE k) 120 (0,0))):=(s.out.block Q (lt_of_block C.out)).trans C.out;have Y:Hid (Q<X.heap.size):=lt_of_block n.out;have D0:=Lib.hid (ah n.out 0 (v:=.int .u64 (k.start:Int)) rfl);have D1:=Lib.hid (ah n.out 1 (v:=.int .u64 (k.ae:Int)) rfl);have D2:=Lib.hid (ah n.out 2 (v:=.int .u64 (k.bp:Int)) rfl);go_upto_region 2 with(fail)
  refine Ord.AD (lF k Q X.heap.size (aw.le 4 a++aw.le 4 c) E) (fun D xs w'=>Below X.heap.size X w'/\(D 10=false->xs 10=E)) (fun a b=>Below a.heap.size a b)
   (by kernel_rfl) (by kernel_rfl) ?frb ?hfrb (fun i v w w' l h=>xk _ _ _ _ _ i v w w' l h) (fun xs hx=>⟨(Below.refl _ _).kH,fun _=>hx 10⟩) ?heb ?hendb
  case hfrb=>
   intro xs;simp only[Ord.fill,Act.put,List.setIfInBounds_toArray,List.set_cons_zero,List.set_cons_succ];rfl
  case heb=>
   iterate 11 (refine Ord.aa (fun D xs w2 hD hC hP hR d K f=>?_) ?_;rotate_left)
   rotate_left
   ·clear d;have aC:=hR.2 (by cases hx:D 10 with|false=>rfl|true=>exact absurd (Ord.aL hC 10 0 rfl hx) (by rw[hD];decide));rw[aC]at f⊢;obtain⟨hR,g⟩:=hR;go_simp;exact f _ _ ⟨_,rfl,Below.refl _ _,⟨hR,fun h=>g h⟩,rfl⟩
   ·clear d;obtain⟨hR,g⟩:=hR;go_simp;exact f _ _ ⟨_,rfl,Below.refl _ _,⟨hR,fun h=>g h⟩,rfl⟩
   ·have q1:=Ord.ab _ d 1 (by decide);simp only[lF]at q1;simp only[q1]at f;clear d;obtain⟨hR,g⟩:=hR;have cc:=hR.cell (p:=⟨Q,0,none⟩) Y.out;rw[D0.out]at cc;go_simp;exact f _ _ ⟨_,rfl,Below.refl _ _,⟨hR,fun h=>g h⟩,rfl⟩
   ·have q2:=Ord.ab _ d 2 (by decide);simp only[lF]at q2;have q0:=Ord.ab _ d 0 (by decide);simp only[lF]at q0;simp only[q2,q0]at f;clear d;obtain⟨hR,g⟩:=hR;go_simp;refine(fw E _ k.start w2 (au.out.bz.below hR) (by rw[List.length_append,aw.ao,aw.ao];decide)).mono ?_;rintro e w'⟨u,rfl,y,l⟩;exact f _ _ ⟨_,rfl,l,⟨hR.trans (l.mono hR.size),fun h=>g h⟩,y.from hR.size⟩
   ·clear d;obtain⟨hR,g⟩:=hR;go_simp;exact f _ _ ⟨_,rfl,Below.refl _ _,⟨hR,fun h=>g h⟩,rfl⟩
   ·have q4:=Ord.ab _ d 4 (by decide);simp only[lF]at q4;simp only[q4]at f;clear d;obtain⟨hR,g⟩:=hR;have cc:=hR.cell (p:=⟨Q,1,none⟩) Y.out;rw[D1.out]at cc;go_simp;exact f _ _ ⟨_,rfl,Below.refl _ _,⟨hR,fun h=>g h⟩,rfl⟩
   ·have q5:=Ord.ab _ d 5 (by decide);simp only[lF]at q5;have q3:=Ord.ab _ d 3 (by decide);simp only[lF]at q3;simp only[q5]at f;clear d;obtain⟨hR,g⟩:=hR;go_simp;refine(fw (xs 3) _ k.ae w2 q3.bz (by simp only[List.length_append,aw.ao];decide)).mono ?_;rintro e w'⟨u,rfl,y,l⟩;exact f _ _ ⟨_,rfl,l,⟨hR.trans (l.mono hR.size),fun h=>g h⟩,y.from hR.size⟩
   ·clear d;obtain⟨hR,g⟩:=hR;go_simp;exact f _ _ ⟨_,rfl,Below.refl _ _,⟨hR,fun h=>g h⟩,rfl⟩
   ·have q7:=Ord.ab _ d 7 (by decide);simp only[lF]at q7;simp only[q7]at f;clear d;obtain⟨hR,g⟩:=hR;have cc:=hR.cell (p:=⟨Q,2,none⟩) Y.out;rw[D2.out]at cc;go_simp;exact f _ _ ⟨_,rfl,Below.refl _ _,⟨hR,fun h=>g h⟩,rfl⟩
   ·have q8:=Ord.ab _ d 8 (by decide);simp only[lF]at q8;have q6:=Ord.ab _ d 6 (by decide);simp only[lF]at q6;simp only[q8]at f;clear d;obtain⟨hR,g⟩:=hR;go_simp;refine(fw (xs 6) _ k.bp w2 q6.bz (by simp only[List.length_append,aw.ao];decide)).mono ?_;rintro e w'⟨u,rfl,y,l⟩;exact f _ _ ⟨_,rfl,l,⟨hR.trans (l.mono hR.size),fun h=>g h⟩,y.from hR.size⟩
   ·have q9:=Ord.ab _ d 9 (by decide);simp only[lF]at q9;clear d;obtain⟨hR,g⟩:=hR;go_simp;exact f _ _ ⟨_,rfl,Below.refl _ _,⟨hR,fun h=>Bool.noConfusion (show true=false from h)⟩,q9⟩
   exact Ord.az
  case hendb=>
   intro D xs w9 hR j;obtain⟨hR,-⟩:=hR;have V:=(j 0 (by decide)).2;have U:=(j 1 (by decide)).2;have S:=(j 2 (by decide)).2;have R:=(j 4 (by decide)).2;have e5:=(j 5 (by decide)).2;have P:=(j 7 (by decide)).2;have O:=(j 8 (by decide)).2;have q:=(j 10 (by decide)).2;simp only[lF]at V U S R e5 P O q;rw[V];rw[U];rw[S];rw[R];rw[e5];rw[P];rw[O];clear V U S R e5 P O;clear j;generalize xs 3=x3 at*
   generalize xs 6=x6 at*
   generalize xs 9=x9 at*
   generalize xs 10=x10 at*
   have aM:=Lib.hid q;have Z:=Lib.hid hR;have aF:Hid (w9.heap[Q]?=some (.cells (qE k) 120 (0,0))):=(Z.out.block Q (lt_of_block n.out)).trans n.out;have d3:=ah aF.out 3 (v:=.int .u32 (k.ai:Int)) rfl;clear hR q;go_wp2_with fail
   refine(de x10 _ k.ai w9 aM.out.bz (by simp only[List.length_append,aw.ao];decide)).mono ?_;rintro e w3⟨u3,rfl,N,al⟩;have HB:Hid (Wl.jc a c k=(((aw.le 4 a++aw.le 4 c)++aw.le 8 k.start++aw.le 8 k.ae)++aw.le 8 k.bp)++aw.le 4 k.ai):=rfl;rw[<-HB.out]at N;have ar:=Lib.hid N;have aA:=Lib.hid (Z.out.trans (al.mono Z.out.size));have ay:=Lib.hid (Wl.mi a c k);clear N al d3 HB;go_wp2_with fail
   refine(lK u3 _ w3 ar.out.bz).mono ?_;rintro e w4⟨rfl,H⟩;have aK:=Lib.hid (ar.out.below H);have r:=Lib.hid (aA.out.trans (H.mono aA.out.size));clear H;go_wp2_with fail
   refine(de (.slice none 0 0) [] (dK.more 0 (Wl.jc a c k)) w4 (aX w4) (by decide)).mono ?_;rintro e w5⟨u5,rfl,M,t⟩;rw[List.nil_append]at M;have aJ:=Lib.hid M;have aD:=Lib.hid (aK.out.below t);have aq:Hid (w4.heap.size<=w5.heap.size):=t.size;have aP:=Lib.hid t;clear M t;dsimp only;iterate 4 go_step
   refine aB rfl (.tmp 34) (.tmp 35) rfl w4.heap.size u5 _ rfl aJ.out u3 _ rfl aD.out.bz (by rw[aw.ao,ay.out];decide) aq.out ?_;intro u6 w6 x G _;have F:(aw.le 4 (dK.more 0 (Wl.jc a c k))++Wl.jc a c k).length=40:=by rw[List.length_append,aw.ao,ay.out]
   obtain⟨p6,c6,rfl,-,-,-⟩:=x.bz.form;rw[F]at x⊢;have aI:=Lib.hid x;have av:=Lib.hid F;have aO:=Lib.hid ((r.out.trans (aP.out.mono r.out.size)).trans (G.mono r.out.size));have aE:Hid (w4.heap.size<=w6.heap.size):=Nat.le_trans aq.out G.size;clear x G F;have aQ:IntKind.i64.wrap (128-40)=((88:Nat):Int):=by rw[IntWalk.i64_in _ (by decide)];rfl
   obtain⟨b7,w7,z,J,ak⟩:=mH aI.out (by rw[av.out];decide) 88 (by rw[av.out];decide) aE.out 57;rw[show(aw.le 4 (dK.more 0 (Wl.jc a c k))++Wl.jc a c k)++List.replicate 88 0=Wl.head a c k from rfl]at J;have aG:=Lib.hid J;have aN:=Lib.hid (aO.out.trans (ak.mono r.out.size));have A:=Lib.hid z;clear J ak z;go_upto_region 5 with(fail)
   iterate 13 go_step
   refine Lib.wpList_append_run _ rfl (.tmp 37) (.tmp 40) _ _ rfl _ _ rfl rfl _ _ A.out ?_;clear A;go_wp2_with fail
   go_ret;refine⟨_,rfl,aG.out.from ?_,ad.out.trans ((s.out.trans (aN.out.mono s.out.size)).mono ad.out.size)⟩;exact Nat.le_trans (Nat.le_trans ad.out.size s.out.size) r.out.size
def gL(x:Wl.Hf):Array Value:=(.int .u32 (x.round:Int):: .int .u32 (x.ai:Int):: .int .u32 (x.fill:Int)::af x.log).toArray
abbrev Af(x:Wl.Hf):Value:=.agg (gL x)
def iK(w:World)(g:Nat)(x:Wl.Hf):Prop:=w.heap[g]?=some (.cells (gL x) 180 (0,0))
abbrev uZ:Array Value:=#[.int .u32 0,.int .u32 0,.int .u32 0,.int .u8 0,.int .u8 0,.int .u8 0,.int .u8 0,.int .u8 0,.int .u8 0,.int .u8 0,.int .u8 0,.int .u8 0,.int .u8 0,.int .u8 0,.int .u8 0,.int .u8 0,.int .u8 0,.int .u8 0,.int .u8 0,.int .u8 0,.int .u8 0,.int .u8 0,.int .u8 0,.int .u8 0,.int .u8 0,.int .u8 0,.int .u8 0,.int .u8 0,.int .u8 0,.int .u8 0,.int .u8 0,.int .u8 0,.int .u8 0,.int .u8 0,.int .u8 0,.int .u8 0,.int .u8 0,.int .u8 0,.int .u8 0,.int .u8 0,.int .u8 0,.int .u8 0,.int .u8 0,.int .u8 0,.int .u8 0,.int .u8 0,.int .u8 0,.int .u8 0,.int .u8 0,.int .u8 0,.int .u8 0,.int .u8 0,.int .u8 0,.int .u8 0,.int .u8 0]
abbrev GA(r e f:Nat):Array Value:=#[.int .u32 (r:Int),.int .u32 (e:Int),.int .u32 (f:Int),.int .u8 0,.int .u8 0,.int .u8 0,.int .u8 0,.int .u8 0,.int .u8 0,.int .u8 0,.int .u8 0,.int .u8 0,.int .u8 0,.int .u8 0,.int .u8 0,.int .u8 0,.int .u8 0,.int .u8 0,.int .u8 0,.int .u8 0,.int .u8 0,.int .u8 0,.int .u8 0,.int .u8 0,.int .u8 0,.int .u8 0,.int .u8 0,.int .u8 0,.int .u8 0,.int .u8 0,.int .u8 0,.int .u8 0,.int .u8 0,.int .u8 0,.int .u8 0,.int .u8 0,.int .u8 0,.int .u8 0,.int .u8 0,.int .u8 0,.int .u8 0,.int .u8 0,.int .u8 0,.int .u8 0,.int .u8 0,.int .u8 0,.int .u8 0,.int .u8 0,.int .u8 0,.int .u8 0,.int .u8 0,.int .u8 0,.int .u8 0,.int .u8 0,.int .u8 0]
theorem E4:uZ=gL ⟨0,0,0,List.replicate 52 0⟩:=by kernel_rfl
theorem BS(r e f:Nat):GA r e f=gL ⟨r,e,f,List.replicate 52 0⟩:=by kernel_rfl
theorem jb(x:Wl.Hf):(gL x).size=3+x.log.length:=by
 unfold gL;simp only[List.size_toArray,List.length_cons,aF];omega
theorem fC{x:Wl.Hf}(h:x.log.length=52):(Tryz.prog.info? 180).map (·.size)=some (gL x).size:=by
 rw[jb,h];kernel_rfl
theorem j5(x:Wl.Hf):(gL x).all (·.oneCell')=true:=by
 unfold gL;rw[Array.all_eq_true];intro i b;simp only[List.size_toArray,List.length_cons]at b;obtain rfl|rfl|rfl|⟨j,rfl⟩:i=0\/i=1\/i=2\/∃j,i=j+3:=by
  by_cases h:i<3
  ·omega
  ·exact Or.inr (Or.inr (Or.inr ⟨i-3,by omega⟩))
 ·rfl
 ·rfl
 ·rfl
 ·simp only[List.getElem_toArray,List.getElem_cons_succ];have hm:(af x.log)[j]∈af x.log:=List.getElem_mem _;obtain⟨y,-,a⟩:=List.mem_map.1 hm;rw[<-a];rfl
theorem iK.cell{w:World}{g:Nat}{x:Wl.Hf}(h:iK w g x){i:Nat}(a:i<x.log.length):w.cell? ⟨g,3+i,none⟩=some (.int .u8 (x.log.getD i 0:Nat)):=by
 rw[cell_of_row w g _ _ _ _ h];unfold gL;rw[show 3+i=i+1+1+1 by omega];simp[af,a,List.getD_eq_getElem?_getD]
theorem iK.c0{w:World}{g:Nat}{x:Wl.Hf}(h:iK w g x):w.cell? ⟨g,0,none⟩=some (.int .u32 (x.round:Int)):=by rw[cell_of_row w g _ _ _ _ h];rfl
theorem iK.c1{w:World}{g:Nat}{x:Wl.Hf}(h:iK w g x):w.cell? ⟨g,1,none⟩=some (.int .u32 (x.ai:Int)):=by rw[cell_of_row w g _ _ _ _ h];rfl
theorem iK.c2{w:World}{g:Nat}{x:Wl.Hf}(h:iK w g x):w.cell? ⟨g,2,none⟩=some (.int .u32 (x.fill:Int)):=by rw[cell_of_row w g _ _ _ _ h];rfl
theorem iK.bz{w:World}{g:Nat}{x:Wl.Hf}(h:iK w g x)(hl:x.log.length=52)(hs:∀b∈x.log,b<256):aV w (.slice (some ⟨g,3,none⟩) 52 52) x.log:=
 ⟨⟨some ⟨g,3,none⟩,52,by rw[hl],⟨by rw[hl];exact Nat.le_refl _,by decide⟩,(fun h=>by cases h),fun _=>⟨g,3,rfl,fun i a=>h.cell a⟩⟩,hs,by rw[hl];decide⟩
theorem lq:(Tryz.prog.info? 5).map (·.size)=some 1:=by kernel_rfl
theorem na{w:World}{g o dl dc:Nat}{x:Wl.Hf}{v:Value}{l:List Nat}(f:iK w g x)(k:x.log.length=52)(A:o+dl<=52)(z:aV w v l):
 ∃w',(∀ty,(Builtin.copy_ #[57,57] ty #[.slice (some ⟨g,3+o,none⟩) dl dc,v]).run Tryz.prog w=.ok (.int .i64 ((min l.length dl:Nat):Int)) w')/\
  iK w' g {x with log:=x.log.take o++l.take (min l.length dl)++x.log.drop (o+min l.length dl)}/\Touch (·=g) w w':=by
 obtain⟨n,d⟩:∃n,min l.length dl=n:=⟨_,rfl⟩
 rw[d];obtain⟨p,cap,rfl,-,q,hp⟩:=z.form;have a:(af (l.take n)).length=n:=by rw[aF,List.length_take];omega
 by_cases h0:n=0
 ·subst h0;refine⟨w,fun ty=>?_,?_,.refl _ _⟩
  ·rw[run_copy_none w _ _ ty 5 _ _ _ _ _ _ Tryz.underlying57 lq d];rfl
  ·rw[List.take_zero,List.append_nil,Nat.add_zero,List.take_append_drop];exact f
 ·obtain⟨b,off,rfl,t⟩:=hp (by omega);have m:=fun ty=>run_copy_row Tryz.prog w 57 57 ty 5 g (3+o) dl dc ⟨b,off,none⟩ l.length cap (gL x) _ (af (l.take n)) Tryz.underlying57 lq f (by rw[a];exact d.symm) (fun j u hu=>by
   have c:(⟨b,off,none⟩:Addr).add j=⟨b,off+j,none⟩:=by unfold Addr.add;split<;>simp_all
   have r:j<n:=by
    rcases Nat.lt_or_ge j n with h|h
    ·exact h
    ·rw[List.getElem?_eq_none (by omega)]at hu;cases hu
   rw[c,t j (by omega),<-hu];simp[af,List.getD_eq_getElem?_getD,show j<l.length by omega,r]) (by rw[a,jb,k];omega) (fun u hu=>by
   obtain⟨y,-,rfl⟩:=List.mem_map.1 hu;rfl)
  have e:(gL x).toList.take (3+o)++af (l.take n)++(gL x).toList.drop (3+o+n)=(.int .u32 (x.round:Int):: .int .u32 (x.ai:Int):: .int .u32 (x.fill:Int)::af (x.log.take o++l.take n++x.log.drop (o+n))):=by
   unfold gL;rw[show 3+o=o+1+1+1 by omega,show o+1+1+1+n=o+n+1+1+1 by omega];simp[af,List.map_take,List.map_drop]
  refine⟨_,fun ty=>?_,setRow_heap _ _ _ (gL {x with log:=x.log.take o++l.take n++x.log.drop (o+n)}) _ _ f,⟨rfl,rfl,rfl,by simp,fun i _ s=>setRow_other w g i _ s⟩⟩;rw[m ty,a,e];rfl
theorem AZ{b:List Nat}{i:Nat}(h:i+4<=b.length):aw.rdNum 4 (b.drop i) 0=(aw.num ((b.drop i).take 4),b.drop (i+4),0):=by
 unfold aw.rdNum;rw[if_neg (by decide),if_neg (by rw[List.length_drop];omega),List.drop_drop]
theorem BQ{b:List Nat}(hl:b.length=64){a ne c:Nat}(f:aw.num (((b.take 12).drop 0).take 4)=a)(e:aw.num (((b.take 12).drop (0+4)).take 4)=ne)(d:aw.num (((b.take 12).drop (0+4+4)).take 4)=c):
 Wl.dQ b=⟨a,ne,c,(List.replicate 52 0).take 0++(b.drop 12).take 52++(List.replicate 52 0).drop (0+52)⟩:=by
 unfold Wl.dQ;rw[<-f,<-e,<-d];have j:((b.take 12).drop 0).take 4=b.take 4:=by rw[List.drop_zero,List.take_take];rfl
 have i:((b.take 12).drop (0+4)).take 4=(b.drop 4).take 4:=by rw[List.drop_take,List.take_take];rfl
 have h:((b.take 12).drop (0+4+4)).take 4=(b.drop 8).take 4:=by rw[List.drop_take,List.take_take];rfl
 have g:(List.replicate 52 0).take 0++(b.drop 12).take 52++(List.replicate 52 0).drop (0+52)=b.drop 12:=by
  rw[List.take_zero,List.nil_append,List.drop_of_length_le (l:=List.replicate 52 0) (by simp),List.append_nil,List.take_of_length_le (by rw[List.length_drop];omega)]
 rw[j,i,h,g]
def Ei(g off cap Q:Nat)(i:Nat)(v:Value)(_:World):Prop:=
 match i with
 |0=>v=.pointer (some ⟨Q,3,none⟩)
 |1=>v=.slice (some ⟨Q,3,none⟩) 52 52
 |2=>v=.slice (some ⟨g,off,none⟩) 64 cap
 |3=>v=.slice (some ⟨g,off+12,none⟩) 52 (cap-12)
 |_=>True
theorem Ad(g off cap Q:Nat){a:Nat}(i:Nat)(v:Value)(w w':World)(_:Touch (·=a) w w')(h:Ei g off cap Q i v w):Ei g off cap Q i v w':=h
set_option maxHeartbeats 3200000 in
set_option maxRecDepth 20000 in
theorem pE(v:Value)(b:List Nat)(w:World)(hB:aV w v b)(hl:b.length=64):
 Calls Tryz.prog 160 #[v] w fun e w'=>e=.returned (Af (Wl.dQ b))/\Below w.heap.size w w':=by
 obtain⟨W,hW⟩:∃W,W=w.alloc (.cells uZ 180):=⟨_,rfl⟩
 have L:Below w.heap.size w W:=by rw[hW];exact aj _ _
 have c:W.heap[w.heap.size]?=some (.cells uZ 180 (0,0)):=by rw[hW];exact heap_alloc_last _ _
 obtain⟨Q1,hQ⟩:∃Q,Q=w.heap.size:=⟨_,rfl⟩
 rw[<-hQ]at c;obtain⟨p,cap,rfl,l,hn,hp⟩:=hB.form;obtain⟨g,off,rfl,hc⟩:=hp (by omega);rw[hl]at l hB⊢;have O:=Lib.hid (hB.below L);have u:=Lib.hid hl;have A:=Lib.hid c;have U:=Lib.hid L;have HQ:=Lib.hid hQ;have aA:=l.1;have ay:=l.2;clear L c hp hn hc l hB;go_enter Tryz.func160,Tryz.ntmps160;go_upto_region 1 with(fail)
 rw[<-hW];rw[<-hQ];clear hW hQ;go_wp2_with fail
 refine(fB _ (b.take 12) W ((u.out▸O.out:aV W (.slice (some ⟨g,off,none⟩) b.length cap) b).take 12 (by rw[u.out];decide))).mono ?_;rintro e w1⟨R,rfl,hR,af,ae⟩;have au:=Lib.hid ae;have N:=Lib.hid af;have I:(b.take 12).length=12:=by rw[List.length_take,hl];rfl
 obtain⟨B,H⟩:∃n,aw.num (((b.take 12).drop 0).take 4)=n:=⟨_,rfl⟩
 obtain⟨ne,ad⟩:∃n,aw.num (((b.take 12).drop (0+4)).take 4)=n:=⟨_,rfl⟩
 obtain⟨C,Z⟩:∃n,aw.num (((b.take 12).drop (0+4+4)).take 4)=n:=⟨_,rfl⟩
 have aF:=Lib.hid H;have an:=Lib.hid ad;have ak:=Lib.hid Z;have h1:=fH _ R 0 _ w1 hR;rw[show b.take 12=(b.take 12).drop 0 from rfl,AZ (by rw[I];decide),H]at h1;have H1:=Lib.hid h1;have ao:=Lib.hid I;clear hR ae af h1 I hl H ad Z;go_wp2_with fail
 refine H1.out.mono ?_;rintro e ax⟨rfl,j,f⟩;have ar:=Lib.hid (aJ au.out f au.out.size N.out);have z:=fH _ R 0 _ ax j;rw[AZ (by rw[ao.out];decide),an.out]at z;have H2:=Lib.hid z;clear z j f H1;go_wp2_with fail
 refine H2.out.mono ?_;rintro e av⟨rfl,j,f⟩;have aq:=Lib.hid (aJ ar.out f ar.out.size N.out);have z:=fH _ R 0 _ av j;rw[AZ (by rw[ao.out];decide),ak.out]at z;have H3:=Lib.hid z;clear z j f H2;go_wp2_with fail
 refine H3.out.mono ?_;rintro e w3⟨rfl,j,f⟩;have P:=Lib.hid (aJ aq.out f aq.out.size N.out);clear j f H3;dsimp only;iterate 10 go_step
 have G:(w3.alloc (.cells uZ 180)).heap[w3.heap.size]?=some (.cells uZ 180 (0,0)):=heap_alloc_last _ _;refine wpList_store_row rfl 180 (.tmp 4) (.tmp 15) rfl w3.heap.size (GA B ne C) rfl rfl _ _ G (by kernel_rfl) rfl (by rw[BS];exact j5 _) ?_;obtain⟨M,s⟩:∃Q,Q=w3.heap.size:=⟨_,rfl⟩
 have d:=setRow_heap _ _ _ (GA B ne C) _ _ G;have J:Below w3.heap.size w3 ((w3.alloc (.cells uZ 180)).setRow w3.heap.size (GA B ne C)):=(aj _ _).trans ((df _ _).below (base:=w3.heap.size) (fun i hi=>by rw[hi];exact Nat.le_refl _) (by simp));generalize(w3.alloc (.cells uZ 180)).setRow w3.heap.size (GA B ne C)=W4 at d J⊢;rw[BS,<-s]at d;rw[<-s];have ai:Hid (W.heap.size<=M):=by show _<=_;rw[s];exact P.out.size
 have T:=Lib.hid (P.out.trans (J.mono P.out.size));have aE:=Lib.hid d;have E:=((u.out▸O.out.below T.out:aV W4 (.slice (some ⟨g,off,none⟩) b.length cap) b).drop 12 (by rw[u.out];decide))
 have aB:Hid (¬g=M):=fun e=>by have h1:=O.out.fS (by rw[u.out];decide) g rfl;have z:=ai.out;omega
 rw[u.out]at E;have aC:Hid (aV W4 (.slice (some ⟨g,off+12,none⟩) 52 (cap-12)) (b.drop 12)):=E;clear E;clear G s J d;go_upto_region 3 with(fail)
 refine Ord.walk (Ei g off cap M) (fun D _ w'=>TR W4 M 180 (gL ⟨B,ne,C,List.replicate 52 0⟩) (gL (Wl.dQ b)) 4 D w') (fun a b=>Touch (·=M) a b)
  (by kernel_rfl) (by kernel_rfl) ?fra ?hfra (fun i v w w' hb h=>Ad _ _ _ _ i v w w' hb h) (fun xs=>TR.first aE.out) ?hea ?henda
 case hfra=>
  intro xs;simp only[Ord.fill,Act.put,List.setIfInBounds_toArray,List.set_cons_zero,List.set_cons_succ];rfl
 case hea=>
  iterate 5 (refine Ord.aa (fun D xs w2 hD hC hP hR t K y=>?_) ?_;rotate_left)
  rotate_left
  ·clear t;go_simp;exact y _ _ ⟨_,rfl,Touch.refl _ _,hR.skip 0 (by decide),rfl⟩
  ·have q0:=Ord.ab _ t 0 (by decide);simp only[Ei]at q0;simp only[q0]at y;clear t;go_simp;exact y _ _ ⟨_,rfl,Touch.refl _ _,hR.skip 1 (by decide),rfl⟩
  ·clear t;go_simp;exact y _ _ ⟨_,rfl,Touch.refl _ _,hR.skip 2 (by decide),rfl⟩
  ·have q2:=Ord.ab _ t 2 (by decide);simp only[Ei]at q2;simp only[q2]at y;clear t;go_simp;rw[if_neg (by omega)];exact y _ _ ⟨_,rfl,Touch.refl _ _,hR.skip 3 (by decide),rfl⟩
  ·have q1:=Ord.ab _ t 1 (by decide);simp only[Ei]at q1;have q3:=Ord.ab _ t 3 (by decide);simp only[Ei]at q3;simp only[q1,q3]at y;clear t;have Y:=hR.now hD;obtain⟨w8,m,q,X⟩:=na (o:=0) (dl:=52) (dc:=52) (x:=⟨B,ne,C,List.replicate 52 0⟩) Y (by simp) (by decide) (hR.al.bz aC.out (fun _ g' e=>by simp only[Value.ownBlock,Option.some.injEq]at e;subst e;exact aB.out));rw[show min (b.drop 12).length 52=52 by rw[List.length_drop,u.out];decide]at m q;have F:iK w8 M (Wl.dQ b):=by
    rw[show(Wl.dQ b)=⟨B,ne,C,(List.replicate 52 0).take 0++(b.drop 12).take 52++(List.replicate 52 0).drop (0+52)⟩from BQ u.out aF.out an.out ak.out];exact q
   have m:=m 3;go_simp;exact y _ _ ⟨_,rfl,X,hR.put X F,trivial⟩
  exact Ord.az
 case henda=>
  intro D xs w9 hR V;have ag:=(V 4 (by decide)).1;have e0:=(V 0 (by decide)).2;have e1:=(V 1 (by decide)).2;have e2:=(V 2 (by decide)).2;have e3:=(V 3 (by decide)).2;simp only[Ei]at e0 e1 e2 e3;rw[e0];rw[e1];rw[e2];rw[e3];clear e0 e1 e2 e3;clear V;generalize xs 4=x4 at*
  have c:=hR.done ag;have S:=Lib.hid (T.out.trans (hR.al.below (base:=W.heap.size) (fun i hi=>by rw[hi];exact ai.out) T.out.size));clear ag hR;have aD:=Lib.hid c;have ah:=Lib.hid ((S.out.block Q1 (lt_of_block A.out)).trans A.out);clear c;have r:(Wl.dQ b).log.length=52:=by show(b.drop 12).length=52;rw[List.length_drop,u.out]
  go_upto_region 4 with(fail)
  go_step;refine wpList_load_row rfl 180 (.tmp 4) rfl M rfl _ _ _ _ aD.out Tryz.underlying180 rfl (fC r) ?_;refine wpList_store_row rfl 180 (.tmp 2) (.tmp 21) rfl Q1 _ rfl rfl _ _ ah.out (fC r) (by rw[jb,r];rfl) (j5 _) ?_;have k:=setRow_heap _ _ _ (gL (Wl.dQ b)) _ _ ah.out;have HE:=Lib.hid ((U.out.trans (S.out.mono U.out.size)).trans ((df (w:=w9) Q1 (gL (Wl.dQ b))).below (base:=w.heap.size) (fun i hi=>by rw[hi,HQ.out];exact Nat.le_refl _) (Nat.le_trans U.out.size S.out.size)));generalize w9.setRow Q1 (gL (Wl.dQ b))=w10 at k HE⊢;go_wp2_with fail
  refine bodyPost_ret (v:=Af (Wl.dQ b)) ?_ rfl ⟨rfl,HE.out⟩;exact results_cell_row rfl _ _ Q1 180 _ _ _ rfl k Tryz.underlying180 rfl (fC r)
theorem iJ.below{base:Nat}{w w':World}{v:Value}{l:List Nat}(h:iJ base w v l)(b:Below w.heap.size w w'):iJ base w' v l:=by
 refine⟨h.bz.below b,fun h0=>?_⟩;obtain⟨g,cap,c,e,a,k,j,cur,T,d,i,f⟩:=h.row h0;exact⟨g,cap,c,e,Nat.lt_of_lt_of_le a b.size,k,j,cur,T,(b.block g a).trans d,i,f⟩
theorem iJ.from{base base':Nat}{w:World}{v:Value}{l:List Nat}(h:iJ base w v l)(c:base'<=base):iJ base' w v l:=by
 refine⟨h.bz,fun h0=>?_⟩;obtain⟨g,cap,a,b,r⟩:=h.row h0;exact⟨g,cap,a,Nat.le_trans c b,r⟩
theorem iJ.some{base:Nat}{w:World}{v:Value}{l:List Nat}(h:iJ base w v l)(h0:0<l.length):∃g cap,v=.slice (some ⟨g,0,none⟩) l.length cap/\base<=g/\g<w.heap.size/\l.length<=cap/\cap<=9223372036854775807:=by
 obtain⟨g,cap,b,c,a,e,d,-⟩:=h.row h0;exact⟨g,cap,b,c,a,e,d⟩
def DV(base:Nat)(w:World)(v:Value)(b:List Nat):Prop:=∃u,v=.tuple #[u,.int .i64 0]/\iJ base w u b
theorem DV.below{base:Nat}{w w':World}{v:Value}{l:List Nat}(h:DV base w v l)(b:Below w.heap.size w w'):DV base w' v l:=by
 obtain⟨u,a,hm⟩:=h;exact⟨u,a,hm.below b⟩
theorem jl{B c b:Nat}{d:Dk.aq}{w:World}(h:bh w B c b d)(f:d.off=false){i:Nat}(g:i<Dk.size d):
 Calls Tryz.prog 97 #[.pointer (some ⟨B,0,none⟩),.int .i64 (i:Int)] w fun e w'=>∃u,e=.returned (.tuple #[u,.int .i64 0])/\iJ w.heap.size w' u (Wl.iM d i)/\Below w.heap.size w w':=by
 have a:=jY h (i:Int);rw[Dk.yF f g]at a;exact a
def uY(B L g a W:Nat)(b:List Nat)(i:Nat)(v:Value)(w:World):Prop:=
 match i with
 |0=>v=.pointer (some ⟨L,0,none⟩)
 |1=>v=.pointer (some ⟨L,0,none⟩)
 |2=>v=.pointer (some ⟨L,4,none⟩)
 |3=>v=.pointer (some ⟨B,0,none⟩)
 |4=>v=.pointer (some ⟨L,0,none⟩)
 |5=>v=.int .u64 (g:Int)
 |6=>v=.int .i64 (a:Int)
 |7=>DV W w v b
 |8=>DV W w v b
 |9=>iJ W w v b
 |10=>v=.int .i64 0
 |11=>iJ W w v b
 |12=>v=.int .i64 0
 |_=>True
theorem Ae(B L g a W:Nat)(b:List Nat)(i:Nat)(v:Value)(w w':World)(c:Below w.heap.size w w')(h:uY B L g a W b i v w):uY B L g a W b i v w':=by
 unfold uY at*
 split at h<;>first|exact h|exact h.below c|trivial
theorem BP{w:World}{c cap:Nat}{b:List Nat}(h:aV w (.slice (some ⟨c,0,none⟩) 128 cap) b)(e:b.length=128)(_:128<=cap){j:Nat}(g:j<2):aV w (.slice (some ⟨c,64*j,none⟩) 64 (cap-64*j)) (Wl.hf b j):=by
 have a:=(e▸h:aV w (.slice (some ⟨c,0,none⟩) b.length cap) b).drop (64*j) (by omega);rw[Nat.zero_add]at a;have d:(b.drop (64*j)).length=b.length-64*j:=List.length_drop ..;rw[<-d]at a;have f:=a.take 64 (by rw[d];omega);exact f
set_option maxHeartbeats 3200000 in
set_option maxRecDepth 20000 in
theorem vv{w:World}{L B a c m1 m2:Nat}{k0:Wl.Kn}{pl wa:Value}{dn:Bool}{d:Dk.aq}(h:aH w L k0 B a c pl wa dn)(U:bh w B m1 m2 d)(ho:d.off=false)(m:1<=c)(F:c<=8192)(S:a+c+2<=Dk.size d)(g:Nat)(_:g<1000000000000000000):
 Calls Tryz.prog 125 #[.pointer (some ⟨L,0,none⟩),.int .u64 (g:Int)] w fun e w'=>e=.returned (.tuple #[Af (Wl.dQ (Wl.hf (Wl.iM d (a+2+g%(2*c)/2)) (g%2))),.int .i64 0])/\Below w.heap.size w w':=by
 obtain⟨W,hW⟩:∃W,W=w.alloc (.cells uZ 180):=⟨_,rfl⟩
 have t:Below w.heap.size w W:=by rw[hW];exact aj _ _
 have o:W.heap[w.heap.size]?=some (.cells uZ 180 (0,0)):=by rw[hW];exact heap_alloc_last _ _
 obtain⟨V,hQ⟩:∃Q,Q=w.heap.size:=⟨_,rfl⟩
 rw[<-hQ]at o;have hl:=h.below t;have ak:=Lib.hid hl;have ai:Hid (L<W.heap.size):=hl.lt;have C4:=Lib.hid (hl.cell 4 (v:=.pointer (some ⟨B,0,none⟩)) rfl);have ag:=Lib.hid (U.below t);have ah:=Lib.hid ho;have an:=Lib.hid m;have al:=Lib.hid F;have ae:=Wl.jo (n:=c) (h:=g) m;have ad:=U.own.size;have X:Hid (a+2+g%(2*c)/2<Dk.size d):=by show _<_;omega
 have HA:Hid (a<=65536):=by show _<=_;omega
 have x:=Lib.hid (Wl.mo U.own.ok X.out);have A:=Lib.hid o;have M:=Lib.hid t;have HQ:=Lib.hid hQ;have aw:(g:Int)%2=((g%2:Nat):Int):=by omega
 have R:g%2<2:=by omega
 generalize g%2=j at*
 have av:IntKind.u64.wrap ((j:Int)*64)=((64*j:Nat):Int):=by rw[IntWalk.u64_in _ (by omega)];omega
 clear hl h U t o ho m F S ae ad;go_enter Tryz.func125,Tryz.ntmps125;go_upto_region 1 with(fail)
 rw[<-hW,<-hQ];clear hW hQ;refine Ord.walk (uY B L g (a+2+g%(2*c)/2) W.heap.size (Wl.iM d (a+2+g%(2*c)/2))) (fun _ _ w'=>Below W.heap.size W w') (fun a b=>Below a.heap.size a b)
  (by kernel_rfl) (by kernel_rfl) ?fra ?hfra (fun i v w w' hb h=>Ae _ _ _ _ _ _ i v w w' hb h) (fun xs=>(Below.refl _ _).kH) ?hea ?henda
 case hfra=>
  intro xs;simp only[Ord.fill,Act.put,List.setIfInBounds_toArray,List.set_cons_zero,List.set_cons_succ];rfl
 case hea=>
  iterate 13 (refine Ord.aa (fun D xs w2 hD hC U hR f K k=>?_) ?_;rotate_left)
  rotate_left
  ·clear f;go_simp;exact k _ _ ⟨_,rfl,Below.refl _ _,hR,rfl⟩
  ·have q0:=Ord.ab _ f 0 (by decide);simp only[uY]at q0;simp only[q0]at k;clear f;go_simp;exact k _ _ ⟨_,rfl,Below.refl _ _,hR,rfl⟩
  ·have q1:=Ord.ab _ f 1 (by decide);simp only[uY]at q1;simp only[q1]at k;clear f;go_simp;exact k _ _ ⟨_,rfl,Below.refl _ _,hR,rfl⟩
  ·have q2:=Ord.ab _ f 2 (by decide);simp only[uY]at q2;simp only[q2]at k;clear f;have cc:=hR.cell (p:=⟨L,4,none⟩) ai.out;rw[C4.out]at cc;go_simp;exact k _ _ ⟨_,rfl,Below.refl _ _,hR,rfl⟩
  ·clear f;go_simp;exact k _ _ ⟨_,rfl,Below.refl _ _,hR,rfl⟩
  ·clear f;go_simp;exact k _ _ ⟨_,rfl,Below.refl _ _,hR,rfl⟩
  ·have q4:=Ord.ab _ f 4 (by decide);simp only[uY]at q4;have q5:=Ord.ab _ f 5 (by decide);simp only[uY]at q5;simp only[q4,q5]at k;clear f;go_simp;refine(gn (ak.out.below hR) g an.out al.out HA.out).mono ?_;rintro e w'⟨rfl,q,rfl⟩;exact k _ _ ⟨_,rfl,below_drewN _ _ _,hR.trans (below_drewN _ _ _),rfl⟩
  ·have q3:=Ord.ab _ f 3 (by decide);simp only[uY]at q3;have q6:=Ord.ab _ f 6 (by decide);simp only[uY]at q6;simp only[q3,q6]at k;clear f;go_simp;refine(jl (ag.out.below hR) ah.out X.out).mono ?_;rintro e w'⟨u,rfl,hM,hb⟩;exact k _ _ ⟨_,rfl,hb,hR.trans (hb.mono hR.size),u,rfl,hM.from hR.size⟩
  ·have q7:=Ord.ab _ f 7 (by decide);simp only[uY]at q7;clear f;go_simp;exact k _ _ ⟨_,rfl,Below.refl _ _,hR,q7⟩
  ·have N:=Ord.ab _ f 8 (by decide);simp only[uY]at N;obtain⟨u8,e8,m8⟩:=N;clear f;rw[e8]at k⊢;go_simp;exact k _ _ ⟨_,rfl,Below.refl _ _,hR,m8⟩
  ·have N:=Ord.ab _ f 8 (by decide);simp only[uY]at N;obtain⟨u8,e8,m8⟩:=N;clear f;rw[e8]at k⊢;go_simp;exact k _ _ ⟨_,rfl,Below.refl _ _,hR,rfl⟩
  ·have q9:=Ord.ab _ f 9 (by decide);simp only[uY]at q9;clear f;go_simp;exact k _ _ ⟨_,rfl,Below.refl _ _,hR,q9⟩
  ·have O:=Ord.ab _ f 10 (by decide);simp only[uY]at O;simp only[O]at k;clear f;go_simp;exact k _ _ ⟨_,rfl,Below.refl _ _,hR,rfl⟩
  exact Ord.az
 case henda=>
  intro D xs w9 hR s;have e0:=(s 0 (by decide)).2;have e1:=(s 1 (by decide)).2;have e2:=(s 2 (by decide)).2;have e3:=(s 3 (by decide)).2;have e4:=(s 4 (by decide)).2;have e5:=(s 5 (by decide)).2;have e6:=(s 6 (by decide)).2;have H:=(s 10 (by decide)).2;have G:=(s 12 (by decide)).2;have r:=(s 11 (by decide)).2;simp only[uY]at e0 e1 e2 e3 e4 e5 e6 H G r;rw[e0];rw[e1];rw[e2];rw[e3];rw[e4];rw[e5];rw[e6];rw[H];rw[G];clear e0 e1 e2 e3 e4 e5 e6 H G;clear s;generalize xs 7=x7 at*
  generalize xs 8=x8 at*
  generalize xs 9=x9 at*
  generalize xs 11=x11 at*
  have HM:=Lib.hid r;have Z:=Lib.hid hR;clear hR r;obtain⟨gb,cap,hu,ay,ax,m,F⟩:=HM.out.some (by rw[x.out.1];decide);rw[x.out.1]at hu m;subst hu;have aA:¬cap=64*j:=by omega
  have ao:=Lib.hid (BP HM.out.bz x.out.1 m R);have E:=Wl.kF x.out.1 R;have C:=Lib.hid (pE _ _ w9 ao.out E);have z:(Wl.dQ (Wl.hf (Wl.iM d (a+2+g%(2*c)/2)) j)).log.length=52:=by
   show(List.drop 12 _).length=52;rw[List.length_drop,E]
  have I:=Lib.hid z;clear z E;generalize P:Wl.dQ (Wl.hf (Wl.iM d (a+2+g%(2*c)/2)) j)=xh at*
  have af:=Lib.hid P;clear P;have au:((64*j:Nat):Int)<=128:=by omega
  have ar:(64:Int)<=128-((64*j:Nat):Int):=by omega
  go_upto_region 4 with(fail)
  go_wp2_with fail
  refine C.out.mono ?_;rintro e w3⟨rfl,T⟩;have J:=Lib.hid (Z.out.trans (T.mono Z.out.size));have Y:=Lib.hid ((J.out.block V (lt_of_block A.out)).trans A.out);clear T C;dsimp only;go_step;refine wpList_store_row rfl 180 (.tmp 4) (.tmp 31) rfl V _ rfl rfl _ _ Y.out (fC I.out) (by rw[jb,I.out];rfl) (j5 _) ?_;have l:=setRow_heap _ _ _ (gL xh) _ _ Y.out;have HE:=Lib.hid ((M.out.trans (J.out.mono M.out.size)).trans ((df (w:=w3) V (gL xh)).below (base:=w.heap.size) (fun i hi=>by rw[hi,HQ.out];exact Nat.le_refl _) (Nat.le_trans M.out.size J.out.size)));generalize w3.setRow V (gL xh)=w10 at l HE⊢;have y:=Lib.hid l;clear l;go_wp2_with fail
  refine bodyPost_ret (v:=.tuple #[Af xh,.int .i64 0]) (mK Tryz.results125 _ _ V _ _ _ _ _ rfl rfl y.out Tryz.underlying180 rfl (fC I.out)) rfl ⟨by rw[af.out],HE.out⟩
set_option maxHeartbeats 1600000 in
set_option maxRecDepth 20000 in
theorem vw{w:World}{L B a c:Nat}{k:Wl.Kn}{pl E:Value}{dn:Bool}(h:aH w L k B a c pl E dn)(P:1<=c)(O:c<=8192)(g:Nat)(hg:g<=10000000000000)(X:g/(2*c)<4294967296)(x:Wl.Hf)(hf:x.fill<4294967296)(Z:k.ae<=1000000000000000):
 Calls Tryz.prog 126 #[.pointer (some ⟨L,0,none⟩),.int .u64 (g:Int),Af x] w fun e w'=>e=.returned (.int .i64 ((Wl.aQ k.ae k.ai (2*c) g x:Nat):Int))/\Below w.heap.size w w':=by
 obtain⟨W,u⟩:∃W,W=w.alloc (.cells (gL x) 180):=⟨_,rfl⟩
 have z:Below w.heap.size w W:=by rw[u];exact aj _ _
 have f:iK W w.heap.size x:=by rw[u];exact heap_alloc_last _ _
 obtain⟨Q,A⟩:∃Q,Q=w.heap.size:=⟨_,rfl⟩
 rw[<-A]at f;have hl:=h.below z;have Y:=Lib.hid hl;have i:=Lib.hid z;have T:=Lib.hid f;have b:=fun n=>nm (hl.drew n) g P O X;obtain⟨r,y⟩:∃r,r=g/(2*c):=⟨_,rfl⟩
 have c2:=f.c2;have h1:=IntWalk.u64_in (x.fill:Int) (by omega);obtain⟨t,I⟩:∃n,n=min x.fill 52:=⟨_,rfl⟩
 have h2:min (x.fill:Int) 52=(t:Int):=by omega
 rw[<-y]at b;have l:Wl.aQ k.ae k.ai (2*c) g x=if x.round≠r then 0 else if x.ai≠k.ai then min t (max (g*52) k.ae-g*52)else t:=by
  unfold Wl.aQ;rw[y,I]
 rw[l];have s:Hid (t<=52):=by show _<=_;omega
 clear h z hl f l X y I;have c0:=T.out.c0;by_cases j:x.round=r
 ·have R:((x.round:Int)!=(r:Int))=false:=by rw[j];simp
  rw[if_neg (by rw[j];simp)];clear j;obtain⟨place,F⟩:∃p,p=g*52:=⟨_,rfl⟩
  have h3:IntKind.u64.wrap ((g:Int)*52)=(place:Int):=by rw[IntWalk.u64_in _ (by omega)];omega
  rw[<-F];have U:Hid (place<=1000000000000000):=by show _<=_;omega
  clear F;by_cases he:x.ai=k.ai
  ·rw[if_neg (by rw[he];simp)];have S:((x.ai:Int)!=(k.ai:Int))=false:=by rw[he];simp
   have h4:=IntWalk.i64_in (t:Int) (by have:=s.out;omega);have h5:=IntWalk.wrap64_in (t:Int) (by have:=s.out;omega);clear he;go_enter Tryz.func126,Tryz.ntmps126;go_upto_region 1 with(fail)
   rw[<-u,<-A];clear u A;go_wp2_with fail
   go_quiet ((go_at_call 161;exact bF (b _)))
   have d:=Lib.hid (i.out.trans ((below_drewN W.heap.size W nq).mono i.out.size));have o:Hid (aH (W.drewN nq) L k B a c pl E dn):=Y.out;have C:Hid (iK (W.drewN nq) Q x):=T.out;clear c0 c2 b;generalize W.drewN nq=q at*
   have d1:=C.out.c1;have d3:=o.out.cell 3 (v:=.int .u32 (k.ai:Int)) rfl;go_wp2_with fail
   go_quiet (fail)
   have D:=Lib.hid (d.out.trans ((below_drewN q.heap.size q nq).mono d.out.size));have J:Hid (aH (q.drewN nq) L k B a c pl E dn):=o.out;clear d1 d3;generalize q.drewN nq=W2 at*
   go_wp2_with fail
   go_ret;exact⟨rfl,D.out⟩
  ·rw[if_pos he];have S:((x.ai:Int)!=(k.ai:Int))=true:=by simp;omega
   obtain⟨M,H⟩:∃n,n=max place k.ae-place:=⟨_,rfl⟩
   obtain⟨K,G⟩:∃n,n=min t M:=⟨_,rfl⟩
   rw[<-H,<-G];obtain⟨V,N⟩:∃m,m=max place k.ae:=⟨_,rfl⟩
   have h6:max (place:Int) (k.ae:Int)=(V:Int):=by omega
   have h7:IntKind.u64.wrap ((V:Int)-(place:Int))=(M:Int):=by have:=U.out;rw[IntWalk.u64_in _ (by omega)];omega
   have h8:min (t:Int) (M:Int)=(K:Int):=by omega
   have h4:=IntWalk.i64_in (K:Int) (by have:=s.out;omega);have h5:=IntWalk.wrap64_in (K:Int) (by have:=s.out;omega);clear he H G N;go_enter Tryz.func126,Tryz.ntmps126;go_upto_region 1 with(fail)
   rw[<-u,<-A];clear u A;go_wp2_with fail
   go_quiet ((go_at_call 161;exact bF (b _)))
   have d:=Lib.hid (i.out.trans ((below_drewN W.heap.size W nq).mono i.out.size));have o:Hid (aH (W.drewN nq) L k B a c pl E dn):=Y.out;have C:Hid (iK (W.drewN nq) Q x):=T.out;clear c0 c2 b;generalize W.drewN nq=q at*
   have d1:=C.out.c1;have d3:=o.out.cell 3 (v:=.int .u32 (k.ai:Int)) rfl;go_wp2_with fail
   go_quiet (fail)
   have D:=Lib.hid (d.out.trans ((below_drewN q.heap.size q nq).mono d.out.size));have J:Hid (aH (q.drewN nq) L k B a c pl E dn):=o.out;clear d1 d3;generalize q.drewN nq=W2 at*
   have e1:=J.out.cell 1 (v:=.int .u64 (k.ae:Int)) rfl;go_wp2_with fail
   go_ret;exact⟨rfl,D.out⟩
 ·have R:((x.round:Int)!=(r:Int))=true:=by simp;omega
  rw[if_pos j];clear j;go_enter Tryz.func126,Tryz.ntmps126;go_upto_region 1 with(fail)
  rw[<-u,<-A];clear u A;go_wp2_with fail
  go_quiet ((go_at_call 161;exact bF (b _)))
  have d:=Lib.hid (i.out.trans ((below_drewN W.heap.size W nq).mono i.out.size));clear c0 c2 b;generalize W.drewN nq=q at*
  go_wp2_with fail
  go_ret;exact⟨rfl,d.out⟩
end Go.Proofs.YtbpodmallknhfaaGreat
