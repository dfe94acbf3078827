/- Parts of a proof. Conditions: as each row says. -/
import Derived.Test.YtbpodmallknhfaaGreatPl05
import Derived.Test.YtbpodmallknhfaaGreatPl18
import Derived.Test.YtbpodmallknhfaaGreatPl10
import Derived.Test.YtbpodmallknhfaaGreatPl03
import Derived.Test.YtbpodmallknhfaaGreatPl30
import Derived.Test.YtbpodmallknhfaaGreatPl06
import Derived.Test.YtbpodmallknhfaaGreatPl13
import Derived.Test.YtbpodmallknhfaaGreatPl07
import Derived.Test.YtbpodmallknhfaaGreatPl09
import Derived.Laws.CopyRow
namespace Go.Proofs.YtbpodmallknhfaaGreat
open Go.RowKit
section
variable{W w:World}{B k i:Nat}{A:Array Value}{T:TypeId}{S:List (Nat×Nat×Value)}{D:Nat->Bool}
theorem eD.eC(h:eD W B A T S D w){i:Nat}{o:Obj}(a:W.heap[i]?=some o)(b:i≠B):w.heap[i]?=some o:=(h.grown.block i (GN a) (fun e=>b (GZ e))).trans a
theorem eD.go(h:eD W B A T S D w)(k:Nat)(a:(S.all fun s=>s.1 !=k)=true)(n:Nat):eD W B A T S (Ord.bB D k) (w.drewN n):=⟨bg h.grown (Touch.grownBy ((Touch.refl _ _).drewN n)),by rw[oI _ a];exact h.row⟩
end
def BI(L Q st ep:Nat)(i:Nat)(v:Value)(_:World):Prop:=
 match i with
 |0=>v=.pointer (some ⟨L,0,none⟩)
 |1=>v=.int .u64 (st:Int)
 |2=>v=.pointer (some ⟨L,0,none⟩)
 |3=>v=.pointer (some ⟨L,0,none⟩)
 |4=>v=.pointer (some ⟨L,0,none⟩)
 |5=>v=.pointer (some ⟨L,3,none⟩)
 |6=>v=.int .u32 (ep:Int)
 |7=>v=.pointer (some ⟨Q,1,none⟩)
 |9=>v=.pointer (some ⟨Q,2,none⟩)
 |_=>True
def xb(L Q st base:Nat)(pl:Value)(i:Nat)(v:Value)(w:World):Prop:=
 match i with
 |0=>v=.pointer (some ⟨L,0,none⟩)
 |1=>v=.pointer (some ⟨L,0,none⟩)
 |2=>v=.pointer (some ⟨L,0,none⟩)
 |3=>v=.pointer (some ⟨L,7,none⟩)
 |4=>v=pl
 |5=>v=.pointer (some ⟨Q,1,none⟩)
 |6=>v=.int .u64 (st:Int)
 |7=>∃a,v=.slice (some ⟨a,0,none⟩) 1 1/\w.cell? ⟨a,0,none⟩=some (.int .u64 (st:Int))/\base<=a
 |9=>v=.pointer (some ⟨L,0,none⟩)
 |10=>v=.pointer (some ⟨L,7,none⟩)
 |_=>True
theorem Touch.EO{S:Nat->Prop}{a b:World}{r:Option Nat}(h:a.grownBy b r)(hs:∀g,r=some g->S g):Touch S a b:=⟨h.os,h.tape,h.output,h.size,fun i d c=>h.block i d fun e=>c (hs i e.symm)⟩
theorem xM{W:World}{L Q st:Nat}{pl:Value}(hT:∀i,(i=L\/pl.ownBlock=some i)->i<W.heap.size)(i:Nat)(v:Value)(w w':World)(c:Touch (fun i=>i=L\/pl.ownBlock=some i) w w')(h:xb L Q st W.heap.size pl i v w):xb L Q st W.heap.size pl i v w':=by
 unfold xb at*
 split at h<;>first|exact h|skip
 obtain⟨a,f,e,d⟩:=h;refine⟨a,f,c.cell e (fun b=>?_),d⟩;have:=hT a b;omega
theorem AG(w:World)(v:Value)(T:TypeId):(w.alloc (.cells #[v] T)).cell? ⟨w.heap.size,0,none⟩=some v:=by
 rw[Iq _ w.heap.size 0 #[v] T (0,0) (GM _ _)];rfl
structure mY(W:World)(L:Nat)(k:Wl.Kn)(B a c:Nat)(pl wa:Value)(l:List Nat)(y:Nat)(D:Nat->Bool)(xs:Nat->Value)(w:World):Prop where
 t:Touch (fun i=>i=L\/pl.ownBlock=some i) W w
 q:D 8=false->QO 0 w pl l
 r:D 8=true->QO 0 w (xs 8) (l++[y])/\((xs 8).ownBlock=pl.ownBlock\/∃i,(xs 8).ownBlock=some i/\W.heap.size<=i)
 at_:D 11=false->aR w L k B a c pl wa false
 EA:D 11=true->aR w L k B a c (xs 8) wa false
section
variable{W w w':World}{L B a c y:Nat}{k:Wl.Kn}{pl wa:Value}{l:List Nat}{D:Nat->Bool}{xs:Nat->Value}
theorem mY.first(b:QO 0 W pl l)(hl:aR W L k B a c pl wa false):mY W L k B a c pl wa l y (fun _=>false) xs W.drew:=
 ⟨(Touch.refl _ _).drew,fun _=>b.below ((GF _ _).ij),(fun h=>by cases h),fun _=>hl,(fun h=>by cases h)⟩
theorem mY.skip(h:mY W L k B a c pl wa l y D xs w)(j:Nat)(i:8≠j)(f:11≠j)(v:Value)(d:Below w.heap.size w w'):mY W L k B a c pl wa l y (Ord.bB D j) (Ord.set xs j v) w':=by
 have g:Ord.bB D j 8=D 8:=GQ i;have e:Ord.bB D j 11=D 11:=GQ f;have ex:Ord.set xs j v 8=xs 8:=GQ i;refine⟨h.t.trans (Touch.ax d),fun b=>(h.q (g▸b)).below d,fun b=>?_,fun b=>(h.at_ (e▸b)).below d,fun b=>?_⟩
 ·rw[ex];exact⟨(h.r (g▸b)).1.below d,(h.r (g▸b)).2⟩
 ·rw[ex];exact(h.EA (e▸b)).below d
theorem mY.app{v:Value}(h:mY W L k B a c pl wa l y D xs w)(_:D 8=false)(b:D 11=false)(g:pl.ownBlock≠some L)(f:QO 0 w' v (l++[y]))(e:Touch (fun i=>pl.ownBlock=some i) w w')(d:v.ownBlock=pl.ownBlock\/∃i,v.ownBlock=some i/\w.heap.size<=i):mY W L k B a c pl wa l y (Ord.bB D 8) (Ord.set xs 8 v) w':=by
 refine⟨h.t.trans (e.mono fun i _ j=>GL j),fun he=>?_,fun _=>⟨f,d.imp id fun⟨i,n,m⟩=>⟨i,n,GR h.t.size m⟩⟩,fun _=>(h.at_ b).aj e g,fun he=>?_⟩
 ·rw[show Ord.bB D 8 8=true from GU rfl]at he;cases he
 ·rw[show Ord.bB D 8 11=D 11 from GQ (by decide),b]at he;cases he
theorem mY.put(h:mY W L k B a c pl wa l y D xs w)(d:D 8=true)(g:D 11=false)(n:pl.ownBlock≠some L)(p:L<W.heap.size)(v:Value):mY W L k B a c pl wa l y (Ord.bB D 11) (Ord.set xs 11 v) (w.setCell ⟨L,7,none⟩ (xs 8)):=by
 have m:Touch (fun i=>i=L) w (w.setCell ⟨L,7,none⟩ (xs 8)):=.set L 7 _ rfl;have o:Ord.bB D 11 8=D 8:=GQ (by decide);have ex:Ord.set xs 11 v 8=xs 8:=GQ (by decide);refine⟨h.t.trans (m.mono fun i _ b=>GJ b),fun he=>?_,fun _=>?_,fun he=>?_,fun _=>?_⟩
 ·rw[o,d]at he;cases he
 ·rw[ex];refine⟨(h.r d).1.aj m fun i b e=>?_,(h.r d).2⟩;rcases(h.r d).2 with f|⟨j,f,q⟩
  ·exact n (by rw[<-f,b,e])
  ·rw[b]at f;have:=GZ f;omega
 ·rw[show Ord.bB D 11 11=true from GU rfl]at he;cases he
 ·rw[ex];exact aN (i:=7) (h.at_ g) _
end
theorem Wl.uR{s:Wl.S}(h:Wl.Ex s):s.stop<=s.start+851968:=by
 have c:=h.room;have b:=h.high;have a:s.start/52*52<=s.start:=Nat.div_mul_le_self _ _;omega
theorem Wl.pf:∀{l:List Lr.R}{p q:Nat},Wl.chain p l q->p+19*l.length<=q
 | [],p,q,h=>by
  have:p=q:=h;simp only[Hz];omega
 |x::l,p,q,h=>by
  have b:=Wl.pf h.2;have a:=Wl.size_pos x;simp only[G2];omega
theorem Wl.vi{s:Wl.S}(h:Wl.Ex s):(Wl.places s).length<=50000:=by
 have b:=Wl.pf h.aI.chain;have a:=Wl.uR h;unfold Wl.places;rw[Hb];omega
theorem Wl.xl{s:Wl.S}(h:Wl.Good s)(x:Lr.R):Wl.waits (Wl.app s x)=Wl.waits s++Lr.form (Wl.aV s x):=by
 have c:=Wl.gD h;have b:=h.high;have a:=h.low;have e:Wl.bytes (Wl.app s x)=Wl.bytes s++Lr.form (Wl.aV s x):=by
  show(s.ik++[Wl.aV s x]).flatMap Lr.form=_;rw[Io];simp[Wl.bytes]
 unfold Wl.waits;rw[e];show(Wl.bytes s++_).drop (s.ag-s.start)=_;rw[List.drop_append_of_le_length (by omega)]
theorem Wl.vj(s:Wl.S)(x:Lr.R):Wl.places (Wl.app s x)=Wl.places s++[s.stop]:=by
 show(s.ik++[Wl.aV s x]).map _=_;rw[List.map_append];rfl
set_option maxHeartbeats 6400000 in
set_option maxRecDepth 20000 in
theorem xg{U V:Nat->Prop}{w:World}{B L:Nat}{d:Dk.ak}{s:Wl.S}(x:Lr.R)(o n u c t:Value)(h:jW U V w B L d s)(hr:bm w x o n u c t)(hf:Lr.xd x)(hs:s.stop<=1000000000000):
 Calls Tryz.prog 29 #[.pointer (some ⟨L,0,none⟩),cz x o n u c t] w fun e w'=>
  e=.returned (.tuple #[.int .u64 ((Wl.dq s x).2.1:Nat),.int .i64 ((Wl.dq s x).2.2:Nat)])/\∃V',jW U V' w' B L d (Wl.dq s x).1/\Touch V w w'/\bA V V' w:=by
 have bE:=GD h;obtain⟨m1,m2,pl,wa,hm,rfl,hp,rfl,bs,said,bb,hd⟩:=h;obtain⟨p,cap,rfl⟩:=so hm.CO;obtain⟨W,hW⟩:∃W,W=w.alloc (az x o n u c t):=⟨_,rfl⟩
 have hb:=ae w (az x o n u c t);have m:=dd w x o n u c t;rw[<-hW]at hb m;obtain⟨Q,hQ⟩:∃Q,Q=w.heap.size:=⟨_,rfl⟩
 rw[<-hQ]at m;have HQ:=GD hQ;have HB:=GD hb;have av:=GD (hm.below hb);have bC:=GD hr;have aQ:=GD m;have HF:=GD hf;have bX:Hid (Lr.Ok x):=hr.ok;have HS:=GD hs;have bV:=GD bb;have HD:=GD hd;have HP:=GD hp;have bN:=GD bs;have aG:Hid (∀i,pC L pl (.slice p (Wl.waits s).length cap) i->¬i=Q):=fun i f e=>by
  have:=hm.lt i f;omega
 have aH:Hid (L≠Q):=aG.out L (GJ rfl);have he:=hm.end_;have aA:Hid ((Wl.kn s).ag+(Wl.waits s).length=s.stop):=he;have b4:Hid ((Wl.kn s).ag+(Wl.waits s).length<18446744073709551616):=by show _<_;rw[aA.out];omega
 have aO:Hid (s.stop<18446744073709551616):=by show _<_;omega
 have aT:Hid (s.an<4294967296):=hm.ex.ep;have bZ:Hid ((Wl.kn s).ag+(Wl.waits s).length<=((Wl.kn s).start/52+2*s.count)*52):=by show _<=_;rw[aA.out];exact hm.ex.room
 have bB:Hid (s.stop<=(s.start/52+2*s.count)*52):=hm.ex.room;have b1:Hid ((Wl.kn s).start<=1000000000000000):=by have G:=hm.ex.aI.low;have h2:=hm.ex.aI.high;show s.start<=_;omega
 have bL:Hid (s.count<=8192):=hm.ex.high;have b0:Hid ((((Wl.kn s).start/52+2*s.count)*52-((Wl.kn s).ag+(Wl.waits s).length):Nat)=(s.start/52+2*s.count)*52-s.stop):=by show _=_;rw[aA.out];rfl
 have bc:=mL av.out.log;clear hb m hm hr hf hs bb hd hp bs he;unfold az at hW;go_enter Tryz.func29,Tryz.ntmps29;go_upto_region 1 with(fail)
 rw[<-hW,<-hQ];clear hW hQ;go_upto_region 4 with(go_at_call 55;refine bc.mono ?_;rintro e w'⟨rfl,rfl⟩)
 clear bc;refine Ord.walk (BI L Q s.stop s.an) (fun D _ w'=>eD W Q #[.int .i64 x.kind,.int .u64 (x.bl:Int),.int .u32 (x.an:Int),.int .u64 (x.bn:Int),.int .u32 (x.aw:Int),.int .u16 (x.off:Int),o,n,u,.int .u64 (x.prev:Int),.int .u64 (x.next:Int),.bool x.lj,.int .u64 (x.aV:Int),c,t] 78 [(8,1,.int .u64 (s.stop:Int)),(10,2,.int .u32 (s.an:Int))] D w') (fun _ _=>True)
  (by kernel_rfl) (by kernel_rfl) ?fr ?hfr (fun _ _ _ _ _ h=>h) (fun xs=>eD.first aQ.out) ?he ?hend
 case hfr=>
  intro xs;simp only[Ord.fill,Act.put,GP,GX,GV];rfl
 case he=>
  iterate 11 (refine Ord.aa (fun D xs w2 hD hC hP hR l K k=>?_) ?_;rotate_left)
  rotate_left
  ·clear l;go_simp;exact k _ _ ⟨_,rfl,trivial,hR.skip rfl,rfl⟩
  ·have q0:=Ord.ab _ l 0 (by decide);simp only[BI]at q0;simp only[q0]at k;clear l;have hl:=eD.eC hR av.out.log aH.out;have hc:=jZ (w:=w2) hl b4.out;rw[aA.out]at hc;go_simp;refine hc.mono ?_;rintro e w'⟨rfl,q,rfl⟩;exact k _ _ ⟨_,rfl,trivial,eD.go hR 1 rfl q,rfl⟩
  ·clear l;go_simp;exact k _ _ ⟨_,rfl,trivial,hR.skip rfl,rfl⟩
  ·have q2:=Ord.ab _ l 2 (by decide);simp only[BI]at q2;simp only[q2]at k;clear l;go_simp;exact k _ _ ⟨_,rfl,trivial,hR.skip rfl,rfl⟩
  ·have q3:=Ord.ab _ l 3 (by decide);simp only[BI]at q3;simp only[q3]at k;clear l;go_simp;exact k _ _ ⟨_,rfl,trivial,hR.skip rfl,rfl⟩
  ·have q4:=Ord.ab _ l 4 (by decide);simp only[BI]at q4;simp only[q4]at k;clear l;go_simp;exact k _ _ ⟨_,rfl,trivial,hR.skip rfl,rfl⟩
  ·have q5:=Ord.ab _ l 5 (by decide);simp only[BI]at q5;simp only[q5]at k;clear l;have hl:=eD.eC hR av.out.log aH.out;have cc:=ah hl 3 (v:=.int .u32 (s.an:Int)) rfl;go_simp;exact k _ _ ⟨_,rfl,trivial,hR.skip rfl,rfl⟩
  ·clear l;go_simp;exact k _ _ ⟨_,rfl,trivial,hR.skip rfl,rfl⟩
  ·have q7:=Ord.ab _ l 7 (by decide);simp only[BI]at q7;have q1:=Ord.ab _ l 1 (by decide);simp only[BI]at q1;simp only[q7,q1]at k;clear l;obtain⟨uu,cu⟩:=hR.there 1 (show 1<15 by decide);have ff:=hR.free 1;go_simp;exact k _ _ ⟨undef,rfl,trivial,hR.put 8 1 _ (by rfl) (by simp) hD,trivial⟩
  ·clear l;go_simp;exact k _ _ ⟨_,rfl,trivial,hR.skip rfl,rfl⟩
  ·have q9:=Ord.ab _ l 9 (by decide);simp only[BI]at q9;have q6:=Ord.ab _ l 6 (by decide);simp only[BI]at q6;simp only[q9,q6]at k;clear l;obtain⟨uu,cu⟩:=hR.there 2 (show 2<15 by decide);have ff:=hR.free 2;go_simp;exact k _ _ ⟨undef,rfl,trivial,hR.put 10 2 _ (by rfl) (by simp) hD,trivial⟩
  exact Ord.ay
 case hend=>
  intro D xs Z hR a;have r0:=(a 0 (by decide)).2;have r1:=(a 1 (by decide)).2;have r2:=(a 2 (by decide)).2;have r3:=(a 3 (by decide)).2;have r4:=(a 4 (by decide)).2;have r5:=(a 5 (by decide)).2;have r6:=(a 6 (by decide)).2;have r7:=(a 7 (by decide)).2;have r9:=(a 9 (by decide)).2;simp only[BI]at r0 r1 r2 r3 r4 r5 r6 r7 r9;have m:=hR.row;rw[lI _ (by intro s hs;simp only[IX,IY,or_false]at hs;rcases hs with rfl|rfl;exact(a 8 (by decide)).1;exact(a 10 (by decide)).1)]at m;simp only[Lay,if_true,GP,GX,GV]at m;have bp:=hR.grown;simp only[r0,r1,r2,r3,r4,r5,r6,r7,r9];clear hR a r0 r1 r2 r3 r4 r5 r6 r7 r9;have aW:Touch (·=Q) W Z:=.gW bp rfl;have a1:Below w.heap.size w Z:=HB.out.trans (aW.below (fun i f=>by rw[f,HQ.out];exact GH _) HB.out.size);have bk:=av.out.bq aW (fun i f=>aG.out i f);have H:=bC.out.below a1;have E:=GD m;have aJ:=GD a1;have aS:=GD bk;clear bp aW a1 bk m;have C:Calls Tryz.prog 56 #[.agg #[.int .i64 x.kind,.int .u64 (s.stop:Int),.int .u32 (s.an:Int),.int .u64 (x.bn:Int),.int .u32 (x.aw:Int),.int .u16 (x.off:Int),o,n,u,.int .u64 (x.prev:Int),.int .u64 (x.next:Int),.bool x.lj,.int .u64 (x.aV:Int),c,t]] Z fun e w'=>∃v,e=.returned (.tuple #[v,.int .i64 ((Lr.rC (Lr.rU (Wl.aV s x)) 0 2:Nat):Int)])/\Own Z.heap.size w' v (Lr.rC (Lr.rU (Wl.aV s x)) (Lr.form (Wl.aV s x)) [])/\Below Z.heap.size Z w':=
   re (Wl.aV s x) o n u c t Z ⟨H.old,H.new,H.bI,H.dH,H.cq,Wl.sr H.ok aO.out aT.out⟩ (show Lr.xd (Wl.aV s x)from⟨HF.out.1,HF.out.2,HF.out.3,HF.out.4,HF.out.5⟩)
  have aK:=GD C;clear C H;go_upto_region 5 with(fail)
  go_step;refine bG rfl (.tmp 3) rfl Q rfl _ E.out rfl ?_;by_cases hM:Lr.rU (Wl.aV s x)
  case neg=>
   have C:=aK.out;rw[Lr.eW hM,Lr.eW hM,show((2:Nat):Int)=2 from rfl]at C;have N:=GD C;have F:Hid (Wl.dq s x=(s,0,2)):=by show _=_;unfold Wl.dq;exact Lr.eW hM _ _
   clear C aK hM;go_wp2_with fail
   refine N.out.mono ?_;rintro e w3⟨v,rfl,hO,J⟩;have aD:=GD (aJ.out.trans (J.mono aJ.out.size));clear hO J;go_wp2_with fail
   go_ret2
   exact⟨by rw[F.out];rfl,_,by rw[F.out];exact dO bE.out (T:=fun _=>False) (.ax aD.out) (fun _ _ h=>h),.ax aD.out,fun i f=>GJ f⟩
  case pos=>
   have C:=aK.out;rw[Lr.fF hM,Lr.fF hM,show((0:Nat):Int)=0 from rfl]at C;have N:=GD C;have HM:=GD hM;clear C aK hM;go_wp2_with fail
   refine N.out.mono ?_;rintro e w3⟨v,rfl,hO,J⟩;have aD:=GD (aJ.out.trans (J.mono aJ.out.size));have au:=GD (aS.out.below J);have ao:=GD ((J.block _ (GN E.out)).trans E.out);have HV:=GD hO;obtain⟨pv,cv,rfl⟩:=hO.aP.slice;have aZ:=uj au.out.log bZ.out b1.out bL.out;rw[b0.out]at aZ;have a7:=GD aZ;obtain⟨sz,aX⟩:∃z,z=(Lr.form (Wl.aV s x)).length:=⟨_,rfl⟩
   rw[<-aX];have aF:=GD aX;clear hO J N aZ aX;by_cases A:(sz:Int)<=Wl.left s
   case neg=>
    have hlt:((((s.start/52+2*s.count)*52-s.stop:Nat):Int)<(sz:Int)):=by
     have G:=bB.out;unfold Wl.left at A;omega
    have F:Hid (Wl.dq s x=(s,0,5)):=by
     refine Wl.eO HM.out ?_;unfold Wl.size;rw[<-aF.out];exact A
    generalize((s.start/52+2*s.count)*52-s.stop)=lf at*
    clear A;go_wp2_with fail
    refine a7.out.mono ?_;rintro e w4⟨rfl,q,rfl⟩;have aB:=GD (aD.out.trans (below_drewN _ w3 q));go_wp2_with fail
    go_ret2
    exact⟨by rw[F.out];rfl,_,by rw[F.out];exact dO bE.out (T:=fun _=>False) (.ax aB.out) (fun _ _ h=>h),.ax aB.out,fun i f=>GJ f⟩
   case pos=>
    have hlt:¬((((s.start/52+2*s.count)*52-s.stop:Nat):Int)<(sz:Int)):=by
     have G:=bB.out;unfold Wl.left at A;omega
    have I:(Wl.size (Wl.aV s x):Int)<=Wl.left s:=by
     unfold Wl.size;rw[<-aF.out];exact A
    have F:Hid (Wl.dq s x=(Wl.app s x,s.stop,0)):=Wl.eP HM.out I;have b3:=GD I;have b5:=GD A;generalize((s.start/52+2*s.count)*52-s.stop)=lf at*
    clear A I;go_wp2_with fail
    refine a7.out.mono ?_;rintro e w4⟨rfl,q,rfl⟩;have aB:=GD (aD.out.trans (below_drewN _ w3 q));have b:Hid (mK (w3.drewN q) L B s pl (.slice p (Wl.waits s).length cap)):=au.out.below (below_drewN _ w3 q);have bx:=GD (HV.out.below (below_drewN _ w3 q));have al:Hid ((w3.drewN q).heap[Q]?=_):=ao.out;generalize w3.drewN q=w4 at*
    have bP:=b.out.log.cell 8 (v:=.slice p (Wl.waits s).length cap) rfl;clear a7;go_upto_region 10 with(fail)
    iterate 19 go_step
    have aU:=bx.out.aP;rw[<-aF.out]at aU;have bS:Hid ((Wl.waits s).length+sz<=2000000):=by
     have G:s.ag+(Wl.waits s).length=s.stop:=aA.out;have h2:s.start/52*52<=s.start:=Nat.div_mul_le_self _ _;have y:=b.out.ex.aI.low;have h4:=bL.out;have h5:=b5.out;unfold Wl.left at h5;show _<=_;omega
    refine wpList_plain rfl fun K k=>qO (.tmp 40) (.tmp 41) rfl 0 (.slice p (Wl.waits s).length cap) (Wl.waits s) rfl b.out.CO (.slice pv sz cv) (Lr.form (Wl.aV s x)) rfl aU (by rw[<-aF.out];have:=bS.out;omega) (G7 _) fun v5 w5 X bR br M=>k _ _ ?_;clear k aU bP;have O:Touch (fun i=>(Value.slice p (Wl.waits s).length cap).ownBlock=some i) w4 w5:=Touch.EO br fun g hg=>hg;rw[<-Wl.xl b.out.ex.aI]at X;obtain⟨p5,c5,rfl⟩:=X.aP.slice;obtain⟨n5,aM⟩:∃n,n=(Wl.waits (Wl.app s x)).length:=⟨_,rfl⟩
    rw[<-aM]at X M⊢;obtain⟨v5,ad⟩:∃v,v=Value.slice p5 n5 c5:=⟨_,rfl⟩
    rw[<-ad]at X M;have aE:=b.out.log.aj O b.out.Ff;have bf:=b.out.Ez.aj O fun i f=>b.out.apart i f;have bd:=O.row al.out (fun h=>aG.out Q (GL (GL h)) rfl);have aY:v5.ownBlock=(Value.slice p (Wl.waits s).length cap).ownBlock\/∃i,v5.ownBlock=some i/\w4.heap.size<=i:=M.imp id fun h=>⟨_,h,GH _⟩
    have bu:Touch (pC L pl (.slice p (Wl.waits s).length cap)) w w5:=(Touch.ax aB.out).trans (O.mono fun i _ f=>GL (GL f));have f8:=aC aE 8;have g8:=aR.cell aE 8 (v:=.slice p (Wl.waits s).length cap) rfl;have s8:aR (w5.setCell ⟨L,8,none⟩ v5) L (Wl.kn s) B s.at_ s.count pl v5 false:=aN (i:=8) aE _;have t8:Touch (fun i=>i=L) w5 (w5.setCell ⟨L,8,none⟩ v5):=.set L 8 _ rfl;have ar:Hid (v5.ownBlock≠some L):=fun h=>by
     rcases aY with G|⟨i,G,h2⟩
     ·exact b.out.Ff (G▸h)
     ·rw[h]at G;have y:=b.out.log.lt;have:L=i:=GZ G;omega
    have bF:=GD (X.bq t8 fun i f e=>ar.out (e▸f));have bW:=GD (bf.aj t8 fun i f e=>b.out.ED (e▸f));have bD:=GD (t8.row bd (fun h=>aH.out h.symm));have bU:=GD (bu.trans (t8.mono fun i _ f=>GJ f));have bJ:=GD aY;have b2:=GD s8;have bT:=GD aB.out.size;have a8:=GD b.out.ex;have a6:=GD b.out.ED;have bO:=GD b.out.apart;have bK:=GD b.out.lt;have bw:Hid (w4.heap.size<=(w5.setCell ⟨L,8,none⟩ v5).heap.size):=GR O.size t8.size;subst ad;clear aM;go_upto_region 11 with(fail)
    clear f8 g8 s8 t8 aE bf bd bu X bR br M aY O b al bx HV au ao aS av bC aQ E;generalize w5.setCell ⟨L,8,none⟩ (.slice p5 n5 c5)=W8 at*
    have bH:Hid (¬(Q=L\/pl.ownBlock=some Q)):=fun h=>h.elim (fun h=>aH.out h.symm) fun h=>aG.out Q (GL (GJ h)) rfl;have a2:Hid (∀i,(i=L\/pl.ownBlock=some i)->i<W8.heap.size):=fun i f=>by
     have G:=bK.out i (f.elim GJ fun h=>GL (GJ h));have h2:=bw.out;omega
    refine Ord.walk (xb L Q s.stop W8.heap.size pl) (fun D xs w'=>mY W8 L (Wl.kn s) B s.at_ s.count pl (.slice p5 n5 c5) (Wl.places s) s.stop D xs w') (Touch (fun i=>i=L\/pl.ownBlock=some i))
     (by kernel_rfl) (by kernel_rfl) ?fr2 ?hfr2 (fun i v w w' hb h=>xM a2.out i v w w' hb h) (fun xs=>mY.first bW.out b2.out) ?he2 ?hend2
    case hfr2=>
     intro xs;simp only[Ord.fill,Act.put,GP,GX,GV];rfl
    case he2=>
     iterate 12 (refine Ord.aa (fun D xs w2 hD hC hP hR l K k=>?_) ?_;rotate_left)
     rotate_left
     ·clear l;go_simp;exact k _ _ ⟨_,rfl,Touch.refl _ _,mY.skip hR 0 (by decide) (by decide) _ (GF _ _),rfl⟩
     ·clear l;go_simp;exact k _ _ ⟨_,rfl,Touch.refl _ _,mY.skip hR 1 (by decide) (by decide) _ (GF _ _),rfl⟩
     ·have q1:=Ord.ab _ l 1 (by decide);simp only[xb]at q1;simp only[q1]at k;clear l;go_simp;exact k _ _ ⟨_,rfl,Touch.refl _ _,mY.skip hR 2 (by decide) (by decide) _ (GF _ _),rfl⟩
     ·have q2:=Ord.ab _ l 2 (by decide);simp only[xb]at q2;simp only[q2]at k;clear l;go_simp;exact k _ _ ⟨_,rfl,Touch.refl _ _,mY.skip hR 3 (by decide) (by decide) _ (GF _ _),rfl⟩
     ·have q3:=Ord.ab _ l 3 (by decide);simp only[xb]at q3;simp only[q3]at k;clear l;have h8:D 8=false:=by
       cases hx:D 8 with
       |false=>rfl
       |true=>exact absurd (Ord.af hC 8 4 rfl hx) (by rw[hD];decide)
      have Y:D 11=false:=by
       cases hx:D 11 with
       |false=>rfl
       |true=>exact absurd (Ord.af hC 11 8 rfl hx) (by rw[h8];decide)
      have cc:=mY.at_ hR Y;have cc:=aR.cell cc 7 (v:=pl) rfl;go_simp;exact k _ _ ⟨_,rfl,Touch.refl _ _,mY.skip hR 4 (by decide) (by decide) _ (GF _ _),rfl⟩
     ·clear l;go_simp;exact k _ _ ⟨_,rfl,Touch.refl _ _,mY.skip hR 5 (by decide) (by decide) _ (GF _ _),rfl⟩
     ·have q5:=Ord.ab _ l 5 (by decide);simp only[xb]at q5;simp only[q5]at k;clear l;have cc:=hR.t.row bD.out bH.out;have cc:=(aq cc).2.1;go_simp;exact k _ _ ⟨_,rfl,Touch.refl _ _,mY.skip hR 6 (by decide) (by decide) _ (GF _ _),rfl⟩
     ·have q6:=Ord.ab _ l 6 (by decide);simp only[xb]at q6;simp only[q6]at k;clear l;go_simp;exact k _ _ ⟨_,rfl,Touch.ax (ae _ _),mY.skip hR 7 (by decide) (by decide) _ (ae _ _),_,rfl,AG _ _ _,hR.t.size⟩
     ·have q4:=Ord.ab _ l 4 (by decide);simp only[xb]at q4;have q7:=Ord.ab _ l 7 (by decide);simp only[xb]at q7;obtain⟨gx,q7,bQ,-⟩:=q7;clear l;have Y:D 11=false:=by
       cases hx:D 11 with
       |false=>rfl
       |true=>exact absurd (Ord.af hC 11 8 rfl hx) (by rw[hD];decide)
      simp only[Region.wanted,if_true];refine qN (.tmp 49) (.tmp 52) rfl q4 (hR.q hD) s.stop gx q7 bQ (GR (Wl.vi a8.out) (by decide)) (G7 _) fun v' w' hq hg P=>?_;have ht:Touch (fun i=>pl.ownBlock=some i) w2 w':=Touch.EO hg fun g hg=>hg;exact k _ _ ⟨_,rfl,ht.mono (fun i _ f=>GL f),mY.app hR hD Y a6.out hq ht P,trivial⟩
     ·have q0:=Ord.ab _ l 0 (by decide);simp only[xb]at q0;simp only[q0]at k;clear l;go_simp;exact k _ _ ⟨_,rfl,Touch.refl _ _,mY.skip hR 9 (by decide) (by decide) _ (GF _ _),rfl⟩
     ·have q9:=Ord.ab _ l 9 (by decide);simp only[xb]at q9;simp only[q9]at k;clear l;go_simp;exact k _ _ ⟨_,rfl,Touch.refl _ _,mY.skip hR 10 (by decide) (by decide) _ (GF _ _),rfl⟩
     ·have ba:=Ord.ab _ l 10 (by decide);simp only[xb]at ba;simp only[ba]at k;clear l;have h8:=hP {on:=8,ground:=.data} (by simp) rfl;obtain⟨p8,c8,e8⟩:=(hR.r h8).1.qu.slice;obtain⟨n8,bj⟩:∃n,n=(Wl.places s++[s.stop]).length:=⟨_,rfl⟩
      rw[<-bj]at e8;have aL:=mY.put hR h8 hD a6.out (a2.out L (GJ rfl)) undef;rw[e8]at aL;simp only[e8]at k⊢;clear e8 bj;have ff:=aC (hR.at_ hD) 7;have cc:=aR.cell (hR.at_ hD) 7 (v:=pl) rfl;go_simp;exact k _ _ ⟨undef,rfl,.set L 7 _ (GJ rfl),aL,trivial⟩
     exact Ord.ay
    case hend2=>
     intro D xs Z2 hR a;have h8:=(a 8 (by decide)).1;have Y:=(a 11 (by decide)).1;obtain⟨hq,P⟩:=hR.r h8;have hl:=hR.EA Y;have ht:=hR.t;clear hR a;have m:=ht.row bD.out bH.out;have c1:=(aq m).2.1;have bg:∀i,pl.ownBlock=some i->i<w4.heap.size:=fun i h=>bK.out i (GL (GJ h));have ad:∀i,(Value.slice p5 n5 c5).ownBlock=some i->i<W8.heap.size:=fun i h=>bF.out.Bp i h;have ai:∀i,pl.ownBlock=some i->(Value.slice p5 n5 c5).ownBlock≠some i:=fun i G h2=>by
      rcases bJ.out with y|⟨j,y,h4⟩
      ·exact bO.out i G (y▸h2)
      ·rw[h2]at y;have h5:=GZ y;have h6:=bg i G;omega
     have hO:=bF.out.bq ht (fun i f h=>by
      rcases h with h|h
      ·exact ar.out (h▸f)
      ·exact ai i h f)
     generalize xs 8=v8 at*
     have bt:∀i,v8.ownBlock=some i->(Value.slice p5 n5 c5).ownBlock≠some i:=fun i G h2=>by
      rcases P with y|⟨j,y,h4⟩
      ·exact ai i (y▸G) h2
      ·rw[G]at y;have h5:=GZ y;have h6:=ad i h2;omega
     have bh:v8.ownBlock≠some L:=fun h=>by
      rcases P with y|⟨j,y,h4⟩
      ·exact a6.out (y▸h)
      ·rw[h]at y;have h5:=GZ y;have h6:=a2.out L (GJ rfl);omega
     have hT:Touch (pC L pl (.slice p (Wl.waits s).length cap)) w Z2:=bU.out.trans (ht.mono fun i _ f=>f.elim GJ fun h=>GL (GJ h));have bo:∀i,pC L v8 (.slice p5 n5 c5) i->pC L pl (.slice p (Wl.waits s).length cap) i\/w.heap.size<=i:=fun i f=>by
      have G:=bT.out;have h2:=bw.out;rcases f with f|f|f
      ·exact GJ (GJ f)
      ·rcases P with y|⟨j,y,h4⟩
       ·exact GJ (GL (GJ (y▸f)))
       ·rw[f]at y;have h5:=GZ y;exact GL (by omega)
      ·rcases bJ.out with y|⟨j,y,h4⟩
       ·exact GJ (GL (GL (y▸f)))
       ·rw[f]at y;have h5:=GZ y;exact GL (by omega)
     have hM:mK Z2 L B (Wl.app s x) v8 (.slice p5 n5 c5):=⟨Wl.DW a8.out HM.out (Wl.sr bX.out aO.out aT.out) b3.out,hl,by rw[Wl.vj];exact hq,hO,bh,ar.out,bt⟩
     have bY:=GD hM;have bz:=GD hT;have bM:=GD bo;clear hM hT bo bt bh hO ai ad bg ht hl hq P h8 Y m;go_wp2_with fail
     go_ret2
     refine⟨by rw[F.out];rfl,pC L v8 (.slice p5 n5 c5),?_,bz.out,bM.out⟩;rw[F.out];refine⟨m1,m2,v8,.slice p5 n5 c5,bY.out,rfl,HP.out.bq bz.out (fun i f hv=>bN.out i f hv),rfl,fun i f hv=>?_,said,GR bV.out (Nat.le_add_right _ _),HD.out.app a8.out.aI x⟩;rcases bM.out i hv with h|h
     ·exact bN.out i f h
     ·have h2:=HP.out.lt i f;omega
abbrev Eb(k:Wl.Kn):Array Value:=#[.int .u64 (k.start:Int),.int .u64 (k.ag:Int),.int .u64 (k.dS:Int),.int .u32 (k.an:Int)]
abbrev Ga(k:Wl.Kn):Value:=.agg (Eb k)
def jY(L a c W:Nat)(i:Nat)(v:Value)(w:World):Prop:=
 match i with
 |0=>v=.pointer (some ⟨L,0,none⟩)
 |1=>v=.pointer (some ⟨L,0,none⟩)
 |2=>v=.pointer (some ⟨L,5,none⟩)
 |3=>v=.int .i64 (a:Int)
 |4=>v=.int .u32 (a:Int)
 |5=>Own W w v ([]++aH.le 4 a)
 |6=>v=.pointer (some ⟨L,0,none⟩)
 |7=>v=.pointer (some ⟨L,0,none⟩)
 |8=>v=.pointer (some ⟨L,6,none⟩)
 |9=>v=.int .i64 (c:Int)
 |10=>v=.int .u32 (c:Int)
 |11=>Own W w v (([]++aH.le 4 a)++aH.le 4 c)
 |12=>Own W w v (([]++aH.le 4 a)++aH.le 4 c)
 |_=>True
theorem vZ(L a c W:Nat)(i:Nat)(v:Value)(w w':World)(b:Below w.heap.size w w')(h:jY L a c W i v w):jY L a c W i v w':=by
 unfold jY at*
 split at h<;>first|exact h|exact h.below b|trivial
def lh(k:Wl.Kn)(Q W:Nat)(l:List Nat)(u:Value)(i:Nat)(v:Value)(w:World):Prop:=
 match i with
 |0=>v=u
 |1=>v=.pointer (some ⟨Q,0,none⟩)
 |2=>v=.int .u64 (k.start:Int)
 |3=>Own W w v (l++aH.le 8 k.start)
 |4=>v=.pointer (some ⟨Q,1,none⟩)
 |5=>v=.int .u64 (k.ag:Int)
 |6=>Own W w v ((l++aH.le 8 k.start)++aH.le 8 k.ag)
 |7=>v=.pointer (some ⟨Q,2,none⟩)
 |8=>v=.int .u64 (k.dS:Int)
 |9=>Own W w v (((l++aH.le 8 k.start)++aH.le 8 k.ag)++aH.le 8 k.dS)
 |10=>Own W w v (((l++aH.le 8 k.start)++aH.le 8 k.ag)++aH.le 8 k.dS)
 |_=>True
theorem vY(k:Wl.Kn)(Q W:Nat)(l:List Nat)(u:Value)(i:Nat)(v:Value)(w w':World)(a:Below w.heap.size w w')(h:lh k Q W l u i v w):lh k Q W l u i v w':=by
 unfold lh at*
 split at h<;>first|exact h|exact h.below a|trivial
set_option maxHeartbeats 3200000 in
set_option maxRecDepth 20000 in
theorem um{w:World}{L B a c:Nat}{k0:Wl.Kn}{pl wa:Value}{dn:Bool}(h:aR w L k0 B a c pl wa dn)(k:Wl.Kn)(ha:a<=65536)(hc:c<=8192):
 Calls Tryz.prog 101 #[.pointer (some ⟨L,0,none⟩),Ga k] w fun e w'=>∃u,e=.returned u/\Own w.heap.size w' u (Wl.head a c k)/\Below w.heap.size w w':=by
 obtain⟨W,hW⟩:∃W,W=w.alloc (.cells (Eb k) 120):=⟨_,rfl⟩
 have J:Below w.heap.size w W:=by rw[hW];exact ae _ _
 have o:W.heap[w.heap.size]?=some (.cells (Eb k) 120 (0,0)):=by rw[hW];exact GM _ _
 obtain⟨Q,hQ⟩:∃Q,Q=w.heap.size:=⟨_,rfl⟩
 rw[<-hQ]at o;have hl:=h.below J;have ax:Hid (L<W.heap.size):=hl.lt;have C5:=GD (hl.cell 5 (v:=.int .i64 (a:Int)) rfl);have C6:=GD (hl.cell 6 (v:=.int .i64 (c:Int)) rfl);have WA:Hid (IntKind.u32.wrap (a:Int)=(a:Int)):=Jn _ (by omega);have WC:Hid (IntKind.u32.wrap (c:Int)=(c:Int)):=Jn _ (by omega);have E:=GD o;have ad:=GD J;have HQ:=GD hQ;clear hl h J o ha hc;go_enter Tryz.func101,Tryz.ntmps101;go_upto_region 1 with(fail)
 rw[<-hW,<-hQ];clear hW hQ;refine Ord.walk (jY L a c W.heap.size) (fun _ _ w'=>Below W.heap.size W w') (fun a b=>Below a.heap.size a b)
  (by kernel_rfl) (by kernel_rfl) ?fra ?hfra (fun i v w w' l h=>vZ _ _ _ _ i v w w' l h) (fun xs=>(GF _ _).ij) ?hea ?henda
 case hfra=>
  intro xs;simp only[Ord.fill,Act.put,GP,GX,GV];rfl
 case hea=>
  iterate 13 (refine Ord.aa (fun D xs w2 hD hC hP hR d K f=>?_) ?_;rotate_left)
  rotate_left
  ·clear d;go_simp;exact f _ _ ⟨_,rfl,GF _ _,hR,rfl⟩
  ·have q0:=Ord.ab _ d 0 (by decide);simp only[jY]at q0;simp only[q0]at f;clear d;go_simp;exact f _ _ ⟨_,rfl,GF _ _,hR,rfl⟩
  ·have q1:=Ord.ab _ d 1 (by decide);simp only[jY]at q1;simp only[q1]at f;clear d;go_simp;exact f _ _ ⟨_,rfl,GF _ _,hR,rfl⟩
  ·have q2:=Ord.ab _ d 2 (by decide);simp only[jY]at q2;simp only[q2]at f;clear d;have z:=hR.cell (p:=⟨L,5,none⟩) ax.out;rw[C5.out]at z;go_simp;exact f _ _ ⟨_,rfl,GF _ _,hR,rfl⟩
  ·have q3:=Ord.ab _ d 3 (by decide);simp only[jY]at q3;simp only[q3]at f;clear d;go_simp;rw[WA.out];exact f _ _ ⟨_,rfl,GF _ _,hR,rfl⟩
  ·have q4:=Ord.ab _ d 4 (by decide);simp only[jY]at q4;simp only[q4]at f;clear d;go_simp;refine(da (.slice none 0 0) [] a w2 (aO w2) (by decide)).mono ?_;rintro e w'⟨u,rfl,y,l⟩;exact f _ _ ⟨_,rfl,l,hR.trans (l.mono hR.size),y.from hR.size⟩
  ·clear d;go_simp;exact f _ _ ⟨_,rfl,GF _ _,hR,rfl⟩
  ·have q6:=Ord.ab _ d 6 (by decide);simp only[jY]at q6;simp only[q6]at f;clear d;go_simp;exact f _ _ ⟨_,rfl,GF _ _,hR,rfl⟩
  ·have q7:=Ord.ab _ d 7 (by decide);simp only[jY]at q7;simp only[q7]at f;clear d;go_simp;exact f _ _ ⟨_,rfl,GF _ _,hR,rfl⟩
  ·have q8:=Ord.ab _ d 8 (by decide);simp only[jY]at q8;simp only[q8]at f;clear d;have z:=hR.cell (p:=⟨L,6,none⟩) ax.out;rw[C6.out]at z;go_simp;exact f _ _ ⟨_,rfl,GF _ _,hR,rfl⟩
  ·have q9:=Ord.ab _ d 9 (by decide);simp only[jY]at q9;simp only[q9]at f;clear d;go_simp;rw[WC.out];exact f _ _ ⟨_,rfl,GF _ _,hR,rfl⟩
  ·have aj:=Ord.ab _ d 10 (by decide);simp only[jY]at aj;have q5:=Ord.ab _ d 5 (by decide);simp only[jY]at q5;simp only[aj]at f;clear d;go_simp;refine(da (xs 5) _ c w2 q5.aP (by rw[GI,aH.al];decide)).mono ?_;rintro e w'⟨u,rfl,y,l⟩;exact f _ _ ⟨_,rfl,l,hR.trans (l.mono hR.size),y.from hR.size⟩
  ·have ai:=Ord.ab _ d 11 (by decide);simp only[jY]at ai;clear d;go_simp;exact f _ _ ⟨_,rfl,GF _ _,hR,ai⟩
  exact Ord.ay
 case henda=>
  intro D xs w9 hR j;have X:=(j 0 (by decide)).2;have V:=(j 1 (by decide)).2;have T:=(j 2 (by decide)).2;have e3:=(j 3 (by decide)).2;have S:=(j 4 (by decide)).2;have e6:=(j 6 (by decide)).2;have R:=(j 7 (by decide)).2;have P:=(j 8 (by decide)).2;have e9:=(j 9 (by decide)).2;have U:=(j 10 (by decide)).2;have m:=(j 12 (by decide)).2;simp only[jY]at X V T e3 S e6 R P e9 U m;rw[X];rw[V];rw[T];rw[e3];rw[S];rw[e6];rw[R];rw[P];rw[e9];rw[U];clear X V T e3 S e6 R P e9 U;clear j;generalize xs 5=x5 at*
  generalize xs 11=x11 at*
  generalize xs 12=F at*
  rw[Hg]at m;have av:=GD m;have s:=GD hR;clear hR m;obtain⟨W1,aq⟩:∃W1,W1=w9:=⟨_,rfl⟩
  rw[<-aq]at av s⊢;clear aq;have n:Hid (W1.heap[Q]?=some (.cells (Eb k) 120 (0,0))):=(s.out.block Q (GN E.out)).trans E.out;have Y:Hid (Q<W1.heap.size):=GN n.out;have D0:=GD (ah n.out 0 (v:=.int .u64 (k.start:Int)) rfl);have D1:=GD (ah n.out 1 (v:=.int .u64 (k.ag:Int)) rfl);have D2:=GD (ah n.out 2 (v:=.int .u64 (k.dS:Int)) rfl);go_upto_region 2 with(fail)
  refine Ord.CN (lh k Q W1.heap.size (aH.le 4 a++aH.le 4 c) F) (fun D xs w'=>Below W1.heap.size W1 w'/\(D 10=false->xs 10=F)) (fun a b=>Below a.heap.size a b)
   (by kernel_rfl) (by kernel_rfl) ?frb ?hfrb (fun i v w w' l h=>vY _ _ _ _ _ i v w w' l h) (fun xs hx=>⟨(GF _ _).ij,fun _=>hx 10⟩) ?heb ?hendb
  case hfrb=>
   intro xs;simp only[Ord.fill,Act.put,GP,GX,GV];rfl
  case heb=>
   iterate 11 (refine Ord.aa (fun D xs w2 hD hC hP hR d K f=>?_) ?_;rotate_left)
   rotate_left
   ·clear d;have aC:=hR.2 (by cases hx:D 10 with|false=>rfl|true=>exact absurd (Ord.af hC 10 0 rfl hx) (by rw[hD];decide));rw[aC]at f⊢;obtain⟨hR,g⟩:=hR;go_simp;exact f _ _ ⟨_,rfl,GF _ _,⟨hR,fun h=>g h⟩,rfl⟩
   ·clear d;obtain⟨hR,g⟩:=hR;go_simp;exact f _ _ ⟨_,rfl,GF _ _,⟨hR,fun h=>g h⟩,rfl⟩
   ·have q1:=Ord.ab _ d 1 (by decide);simp only[lh]at q1;simp only[q1]at f;clear d;obtain⟨hR,g⟩:=hR;have z:=hR.cell (p:=⟨Q,0,none⟩) Y.out;rw[D0.out]at z;go_simp;exact f _ _ ⟨_,rfl,GF _ _,⟨hR,fun h=>g h⟩,rfl⟩
   ·have q2:=Ord.ab _ d 2 (by decide);simp only[lh]at q2;have q0:=Ord.ab _ d 0 (by decide);simp only[lh]at q0;simp only[q2,q0]at f;clear d;obtain⟨hR,g⟩:=hR;go_simp;refine(fE F _ k.start w2 (av.out.aP.below hR) (by rw[GI,aH.al,aH.al];decide)).mono ?_;rintro e w'⟨u,rfl,y,l⟩;exact f _ _ ⟨_,rfl,l,⟨hR.trans (l.mono hR.size),fun h=>g h⟩,y.from hR.size⟩
   ·clear d;obtain⟨hR,g⟩:=hR;go_simp;exact f _ _ ⟨_,rfl,GF _ _,⟨hR,fun h=>g h⟩,rfl⟩
   ·have q4:=Ord.ab _ d 4 (by decide);simp only[lh]at q4;simp only[q4]at f;clear d;obtain⟨hR,g⟩:=hR;have z:=hR.cell (p:=⟨Q,1,none⟩) Y.out;rw[D1.out]at z;go_simp;exact f _ _ ⟨_,rfl,GF _ _,⟨hR,fun h=>g h⟩,rfl⟩
   ·have q5:=Ord.ab _ d 5 (by decide);simp only[lh]at q5;have q3:=Ord.ab _ d 3 (by decide);simp only[lh]at q3;simp only[q5]at f;clear d;obtain⟨hR,g⟩:=hR;go_simp;refine(fE (xs 3) _ k.ag w2 q3.aP (by simp only[GI,aH.al];decide)).mono ?_;rintro e w'⟨u,rfl,y,l⟩;exact f _ _ ⟨_,rfl,l,⟨hR.trans (l.mono hR.size),fun h=>g h⟩,y.from hR.size⟩
   ·clear d;obtain⟨hR,g⟩:=hR;go_simp;exact f _ _ ⟨_,rfl,GF _ _,⟨hR,fun h=>g h⟩,rfl⟩
   ·have q7:=Ord.ab _ d 7 (by decide);simp only[lh]at q7;simp only[q7]at f;clear d;obtain⟨hR,g⟩:=hR;have z:=hR.cell (p:=⟨Q,2,none⟩) Y.out;rw[D2.out]at z;go_simp;exact f _ _ ⟨_,rfl,GF _ _,⟨hR,fun h=>g h⟩,rfl⟩
   ·have q8:=Ord.ab _ d 8 (by decide);simp only[lh]at q8;have q6:=Ord.ab _ d 6 (by decide);simp only[lh]at q6;simp only[q8]at f;clear d;obtain⟨hR,g⟩:=hR;go_simp;refine(fE (xs 6) _ k.dS w2 q6.aP (by simp only[GI,aH.al];decide)).mono ?_;rintro e w'⟨u,rfl,y,l⟩;exact f _ _ ⟨_,rfl,l,⟨hR.trans (l.mono hR.size),fun h=>g h⟩,y.from hR.size⟩
   ·have q9:=Ord.ab _ d 9 (by decide);simp only[lh]at q9;clear d;obtain⟨hR,g⟩:=hR;go_simp;exact f _ _ ⟨_,rfl,GF _ _,⟨hR,fun h=>Bool.noConfusion (show true=false from h)⟩,q9⟩
   exact Ord.ay
  case hendb=>
   intro D xs w9 hR j;obtain⟨hR,-⟩:=hR;have X:=(j 0 (by decide)).2;have V:=(j 1 (by decide)).2;have T:=(j 2 (by decide)).2;have S:=(j 4 (by decide)).2;have e5:=(j 5 (by decide)).2;have R:=(j 7 (by decide)).2;have P:=(j 8 (by decide)).2;have q:=(j 10 (by decide)).2;simp only[lh]at X V T S e5 R P q;rw[X];rw[V];rw[T];rw[S];rw[e5];rw[R];rw[P];clear X V T S e5 R P;clear j;generalize xs 3=x3 at*
   generalize xs 6=x6 at*
   generalize xs 9=x9 at*
   generalize xs 10=x10 at*
   have aL:=GD q;have Z:=GD hR;have aF:Hid (w9.heap[Q]?=some (.cells (Eb k) 120 (0,0))):=(Z.out.block Q (GN n.out)).trans n.out;have d3:=ah aF.out 3 (v:=.int .u32 (k.an:Int)) rfl;clear hR q;go_wp2_with fail
   refine(da x10 _ k.an w9 aL.out.aP (by simp only[GI,aH.al];decide)).mono ?_;rintro e w3⟨u3,rfl,O,ao⟩;have HB:Hid (Wl.jN a c k=(((aH.le 4 a++aH.le 4 c)++aH.le 8 k.start++aH.le 8 k.ag)++aH.le 8 k.dS)++aH.le 4 k.an):=rfl;rw[<-HB.out]at O;have au:=GD O;have aB:=GD (Z.out.trans (ao.mono Z.out.size));have az:=GD (Wl.lO a c k);clear O ao d3 HB;go_wp2_with fail
   refine(ln u3 _ w3 au.out.aP).mono ?_;rintro e w4⟨rfl,I⟩;have aK:=GD (au.out.below I);have r:=GD (aB.out.trans (I.mono aB.out.size));clear I;go_wp2_with fail
   refine(da (.slice none 0 0) [] (dK.more 0 (Wl.jN a c k)) w4 (aO w4) (by decide)).mono ?_;rintro e w5⟨u5,rfl,N,t⟩;rw[Hg]at N;have aJ:=GD N;have aD:=GD (aK.out.below t);have ar:Hid (w4.heap.size<=w5.heap.size):=t.size;have aQ:=GD t;clear N t;dsimp only;iterate 4 go_step
   refine aA rfl (.tmp 34) (.tmp 35) rfl w4.heap.size u5 _ rfl aJ.out u3 _ rfl aD.out.aP (by rw[aH.al,az.out];decide) ar.out ?_;intro u6 w6 x H _;have G:(aH.le 4 (dK.more 0 (Wl.jN a c k))++Wl.jN a c k).length=40:=by rw[GI,aH.al,az.out]
   obtain⟨p6,c6,rfl,-,-,-⟩:=x.aP.form;rw[G]at x⊢;have aI:=GD x;have aw:=GD G;have aN:=GD ((r.out.trans (aQ.out.mono r.out.size)).trans (H.mono r.out.size));have aE:Hid (w4.heap.size<=w6.heap.size):=GR ar.out H.size;clear x H G;have aS:IntKind.i64.wrap (128-40)=((88:Nat):Int):=by rw[GW _ (by decide)];rfl
   obtain⟨b7,w7,A,M,ak⟩:=me aI.out (by rw[aw.out];decide) 88 (by rw[aw.out];decide) aE.out 57;rw[show(aH.le 4 (dK.more 0 (Wl.jN a c k))++Wl.jN a c k)++List.replicate 88 0=Wl.head a c k from rfl]at M;have aG:=GD M;have aM:=GD (aN.out.trans (ak.mono r.out.size));have C:=GD A;clear M ak A;go_upto_region 5 with(fail)
   iterate 13 go_step
   refine Lib.wpList_append_run _ rfl (.tmp 37) (.tmp 40) _ _ rfl _ _ rfl rfl _ _ C.out ?_;clear C;go_wp2_with fail
   go_ret;refine⟨_,rfl,aG.out.from ?_,ad.out.trans ((s.out.trans (aM.out.mono s.out.size)).mono ad.out.size)⟩;exact GR (GR ad.out.size s.out.size) r.out.size
def jb(x:Wl.Hf):Array Value:=(.int .u32 (x.round:Int):: .int .u32 (x.an:Int):: .int .u32 (x.fill:Int)::ai x.log).toArray
abbrev CY(x:Wl.Hf):Value:=.agg (jb x)
def kA(w:World)(g:Nat)(x:Wl.Hf):Prop:=w.heap[g]?=some (.cells (jb x) 180 (0,0))
abbrev yX:Array Value:=#[.int .u32 0,.int .u32 0,.int .u32 0,.int .u8 0,.int .u8 0,.int .u8 0,.int .u8 0,.int .u8 0,.int .u8 0,.int .u8 0,.int .u8 0,.int .u8 0,.int .u8 0,.int .u8 0,.int .u8 0,.int .u8 0,.int .u8 0,.int .u8 0,.int .u8 0,.int .u8 0,.int .u8 0,.int .u8 0,.int .u8 0,.int .u8 0,.int .u8 0,.int .u8 0,.int .u8 0,.int .u8 0,.int .u8 0,.int .u8 0,.int .u8 0,.int .u8 0,.int .u8 0,.int .u8 0,.int .u8 0,.int .u8 0,.int .u8 0,.int .u8 0,.int .u8 0,.int .u8 0,.int .u8 0,.int .u8 0,.int .u8 0,.int .u8 0,.int .u8 0,.int .u8 0,.int .u8 0,.int .u8 0,.int .u8 0,.int .u8 0,.int .u8 0,.int .u8 0,.int .u8 0,.int .u8 0,.int .u8 0]
abbrev E2(r e f:Nat):Array Value:=#[.int .u32 (r:Int),.int .u32 (e:Int),.int .u32 (f:Int),.int .u8 0,.int .u8 0,.int .u8 0,.int .u8 0,.int .u8 0,.int .u8 0,.int .u8 0,.int .u8 0,.int .u8 0,.int .u8 0,.int .u8 0,.int .u8 0,.int .u8 0,.int .u8 0,.int .u8 0,.int .u8 0,.int .u8 0,.int .u8 0,.int .u8 0,.int .u8 0,.int .u8 0,.int .u8 0,.int .u8 0,.int .u8 0,.int .u8 0,.int .u8 0,.int .u8 0,.int .u8 0,.int .u8 0,.int .u8 0,.int .u8 0,.int .u8 0,.int .u8 0,.int .u8 0,.int .u8 0,.int .u8 0,.int .u8 0,.int .u8 0,.int .u8 0,.int .u8 0,.int .u8 0,.int .u8 0,.int .u8 0,.int .u8 0,.int .u8 0,.int .u8 0,.int .u8 0,.int .u8 0,.int .u8 0,.int .u8 0,.int .u8 0,.int .u8 0]
theorem DQ:yX=jb ⟨0,0,0,List.replicate 52 0⟩:=by kernel_rfl
theorem A2(r e f:Nat):E2 r e f=jb ⟨r,e,f,List.replicate 52 0⟩:=by kernel_rfl
theorem lK(x:Wl.Hf):(jb x).size=3+x.log.length:=by
 unfold jb;simp only[Ir,G2,aE];omega
theorem ki{x:Wl.Hf}(h:x.log.length=52):(Tryz.prog.info? 180).map (·.size)=some (jb x).size:=by
 rw[lK,h];kernel_rfl
theorem oM(x:Wl.Hf):(jb x).all (·.oneCell')=true:=by
 unfold jb;rw[Array.all_eq_true];intro i b;simp only[Ir,G2]at b;obtain rfl|rfl|rfl|⟨j,rfl⟩:i=0\/i=1\/i=2\/∃j,i=j+3:=by
  by_cases h:i<3
  ·omega
  ·exact GL (GL (GL ⟨i-3,by omega⟩))
 ·rfl
 ·rfl
 ·rfl
 ·simp only[List.getElem_toArray,List.getElem_cons_succ];have hm:(ai x.log)[j]∈ai x.log:=Ie _;obtain⟨y,-,a⟩:=List.mem_map.1 hm;rw[<-a];rfl
theorem kA.cell{w:World}{g:Nat}{x:Wl.Hf}(h:kA w g x){i:Nat}(a:i<x.log.length):w.cell? ⟨g,3+i,none⟩=some (.int .u8 (x.log.getD i 0:Nat)):=by
 rw[Iq w g _ _ _ _ h];unfold jb;rw[show 3+i=i+1+1+1 by omega];simp[ai,a,GG]
theorem kA.c0{w:World}{g:Nat}{x:Wl.Hf}(h:kA w g x):w.cell? ⟨g,0,none⟩=some (.int .u32 (x.round:Int)):=by rw[Iq w g _ _ _ _ h];rfl
theorem kA.c1{w:World}{g:Nat}{x:Wl.Hf}(h:kA w g x):w.cell? ⟨g,1,none⟩=some (.int .u32 (x.an:Int)):=by rw[Iq w g _ _ _ _ h];rfl
theorem kA.c2{w:World}{g:Nat}{x:Wl.Hf}(h:kA w g x):w.cell? ⟨g,2,none⟩=some (.int .u32 (x.fill:Int)):=by rw[Iq w g _ _ _ _ h];rfl
theorem kA.aP{w:World}{g:Nat}{x:Wl.Hf}(h:kA w g x)(hl:x.log.length=52)(hs:∀b∈x.log,b<256):aJ w (.slice (some ⟨g,3,none⟩) 52 52) x.log:=
 ⟨⟨some ⟨g,3,none⟩,52,by rw[hl],⟨by rw[hl];exact GH _,by decide⟩,(fun h=>by cases h),fun _=>⟨g,3,rfl,fun i a=>h.cell a⟩⟩,hs,by rw[hl];decide⟩
theorem kT:(Tryz.prog.info? 5).map (·.size)=some 1:=by kernel_rfl
theorem mz{w:World}{g o dl dc:Nat}{x:Wl.Hf}{v:Value}{l:List Nat}(f:kA w g x)(k:x.log.length=52)(A:o+dl<=52)(z:aJ w v l):
 ∃w',(∀ty,(Builtin.copy_ #[57,57] ty #[.slice (some ⟨g,3+o,none⟩) dl dc,v]).run Tryz.prog w=.ok (.int .i64 ((min l.length dl:Nat):Int)) w')/\
  kA w' g {x with log:=x.log.take o++l.take (min l.length dl)++x.log.drop (o+min l.length dl)}/\Touch (·=g) w w':=by
 obtain⟨n,d⟩:∃n,min l.length dl=n:=⟨_,rfl⟩
 rw[d];obtain⟨p,cap,rfl,-,q,hp⟩:=z.form;have a:(ai (l.take n)).length=n:=by rw[aE,Hj];omega
 by_cases h0:n=0
 ·subst h0;refine⟨w,fun ty=>?_,?_,.refl _ _⟩
  ·rw[run_copy_none w _ _ ty 5 _ _ _ _ _ _ Tryz.underlying57 kT d];rfl
  ·rw[IQ,Ip,Ia,IN];exact f
 ·obtain⟨b,off,rfl,t⟩:=hp (by omega);have m:=fun ty=>run_copy_row Tryz.prog w 57 57 ty 5 g (3+o) dl dc ⟨b,off,none⟩ l.length cap (jb x) _ (ai (l.take n)) Tryz.underlying57 kT f (by rw[a];exact d.symm) (fun j u hu=>by
   have c:(⟨b,off,none⟩:Addr).add j=⟨b,off+j,none⟩:=by unfold Addr.add;split<;>simp_all
   have r:j<n:=by
    rcases Hi j n with h|h
    ·exact h
    ·rw[He (by omega)]at hu;cases hu
   rw[c,t j (by omega),<-hu];simp[ai,GG,show j<l.length by omega,r]) (by rw[a,lK,k];omega) (fun u hu=>by
   obtain⟨y,-,rfl⟩:=List.mem_map.1 hu;rfl)
  have e:(jb x).toList.take (3+o)++ai (l.take n)++(jb x).toList.drop (3+o+n)=(.int .u32 (x.round:Int):: .int .u32 (x.an:Int):: .int .u32 (x.fill:Int)::ai (x.log.take o++l.take n++x.log.drop (o+n))):=by
   unfold jb;rw[show 3+o=o+1+1+1 by omega,show o+1+1+1+n=o+n+1+1+1 by omega];simp[ai,List.map_take,List.map_drop]
  refine⟨_,fun ty=>?_,setRow_heap _ _ _ (jb {x with log:=x.log.take o++l.take n++x.log.drop (o+n)}) _ _ f,⟨rfl,rfl,rfl,by simp,fun i _ s=>setRow_other w g i _ s⟩⟩;rw[m ty,a,e];rfl
theorem Ab{b:List Nat}{i:Nat}(h:i+4<=b.length):aH.rdNum 4 (b.drop i) 0=(aH.num ((b.drop i).take 4),b.drop (i+4),0):=by
 unfold aH.rdNum;rw[GQ (by decide),GQ (by rw[G5];omega),List.drop_drop]
theorem AZ{b:List Nat}(hl:b.length=64){a ne c:Nat}(f:aH.num (((b.take 12).drop 0).take 4)=a)(e:aH.num (((b.take 12).drop (0+4)).take 4)=ne)(d:aH.num (((b.take 12).drop (0+4+4)).take 4)=c):
 Wl.eA b=⟨a,ne,c,(List.replicate 52 0).take 0++(b.drop 12).take 52++(List.replicate 52 0).drop (0+52)⟩:=by
 unfold Wl.eA;rw[<-f,<-e,<-d];have j:((b.take 12).drop 0).take 4=b.take 4:=by rw[I8,Jm];rfl
 have i:((b.take 12).drop (0+4)).take 4=(b.drop 4).take 4:=by rw[List.drop_take,Jm];rfl
 have h:((b.take 12).drop (0+4+4)).take 4=(b.drop 8).take 4:=by rw[List.drop_take,Jm];rfl
 have g:(List.replicate 52 0).take 0++(b.drop 12).take 52++(List.replicate 52 0).drop (0+52)=b.drop 12:=by
  rw[IQ,Hg,List.drop_of_length_le (l:=List.replicate 52 0) (by simp),Ip,Hm (by rw[G5];omega)]
 rw[j,i,h,g]
def CX(g off cap Q:Nat)(i:Nat)(v:Value)(_:World):Prop:=
 match i with
 |0=>v=.pointer (some ⟨Q,3,none⟩)
 |1=>v=.slice (some ⟨Q,3,none⟩) 52 52
 |2=>v=.slice (some ⟨g,off,none⟩) 64 cap
 |3=>v=.slice (some ⟨g,off+12,none⟩) 52 (cap-12)
 |_=>True
theorem yL(g off cap Q:Nat){a:Nat}(i:Nat)(v:Value)(w w':World)(_:Touch (·=a) w w')(h:CX g off cap Q i v w):CX g off cap Q i v w':=h
set_option maxHeartbeats 3200000 in
set_option maxRecDepth 20000 in
theorem vw(v:Value)(b:List Nat)(w:World)(hB:aJ w v b)(hl:b.length=64):
 Calls Tryz.prog 160 #[v] w fun e w'=>e=.returned (CY (Wl.eA b))/\Below w.heap.size w w':=by
 obtain⟨W,hW⟩:∃W,W=w.alloc (.cells yX 180):=⟨_,rfl⟩
 have L:Below w.heap.size w W:=by rw[hW];exact ae _ _
 have c:W.heap[w.heap.size]?=some (.cells yX 180 (0,0)):=by rw[hW];exact GM _ _
 obtain⟨Q1,hQ⟩:∃Q,Q=w.heap.size:=⟨_,rfl⟩
 rw[<-hQ]at c;obtain⟨p,cap,rfl,l,hn,hp⟩:=hB.form;obtain⟨g,off,rfl,hc⟩:=hp (by omega);rw[hl]at l hB⊢;have O:=GD (hB.below L);have y:=GD hl;have B:=GD c;have U:=GD L;have HQ:=GD hQ;have az:=l.1;have ax:=l.2;clear L c hp hn hc l hB;go_enter Tryz.func160,Tryz.ntmps160;go_upto_region 1 with(fail)
 rw[<-hW];rw[<-hQ];clear hW hQ;go_wp2_with fail
 refine(kG _ (b.take 12) W ((y.out▸O.out:aJ W (.slice (some ⟨g,off,none⟩) b.length cap) b).take 12 (by rw[y.out];decide))).mono ?_;rintro e w1⟨R,rfl,hR,ag,af⟩;have au:=GD af;have N:=GD ag;have hlt:(b.take 12).length=12:=by rw[Hj,hl];rfl
 obtain⟨C,I⟩:∃n,aH.num (((b.take 12).drop 0).take 4)=n:=⟨_,rfl⟩
 obtain⟨ne,ad⟩:∃n,aH.num (((b.take 12).drop (0+4)).take 4)=n:=⟨_,rfl⟩
 obtain⟨E,Z⟩:∃n,aH.num (((b.take 12).drop (0+4+4)).take 4)=n:=⟨_,rfl⟩
 have aE:=GD I;have an:=GD ad;have al:=GD Z;have h1:=nm _ R 0 _ w1 hR;rw[show b.take 12=(b.take 12).drop 0 from rfl,Ab (by rw[hlt];decide),I]at h1;have H1:=GD h1;have ao:=GD hlt;clear hR af ag h1 hlt hl I ad Z;go_wp2_with fail
 refine H1.out.mono ?_;rintro e aw⟨rfl,j,f⟩;have ar:=GD (aZ au.out f au.out.size N.out);have A:=nm _ R 0 _ aw j;rw[Ab (by rw[ao.out];decide),an.out]at A;have H2:=GD A;clear A j f H1;go_wp2_with fail
 refine H2.out.mono ?_;rintro e av⟨rfl,j,f⟩;have aq:=GD (aZ ar.out f ar.out.size N.out);have A:=nm _ R 0 _ av j;rw[Ab (by rw[ao.out];decide),al.out]at A;have H3:=GD A;clear A j f H2;go_wp2_with fail
 refine H3.out.mono ?_;rintro e m⟨rfl,j,f⟩;have P:=GD (aZ aq.out f aq.out.size N.out);clear j f H3;dsimp only;iterate 10 go_step
 have H:(m.alloc (.cells yX 180)).heap[m.heap.size]?=some (.cells yX 180 (0,0)):=GM _ _;refine wpList_store_row rfl 180 (.tmp 4) (.tmp 15) rfl m.heap.size (E2 C ne E) rfl rfl _ _ H (by kernel_rfl) rfl (by rw[A2];exact oM _) ?_;obtain⟨M,t⟩:∃Q,Q=m.heap.size:=⟨_,rfl⟩
 have d:=setRow_heap _ _ _ (E2 C ne E) _ _ H;have J:Below m.heap.size m ((m.alloc (.cells yX 180)).setRow m.heap.size (E2 C ne E)):=(ae _ _).trans ((gr _ _).below (base:=m.heap.size) (fun i hi=>by rw[hi];exact GH _) (by simp));generalize(m.alloc (.cells yX 180)).setRow m.heap.size (E2 C ne E)=W4 at d J⊢;rw[A2,<-t]at d;rw[<-t];have ak:Hid (W.heap.size<=M):=by show _<=_;rw[t];exact P.out.size
 have T:=GD (P.out.trans (J.mono P.out.size));have aD:=GD d;have F:=((y.out▸O.out.below T.out:aJ W4 (.slice (some ⟨g,off,none⟩) b.length cap) b).drop 12 (by rw[y.out];decide))
 have aA:Hid (¬g=M):=fun e=>by have h1:=O.out.pr (by rw[y.out];decide) g rfl;have A:=ak.out;omega
 rw[y.out]at F;have aB:Hid (aJ W4 (.slice (some ⟨g,off+12,none⟩) 52 (cap-12)) (b.drop 12)):=F;clear F;clear H t J d;go_upto_region 3 with(fail)
 refine Ord.walk (CX g off cap M) (fun D _ w'=>TR W4 M 180 (jb ⟨C,ne,E,List.replicate 52 0⟩) (jb (Wl.eA b)) 4 D w') (fun a b=>Touch (·=M) a b)
  (by kernel_rfl) (by kernel_rfl) ?fra ?hfra (fun i v w w' hb h=>yL _ _ _ _ i v w w' hb h) (fun xs=>TR.first aD.out) ?hea ?henda
 case hfra=>
  intro xs;simp only[Ord.fill,Act.put,GP,GX,GV];rfl
 case hea=>
  iterate 5 (refine Ord.aa (fun D xs w2 hD hC hP hR u K z=>?_) ?_;rotate_left)
  rotate_left
  ·clear u;go_simp;exact z _ _ ⟨_,rfl,Touch.refl _ _,hR.skip 0 (by decide),rfl⟩
  ·have q0:=Ord.ab _ u 0 (by decide);simp only[CX]at q0;simp only[q0]at z;clear u;go_simp;exact z _ _ ⟨_,rfl,Touch.refl _ _,hR.skip 1 (by decide),rfl⟩
  ·clear u;go_simp;exact z _ _ ⟨_,rfl,Touch.refl _ _,hR.skip 2 (by decide),rfl⟩
  ·have q2:=Ord.ab _ u 2 (by decide);simp only[CX]at q2;simp only[q2]at z;clear u;go_simp;rw[GQ (by omega)];exact z _ _ ⟨_,rfl,Touch.refl _ _,hR.skip 3 (by decide),rfl⟩
  ·have q1:=Ord.ab _ u 1 (by decide);simp only[CX]at q1;have q3:=Ord.ab _ u 3 (by decide);simp only[CX]at q3;simp only[q1,q3]at z;clear u;have Y:=hR.now hD;obtain⟨w8,q,r,X⟩:=mz (o:=0) (dl:=52) (dc:=52) (x:=⟨C,ne,E,List.replicate 52 0⟩) Y (by simp) (by decide) (hR.aj.aP aB.out (fun _ g' e=>by simp only[Value.ownBlock,GO]at e;subst e;exact aA.out));rw[show min (b.drop 12).length 52=52 by rw[G5,y.out];decide]at q r;have G:kA w8 M (Wl.eA b):=by
    rw[show(Wl.eA b)=⟨C,ne,E,(List.replicate 52 0).take 0++(b.drop 12).take 52++(List.replicate 52 0).drop (0+52)⟩from AZ y.out aE.out an.out al.out];exact r
   have q:=q 3;go_simp;exact z _ _ ⟨_,rfl,X,hR.put X G,trivial⟩
  exact Ord.ay
 case henda=>
  intro D xs w9 hR V;have ah:=(V 4 (by decide)).1;have e0:=(V 0 (by decide)).2;have e1:=(V 1 (by decide)).2;have e2:=(V 2 (by decide)).2;have e3:=(V 3 (by decide)).2;simp only[CX]at e0 e1 e2 e3;rw[e0];rw[e1];rw[e2];rw[e3];clear e0 e1 e2 e3;clear V;generalize xs 4=x4 at*
  have c:=hR.done ah;have S:=GD (T.out.trans (hR.aj.below (base:=W.heap.size) (fun i hi=>by rw[hi];exact ak.out) T.out.size));clear ah hR;have aC:=GD c;have ai:=GD ((S.out.block Q1 (GN B.out)).trans B.out);clear c;have s:(Wl.eA b).log.length=52:=by show(b.drop 12).length=52;rw[G5,y.out]
  go_upto_region 4 with(fail)
  go_step;refine wpList_load_row rfl 180 (.tmp 4) rfl M rfl _ _ _ _ aC.out Tryz.underlying180 rfl (ki s) ?_;refine wpList_store_row rfl 180 (.tmp 2) (.tmp 21) rfl Q1 _ rfl rfl _ _ ai.out (ki s) (by rw[lK,s];rfl) (oM _) ?_;have k:=setRow_heap _ _ _ (jb (Wl.eA b)) _ _ ai.out;have HE:=GD ((U.out.trans (S.out.mono U.out.size)).trans ((gr (w:=w9) Q1 (jb (Wl.eA b))).below (base:=w.heap.size) (fun i hi=>by rw[hi,HQ.out];exact GH _) (GR U.out.size S.out.size)));generalize w9.setRow Q1 (jb (Wl.eA b))=w10 at k HE⊢;go_wp2_with fail
  refine bodyPost_ret (v:=CY (Wl.eA b)) ?_ rfl ⟨rfl,HE.out⟩;exact IG rfl _ _ Q1 180 _ _ _ rfl k Tryz.underlying180 rfl (ki s)
theorem jX.below{base:Nat}{w w':World}{v:Value}{l:List Nat}(h:jX base w v l)(a:Below w.heap.size w w'):jX base w' v l:=by
 refine⟨h.aP.below a,fun h0=>?_⟩;obtain⟨g,cap,b,d,hlt,j,i,cur,T,c,f,e⟩:=h.row h0;exact⟨g,cap,b,d,Hh hlt a.size,j,i,cur,T,(a.block g hlt).trans c,f,e⟩
theorem jX.from{base base':Nat}{w:World}{v:Value}{l:List Nat}(h:jX base w v l)(c:base'<=base):jX base' w v l:=by
 refine⟨h.aP,fun h0=>?_⟩;obtain⟨g,cap,a,b,r⟩:=h.row h0;exact⟨g,cap,a,GR c b,r⟩
theorem jX.some{base:Nat}{w:World}{v:Value}{l:List Nat}(h:jX base w v l)(h0:0<l.length):∃g cap,v=.slice (some ⟨g,0,none⟩) l.length cap/\base<=g/\g<w.heap.size/\l.length<=cap/\cap<=9223372036854775807:=by
 obtain⟨g,cap,a,b,hlt,d,c,-⟩:=h.row h0;exact⟨g,cap,a,b,hlt,d,c⟩
def EX(base:Nat)(w:World)(v:Value)(b:List Nat):Prop:=∃u,v=.tuple #[u,.int .i64 0]/\jX base w u b
theorem EX.below{base:Nat}{w w':World}{v:Value}{l:List Nat}(h:EX base w v l)(b:Below w.heap.size w w'):EX base w' v l:=by
 obtain⟨u,a,hm⟩:=h;exact⟨u,a,hm.below b⟩
theorem nA{B c b:Nat}{d:Dk.ak}{w:World}(h:bc w B c b d)(f:d.off=false){i:Nat}(g:i<Dk.size d):
 Calls Tryz.prog 97 #[.pointer (some ⟨B,0,none⟩),.int .i64 (i:Int)] w fun e w'=>∃u,e=.returned (.tuple #[u,.int .i64 0])/\jX w.heap.size w' u (Wl.kH d i)/\Below w.heap.size w w':=by
 have a:=jI h (i:Int);rw[Dk.xB f g]at a;exact a
theorem DP{w:World}{c cap:Nat}{b:List Nat}(h:aJ w (.slice (some ⟨c,0,none⟩) 128 cap) b)(e:b.length=128)(_:128<=cap){j:Nat}(g:j<2):aJ w (.slice (some ⟨c,64*j,none⟩) 64 (cap-64*j)) (Wl.hf b j):=by
 have a:=(e▸h:aJ w (.slice (some ⟨c,0,none⟩) b.length cap) b).drop (64*j) (by omega);rw[H8]at a;have d:(b.drop (64*j)).length=b.length-64*j:=G5 ..;rw[<-d]at a;have f:=a.take 64 (by rw[d];omega);exact f
end Go.Proofs.YtbpodmallknhfaaGreat
namespace Go.Proofs.YtbpodmallknhfaaGreat
open Go.RowKit
namespace Wl
def iW(a:Hf)(old:Nat):Hf:=⟨0,0,0,(List.replicate 52 0).take 0++a.log.take old++(List.replicate 52 0).drop (0+old)⟩
def jO(a:Hf)(wl:List Nat)(old sw fresh:Nat):Hf:=⟨0,0,0,(iW a old).log.take old++(wl.drop sw).take fresh++(iW a old).log.drop (old+fresh)⟩
def mw(a:Hf)(wl:List Nat)(old sw fresh r ep:Nat):Hf:=⟨r,ep,old+fresh,(jO a wl old sw fresh).log⟩
theorem jm{a:Hf}(h:a.log.length=52){old:Nat}(b:old<=52):(iW a old).log.length=52:=by
 unfold iW;simp only[GI,Hj,G5,G9,h];omega
theorem lR{a:Hf}(h:a.log.length=52){wl:List Nat}{old sw fresh:Nat}(b:old+fresh<=52)(hs:fresh<=wl.length-sw):(jO a wl old sw fresh).log.length=52:=by
 unfold jO;simp only[GI,Hj,G5,jm h (show old<=52 by omega)];omega
theorem tB{c:Hf}(h:∀b∈c.log,b<256){wl:List Nat}(hw:∀b∈wl,b<256){old sw fresh:Nat}:∀b∈(jO c wl old sw fresh).log,b<256:=by
 have hz:∀b∈List.replicate 52 0,b<256:=fun b a=>by rw[Ik a];decide
 have d:∀b∈(iW c old).log,b<256:=by
  intro b a;unfold iW at a;simp only[List.mem_append]at a;rcases a with(a|a)|a
  ·exact hz b (Hl a)
  ·exact h b (Hl a)
  ·exact hz b (Ht a)
 intro b a;unfold jO at a;simp only[List.mem_append]at a;rcases a with(a|a)|a
 ·exact d b (Hl a)
 ·exact hw b (Ht (Hl a))
 ·exact d b (Ht a)
theorem Bb{a:Hf}(h:a.log.length=52){wl:List Nat}{old sw fresh:Nat}(f:old+fresh<=52)(hs:fresh<=wl.length-sw){i:Nat}(g:i<old+fresh):(jO a wl old sw fresh).log.getD i 0=if i<old then a.log.getD i 0 else wl.getD (sw+(i-old)) 0:=by
 have hl:=jm h (show old<=52 by omega);have e:(jO a wl old sw fresh).log=(iW a old).log.take old++((wl.drop sw).take fresh++(iW a old).log.drop (old+fresh)):=G3 ..;have c:((iW a old).log.take old).length=old:=by rw[Hj,hl];omega
 rw[e,fQ,c];by_cases b:i<old
 ·rw[GU b,GU b,getD_take b];have d:(iW a old).log=a.log.take old++(List.replicate 52 0).drop (0+old):=by unfold iW;rw[IQ,Hg]
  rw[d,fQ,Hj,h,GU (by omega),getD_take b]
 ·rw[GQ b,GQ b];rw[fQ,GU (by rw[Hj,G5];omega),getD_take (by omega),mr]
end Wl
theorem EN(x:Wl.Hf):(jb x)[0]?=some (.int .u32 (x.round:Int)):=rfl
theorem EM(x:Wl.Hf)(u:Value):((jb x).setIfInBounds 0 u)[1]?=some (.int .u32 (x.an:Int)):=by rw[I6 (by decide)];rfl
theorem EL(x:Wl.Hf)(u v:Value):(((jb x).setIfInBounds 0 u).setIfInBounds 1 v)[2]?=some (.int .u32 (x.fill:Int)):=by rw[I6 (by decide),I6 (by decide)];rfl
theorem A3(x:Wl.Hf)(r e f:Nat):(((jb x).setIfInBounds 0 (.int .u32 (r:Int))).setIfInBounds 1 (.int .u32 (e:Int))).setIfInBounds 2 (.int .u32 (f:Int))=jb ⟨r,e,f,x.log⟩:=by
 unfold jb;simp
def tR(x:Wl.Hf)(Q W:Nat)(i:Nat)(v:Value)(w:World):Prop:=
 match i with
 |0=>v=.pointer (some ⟨Q,0,none⟩)
 |1=>v=.pointer (some ⟨Q,0,none⟩)
 |2=>v=.int .u32 (x.round:Int)
 |3=>Own W w v ([]++aH.le 4 x.round)
 |4=>v=.pointer (some ⟨Q,0,none⟩)
 |5=>v=.pointer (some ⟨Q,1,none⟩)
 |6=>v=.int .u32 (x.an:Int)
 |7=>Own W w v (([]++aH.le 4 x.round)++aH.le 4 x.an)
 |8=>v=.pointer (some ⟨Q,0,none⟩)
 |9=>v=.pointer (some ⟨Q,2,none⟩)
 |10=>v=.int .u32 (x.fill:Int)
 |11=>Own W w v ((([]++aH.le 4 x.round)++aH.le 4 x.an)++aH.le 4 x.fill)
 |12=>Own W w v ((([]++aH.le 4 x.round)++aH.le 4 x.an)++aH.le 4 x.fill)
 |_=>True
theorem yM(x:Wl.Hf)(Q W:Nat)(i:Nat)(v:Value)(w w':World)(a:Below w.heap.size w w')(h:tR x Q W i v w):tR x Q W i v w':=by
 unfold tR at*
 split at h<;>first|exact h|exact h.below a|trivial
def CJ(b a old:Nat)(i:Nat)(v:Value)(_:World):Prop:=
 match i with
 |0=>v=.pointer (some ⟨a,3,none⟩)
 |1=>v=.int .u64 (old:Int)
 |2=>v=.slice (some ⟨a,3,none⟩) old 52
 |3=>v=.pointer (some ⟨b,3,none⟩)
 |4=>v=.slice (some ⟨b,3,none⟩) 52 52
 |_=>True
theorem yQ(b a old:Nat){c:Nat}(i:Nat)(v:Value)(w w':World)(_:Touch (·=c) w w')(h:CJ b a old i v w):CJ b a old i v w':=h
def pH(L b old place ag a d s0:Nat)(c:Value)(e sw nw f:Nat)(i:Nat)(v:Value)(_:World):Prop:=
 match i with
 |0=>v=.pointer (some ⟨b,3,none⟩)
 |1=>v=.int .u64 (old:Int)
 |2=>v=.slice (some ⟨b,3+old,none⟩) (52-old) (52-old)
 |3=>v=.pointer (some ⟨L,0,none⟩)
 |4=>v=.pointer (some ⟨L,0,none⟩)
 |5=>v=.pointer (some ⟨L,8,none⟩)
 |6=>v=c
 |7=>v=.int .u64 (place:Int)
 |8=>v=.int .u64 (old:Int)
 |9=>v=.int .u64 (d:Int)
 |10=>v=.pointer (some ⟨L,0,none⟩)
 |11=>v=.pointer (some ⟨L,0,none⟩)
 |12=>v=.pointer (some ⟨L,0,none⟩)
 |13=>v=.pointer (some ⟨L,1,none⟩)
 |14=>v=.int .u64 (ag:Int)
 |15=>v=.int .u64 (s0:Int)
 |16=>v=.slice (some ⟨e,sw,none⟩) nw f
 |17=>v=.int .i64 (a:Int)
 |18=>v=.int .i64 (a:Int)
 |_=>True
theorem yP(L f old place ag c b s0:Nat)(a:Value)(d sw nw e:Nat){g:Nat}(i:Nat)(v:Value)(w w':World)(_:Touch (·=g) w w')(h:pH L f old place ag c b s0 a d sw nw e i v w):pH L f old place ag c b s0 a d sw nw e i v w':=h
def rV(L b g r old fresh ep a:Nat)(i:Nat)(v:Value)(_:World):Prop:=
 match i with
 |0=>v=.pointer (some ⟨L,0,none⟩)
 |1=>v=.int .u64 (g:Int)
 |2=>v=.int .u32 (r:Int)
 |3=>v=.pointer (some ⟨L,0,none⟩)
 |4=>v=.pointer (some ⟨L,0,none⟩)
 |5=>v=.pointer (some ⟨L,0,none⟩)
 |6=>v=.pointer (some ⟨L,3,none⟩)
 |7=>v=.int .u32 (ep:Int)
 |8=>v=.int .u64 (old:Int)
 |9=>v=.int .u32 (old:Int)
 |10=>v=.int .i64 (fresh:Int)
 |11=>v=.int .u32 (fresh:Int)
 |12=>v=.int .u32 (a:Int)
 |13=>v=.agg #[.int .u32 (r:Int),.int .u32 (ep:Int),.int .u32 (a:Int)]
 |14=>v=.pointer (some ⟨b,0,none⟩)
 |_=>True
theorem yO(L b g r old fresh ep a:Nat){c:Nat}(i:Nat)(v:Value)(w w':World)(_:Touch (·=c) w w')(h:rV L b g r old fresh ep a i v w):rV L b g r old fresh ep a i v w':=h
set_option maxHeartbeats 3200000 in
set_option maxRecDepth 20000 in
theorem tp(x:Wl.Hf)(w:World)(hl:x.log.length=52)(hs:∀b∈x.log,b<256):
 Calls Tryz.prog 176 #[CY x] w fun e w'=>∃u,e=.returned u/\Own w.heap.size w' u (Wl.tq x)/\Below w.heap.size w w':=by
 obtain⟨W,C⟩:∃W,W=w.alloc (.cells (jb x) 180):=⟨_,rfl⟩
 have y:Below w.heap.size w W:=by rw[C];exact ae _ _
 have d:kA W w.heap.size x:=by rw[C];exact GM _ _
 obtain⟨Q,F⟩:∃Q,Q=w.heap.size:=⟨_,rfl⟩
 rw[<-F]at d;have l:=GD d;have n:Hid (Q<W.heap.size):=GN d;have C0:=GD d.c0;have C1:=GD d.c1;have C2:=GD d.c2;have q:=GD y;have HL:=GD hl;have HS:=GD hs;clear y d hl hs;go_enter Tryz.func176,Tryz.ntmps176;go_upto_region 1 with(fail)
 rw[<-C,<-F];clear C F;refine Ord.walk (tR x Q W.heap.size) (fun _ _ w'=>Below W.heap.size W w') (fun a b=>Below a.heap.size a b)
  (by kernel_rfl) (by kernel_rfl) ?fra ?hfra (fun i v w w' k h=>yM _ _ _ i v w w' k h) (fun xs=>(GF _ _).ij) ?hea ?henda
 case hfra=>
  intro xs;simp only[Ord.fill,Act.put,GP,GX,GV];rfl
 case hea=>
  iterate 13 (refine Ord.aa (fun D xs w2 hD hC hP hR c K f=>?_) ?_;rotate_left)
  rotate_left
  ·clear c;go_simp;exact f _ _ ⟨_,rfl,GF _ _,hR,rfl⟩
  ·have q0:=Ord.ab _ c 0 (by decide);simp only[tR]at q0;simp only[q0]at f;clear c;go_simp;exact f _ _ ⟨_,rfl,GF _ _,hR,rfl⟩
  ·have q1:=Ord.ab _ c 1 (by decide);simp only[tR]at q1;simp only[q1]at f;clear c;have B:=hR.cell (p:=⟨Q,0,none⟩) n.out;rw[C0.out]at B;go_simp;exact f _ _ ⟨_,rfl,GF _ _,hR,rfl⟩
  ·have q2:=Ord.ab _ c 2 (by decide);simp only[tR]at q2;simp only[q2]at f;clear c;go_simp;refine(da (.slice none 0 0) [] x.round w2 (aO w2) (by decide)).mono ?_;rintro e w'⟨u,rfl,A,k⟩;exact f _ _ ⟨_,rfl,k,hR.trans (k.mono hR.size),A.from hR.size⟩
  ·clear c;go_simp;exact f _ _ ⟨_,rfl,GF _ _,hR,rfl⟩
  ·have Z:=Ord.ab _ c 4 (by decide);simp only[tR]at Z;simp only[Z]at f;clear c;go_simp;exact f _ _ ⟨_,rfl,GF _ _,hR,rfl⟩
  ·have Y:=Ord.ab _ c 5 (by decide);simp only[tR]at Y;simp only[Y]at f;clear c;have B:=hR.cell (p:=⟨Q,1,none⟩) n.out;rw[C1.out]at B;go_simp;exact f _ _ ⟨_,rfl,GF _ _,hR,rfl⟩
  ·have X:=Ord.ab _ c 6 (by decide);simp only[tR]at X;have q3:=Ord.ab _ c 3 (by decide);simp only[tR]at q3;simp only[X]at f;clear c;go_simp;refine(da (xs 3) _ x.an w2 q3.aP (by rw[GI,aH.al];decide)).mono ?_;rintro e w'⟨u,rfl,A,k⟩;exact f _ _ ⟨_,rfl,k,hR.trans (k.mono hR.size),A.from hR.size⟩
  ·clear c;go_simp;exact f _ _ ⟨_,rfl,GF _ _,hR,rfl⟩
  ·have U:=Ord.ab _ c 8 (by decide);simp only[tR]at U;simp only[U]at f;clear c;go_simp;exact f _ _ ⟨_,rfl,GF _ _,hR,rfl⟩
  ·have T:=Ord.ab _ c 9 (by decide);simp only[tR]at T;simp only[T]at f;clear c;have B:=hR.cell (p:=⟨Q,2,none⟩) n.out;rw[C2.out]at B;go_simp;exact f _ _ ⟨_,rfl,GF _ _,hR,rfl⟩
  ·have s:=Ord.ab _ c 10 (by decide);simp only[tR]at s;have V:=Ord.ab _ c 7 (by decide);simp only[tR]at V;simp only[s]at f;clear c;go_simp;refine(da (xs 7) _ x.fill w2 V.aP (by simp only[GI,aH.al];decide)).mono ?_;rintro e w'⟨u,rfl,A,k⟩;exact f _ _ ⟨_,rfl,k,hR.trans (k.mono hR.size),A.from hR.size⟩
  ·have r:=Ord.ab _ c 11 (by decide);simp only[tR]at r;clear c;go_simp;exact f _ _ ⟨_,rfl,GF _ _,hR,r⟩
  exact Ord.ay
 case henda=>
  intro D xs w9 hR j;have O:=(j 0 (by decide)).2;have N:=(j 1 (by decide)).2;have M:=(j 2 (by decide)).2;have L:=(j 4 (by decide)).2;have J:=(j 5 (by decide)).2;have I:=(j 6 (by decide)).2;have H:=(j 8 (by decide)).2;have G:=(j 9 (by decide)).2;have m:=(j 10 (by decide)).2;have g:=(j 12 (by decide)).2;simp only[tR]at O N M L J I H G m g;rw[O];rw[N];rw[M];rw[L];rw[J];rw[I];rw[H];rw[G];rw[m];clear O N M L J I H G m;clear j;generalize xs 3=x3 at*
  generalize xs 7=x7 at*
  generalize xs 11=x11 at*
  generalize xs 12=E at*
  rw[Hg]at g;have S:=GD g;have o:=GD hR;have P:Hid (kA w9 Q x):=(o.out.block Q (GN l.out)).trans l.out;clear hR g;go_upto_region 2 with(fail)
  iterate 10 go_step
  refine aA rfl (.tmp 16) (.tmp 18) rfl W.heap.size E _ rfl S.out _ _ rfl (P.out.aP HL.out HS.out) (by simp only[GI,aH.al,HL.out];decide) o.out.size ?_;intro u2 w2 z t _;have R:=GD z;have HE:=GD (q.out.trans ((o.out.trans t).mono q.out.size));clear z t;go_wp2_with fail
  go_ret;exact⟨_,rfl,R.out.from q.out.size,HE.out⟩
set_option maxHeartbeats 6400000 in
set_option maxRecDepth 20000 in
theorem qQ{w:World}{L B a c:Nat}{k:Wl.Kn}{pl:Value}{dn:Bool}{gw ow nw cw:Nat}{wl:List Nat}(h:aR w L k B a c pl (.slice (some ⟨gw,ow,none⟩) nw cw) dn)(hB:aJ w (.slice (some ⟨gw,ow,none⟩) nw cw) wl)(a1:1<=c)(aZ:c<=8192)
 (g:Nat) (hr:g/(2*c)<4294967296) (l:Wl.Hf) (af:l.log.length=52) (aD:∀b∈l.log,b<256) {old sw fresh:Nat} (hg:g<=10000000000000) (bX:k.ag<=1000000000000000) (hold:old=max (g*52) k.ag-g*52) (ho:old<52) (aU:sw=g*52+old-k.ag) (bn:sw<nw) (hfr:min (nw-sw) (52-old)=fresh):
 Calls Tryz.prog 175 #[.pointer (some ⟨L,0,none⟩),.int .u64 (g:Int),CY l] w fun e w'=>e=.returned (CY (Wl.mw l wl old sw fresh (g/(2*c)) k.an))/\Below w.heap.size w w':=by
 obtain⟨W,hW⟩:∃W,W=(w.alloc (.cells (jb l) 180)).alloc (.cells yX 180):=⟨_,rfl⟩
 have R:Below w.heap.size w W:=by rw[hW];exact((GF _ _).alloc (GH _) _).alloc (by simp) _
 have bo:W.heap.size=w.heap.size+1+1:=by rw[hW];simp
 have G:kA W w.heap.size l:=by
  rw[hW];show(World.alloc _ _).heap[_]?=_;rw[Below.heap_alloc _ _ _ (by simp)];exact GM _ _
 have E:W.heap[w.heap.size+1]?=some (.cells yX 180 (0,0)):=by
  rw[hW];have:=GM (w.alloc (.cells (jb l) 180)) (.cells yX 180);rwa[show(w.alloc (.cells (jb l) 180)).heap.size=w.heap.size+1 by simp]at this
 obtain⟨Q1,hQ⟩:∃Q,Q=w.heap.size:=⟨_,rfl⟩
 rw[<-hQ]at G E;obtain⟨W3,ao⟩:∃W3,W3=W.alloc (.cells yX 180):=⟨_,rfl⟩
 have P:Below W.heap.size W W3:=by rw[ao];exact ae _ _
 have C:W3.heap[W.heap.size]?=some (.cells yX 180 (0,0)):=by rw[ao];exact GM _ _
 obtain⟨s,aH⟩:∃Q,Q=W.heap.size:=⟨_,rfl⟩
 rw[<-aH]at C;rw[DQ]at C;have aF:=h.below R;have hL:=h.lt;have av:=aF.below P;obtain⟨p,cap,hv,ak,-,hp⟩:=hB.form;simp only[Hc]at hv;obtain⟨-,aW,rfl⟩:=hv;have bS:=ak.1;have bR:=ak.2;have bB:=GD C;have bC:=GD ((P.block _ (GN E)).trans E);have bZ:=GD R;have bm:=GD (R.trans (P.mono R.size));have HQ:=GD hQ;have al:=GD av;have T:Hid (¬L=s):=by show¬L=s;omega
 have bu:=GD ((G.aP af aD).below P);have bE:Hid (¬Q1=s):=by show¬Q1=s;omega
 have bF:Hid (w.heap.size<=s):=by show _<=_;omega
 have bf:Hid (Q1+1≠s):=by show Q1+1≠s;omega
 have bt:=GD af;have bY:=GD aD;have bQ:=GD ((hB.below R).below P);have bh:Hid (¬gw=s):=by have h1:=hB.pr (by omega) gw rfl;show¬gw=s;omega
 have bD:Hid (g/(2*c)<4294967296):=hr;have bP:=GD a1;have bO:=GD aZ;have c1:=aF.cell 1 (v:=.int .u64 (k.ag:Int)) rfl;obtain⟨place,aV⟩:∃p,p=g*52:=⟨_,rfl⟩
 rw[<-aV]at hold aU;have h1:IntKind.u64.wrap ((g:Int)*52)=(place:Int):=by rw[Hv _ (by omega)];omega
 obtain⟨mx,bs⟩:∃m,m=max place k.ag:=⟨_,rfl⟩
 have h2:max (place:Int) (k.ag:Int)=(mx:Int):=by omega
 have h3:IntKind.u64.wrap ((mx:Int)-(place:Int))=(old:Int):=by rw[Hv _ (by omega)];omega
 have bH:Hid (¬52=old):=by show¬52=old;omega
 have q:Hid (old<=52):=by show old<=52;omega
 obtain⟨po,bp⟩:∃n,n=place+old:=⟨_,rfl⟩
 have H5:Hid (IntKind.u64.wrap ((place:Int)+(old:Int))=(po:Int)):=by show _=_;rw[Hv _ (by omega)];omega
 have H6:Hid (IntKind.u64.wrap ((po:Int)-(k.ag:Int))=(sw:Int)):=by show _=_;rw[Hv _ (by omega)];omega
 obtain⟨ff,aY⟩:∃n,n=old+fresh:=⟨_,rfl⟩
 have bL:=GD aY;have bb:Hid ((sw:Int)<=(nw:Int)):=by show(sw:Int)<=_;omega
 have bw:Hid ((sw:Int)<=(cw:Int)):=by show(sw:Int)<=_;omega
 have bN:Hid (¬cw=sw):=by show¬cw=sw;omega
 have bU:Hid (old+fresh<=52):=by show _<=_;omega
 have bT:Hid (fresh<=nw-sw):=by show _<=_;omega
 have ar:=GD aW;have bl:=GD (Wl.jm af (old:=old) (by omega));have bk:=GD (Wl.lR af (wl:=wl) (old:=old) (sw:=sw) (fresh:=fresh) (by omega) (by omega));have bG:Hid (IntKind.u32.wrap (old:Int)=(old:Int)):=Jn _ (by omega);have bM:Hid (IntKind.u32.wrap (fresh:Int)=(fresh:Int)):=Jn _ (by omega);have bx:Hid (IntKind.u32.wrap ((old:Int)+(fresh:Int))=(ff:Int)):=by show _=_;rw[Jn _ (by omega)];omega
 have bj:Hid (min (nw-sw) (52-old)=fresh):=hfr;clear bp aY R bo G E P C aF hL av ak hp h hB hr hold ho aU bn hfr bs aV af aD a1 aZ aW;go_enter Tryz.func175,Tryz.ntmps175;go_upto_region 1 with(fail)
 rw[<-hW,<-hQ];clear hW hQ;go_upto_region 4 with(fail)
 rw[<-ao,<-aH];clear ao aH h1 h2 h3 c1;refine Ord.walk (CJ Q1 s old) (fun D _ w'=>TR W3 s 180 (jb ⟨0,0,0,List.replicate 52 0⟩) (jb (Wl.iW l old)) 5 D w') (fun a b=>Touch (·=s) a b)
  (by kernel_rfl) (by kernel_rfl) ?fra ?hfra (fun i v w w' hb h=>yQ _ _ _ i v w w' hb h) (fun xs=>TR.first bB.out) ?hea ?henda
 case hfra=>
  intro xs;simp only[Ord.fill,Act.put,GP,GX,GV];rfl
 case hea=>
  iterate 6 (refine Ord.aa (fun D xs w2 hD hC hP hR d K f=>?_) ?_;rotate_left)
  rotate_left
  ·clear d;go_simp;exact f _ _ ⟨_,rfl,Touch.refl _ _,hR.skip 0 (by decide),rfl⟩
  ·clear d;go_simp;exact f _ _ ⟨_,rfl,Touch.refl _ _,hR.skip 1 (by decide),rfl⟩
  ·have q0:=Ord.ab _ d 0 (by decide);simp only[CJ]at q0;have q1:=Ord.ab _ d 1 (by decide);simp only[CJ]at q1;simp only[q0,q1]at f;clear d;have br:(old:Int)<=52:=by have:=q.out;omega
   have bq:old<=52:=q.out;go_simp;exact f _ _ ⟨_,rfl,Touch.refl _ _,hR.skip 2 (by decide),rfl⟩
  ·clear d;go_simp;exact f _ _ ⟨_,rfl,Touch.refl _ _,hR.skip 3 (by decide),rfl⟩
  ·have q3:=Ord.ab _ d 3 (by decide);simp only[CJ]at q3;simp only[q3]at f;clear d;go_simp;exact f _ _ ⟨_,rfl,Touch.refl _ _,hR.skip 4 (by decide),rfl⟩
  ·have q2:=Ord.ab _ d 2 (by decide);simp only[CJ]at q2;have q4:=Ord.ab _ d 4 (by decide);simp only[CJ]at q4;simp only[q2,q4]at f;clear d;have u:=hR.now hD;obtain⟨w8,z,A,ai⟩:=mz (o:=0) (dl:=old) (dc:=52) (x:=⟨0,0,0,List.replicate 52 0⟩) u (by simp) (by have:=q.out;omega) (hR.aj.aP bu.out (fun _ g' e=>by simp only[Value.ownBlock,GO]at e;subst e;exact bE.out));rw[show min l.log.length old=old by rw[bt.out];have:=q.out;omega]at z A;have z:=z 3;go_simp;exact f _ _ ⟨_,rfl,ai,hR.put ai A,trivial⟩
  exact Ord.ay
 case henda=>
  intro D xs w9 hR j;have a7:=(j 5 (by decide)).1;have e0:=(j 0 (by decide)).2;have e1:=(j 1 (by decide)).2;have e2:=(j 2 (by decide)).2;have e3:=(j 3 (by decide)).2;have e4:=(j 4 (by decide)).2;simp only[CJ]at e0 e1 e2 e3 e4;rw[e0];rw[e1];rw[e2];rw[e3];rw[e4];clear e0 e1 e2 e3 e4;clear j;generalize xs 5=x5 at*
  have t:=hR.done a7;have bd:=GD t;have aq:=GD hR.aj;clear t hR a7;obtain⟨W4,a6⟩:∃W4,W4=w9:=⟨_,rfl⟩
  rw[<-a6]at bd aq⊢;clear a6;have al:=GD (al.out.aj aq.out T.out);have ax:=aq.out.aP bQ.out (fun _ g' e=>by simp only[Value.ownBlock,GO]at e;subst e;exact bh.out);have ad:=(ar.out▸ax:aJ W4 (.slice (some ⟨gw,ow,none⟩) wl.length cw) wl).drop sw (by have h1:=bb.out;have h2:=ar.out;omega);rw[<-ar.out]at ad;have a8:=GD ad;have bJ:Hid (¬gw=s):=bh.out;have bK:Hid (min (wl.drop sw).length (52-old)=fresh):=by show _=_;rw[G5,<-ar.out];exact bj.out
  clear ax ad;have q:Hid (old<=52):=q.out;go_upto_region 5 with(fail)
  refine Ord.walk (pH L s old place k.ag fresh po sw (.slice (some ⟨gw,ow,none⟩) nw cw) gw (ow+sw) (nw-sw) (cw-sw)) (fun D _ w'=>TR W4 s 180 (jb (Wl.iW l old)) (jb (Wl.jO l wl old sw fresh)) 17 D w') (fun a b=>Touch (·=s) a b)
   (by kernel_rfl) (by kernel_rfl) ?frb ?hfrb (fun i v w w' hb h=>yP _ _ _ _ _ _ _ _ _ _ _ _ _ i v w w' hb h) (fun xs=>TR.first bd.out) ?heb ?hendb
  case hfrb=>
   intro xs;simp only[Ord.fill,Act.put,GP,GX,GV];rfl
  case heb=>
   iterate 19 (refine Ord.aa (fun D xs w2 hD hC hP hR d K f=>?_) ?_;rotate_left)
   rotate_left
   ·clear d;go_simp;exact f _ _ ⟨_,rfl,Touch.refl _ _,hR.skip 0 (by decide),rfl⟩
   ·clear d;go_simp;exact f _ _ ⟨_,rfl,Touch.refl _ _,hR.skip 1 (by decide),rfl⟩
   ·have q0:=Ord.ab _ d 0 (by decide);simp only[pH]at q0;have q1:=Ord.ab _ d 1 (by decide);simp only[pH]at q1;simp only[q0,q1]at f;clear d;have br:(old:Int)<=52:=by have:=q.out;omega
    have bq:old<=52:=q.out;go_simp;rw[GQ bH.out];exact f _ _ ⟨_,rfl,Touch.refl _ _,hR.skip 2 (by decide),rfl⟩
   ·clear d;go_simp;exact f _ _ ⟨_,rfl,Touch.refl _ _,hR.skip 3 (by decide),rfl⟩
   ·have q3:=Ord.ab _ d 3 (by decide);simp only[pH]at q3;simp only[q3]at f;clear d;go_simp;exact f _ _ ⟨_,rfl,Touch.refl _ _,hR.skip 4 (by decide),rfl⟩
   ·have q4:=Ord.ab _ d 4 (by decide);simp only[pH]at q4;simp only[q4]at f;clear d;go_simp;exact f _ _ ⟨_,rfl,Touch.refl _ _,hR.skip 5 (by decide),rfl⟩
   ·have q5:=Ord.ab _ d 5 (by decide);simp only[pH]at q5;simp only[q5]at f;clear d;have cc:=(al.out.aj hR.aj T.out).cell 8 (v:=.slice (some ⟨gw,ow,none⟩) nw cw) rfl;go_simp;exact f _ _ ⟨_,rfl,Touch.refl _ _,hR.skip 6 (by decide),rfl⟩
   ·clear d;go_simp;exact f _ _ ⟨_,rfl,Touch.refl _ _,hR.skip 7 (by decide),rfl⟩
   ·clear d;go_simp;exact f _ _ ⟨_,rfl,Touch.refl _ _,hR.skip 8 (by decide),rfl⟩
   ·have q7:=Ord.ab _ d 7 (by decide);simp only[pH]at q7;have q8:=Ord.ab _ d 8 (by decide);simp only[pH]at q8;simp only[q7,q8]at f;clear d;go_simp;rw[H5.out];exact f _ _ ⟨_,rfl,Touch.refl _ _,hR.skip 9 (by decide),rfl⟩
   ·clear d;go_simp;exact f _ _ ⟨_,rfl,Touch.refl _ _,hR.skip 10 (by decide),rfl⟩
   ·have Z:=Ord.ab _ d 10 (by decide);simp only[pH]at Z;simp only[Z]at f;clear d;go_simp;exact f _ _ ⟨_,rfl,Touch.refl _ _,hR.skip 11 (by decide),rfl⟩
   ·have Y:=Ord.ab _ d 11 (by decide);simp only[pH]at Y;simp only[Y]at f;clear d;go_simp;exact f _ _ ⟨_,rfl,Touch.refl _ _,hR.skip 12 (by decide),rfl⟩
   ·have X:=Ord.ab _ d 12 (by decide);simp only[pH]at X;simp only[X]at f;clear d;go_simp;exact f _ _ ⟨_,rfl,Touch.refl _ _,hR.skip 13 (by decide),rfl⟩
   ·have V:=Ord.ab _ d 13 (by decide);simp only[pH]at V;simp only[V]at f;clear d;have cc:=(al.out.aj hR.aj T.out).cell 1 (v:=.int .u64 (k.ag:Int)) rfl;go_simp;exact f _ _ ⟨_,rfl,Touch.refl _ _,hR.skip 14 (by decide),rfl⟩
   ·have q9:=Ord.ab _ d 9 (by decide);simp only[pH]at q9;have U:=Ord.ab _ d 14 (by decide);simp only[pH]at U;simp only[q9,U]at f;clear d;go_simp;rw[H6.out];exact f _ _ ⟨_,rfl,Touch.refl _ _,hR.skip 15 (by decide),rfl⟩
   ·have q6:=Ord.ab _ d 6 (by decide);simp only[pH]at q6;have aT:=Ord.ab _ d 15 (by decide);simp only[pH]at aT;simp only[q6,aT]at f;clear d;have bW:=bb.out;have bV:=bw.out;go_simp;rw[GQ bN.out];exact f _ _ ⟨_,rfl,Touch.refl _ _,hR.skip 16 (by decide),rfl⟩
   ·have q2:=Ord.ab _ d 2 (by decide);simp only[pH]at q2;have aS:=Ord.ab _ d 16 (by decide);simp only[pH]at aS;simp only[q2,aS]at f;clear d;have u:=hR.now hD;obtain⟨w8,z,A,ai⟩:=mz (o:=old) (dl:=52-old) (dc:=52-old) u bl.out (by have:=q.out;omega) (hR.aj.aP a8.out (fun _ g' e=>by simp only[Value.ownBlock,GO]at e;subst e;exact bJ.out));rw[bK.out]at z A;have z:=z 3;go_simp;exact f _ _ ⟨_,rfl,ai,hR.put ai A,rfl⟩
   ·have aQ:=Ord.ab _ d 17 (by decide);simp only[pH]at aQ;simp only[aQ]at f;clear d;go_simp;exact f _ _ ⟨_,rfl,Touch.refl _ _,hR.skip 18 (by decide),rfl⟩
   exact Ord.ay
  case hendb=>
   intro D xs w9 hR j;have az:=(j 17 (by decide)).1;have e0:=(j 0 (by decide)).2;have e1:=(j 1 (by decide)).2;have e2:=(j 2 (by decide)).2;have e3:=(j 3 (by decide)).2;have e4:=(j 4 (by decide)).2;have e5:=(j 5 (by decide)).2;have e6:=(j 6 (by decide)).2;have e7:=(j 7 (by decide)).2;have e8:=(j 8 (by decide)).2;have e9:=(j 9 (by decide)).2;have N:=(j 10 (by decide)).2;have M:=(j 11 (by decide)).2;have J:=(j 12 (by decide)).2;have I:=(j 13 (by decide)).2;have H:=(j 14 (by decide)).2;have aM:=(j 15 (by decide)).2;have aL:=(j 16 (by decide)).2;have aK:=(j 17 (by decide)).2;have aI:=(j 18 (by decide)).2;simp only[pH]at e0 e1 e2 e3 e4 e5 e6 e7 e8 e9 N M J I H aM aL aK aI;rw[e0];rw[e1];rw[e2];rw[e3];rw[e4];rw[e5];rw[e6];rw[e7];rw[e8];rw[e9];rw[N];rw[M];rw[J];rw[I];rw[H];rw[aM];rw[aL];rw[aK];rw[aI];clear e0 e1 e2 e3 e4 e5 e6 e7 e8 e9 N M J I H aM aL aK aI;clear j;have t:=hR.done az;have bc:=GD t;have aO:=GD hR.aj;clear t hR az;obtain⟨W5,a2⟩:∃W5,W5=w9:=⟨_,rfl⟩
   rw[<-a2]at bc aO⊢;clear a2;have aB:=GD (al.out.aj aO.out T.out);obtain⟨r,aE⟩:∃r,r=g/(2*c):=⟨_,rfl⟩
   have bz:=GD aE;have F:=fun w2(hl:aR w2 L k B a c pl (.slice (some ⟨gw,ow,none⟩) nw cw) dn)=>sk hl g bP.out bO.out bD.out;rw[<-aE]at F;clear aE;go_upto_region 6 with(fail)
   refine Ord.walk (rV L s g r old fresh k.an ff) (fun D _ w'=>TR W5 s 180 (jb (Wl.jO l wl old sw fresh)) (jb (Wl.mw l wl old sw fresh r k.an)) 15 D w') (fun a b=>Touch (·=s) a b)
    (by kernel_rfl) (by kernel_rfl) ?frc ?hfrc (fun i v w w' hb h=>yO _ _ _ _ _ _ _ _ i v w w' hb h) (fun xs=>TR.first bc.out) ?hec ?hendc
   case hfrc=>
    intro xs;simp only[Ord.fill,Act.put,GP,GX,GV];rfl
   case hec=>
    iterate 16 (refine Ord.aa (fun D xs w2 hD hC hP hR d K f=>?_) ?_;rotate_left)
    rotate_left
    ·clear d;go_simp;exact f _ _ ⟨_,rfl,Touch.refl _ _,hR.skip 0 (by decide),rfl⟩
    ·clear d;go_simp;exact f _ _ ⟨_,rfl,Touch.refl _ _,hR.skip 1 (by decide),rfl⟩
    ·have q0:=Ord.ab _ d 0 (by decide);simp only[rV]at q0;have q1:=Ord.ab _ d 1 (by decide);simp only[rV]at q1;simp only[q0,q1]at f;clear d;go_simp;refine(F w2 (aB.out.aj hR.aj T.out)).mono ?_;rintro e w'⟨rfl,rfl⟩;exact f _ _ ⟨_,rfl,Touch.refl _ _,hR.skip 2 (by decide),rfl⟩
    ·clear d;go_simp;exact f _ _ ⟨_,rfl,Touch.refl _ _,hR.skip 3 (by decide),rfl⟩
    ·have q3:=Ord.ab _ d 3 (by decide);simp only[rV]at q3;simp only[q3]at f;clear d;go_simp;exact f _ _ ⟨_,rfl,Touch.refl _ _,hR.skip 4 (by decide),rfl⟩
    ·have q4:=Ord.ab _ d 4 (by decide);simp only[rV]at q4;simp only[q4]at f;clear d;go_simp;exact f _ _ ⟨_,rfl,Touch.refl _ _,hR.skip 5 (by decide),rfl⟩
    ·have q5:=Ord.ab _ d 5 (by decide);simp only[rV]at q5;simp only[q5]at f;clear d;go_simp;exact f _ _ ⟨_,rfl,Touch.refl _ _,hR.skip 6 (by decide),rfl⟩
    ·have q6:=Ord.ab _ d 6 (by decide);simp only[rV]at q6;simp only[q6]at f;clear d;have cc:=(aB.out.aj hR.aj T.out).cell 3 (v:=.int .u32 (k.an:Int)) rfl;go_simp;exact f _ _ ⟨_,rfl,Touch.refl _ _,hR.skip 7 (by decide),rfl⟩
    ·clear d;go_simp;exact f _ _ ⟨_,rfl,Touch.refl _ _,hR.skip 8 (by decide),rfl⟩
    ·have q8:=Ord.ab _ d 8 (by decide);simp only[rV]at q8;simp only[q8]at f;clear d;go_simp;rw[bG.out];exact f _ _ ⟨_,rfl,Touch.refl _ _,hR.skip 9 (by decide),rfl⟩
    ·clear d;go_simp;exact f _ _ ⟨_,rfl,Touch.refl _ _,hR.skip 10 (by decide),rfl⟩
    ·have Z:=Ord.ab _ d 10 (by decide);simp only[rV]at Z;simp only[Z]at f;clear d;go_simp;rw[bM.out];exact f _ _ ⟨_,rfl,Touch.refl _ _,hR.skip 11 (by decide),rfl⟩
    ·have q9:=Ord.ab _ d 9 (by decide);simp only[rV]at q9;have Y:=Ord.ab _ d 11 (by decide);simp only[rV]at Y;simp only[q9,Y]at f;clear d;go_simp;rw[bx.out];exact f _ _ ⟨_,rfl,Touch.refl _ _,hR.skip 12 (by decide),rfl⟩
    ·have q2:=Ord.ab _ d 2 (by decide);simp only[rV]at q2;have q7:=Ord.ab _ d 7 (by decide);simp only[rV]at q7;have X:=Ord.ab _ d 12 (by decide);simp only[rV]at X;simp only[q2,q7,X]at f;clear d;go_simp;exact f _ _ ⟨_,rfl,Touch.refl _ _,hR.skip 13 (by decide),rfl⟩
    ·clear d;go_simp;exact f _ _ ⟨_,rfl,Touch.refl _ _,hR.skip 14 (by decide),rfl⟩
    ·have V:=Ord.ab _ d 13 (by decide);simp only[rV]at V;have U:=Ord.ab _ d 14 (by decide);simp only[rV]at U;simp only[V,U]at f;clear d;have u:=hR.now hD;have f0:=aC u 0;have s0:=aN (i:=0) u (.int .u32 (r:Int));have f1:=aC s0 1;have s1:=aN (i:=1) s0 (.int .u32 (k.an:Int));have f2:=aC s1 2;have s2:=aN (i:=2) s1 (.int .u32 (ff:Int));have g0:=ah u 0 (EN _);have g1:=ah s0 1 (EM _ _);have g2:=ah s1 2 (EL _ _ _);rw[A3,show jb ⟨r,k.an,ff,(Wl.jO l wl old sw fresh).log⟩=jb (Wl.mw l wl old sw fresh r k.an)from by rw[bL.out];rfl]at s2;have S2:=GD s2;clear u s0 s1 s2;go_simp;exact f _ _ ⟨undef,rfl,((Touch.set (S:=(·=s)) s 0 _ rfl).trans (.set s 1 _ rfl)).trans (.set s 2 _ rfl),hR.put (((Touch.set (S:=(·=s)) s 0 _ rfl).trans (.set s 1 _ rfl)).trans (.set s 2 _ rfl)) S2.out,trivial⟩
    exact Ord.ay
   case hendc=>
    intro D xs w9 hR j;have aA:=(j 15 (by decide)).1;have e0:=(j 0 (by decide)).2;have e1:=(j 1 (by decide)).2;have e2:=(j 2 (by decide)).2;have e3:=(j 3 (by decide)).2;have e4:=(j 4 (by decide)).2;have e5:=(j 5 (by decide)).2;have e6:=(j 6 (by decide)).2;have e7:=(j 7 (by decide)).2;have e8:=(j 8 (by decide)).2;have e9:=(j 9 (by decide)).2;have N:=(j 10 (by decide)).2;have M:=(j 11 (by decide)).2;have J:=(j 12 (by decide)).2;have I:=(j 13 (by decide)).2;have H:=(j 14 (by decide)).2;simp only[rV]at e0 e1 e2 e3 e4 e5 e6 e7 e8 e9 N M J I H;rw[e0];rw[e1];rw[e2];rw[e3];rw[e4];rw[e5];rw[e6];rw[e7];rw[e8];rw[e9];rw[N];rw[M];rw[J];rw[I];rw[H];clear e0 e1 e2 e3 e4 e5 e6 e7 e8 e9 N M J I H;clear j;generalize xs 15=x15 at*
    have t:=hR.done aA;have bA:=GD t;have ba:=GD ((aq.out.trans aO.out).trans hR.aj);clear t hR aA F;have aw:(Wl.mw l wl old sw fresh r k.an).log.length=52:=bk.out;have au:=GD aw;have bg:=GD (ba.out.row bC.out bf.out);clear aw;generalize aX:Wl.mw l wl old sw fresh r k.an=y at*
    have bI:=GD aX;clear aX;go_upto_region 7 with(fail)
    go_step;refine wpList_load_row rfl 180 (.tmp 9) rfl s rfl _ _ _ _ bA.out Tryz.underlying180 rfl (ki au.out) ?_;refine wpList_store_row rfl 180 (.tmp 6) (.tmp 61) rfl (Q1+1) _ rfl rfl _ _ bg.out (ki au.out) (by rw[lK,au.out];rfl) (oM _) ?_;have O:=setRow_heap _ _ _ (jb y) _ _ bg.out;have aG:Below w.heap.size w w9:=bm.out.trans (ba.out.below (base:=w.heap.size) (fun i hi=>by rw[hi];exact bF.out) bm.out.size);have HE:=GD (aG.trans ((gr (w:=w9) (Q1+1) (jb y)).below (base:=w.heap.size) (fun i hi=>by rw[hi,HQ.out];exact G8 _) aG.size));clear aG;generalize w9.setRow (Q1+1) (jb y)=w10 at O HE⊢;go_wp2_with fail
    refine bodyPost_ret (v:=CY y) ?_ rfl ⟨by rw[<-bI.out,bz.out],HE.out⟩;exact IG rfl _ _ (Q1+1) 180 _ _ _ rfl O Tryz.underlying180 rfl (ki au.out)
end Go.Proofs.YtbpodmallknhfaaGreat
