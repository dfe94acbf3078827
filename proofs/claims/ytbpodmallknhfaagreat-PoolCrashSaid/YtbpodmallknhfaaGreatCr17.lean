/- Parts of a proof. Conditions: as each row says. -/
import Derived.Test.YtbpodmallknhfaaGreatCr16
import Derived.Test.YtbpodmallknhfaaGreatCr10
import Derived.Deep.RegionWith
namespace Go.Proofs.YtbpodmallknhfaaGreat
open Go.RowKit
def GJ(B:Nat)(a:Nat)(off:Nat)(i:Nat)(v:Value)(_:World):Prop:=
 match i with
 |0=>v=.pointer (some ⟨B,4,none⟩)
 |1=>v=.int .u32 (a:Int)
 |3=>v=.pointer (some ⟨B,5,none⟩)
 |4=>v=.int .u16 (off:Int)
 |_=>True
def GI(a:Nat)(off:Nat)(base:Nat)(i:Nat)(w:World)(v:Value):Prop:=
 match i with
 |2=>Own base w v (aw.le 4 a)
 |5=>Own base w v (aw.le 2 off)
 |6=>Own base w v (aw.le 4 a++aw.le 2 off)
 |7=>Own base w v (aw.le 4 a++aw.le 2 off)
 |_=>True
def IB(i:Nat):Option Nat:=
 match i with
 |2=>some 6
 |5=>some 6
 |6=>some 7
 |_=>none
theorem FJ(b:Nat)(off:Nat)(base:Nat):∀k w w' v,GI b off base k w v->Below w.heap.size w w'->GI b off base k w' v:=by
 intro k w w' v h a;unfold GI at*
 split
 ·exact h.below a
 ·exact h.below a
 ·exact h.below a
 ·exact h.below a
 ·trivial
def FR(B:Nat)(a:Value)(b:Value)(c:Value)(i:Nat)(v:Value)(_:World):Prop:=
 match i with
 |0=>v=a
 |1=>v=.pointer (some ⟨B,6,none⟩)
 |2=>v=b
 |4=>v=.pointer (some ⟨B,7,none⟩)
 |5=>v=c
 |_=>True
def GX(base:Nat)(L:List Nat)(ol:List Nat)(nw:List Nat)(i:Nat)(w:World)(v:Value):Prop:=
 match i with
 |3=>Own base w v (L++(aw.uv ol.length++ol))
 |6=>Own base w v ((L++(aw.uv ol.length++ol))++(aw.uv nw.length++nw))
 |7=>Own base w v ((L++(aw.uv ol.length++ol))++(aw.uv nw.length++nw))
 |_=>True
def IA(i:Nat):Option Nat:=
 match i with
 |3=>some 6
 |6=>some 7
 |_=>none
theorem Ej(base:Nat)(L:List Nat)(ol:List Nat)(nw:List Nat):∀k w w' v,GX base L ol nw k w v->Below w.heap.size w w'->GX base L ol nw k w' v:=by
 intro k w w' v h a;unfold GX at*
 split
 ·exact h.below a
 ·exact h.below a
 ·exact h.below a
 ·trivial
set_option maxHeartbeats 6400000 in
set_option maxRecDepth 20000 in
theorem zC(x:Lr.R)(o n u c d:Value)(w:World)(h:bA w x o n u c d)(hf:Lr.xm x)(hk:x.kind=1):
 Calls Tryz.prog 82 #[cz x o n u c d] w fun e w'=>∃u,e=.returned u/\Own w.heap.size w' u (Lr.own x)/\Below w.heap.size w w':=by
 obtain⟨W,hW⟩:∃W,W=w.alloc (aD x o n u c d):=⟨_,rfl⟩
 have l:=aj w (aD x o n u c d);have hr:=dj w x o n u c d;rw[<-hW]at l hr;have HB:=Lib.hid l;have HA:=Lib.hid (h.below l);have s:Hid (w.heap.size<W.heap.size):=lt_of_block hr;obtain⟨A,z,J,I,y,H,q6,q7,q8,q9,P,O,N,M,L⟩:=au hr;obtain⟨p1,c1,p2,c2,p3,c3,p4,c4,p5,c5,rfl,rfl,rfl,rfl,rfl⟩:=ax h;have HF:=Lib.hid hf;clear h l hr hf;unfold aD at hW;obtain⟨k,bj,ep,bs,a,off,ol,nw,un,pv,nx,cl,st,op,di⟩:=x;dsimp only at*
 subst hk;rw[show Lr.own ⟨1,bj,ep,bs,a,off,ol,nw,un,pv,nx,cl,st,op,di⟩=aw.le 4 a++(aw.le 2 off++(Lr.text ol++Lr.text nw))from rfl];have ar:=Lib.hid A;have aq:=Lib.hid z;have an:=Lib.hid J;have al:=Lib.hid I;have U:=Lib.hid y;have T:=Lib.hid H;have v:=Lib.hid q6;have t:=Lib.hid q7;have ak:=Lib.hid q8;have ai:=Lib.hid q9;have ad:=Lib.hid P;have Z:=Lib.hid O;have Y:=Lib.hid N;have X:=Lib.hid M;have V:=Lib.hid L;go_enter Tryz.func82,Tryz.ntmps82;go_upto_region 1 with(fail)
 rw[<-hW];clear hW;go_upto_region 3 with(fail)
 obtain⟨B,E⟩:∃B,B=w.heap.size:=⟨_,rfl⟩
 rw[<-E]at HB s ar aq an al U T v t ak ai ad Z Y X V⊢;have ae:=Lib.hid E;clear E A z J I y H q6 q7 q8 q9 P O N M L;refine Ord.walk (GJ B a off) (eo W.heap.size W (GI a off W.heap.size) IB) (fun _ _=>True)
  (by kernel_rfl) (by kernel_rfl) ?fr3 ?hfr3 (fun _ _ _ _ _ h=>h) (fun xs=>eo.first xs (Nat.le_refl _)) ?he3 ?hend3
 case hfr3=>
  intro xs;simp only[Ord.fill,Act.put,List.setIfInBounds_toArray,List.set_cons_zero,List.set_cons_succ];rfl
 case he3=>
  iterate 8 (refine Ord.aa (fun D xs w2 C hC G hR b K f=>?_) ?_;rotate_left)
  rotate_left
  ·clear b;go_simp;exact f _ _ ⟨_,rfl,trivial,hR.step 0 _ (FJ a off W.heap.size) (Below.refl _ _) trivial,rfl⟩
  ·have A:=Ord.ab _ b 0 (by decide);simp only[GJ]at A;simp only[A]at f;clear b;have cc:=hR.below.cell (p:=⟨B,4,none⟩) s.out;rw[U.out]at cc;go_simp;exact f _ _ ⟨_,rfl,trivial,hR.step 1 _ (FJ a off W.heap.size) (Below.refl _ _) trivial,rfl⟩
  ·have z:=Ord.ab _ b 1 (by decide);simp only[GJ]at z;simp only[z]at f;clear b;go_simp;refine(de (.slice none 0 0) [] a w2 (aX w2) (by decide)).mono ?_;rintro e w'⟨u,rfl,r,l⟩;rw[List.nil_append]at r;exact f _ _ ⟨_,rfl,trivial,hR.step 2 _ (FJ a off W.heap.size) l (r.from hR.size),trivial⟩
  ·clear b;go_simp;exact f _ _ ⟨_,rfl,trivial,hR.step 3 _ (FJ a off W.heap.size) (Below.refl _ _) trivial,rfl⟩
  ·have I:=Ord.ab _ b 3 (by decide);simp only[GJ]at I;simp only[I]at f;clear b;have cc:=hR.below.cell (p:=⟨B,5,none⟩) s.out;rw[T.out]at cc;go_simp;exact f _ _ ⟨_,rfl,trivial,hR.step 4 _ (FJ a off W.heap.size) (Below.refl _ _) trivial,rfl⟩
  ·have y:=Ord.ab _ b 4 (by decide);simp only[GJ]at y;simp only[y]at f;clear b;go_simp;refine(rK (.slice none 0 0) [] off w2 (aX w2) (by decide)).mono ?_;rintro e w'⟨u,rfl,r,l⟩;rw[List.nil_append]at r;exact f _ _ ⟨_,rfl,trivial,hR.step 5 _ (FJ a off W.heap.size) l (r.from hR.size),trivial⟩
  ·clear b;have o2:Own W.heap.size w2 (xs 2) (aw.le 4 a):=hR.each 2 (G {on:=2,ground:=.data} (by simp) rfl) (fun i m=>by rw[<-Option.some.inj (show some 6=some i from m)];exact C);have o5:Own W.heap.size w2 (xs 5) (aw.le 2 off):=hR.each 5 (G {on:=5,ground:=.data} (by simp) rfl) (fun i m=>by rw[<-Option.some.inj (show some 6=some i from m)];exact C);refine ew _ _ rfl W.heap.size (xs 2) _ rfl o2 (xs 5) _ rfl o5.bz (by rw[aw.ao,aw.ao];decide) hR.size ?_;intro u w' r l _;refine f _ _ ⟨_,rfl,trivial,hR.append 6 _ l (fun j hj ag ha=>?_) r,trivial⟩;unfold GI;split
   ·exact absurd (ha 6 rfl) (by rw[jQ];decide)
   ·exact absurd (ha 6 rfl) (by rw[jQ];decide)
   ·exact absurd rfl hj
   ·exact absurd ag (by cases hx:D 7 with|false=>decide|true=>exact absurd (Ord.aL hC 7 6 rfl hx) (by rw[C];decide))
   ·trivial
  ·clear b;have o6:Own W.heap.size w2 (xs 6) (aw.le 4 a++aw.le 2 off):=hR.each 6 (G {on:=6,ground:=.data} (by simp) rfl) (fun i m=>by rw[<-Option.some.inj (show some 7=some i from m)];exact C);go_simp;exact f _ _ ⟨_,rfl,trivial,hR.step 7 _ (FJ a off W.heap.size) (Below.refl _ _) o6,trivial⟩
  exact Ord.az
 case hend3=>
  intro D xs w9 hR g;have S:=hR.each 7 (g 7 (by decide)).1 (fun i m=>by cases m);have HU:Hid (Own W.heap.size w9 (xs 7) (aw.le 4 a++aw.le 2 off)):=S;have q:=Lib.hid hR.below;clear S hR g;generalize xs 7=u3 at*
  generalize xs 6=x6 at*
  generalize xs 5=x5 at*
  generalize xs 4=x4 at*
  generalize xs 3=x3 at*
  generalize xs 2=x2 at*
  generalize xs 1=x1 at*
  generalize xs 0=x0 at*
  go_upto_region 4 with(fail)
  obtain⟨W2,Q⟩:∃W2,W2=w9:=⟨_,rfl⟩
  rw[<-Q]at q HU⊢;clear Q;have HA:=Lib.hid (HA.out.below q.out);have F:Hid (B<W2.heap.size):=Nat.lt_of_lt_of_le s.out q.out.size;have v:Hid (W2.cell? ⟨B,6,none⟩=_):=(q.out.cell (p:=⟨B,6,none⟩) s.out).trans v.out;have t:Hid (W2.cell? ⟨B,7,none⟩=_):=(q.out.cell (p:=⟨B,7,none⟩) s.out).trans t.out;have ah:=s;have s:=F;refine Ord.walk (FR B u3 (.slice p1 ol.length c1) (.slice p2 nw.length c2)) (eo W2.heap.size W2 (GX W2.heap.size (aw.le 4 a++aw.le 2 off) ol nw) IA) (fun _ _=>True)
   (by kernel_rfl) (by kernel_rfl) ?fr4 ?hfr4 (fun _ _ _ _ _ h=>h) (fun xs=>eo.first xs (Nat.le_refl _)) ?he4 ?hend4
  case hfr4=>
   intro xs;simp only[Ord.fill,Act.put,List.setIfInBounds_toArray,List.set_cons_zero,List.set_cons_succ];rfl
  case he4=>
   iterate 8 (refine Ord.aa (fun D xs w2 C hC G hR b K f=>?_) ?_;rotate_left)
   rotate_left
   ·clear b;go_simp;exact f _ _ ⟨_,rfl,trivial,hR.step 0 _ (Ej W2.heap.size (aw.le 4 a++aw.le 2 off) ol nw) (Below.refl _ _) trivial,rfl⟩
   ·clear b;go_simp;exact f _ _ ⟨_,rfl,trivial,hR.step 1 _ (Ej W2.heap.size (aw.le 4 a++aw.le 2 off) ol nw) (Below.refl _ _) trivial,rfl⟩
   ·have z:=Ord.ab _ b 1 (by decide);simp only[FR]at z;simp only[z]at f;clear b;have cc:=hR.below.cell (p:=⟨B,6,none⟩) s.out;rw[v.out]at cc;go_simp;exact f _ _ ⟨_,rfl,trivial,hR.step 2 _ (Ej W2.heap.size (aw.le 4 a++aw.le 2 off) ol nw) (Below.refl _ _) trivial,rfl⟩
   ·have A:=Ord.ab _ b 0 (by decide);simp only[FR]at A;have J:=Ord.ab _ b 2 (by decide);simp only[FR]at J;simp only[A,J]at f;clear b;go_simp;refine(iF u3 (.slice p1 ol.length c1) _ ol w2 (HU.out.bz.below hR.below) (HA.out.old.below hR.below) (by rw[List.length_append,aw.ao,aw.ao];have:=HF.out.old;dsimp only at this;omega)).mono ?_;rintro e w'⟨u,rfl,r,l⟩;exact f _ _ ⟨_,rfl,trivial,hR.step 3 _ (Ej W2.heap.size (aw.le 4 a++aw.le 2 off) ol nw) l (r.from hR.size),trivial⟩
   ·clear b;go_simp;exact f _ _ ⟨_,rfl,trivial,hR.step 4 _ (Ej W2.heap.size (aw.le 4 a++aw.le 2 off) ol nw) (Below.refl _ _) trivial,rfl⟩
   ·have y:=Ord.ab _ b 4 (by decide);simp only[FR]at y;simp only[y]at f;clear b;have cc:=hR.below.cell (p:=⟨B,7,none⟩) s.out;rw[t.out]at cc;go_simp;exact f _ _ ⟨_,rfl,trivial,hR.step 5 _ (Ej W2.heap.size (aw.le 4 a++aw.le 2 off) ol nw) (Below.refl _ _) trivial,rfl⟩
   ·have H:=Ord.ab _ b 5 (by decide);simp only[FR]at H;simp only[H]at f;clear b;have o3:Own W2.heap.size w2 (xs 3) ((aw.le 4 a++aw.le 2 off)++(aw.uv ol.length++ol)):=hR.each 3 (G {on:=3,ground:=.data} (by simp) rfl) (fun i m=>by rw[<-Option.some.inj (show some 6=some i from m)];exact C);go_simp;refine(iF (xs 3) (.slice p2 nw.length c2) _ nw w2 o3.bz (HA.out.new.below hR.below) (by have h1:=HF.out.old;have h2:=HF.out.new;have h3:=aw.iG (n:=ol.length) (by dsimp only at h1;omega);simp only[List.length_append,aw.ao];dsimp only at h1 h2;omega)).mono ?_;rintro e w'⟨u,rfl,r,l⟩;exact f _ _ ⟨_,rfl,trivial,hR.step 6 _ (Ej W2.heap.size (aw.le 4 a++aw.le 2 off) ol nw) l (r.from hR.size),trivial⟩
   ·clear b;have o6:Own W2.heap.size w2 (xs 6) (((aw.le 4 a++aw.le 2 off)++(aw.uv ol.length++ol))++(aw.uv nw.length++nw)):=hR.each 6 (G {on:=6,ground:=.data} (by simp) rfl) (fun i m=>by rw[<-Option.some.inj (show some 7=some i from m)];exact C);go_simp;exact f _ _ ⟨_,rfl,trivial,hR.step 7 _ (Ej W2.heap.size (aw.le 4 a++aw.le 2 off) ol nw) (Below.refl _ _) o6,trivial⟩
   exact Ord.az
  case hend4=>
   intro D xs w9 hR g;have S:=hR.each 7 (g 7 (by decide)).1 (fun i m=>by cases m);have HV:=Lib.hid S;have af:=Lib.hid hR.below;clear S hR g;generalize xs 7=z7 at*
   generalize xs 6=z6 at*
   generalize xs 5=z5 at*
   generalize xs 4=z4 at*
   generalize xs 3=z3 at*
   generalize xs 2=z2 at*
   generalize xs 1=z1 at*
   generalize xs 0=z0 at*
   go_wp2_with fail
   go_ret;refine⟨_,rfl,?_,by rw[<-ae.out];exact(HB.out.trans (q.out.mono (Nat.le_of_lt ah.out))).trans (af.out.mono (Nat.le_of_lt F.out))⟩;rw[<-ae.out];have h8:Own W2.heap.size w9 z7 _:=HV.out;rw[List.append_assoc,List.append_assoc]at h8;exact h8.from (Nat.le_of_lt F.out)
def GH(B:Nat)(a:Value)(dv:Value)(i:Nat)(v:Value)(_:World):Prop:=
 match i with
 |0=>v=.pointer (some ⟨B,13,none⟩)
 |1=>v=a
 |3=>v=.pointer (some ⟨B,14,none⟩)
 |4=>v=dv
 |_=>True
def GG(base:Nat)(op:List Lr.Ch)(a:List Lr.Di)(i:Nat)(w:World)(v:Value):Prop:=
 match i with
 |2=>Own base w v (aw.uv op.length++Lr.qh op)
 |5=>Own base w v (aw.uv a.length++Lr.qz a)
 |6=>Own base w v ((aw.uv op.length++Lr.qh op)++(aw.uv a.length++Lr.qz a))
 |7=>Own base w v ((aw.uv op.length++Lr.qh op)++(aw.uv a.length++Lr.qz a))
 |_=>True
def Iz(i:Nat):Option Nat:=
 match i with
 |2=>some 6
 |5=>some 6
 |6=>some 7
 |_=>none
theorem FH(base:Nat)(op:List Lr.Ch)(b:List Lr.Di):∀k w w' v,GG base op b k w v->Below w.heap.size w w'->GG base op b k w' v:=by
 intro k w w' v h a;unfold GG at*
 split
 ·exact h.below a
 ·exact h.below a
 ·exact h.below a
 ·exact h.below a
 ·trivial
set_option maxHeartbeats 6400000 in
set_option maxRecDepth 20000 in
theorem zz(x:Lr.R)(o n u c d:Value)(w:World)(h:bA w x o n u c d)(hf:Lr.xm x)(hk:x.kind=5):
 Calls Tryz.prog 82 #[cz x o n u c d] w fun e w'=>∃u,e=.returned u/\Own w.heap.size w' u (Lr.own x)/\Below w.heap.size w w':=by
 obtain⟨W,Q⟩:∃W,W=w.alloc (aD x o n u c d):=⟨_,rfl⟩
 have g:=aj w (aD x o n u c d);have P:=dj w x o n u c d;rw[<-Q]at g P;have HB:=Lib.hid g;have HA:=Lib.hid (h.below g);have I:Hid (w.heap.size<W.heap.size):=lt_of_block P;obtain⟨G,F,q2,v,t,q5,q6,q7,q8,q9,E,C,A,z,y⟩:=au P;obtain⟨p1,c1,p2,c2,p3,c3,p4,c4,p5,c5,rfl,rfl,rfl,rfl,rfl⟩:=ax h;have T:=Lib.hid hf;clear h g P hf;unfold aD at Q;obtain⟨k,bj,ep,bs,pg,off,ol,nw,un,pv,nx,cl,st,op,a⟩:=x;dsimp only at*
 subst hk;rw[show Lr.own ⟨5,bj,ep,bs,pg,off,ol,nw,un,pv,nx,cl,st,op,a⟩=(aw.uv op.length++Lr.qh op)++(aw.uv a.length++Lr.qz a)from rfl];have ak:=Lib.hid G;have ai:=Lib.hid F;have ah:=Lib.hid q2;have ag:=Lib.hid v;have af:=Lib.hid t;have ae:=Lib.hid q5;have ad:=Lib.hid q6;have Z:=Lib.hid q7;have Y:=Lib.hid q8;have X:=Lib.hid q9;have M:=Lib.hid E;have L:=Lib.hid C;have J:=Lib.hid A;have q:=Lib.hid z;have m:=Lib.hid y;go_enter Tryz.func82,Tryz.ntmps82;go_upto_region 1 with(fail)
 rw[<-Q];clear Q;go_upto_region 15 with(fail)
 obtain⟨B,s⟩:∃B,B=w.heap.size:=⟨_,rfl⟩
 rw[<-s]at HB I ak ai ah ag af ae ad Z Y X M L J q m⊢;have N:=Lib.hid s;clear s G F q2 v t q5 q6 q7 q8 q9 E C A z y;refine Ord.walk (GH B (.slice p4 op.length c4) (.slice p5 a.length c5)) (eo W.heap.size W (GG W.heap.size op a) Iz) (fun _ _=>True)
  (by kernel_rfl) (by kernel_rfl) ?fr15 ?hfr15 (fun _ _ _ _ _ h=>h) (fun xs=>eo.first xs (Nat.le_refl _)) ?he15 ?hend15
 case hfr15=>
  intro xs;simp only[Ord.fill,Act.put,List.setIfInBounds_toArray,List.set_cons_zero,List.set_cons_succ];rfl
 case he15=>
  iterate 8 (refine Ord.aa (fun D xs w2 S hC U hR f K b=>?_) ?_;rotate_left)
  rotate_left
  ·clear f;go_simp;exact b _ _ ⟨_,rfl,trivial,hR.step 0 _ (FH W.heap.size op a) (Below.refl _ _) trivial,rfl⟩
  ·have G:=Ord.ab _ f 0 (by decide);simp only[GH]at G;simp only[G]at b;clear f;have cc:=hR.below.cell (p:=⟨B,13,none⟩) I.out;rw[q.out]at cc;go_simp;exact b _ _ ⟨_,rfl,trivial,hR.step 1 _ (FH W.heap.size op a) (Below.refl _ _) trivial,rfl⟩
  ·have F:=Ord.ab _ f 1 (by decide);simp only[GH]at F;simp only[F]at b;clear f;go_simp;refine(wM (.slice p4 op.length c4) op w2 (HA.out.dm.below hR.below) (by have:=T.out.dm;dsimp only at this;omega)).mono ?_;rintro e w'⟨u,rfl,H,g⟩;exact b _ _ ⟨_,rfl,trivial,hR.step 2 _ (FH W.heap.size op a) g (H.from hR.size),trivial⟩
  ·clear f;go_simp;exact b _ _ ⟨_,rfl,trivial,hR.step 3 _ (FH W.heap.size op a) (Below.refl _ _) trivial,rfl⟩
  ·have v:=Ord.ab _ f 3 (by decide);simp only[GH]at v;simp only[v]at b;clear f;have cc:=hR.below.cell (p:=⟨B,14,none⟩) I.out;rw[m.out]at cc;go_simp;exact b _ _ ⟨_,rfl,trivial,hR.step 4 _ (FH W.heap.size op a) (Below.refl _ _) trivial,rfl⟩
  ·have t:=Ord.ab _ f 4 (by decide);simp only[GH]at t;simp only[t]at b;clear f;go_simp;refine(zG (.slice p5 a.length c5) a w2 (HA.out.bR.below hR.below) (by have:=T.out.bR;dsimp only at this;omega)).mono ?_;rintro e w'⟨u,rfl,H,g⟩;exact b _ _ ⟨_,rfl,trivial,hR.step 5 _ (FH W.heap.size op a) g (H.from hR.size),trivial⟩
  ·clear f;have o2:Own W.heap.size w2 (xs 2) (aw.uv op.length++Lr.qh op):=hR.each 2 (U {on:=2,ground:=.data} (by simp) rfl) (fun i r=>by rw[<-Option.some.inj (show some 6=some i from r)];exact S);have o5:Own W.heap.size w2 (xs 5) (aw.uv a.length++Lr.qz a):=hR.each 5 (U {on:=5,ground:=.data} (by simp) rfl) (fun i r=>by rw[<-Option.some.inj (show some 6=some i from r)];exact S);refine ew _ _ rfl W.heap.size (xs 2) _ rfl o2 (xs 5) _ rfl o5.bz (by have h1:=T.out.dm;have h2:=T.out.bR;dsimp only at h1 h2;have h3:=aw.iG (n:=op.length) (by omega);have h4:=aw.iG (n:=a.length) (by omega);simp only[List.length_append,Lr.jF,Lr.jD];omega) hR.size ?_;intro u w' H g _;refine b _ _ ⟨_,rfl,trivial,hR.append 6 _ g (fun j hj V ha=>?_) H,trivial⟩;unfold GG;split
   ·exact absurd (ha 6 rfl) (by rw[jQ];decide)
   ·exact absurd (ha 6 rfl) (by rw[jQ];decide)
   ·exact absurd rfl hj
   ·exact absurd V (by cases hx:D 7 with|false=>decide|true=>exact absurd (Ord.aL hC 7 6 rfl hx) (by rw[S];decide))
   ·trivial
  ·clear f;have o6:Own W.heap.size w2 (xs 6) ((aw.uv op.length++Lr.qh op)++(aw.uv a.length++Lr.qz a)):=hR.each 6 (U {on:=6,ground:=.data} (by simp) rfl) (fun i r=>by rw[<-Option.some.inj (show some 7=some i from r)];exact S);go_simp;exact b _ _ ⟨_,rfl,trivial,hR.step 7 _ (FH W.heap.size op a) (Below.refl _ _) o6,trivial⟩
  exact Ord.az
 case hend15=>
  intro D xs w9 hR l;have h7:=hR.each 7 (l 7 (by decide)).1 (fun i r=>by cases r);have HV:=Lib.hid h7;have O:=Lib.hid hR.below;clear h7 hR l;generalize xs 7=z7 at*
  generalize xs 6=z6 at*
  generalize xs 5=z5 at*
  generalize xs 4=z4 at*
  generalize xs 3=z3 at*
  generalize xs 2=z2 at*
  generalize xs 1=z1 at*
  generalize xs 0=z0 at*
  go_wp2_with fail
  go_ret;refine⟨_,rfl,?_,by rw[<-N.out];exact HB.out.trans (O.out.mono (Nat.le_of_lt I.out))⟩;rw[<-N.out];have h8:Own W.heap.size w9 z7 _:=HV.out;exact h8.from (Nat.le_of_lt I.out)
set_option maxHeartbeats 6400000 in
set_option maxRecDepth 20000 in
theorem zB(x:Lr.R)(o n u c d:Value)(w:World)(h:bA w x o n u c d)(hf:Lr.xm x)(A:x.kind=3):
 Calls Tryz.prog 82 #[cz x o n u c d] w fun e w'=>∃u,e=.returned u/\Own w.heap.size w' u (Lr.own x)/\Below w.heap.size w w':=by
 obtain⟨W,j⟩:∃W,W=w.alloc (aD x o n u c d):=⟨_,rfl⟩
 have i:=aj w (aD x o n u c d);have g:=dj w x o n u c d;rw[<-j]at i g;have m:=Lib.hid i;have Y:=Lib.hid (h.below i);have V:Hid (w.heap.size<W.heap.size):=lt_of_block g;obtain⟨O,N,M,L,K,J,I,H,G,F,v,t,s,r,q⟩:=au g;obtain⟨U,c1,T,c2,S,c3,Q,c4,P,c5,rfl,rfl,rfl,rfl,rfl⟩:=ax h;have X:=Lib.hid hf;clear h i g hf;unfold aD at j;obtain⟨k,bj,ep,bs,y,off,ol,nw,un,pv,z,D,st,op,C⟩:=x;dsimp only at*
 subst A;rw[show Lr.own ⟨3,bj,ep,bs,y,off,ol,nw,un,pv,z,D,st,op,C⟩=aw.le 8 bs++aw.le 8 st from rfl];go_enter Tryz.func82,Tryz.ntmps82;go_upto_region 1 with(fail)
 rw[<-j];clear j;go_wp2_with fail
 have p:=me W [bs,st] 2 rfl #[.int .u64 (bs:Int),.int .u64 (st:Int)] 56 rfl;have a:=aj W (.cells #[.int .u64 (bs:Int),.int .u64 (st:Int)] 56);generalize W.alloc (.cells #[.int .u64 (bs:Int),.int .u64 (st:Int)] 56)=wn at*
 refine(ia _ [bs,st] wn p (show 2<=100 by decide)).mono ?_;rintro e w1⟨u,rfl,f,b⟩;have E:=Lib.hid (f.from (Nat.le_trans m.out.size a.size));have l:=Lib.hid (m.out.trans ((a.trans (b.mono a.size)).mono m.out.size));clear f b p a;go_wp2_with fail
 go_ret;refine⟨_,rfl,?_,l.out⟩;have B:=E.out;simpa[nP]using B
set_option maxHeartbeats 6400000 in
set_option maxRecDepth 20000 in
theorem zA(x:Lr.R)(o n u c d:Value)(w:World)(h:bA w x o n u c d)(hf:Lr.xm x)(A:x.kind=4):
 Calls Tryz.prog 82 #[cz x o n u c d] w fun e w'=>∃u,e=.returned u/\Own w.heap.size w' u (Lr.own x)/\Below w.heap.size w w':=by
 obtain⟨W,j⟩:∃W,W=w.alloc (aD x o n u c d):=⟨_,rfl⟩
 have i:=aj w (aD x o n u c d);have g:=dj w x o n u c d;rw[<-j]at i g;have m:=Lib.hid i;have Y:=Lib.hid (h.below i);have V:Hid (w.heap.size<W.heap.size):=lt_of_block g;obtain⟨O,N,M,L,K,J,I,H,G,F,v,t,s,r,q⟩:=au g;obtain⟨U,c1,T,c2,S,c3,Q,c4,P,c5,rfl,rfl,rfl,rfl,rfl⟩:=ax h;have X:=Lib.hid hf;clear h i g hf;unfold aD at j;obtain⟨k,bj,ep,bs,y,off,ol,nw,un,pv,z,D,st,op,C⟩:=x;dsimp only at*
 subst A;rw[show Lr.own ⟨4,bj,ep,bs,y,off,ol,nw,un,pv,z,D,st,op,C⟩=aw.le 8 bs from rfl];go_enter Tryz.func82,Tryz.ntmps82;go_upto_region 1 with(fail)
 rw[<-j];clear j;go_wp2_with fail
 have p:=me W [bs] 1 rfl #[.int .u64 (bs:Int)] 56 rfl;have a:=aj W (.cells #[.int .u64 (bs:Int)] 56);generalize W.alloc (.cells #[.int .u64 (bs:Int)] 56)=wn at*
 refine(ia _ [bs] wn p (show 1<=100 by decide)).mono ?_;rintro e w1⟨u,rfl,f,b⟩;have E:=Lib.hid (f.from (Nat.le_trans m.out.size a.size));have l:=Lib.hid (m.out.trans ((a.trans (b.mono a.size)).mono m.out.size));clear f b p a;go_wp2_with fail
 go_ret;refine⟨_,rfl,?_,l.out⟩;have B:=E.out;simpa[nP]using B
set_option maxHeartbeats 6400000 in
set_option maxRecDepth 20000 in
theorem zD(x:Lr.R)(o n u c d:Value)(w:World)(h:bA w x o n u c d)(hf:Lr.xm x)(a:¬x.kind=1/\¬x.kind=2/\¬x.kind=3/\¬x.kind=4/\¬x.kind=5):
 Calls Tryz.prog 82 #[cz x o n u c d] w fun e w'=>∃u,e=.returned u/\Own w.heap.size w' u (Lr.own x)/\Below w.heap.size w w':=by
 obtain⟨W,g⟩:∃W,W=w.alloc (aD x o n u c d):=⟨_,rfl⟩
 have f:=aj w (aD x o n u c d);have b:=dj w x o n u c d;rw[<-g]at f b;have C:=Lib.hid f;have Z:=Lib.hid (h.below f);have X:Hid (w.heap.size<W.heap.size):=lt_of_block b;obtain⟨M,L,K,J,I,H,G,F,E,D,v,t,s,r,q⟩:=au b;obtain⟨S,c1,Q,c2,P,c3,O,c4,N,c5,rfl,rfl,rfl,rfl,rfl⟩:=ax h;have Y:=Lib.hid hf;clear h f b hf;unfold aD at g;obtain⟨k,bj,ep,bs,y,off,ol,nw,un,pv,z,B,st,op,A⟩:=x;dsimp only at*
 have p:=a.1;have m:=a.2.1;have l:=a.2.2.1;have j:=a.2.2.2.1;have i:=a.2.2.2.2;rw[show Lr.own ⟨k,bj,ep,bs,y,off,ol,nw,un,pv,z,B,st,op,A⟩=[]by unfold Lr.own;simp only[if_neg p,if_neg m,if_neg l,if_neg j,if_neg i]];have k1:(k==1)=false:=by rw[beq_eq_false_iff_ne];exact p
 have k2:(k==2)=false:=by rw[beq_eq_false_iff_ne];exact m
 have V:(k==3)=false:=by rw[beq_eq_false_iff_ne];exact l
 have U:(k==4)=false:=by rw[beq_eq_false_iff_ne];exact j
 have T:(k==5)=false:=by rw[beq_eq_false_iff_ne];exact i
 clear a p m l j i;go_enter Tryz.func82,Tryz.ntmps82;go_upto_region 1 with(fail)
 rw[<-g];clear g;go_wp2_with fail
 go_ret;exact⟨_,rfl,aM _ _,C.out⟩
def rM(B:Nat)(bs:Nat)(pv:Nat)(a:Nat)(ci:Int)(uv:Value)(i:Nat)(v:Value)(_:World):Prop:=
 match i with
 |0=>v=.pointer (some ⟨B,3,none⟩)
 |1=>v=.int .u64 (bs:Int)
 |2=>v=.pointer (some ⟨B,9,none⟩)
 |3=>v=.int .u64 (pv:Int)
 |4=>v=.pointer (some ⟨B,10,none⟩)
 |5=>v=.int .u64 (a:Int)
 |8=>v=.int .u8 ci
 |11=>v=.pointer (some ⟨B,8,none⟩)
 |12=>v=uv
 |_=>True
def FI(base:Nat)(bs:Nat)(pv:Nat)(a:Nat)(c:Nat)(un:List Nat)(i:Nat)(w:World)(v:Value):Prop:=
 match i with
 |6=>Eh w v [bs,pv,a]
 |7=>Own base w v (nP [bs,pv,a])
 |9=>aV w v [c]
 |10=>Own base w v (nP [bs,pv,a]++[c])
 |13=>Own base w v ((nP [bs,pv,a]++[c])++(aw.uv un.length++un))
 |14=>Own base w v ((nP [bs,pv,a]++[c])++(aw.uv un.length++un))
 |_=>True
def Hs(i:Nat):Option Nat:=
 match i with
 |6=>some 7
 |7=>some 10
 |9=>some 10
 |10=>some 13
 |13=>some 14
 |_=>none
theorem mB(base:Nat)(bs:Nat)(pv:Nat)(b:Nat)(c:Nat)(un:List Nat):∀k w w' v,FI base bs pv b c un k w v->Below w.heap.size w w'->FI base bs pv b c un k w' v:=by
 intro k w w' v h a;unfold FI at*
 split
 ·exact h.below a
 ·exact h.below a
 ·exact h.below a
 ·exact h.below a
 ·exact h.below a
 ·exact h.below a
 ·trivial
set_option maxHeartbeats 6400000 in
set_option maxRecDepth 20000 in
theorem wI(x:Lr.R)(o n u c d:Value)(w:World)(h:bA w x o n u c d)(hf:Lr.xm x)(hk:x.kind=2)(hc:x.jE=false):
 Calls Tryz.prog 82 #[cz x o n u c d] w fun e w'=>∃u,e=.returned u/\Own w.heap.size w' u (Lr.own x)/\Below w.heap.size w w':=by
 obtain⟨W,hW⟩:∃W,W=w.alloc (aD x o n u c d):=⟨_,rfl⟩
 have q:=aj w (aD x o n u c d);have hr:=dj w x o n u c d;rw[<-hW]at q hr;have HB:=Lib.hid q;have HA:=Lib.hid (h.below q);have y:Hid (w.heap.size<W.heap.size):=lt_of_block hr;obtain⟨M,L,G,F,E,C,q6,q7,A,q9,J,l,g,I,H⟩:=au hr;obtain⟨p1,c1,p2,c2,p3,c3,p4,c4,p5,c5,rfl,rfl,rfl,rfl,rfl⟩:=ax h;have HF:=Lib.hid hf;clear h q hr hf;unfold aD at hW;obtain⟨k,bj,ep,bs,pg,off,ol,nw,un,pv,a,cl,st,op,di⟩:=x;dsimp only at*
 subst hk;subst hc;rw[show Lr.own ⟨2,bj,ep,bs,pg,off,ol,nw,un,pv,a,false,st,op,di⟩=aw.le 8 bs++(aw.le 8 pv++(aw.le 8 a++(0::Lr.text un)))from rfl];have an:=Lib.hid M;have al:=Lib.hid L;have ak:=Lib.hid G;have S:=Lib.hid F;have ai:=Lib.hid E;have ah:=Lib.hid C;have ag:=Lib.hid q6;have af:=Lib.hid q7;have Q:=Lib.hid A;have P:=Lib.hid q9;have s:=Lib.hid J;have X:=Lib.hid l;have V:=Lib.hid g;have U:=Lib.hid I;have T:=Lib.hid H;go_enter Tryz.func82,Tryz.ntmps82;go_upto_region 1 with(fail)
 rw[<-hW];clear hW;go_upto_region 9 with(fail)
 obtain⟨B,v⟩:∃B,B=w.heap.size:=⟨_,rfl⟩
 rw[<-v]at HB y an al ak S ai ah ag af Q P s X V U T⊢;have Y:=Lib.hid v;clear v M L G F E C q6 q7 A q9 J l g I H;refine Ord.walk (rM B bs pv a 0 (.slice p3 un.length c3)) (eo W.heap.size W (FI W.heap.size bs pv a 0 un) Hs) (fun _ _=>True)
  (by kernel_rfl) (by kernel_rfl) ?fr9 ?hfr9 (fun _ _ _ _ _ h=>h) (fun xs=>eo.first xs (Nat.le_refl _)) ?he9 ?hend9
 case hfr9=>
  intro xs;simp only[Ord.fill,Act.put,List.setIfInBounds_toArray,List.set_cons_zero,List.set_cons_succ];rfl
 case he9=>
  iterate 15 (refine Ord.aa (fun D xs w2 t hC z hR b K f=>?_) ?_;rotate_left)
  rotate_left
  ·clear b;go_simp;exact f _ _ ⟨_,rfl,trivial,hR.step 0 _ (mB W.heap.size bs pv a 0 un) (Below.refl _ _) trivial,rfl⟩
  ·have M:=Ord.ab _ b 0 (by decide);simp only[rM]at M;simp only[M]at f;clear b;have cc:=hR.below.cell (p:=⟨B,3,none⟩) y.out;rw[S.out]at cc;go_simp;exact f _ _ ⟨_,rfl,trivial,hR.step 1 _ (mB W.heap.size bs pv a 0 un) (Below.refl _ _) trivial,rfl⟩
  ·clear b;go_simp;exact f _ _ ⟨_,rfl,trivial,hR.step 2 _ (mB W.heap.size bs pv a 0 un) (Below.refl _ _) trivial,rfl⟩
  ·have G:=Ord.ab _ b 2 (by decide);simp only[rM]at G;simp only[G]at f;clear b;have cc:=hR.below.cell (p:=⟨B,9,none⟩) y.out;rw[P.out]at cc;go_simp;exact f _ _ ⟨_,rfl,trivial,hR.step 3 _ (mB W.heap.size bs pv a 0 un) (Below.refl _ _) trivial,rfl⟩
  ·clear b;go_simp;exact f _ _ ⟨_,rfl,trivial,hR.step 4 _ (mB W.heap.size bs pv a 0 un) (Below.refl _ _) trivial,rfl⟩
  ·have E:=Ord.ab _ b 4 (by decide);simp only[rM]at E;simp only[E]at f;clear b;have cc:=hR.below.cell (p:=⟨B,10,none⟩) y.out;rw[s.out]at cc;go_simp;exact f _ _ ⟨_,rfl,trivial,hR.step 5 _ (mB W.heap.size bs pv a 0 un) (Below.refl _ _) trivial,rfl⟩
  ·have L:=Ord.ab _ b 1 (by decide);simp only[rM]at L;have F:=Ord.ab _ b 3 (by decide);simp only[rM]at F;have C:=Ord.ab _ b 5 (by decide);simp only[rM]at C;simp only[L,F,C]at f;clear b;go_simp;exact f _ _ ⟨_,rfl,trivial,hR.step 6 _ (mB W.heap.size bs pv a 0 un) (aj _ _) (me _ [bs,pv,a] 3 rfl _ _ rfl),trivial⟩
  ·clear b;have o6:Eh w2 (xs 6) [bs,pv,a]:=hR.each 6 (z {on:=6,ground:=.data} (by simp) rfl) (fun i m=>by rw[<-Option.some.inj (show some 7=some i from m)];exact t);go_simp;refine(ia (xs 6) [bs,pv,a] w2 o6 (show 3<=100 by decide)).mono ?_;rintro e w'⟨u,rfl,N,q⟩;exact f _ _ ⟨_,rfl,trivial,hR.step 7 _ (mB W.heap.size bs pv a 0 un) q (N.from hR.size),trivial⟩
  ·clear b;go_simp;exact f _ _ ⟨_,rfl,trivial,hR.step 8 _ (mB W.heap.size bs pv a 0 un) (Below.refl _ _) trivial,rfl⟩
  ·have A:=Ord.ab _ b 8 (by decide);simp only[rM]at A;simp only[A]at f;clear b;go_simp;exact f _ _ ⟨_,rfl,trivial,hR.step 9 _ (mB W.heap.size bs pv a 0 un) (aj _ _) (eM w2 [0] 1 (by simp) _ (0,0) (by decide) (by simp)),trivial⟩
  ·clear b;have o7:Own W.heap.size w2 (xs 7) (nP [bs,pv,a]):=hR.each 7 (z {on:=7,ground:=.data} (by simp) rfl) (fun i m=>by rw[<-Option.some.inj (show some 10=some i from m)];exact t);have o9:aV w2 (xs 9) [0]:=hR.each 9 (z {on:=9,ground:=.data} (by simp) rfl) (fun i m=>by rw[<-Option.some.inj (show some 10=some i from m)];exact t);refine ew _ _ rfl W.heap.size (xs 7) _ rfl o7 (xs 9) _ rfl o9 (by rw[eF];show 8*3+1<=140737488355328;decide) hR.size ?_;intro u w' N q _;refine f _ _ ⟨_,rfl,trivial,hR.append 10 _ q (fun j hj O ha=>?_) N,trivial⟩;unfold FI;split
   ·exact absurd (ha 7 rfl) (by rw[show Ord.bP D 10 7=D 7 from if_neg (by decide),z {on:=7,ground:=.data} (by simp) rfl];decide)
   ·exact absurd (ha 10 rfl) (by rw[jQ];decide)
   ·exact absurd (ha 10 rfl) (by rw[jQ];decide)
   ·exact absurd rfl hj
   ·exact absurd O (by cases hx:D 13 with|false=>decide|true=>exact absurd (Ord.aL hC 13 10 rfl hx) (by rw[t];decide))
   ·exact absurd O (by cases hx:D 14 with|false=>decide|true=>exact absurd (Ord.aL hC 13 10 rfl (Ord.aL hC 14 13 rfl hx)) (by rw[t];decide))
   ·trivial
  ·clear b;go_simp;exact f _ _ ⟨_,rfl,trivial,hR.step 11 _ (mB W.heap.size bs pv a 0 un) (Below.refl _ _) trivial,rfl⟩
  ·have l:=Ord.ab _ b 11 (by decide);simp only[rM]at l;simp only[l]at f;clear b;have cc:=hR.below.cell (p:=⟨B,8,none⟩) y.out;rw[Q.out]at cc;go_simp;exact f _ _ ⟨_,rfl,trivial,hR.step 12 _ (mB W.heap.size bs pv a 0 un) (Below.refl _ _) trivial,rfl⟩
  ·have g:=Ord.ab _ b 12 (by decide);simp only[rM]at g;simp only[g]at f;clear b;have ae:Own W.heap.size w2 (xs 10) (nP [bs,pv,a]++[0]):=hR.each 10 (z {on:=10,ground:=.data} (by simp) rfl) (fun i m=>by rw[<-Option.some.inj (show some 13=some i from m)];exact t);go_simp;refine(iF (xs 10) (.slice p3 un.length c3) _ un w2 ae.bz (HA.out.bD.below hR.below) (by rw[List.length_append,eF];have:=HF.out.bD;dsimp only at this;simp only[List.length_cons,List.length_nil];omega)).mono ?_;rintro e w'⟨u,rfl,N,q⟩;exact f _ _ ⟨_,rfl,trivial,hR.step 13 _ (mB W.heap.size bs pv a 0 un) q (N.from hR.size),trivial⟩
  ·clear b;have ad:Own W.heap.size w2 (xs 13) ((nP [bs,pv,a]++[0])++(aw.uv un.length++un)):=hR.each 13 (z {on:=13,ground:=.data} (by simp) rfl) (fun i m=>by rw[<-Option.some.inj (show some 14=some i from m)];exact t);go_simp;exact f _ _ ⟨_,rfl,trivial,hR.step 14 _ (mB W.heap.size bs pv a 0 un) (Below.refl _ _) ad,trivial⟩
  exact Ord.az
 case hend9=>
  intro D xs w9 hR r;have h7:=hR.each 14 (r 14 (by decide)).1 (fun i m=>by cases m);have HV:=Lib.hid h7;have Z:=Lib.hid hR.below;clear h7 hR r;generalize xs 14=z14 at*
  generalize xs 13=z13 at*
  generalize xs 12=z12 at*
  generalize xs 11=z11 at*
  generalize xs 10=z10 at*
  generalize xs 9=z9 at*
  generalize xs 8=z8 at*
  generalize xs 7=z7 at*
  generalize xs 6=z6 at*
  generalize xs 5=z5 at*
  generalize xs 4=z4 at*
  generalize xs 3=z3 at*
  generalize xs 2=z2 at*
  generalize xs 1=z1 at*
  generalize xs 0=z0 at*
  go_wp2_with fail
  go_ret;refine⟨_,rfl,?_,by rw[<-Y.out];exact HB.out.trans (Z.out.mono (Nat.le_of_lt y.out))⟩;rw[<-Y.out];have h8:Own W.heap.size w9 z14 _:=HV.out;have e:(nP [bs,pv,a]++[0])++(aw.uv un.length++un)=aw.le 8 bs++(aw.le 8 pv++(aw.le 8 a++(0::Lr.text un))):=by unfold nP Lr.text;simp only[List.flatMap_cons,List.flatMap_nil,List.append_assoc,List.append_nil,List.cons_append,List.nil_append]
  rw[e]at h8;exact h8.from (Nat.le_of_lt y.out)
set_option maxHeartbeats 6400000 in
set_option maxRecDepth 20000 in
theorem wH(x:Lr.R)(o n u c d:Value)(w:World)(h:bA w x o n u c d)(hf:Lr.xm x)(hk:x.kind=2)(hc:x.jE=true):
 Calls Tryz.prog 82 #[cz x o n u c d] w fun e w'=>∃u,e=.returned u/\Own w.heap.size w' u (Lr.own x)/\Below w.heap.size w w':=by
 obtain⟨W,hW⟩:∃W,W=w.alloc (aD x o n u c d):=⟨_,rfl⟩
 have q:=aj w (aD x o n u c d);have hr:=dj w x o n u c d;rw[<-hW]at q hr;have HB:=Lib.hid q;have HA:=Lib.hid (h.below q);have y:Hid (w.heap.size<W.heap.size):=lt_of_block hr;obtain⟨M,L,G,F,E,C,q6,q7,A,q9,J,l,g,I,H⟩:=au hr;obtain⟨p1,c1,p2,c2,p3,c3,p4,c4,p5,c5,rfl,rfl,rfl,rfl,rfl⟩:=ax h;have HF:=Lib.hid hf;clear h q hr hf;unfold aD at hW;obtain⟨k,bj,ep,bs,pg,off,ol,nw,un,pv,a,cl,st,op,di⟩:=x;dsimp only at*
 subst hk;subst hc;rw[show Lr.own ⟨2,bj,ep,bs,pg,off,ol,nw,un,pv,a,true,st,op,di⟩=aw.le 8 bs++(aw.le 8 pv++(aw.le 8 a++(1::Lr.text un)))from rfl];have an:=Lib.hid M;have al:=Lib.hid L;have ak:=Lib.hid G;have S:=Lib.hid F;have ai:=Lib.hid E;have ah:=Lib.hid C;have ag:=Lib.hid q6;have af:=Lib.hid q7;have Q:=Lib.hid A;have P:=Lib.hid q9;have s:=Lib.hid J;have X:=Lib.hid l;have V:=Lib.hid g;have U:=Lib.hid I;have T:=Lib.hid H;go_enter Tryz.func82,Tryz.ntmps82;go_upto_region 1 with(fail)
 rw[<-hW];clear hW;go_upto_region 9 with(fail)
 obtain⟨B,v⟩:∃B,B=w.heap.size:=⟨_,rfl⟩
 rw[<-v]at HB y an al ak S ai ah ag af Q P s X V U T⊢;have Y:=Lib.hid v;clear v M L G F E C q6 q7 A q9 J l g I H;refine Ord.walk (rM B bs pv a 1 (.slice p3 un.length c3)) (eo W.heap.size W (FI W.heap.size bs pv a 1 un) Hs) (fun _ _=>True)
  (by kernel_rfl) (by kernel_rfl) ?fr9 ?hfr9 (fun _ _ _ _ _ h=>h) (fun xs=>eo.first xs (Nat.le_refl _)) ?he9 ?hend9
 case hfr9=>
  intro xs;simp only[Ord.fill,Act.put,List.setIfInBounds_toArray,List.set_cons_zero,List.set_cons_succ];rfl
 case he9=>
  iterate 15 (refine Ord.aa (fun D xs w2 t hC z hR b K f=>?_) ?_;rotate_left)
  rotate_left
  ·clear b;go_simp;exact f _ _ ⟨_,rfl,trivial,hR.step 0 _ (mB W.heap.size bs pv a 1 un) (Below.refl _ _) trivial,rfl⟩
  ·have M:=Ord.ab _ b 0 (by decide);simp only[rM]at M;simp only[M]at f;clear b;have cc:=hR.below.cell (p:=⟨B,3,none⟩) y.out;rw[S.out]at cc;go_simp;exact f _ _ ⟨_,rfl,trivial,hR.step 1 _ (mB W.heap.size bs pv a 1 un) (Below.refl _ _) trivial,rfl⟩
  ·clear b;go_simp;exact f _ _ ⟨_,rfl,trivial,hR.step 2 _ (mB W.heap.size bs pv a 1 un) (Below.refl _ _) trivial,rfl⟩
  ·have G:=Ord.ab _ b 2 (by decide);simp only[rM]at G;simp only[G]at f;clear b;have cc:=hR.below.cell (p:=⟨B,9,none⟩) y.out;rw[P.out]at cc;go_simp;exact f _ _ ⟨_,rfl,trivial,hR.step 3 _ (mB W.heap.size bs pv a 1 un) (Below.refl _ _) trivial,rfl⟩
  ·clear b;go_simp;exact f _ _ ⟨_,rfl,trivial,hR.step 4 _ (mB W.heap.size bs pv a 1 un) (Below.refl _ _) trivial,rfl⟩
  ·have E:=Ord.ab _ b 4 (by decide);simp only[rM]at E;simp only[E]at f;clear b;have cc:=hR.below.cell (p:=⟨B,10,none⟩) y.out;rw[s.out]at cc;go_simp;exact f _ _ ⟨_,rfl,trivial,hR.step 5 _ (mB W.heap.size bs pv a 1 un) (Below.refl _ _) trivial,rfl⟩
  ·have L:=Ord.ab _ b 1 (by decide);simp only[rM]at L;have F:=Ord.ab _ b 3 (by decide);simp only[rM]at F;have C:=Ord.ab _ b 5 (by decide);simp only[rM]at C;simp only[L,F,C]at f;clear b;go_simp;exact f _ _ ⟨_,rfl,trivial,hR.step 6 _ (mB W.heap.size bs pv a 1 un) (aj _ _) (me _ [bs,pv,a] 3 rfl _ _ rfl),trivial⟩
  ·clear b;have o6:Eh w2 (xs 6) [bs,pv,a]:=hR.each 6 (z {on:=6,ground:=.data} (by simp) rfl) (fun i m=>by rw[<-Option.some.inj (show some 7=some i from m)];exact t);go_simp;refine(ia (xs 6) [bs,pv,a] w2 o6 (show 3<=100 by decide)).mono ?_;rintro e w'⟨u,rfl,N,q⟩;exact f _ _ ⟨_,rfl,trivial,hR.step 7 _ (mB W.heap.size bs pv a 1 un) q (N.from hR.size),trivial⟩
  ·clear b;go_simp;exact f _ _ ⟨_,rfl,trivial,hR.step 8 _ (mB W.heap.size bs pv a 1 un) (Below.refl _ _) trivial,rfl⟩
  ·have A:=Ord.ab _ b 8 (by decide);simp only[rM]at A;simp only[A]at f;clear b;go_simp;exact f _ _ ⟨_,rfl,trivial,hR.step 9 _ (mB W.heap.size bs pv a 1 un) (aj _ _) (eM w2 [1] 1 (by simp) _ (0,0) (by decide) (by simp)),trivial⟩
  ·clear b;have o7:Own W.heap.size w2 (xs 7) (nP [bs,pv,a]):=hR.each 7 (z {on:=7,ground:=.data} (by simp) rfl) (fun i m=>by rw[<-Option.some.inj (show some 10=some i from m)];exact t);have o9:aV w2 (xs 9) [1]:=hR.each 9 (z {on:=9,ground:=.data} (by simp) rfl) (fun i m=>by rw[<-Option.some.inj (show some 10=some i from m)];exact t);refine ew _ _ rfl W.heap.size (xs 7) _ rfl o7 (xs 9) _ rfl o9 (by rw[eF];show 8*3+1<=140737488355328;decide) hR.size ?_;intro u w' N q _;refine f _ _ ⟨_,rfl,trivial,hR.append 10 _ q (fun j hj O ha=>?_) N,trivial⟩;unfold FI;split
   ·exact absurd (ha 7 rfl) (by rw[show Ord.bP D 10 7=D 7 from if_neg (by decide),z {on:=7,ground:=.data} (by simp) rfl];decide)
   ·exact absurd (ha 10 rfl) (by rw[jQ];decide)
   ·exact absurd (ha 10 rfl) (by rw[jQ];decide)
   ·exact absurd rfl hj
   ·exact absurd O (by cases hx:D 13 with|false=>decide|true=>exact absurd (Ord.aL hC 13 10 rfl hx) (by rw[t];decide))
   ·exact absurd O (by cases hx:D 14 with|false=>decide|true=>exact absurd (Ord.aL hC 13 10 rfl (Ord.aL hC 14 13 rfl hx)) (by rw[t];decide))
   ·trivial
  ·clear b;go_simp;exact f _ _ ⟨_,rfl,trivial,hR.step 11 _ (mB W.heap.size bs pv a 1 un) (Below.refl _ _) trivial,rfl⟩
  ·have l:=Ord.ab _ b 11 (by decide);simp only[rM]at l;simp only[l]at f;clear b;have cc:=hR.below.cell (p:=⟨B,8,none⟩) y.out;rw[Q.out]at cc;go_simp;exact f _ _ ⟨_,rfl,trivial,hR.step 12 _ (mB W.heap.size bs pv a 1 un) (Below.refl _ _) trivial,rfl⟩
  ·have g:=Ord.ab _ b 12 (by decide);simp only[rM]at g;simp only[g]at f;clear b;have ae:Own W.heap.size w2 (xs 10) (nP [bs,pv,a]++[1]):=hR.each 10 (z {on:=10,ground:=.data} (by simp) rfl) (fun i m=>by rw[<-Option.some.inj (show some 13=some i from m)];exact t);go_simp;refine(iF (xs 10) (.slice p3 un.length c3) _ un w2 ae.bz (HA.out.bD.below hR.below) (by rw[List.length_append,eF];have:=HF.out.bD;dsimp only at this;simp only[List.length_cons,List.length_nil];omega)).mono ?_;rintro e w'⟨u,rfl,N,q⟩;exact f _ _ ⟨_,rfl,trivial,hR.step 13 _ (mB W.heap.size bs pv a 1 un) q (N.from hR.size),trivial⟩
  ·clear b;have ad:Own W.heap.size w2 (xs 13) ((nP [bs,pv,a]++[1])++(aw.uv un.length++un)):=hR.each 13 (z {on:=13,ground:=.data} (by simp) rfl) (fun i m=>by rw[<-Option.some.inj (show some 14=some i from m)];exact t);go_simp;exact f _ _ ⟨_,rfl,trivial,hR.step 14 _ (mB W.heap.size bs pv a 1 un) (Below.refl _ _) ad,trivial⟩
  exact Ord.az
 case hend9=>
  intro D xs w9 hR r;have h7:=hR.each 14 (r 14 (by decide)).1 (fun i m=>by cases m);have HV:=Lib.hid h7;have Z:=Lib.hid hR.below;clear h7 hR r;generalize xs 14=z14 at*
  generalize xs 13=z13 at*
  generalize xs 12=z12 at*
  generalize xs 11=z11 at*
  generalize xs 10=z10 at*
  generalize xs 9=z9 at*
  generalize xs 8=z8 at*
  generalize xs 7=z7 at*
  generalize xs 6=z6 at*
  generalize xs 5=z5 at*
  generalize xs 4=z4 at*
  generalize xs 3=z3 at*
  generalize xs 2=z2 at*
  generalize xs 1=z1 at*
  generalize xs 0=z0 at*
  go_wp2_with fail
  go_ret;refine⟨_,rfl,?_,by rw[<-Y.out];exact HB.out.trans (Z.out.mono (Nat.le_of_lt y.out))⟩;rw[<-Y.out];have h8:Own W.heap.size w9 z14 _:=HV.out;have e:(nP [bs,pv,a]++[1])++(aw.uv un.length++un)=aw.le 8 bs++(aw.le 8 pv++(aw.le 8 a++(1::Lr.text un))):=by unfold nP Lr.text;simp only[List.flatMap_cons,List.flatMap_nil,List.append_assoc,List.append_nil,List.cons_append,List.nil_append]
  rw[e]at h8;exact h8.from (Nat.le_of_lt y.out)
theorem wJ(x:Lr.R)(o n u c d:Value)(w:World)(h:bA w x o n u c d)(hf:Lr.xm x):
 Calls Tryz.prog 82 #[cz x o n u c d] w fun e w'=>∃u,e=.returned u/\Own w.heap.size w' u (Lr.own x)/\Below w.heap.size w w':=by
 by_cases i:x.kind=1
 ·exact zC x _ _ _ _ _ w h hf i
 by_cases a:x.kind=2
 ·cases hc:x.jE
  ·exact wI x _ _ _ _ _ w h hf a hc
  ·exact wH x _ _ _ _ _ w h hf a hc
 by_cases g:x.kind=3
 ·exact zB x _ _ _ _ _ w h hf g
 by_cases f:x.kind=4
 ·exact zA x _ _ _ _ _ w h hf f
 by_cases b:x.kind=5
 ·exact zz x _ _ _ _ _ w h hf b
 exact zD x _ _ _ _ _ w h hf ⟨i,a,g,f,b⟩
end Go.Proofs.YtbpodmallknhfaaGreat
