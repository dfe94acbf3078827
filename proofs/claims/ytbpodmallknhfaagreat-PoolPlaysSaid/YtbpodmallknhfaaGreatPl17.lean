/- Parts of a proof. Conditions: as each row says. -/
import Derived.Test.YtbpodmallknhfaaGreatPl16
import Derived.Test.YtbpodmallknhfaaGreatPl10
import Derived.Deep.RegionWith
namespace Go.Proofs.YtbpodmallknhfaaGreat
open Go.RowKit
def Fa(B:Nat)(a:Nat)(off:Nat)(i:Nat)(v:Value)(_:World):Prop:=
 match i with
 |0=>v=.pointer (some ⟨B,4,none⟩)
 |1=>v=.int .u32 (a:Int)
 |3=>v=.pointer (some ⟨B,5,none⟩)
 |4=>v=.int .u16 (off:Int)
 |_=>True
def E9(a:Nat)(off:Nat)(base:Nat)(i:Nat)(w:World)(v:Value):Prop:=
 match i with
 |2=>Own base w v (aH.le 4 a)
 |5=>Own base w v (aH.le 2 off)
 |6=>Own base w v (aH.le 4 a++aH.le 2 off)
 |7=>Own base w v (aH.le 4 a++aH.le 2 off)
 |_=>True
def GC(i:Nat):Option Nat:=
 match i with
 |2=>some 6
 |5=>some 6
 |6=>some 7
 |_=>none
theorem Eg(b:Nat)(off:Nat)(base:Nat):∀k w w' v,E9 b off base k w v->Below w.heap.size w w'->E9 b off base k w' v:=by
 intro k w w' v h a;unfold E9 at*
 split
 ·exact h.below a
 ·exact h.below a
 ·exact h.below a
 ·exact h.below a
 ·trivial
def Ep(B:Nat)(a:Value)(b:Value)(c:Value)(i:Nat)(v:Value)(_:World):Prop:=
 match i with
 |0=>v=a
 |1=>v=.pointer (some ⟨B,6,none⟩)
 |2=>v=b
 |4=>v=.pointer (some ⟨B,7,none⟩)
 |5=>v=c
 |_=>True
def Fw(base:Nat)(L:List Nat)(ol:List Nat)(nw:List Nat)(i:Nat)(w:World)(v:Value):Prop:=
 match i with
 |3=>Own base w v (L++(aH.uv ol.length++ol))
 |6=>Own base w v ((L++(aH.uv ol.length++ol))++(aH.uv nw.length++nw))
 |7=>Own base w v ((L++(aH.uv ol.length++ol))++(aH.uv nw.length++nw))
 |_=>True
def GB(i:Nat):Option Nat:=
 match i with
 |3=>some 6
 |6=>some 7
 |_=>none
theorem CZ(base:Nat)(L:List Nat)(ol:List Nat)(nw:List Nat):∀k w w' v,Fw base L ol nw k w v->Below w.heap.size w w'->Fw base L ol nw k w' v:=by
 intro k w w' v h a;unfold Fw at*
 split
 ·exact h.below a
 ·exact h.below a
 ·exact h.below a
 ·trivial
set_option maxHeartbeats 6400000 in
set_option maxRecDepth 20000 in
theorem ym(x:Lr.R)(o n u c d:Value)(w:World)(h:bm w x o n u c d)(hf:Lr.xd x)(hk:x.kind=1):
 Calls Tryz.prog 82 #[cz x o n u c d] w fun e w'=>∃u,e=.returned u/\Own w.heap.size w' u (Lr.own x)/\Below w.heap.size w w':=by
 obtain⟨W,hW⟩:∃W,W=w.alloc (az x o n u c d):=⟨_,rfl⟩
 have l:=ae w (az x o n u c d);have hr:=dd w x o n u c d;rw[<-hW]at l hr;have HB:=GD l;have HA:=GD (h.below l);have s:Hid (w.heap.size<W.heap.size):=GN hr;obtain⟨A,z,L,J,y,I,q6,q7,q8,q9,Q,P,O,N,M⟩:=aq hr;obtain⟨p1,c1,p2,c2,p3,c3,p4,c4,p5,c5,rfl,rfl,rfl,rfl,rfl⟩:=au h;have HF:=GD hf;clear h l hr hf;unfold az at hW;obtain⟨k,bl,ep,bn,a,off,ol,nw,un,pv,nx,cl,st,op,di⟩:=x;dsimp only at*
 subst hk;rw[show Lr.own ⟨1,bl,ep,bn,a,off,ol,nw,un,pv,nx,cl,st,op,di⟩=aH.le 4 a++(aH.le 2 off++(Lr.text ol++Lr.text nw))from rfl];have ax:=GD A;have aw:=GD z;have av:=GD L;have ar:=GD J;have V:=GD y;have U:=GD I;have v:=GD q6;have t:=GD q7;have ao:=GD q8;have an:=GD q9;have ag:=GD Q;have ad:=GD P;have Z:=GD O;have Y:=GD N;have X:=GD M;go_enter Tryz.func82,Tryz.ntmps82;go_upto_region 1 with(fail)
 rw[<-hW];clear hW;go_upto_region 3 with(fail)
 obtain⟨B,E⟩:∃B,B=w.heap.size:=⟨_,rfl⟩
 rw[<-E]at HB s ax aw av ar V U v t ao an ag ad Z Y X⊢;have ah:=GD E;clear E A z L J y I q6 q7 q8 q9 Q P O N M;refine Ord.walk (Fa B a off) (ef W.heap.size W (E9 a off W.heap.size) GC) (fun _ _=>True)
  (by kernel_rfl) (by kernel_rfl) ?fr3 ?hfr3 (fun _ _ _ _ _ h=>h) (fun xs=>ef.first xs (GH _)) ?he3 ?hend3
 case hfr3=>
  intro xs;simp only[Ord.fill,Act.put,GP,GX,GV];rfl
 case he3=>
  iterate 8 (refine Ord.aa (fun D xs w2 C hC H hR b K f=>?_) ?_;rotate_left)
  rotate_left
  ·clear b;go_simp;exact f _ _ ⟨_,rfl,trivial,hR.step 0 _ (Eg a off W.heap.size) (GF _ _) trivial,rfl⟩
  ·have A:=Ord.ab _ b 0 (by decide);simp only[Fa]at A;simp only[A]at f;clear b;have F:=hR.below.cell (p:=⟨B,4,none⟩) s.out;rw[V.out]at F;go_simp;exact f _ _ ⟨_,rfl,trivial,hR.step 1 _ (Eg a off W.heap.size) (GF _ _) trivial,rfl⟩
  ·have z:=Ord.ab _ b 1 (by decide);simp only[Fa]at z;simp only[z]at f;clear b;go_simp;refine(da (.slice none 0 0) [] a w2 (aO w2) (by decide)).mono ?_;rintro e w'⟨u,rfl,r,l⟩;rw[Hg]at r;exact f _ _ ⟨_,rfl,trivial,hR.step 2 _ (Eg a off W.heap.size) l (r.from hR.size),trivial⟩
  ·clear b;go_simp;exact f _ _ ⟨_,rfl,trivial,hR.step 3 _ (Eg a off W.heap.size) (GF _ _) trivial,rfl⟩
  ·have J:=Ord.ab _ b 3 (by decide);simp only[Fa]at J;simp only[J]at f;clear b;have F:=hR.below.cell (p:=⟨B,5,none⟩) s.out;rw[U.out]at F;go_simp;exact f _ _ ⟨_,rfl,trivial,hR.step 4 _ (Eg a off W.heap.size) (GF _ _) trivial,rfl⟩
  ·have y:=Ord.ab _ b 4 (by decide);simp only[Fa]at y;simp only[y]at f;clear b;go_simp;refine(qH (.slice none 0 0) [] off w2 (aO w2) (by decide)).mono ?_;rintro e w'⟨u,rfl,r,l⟩;rw[Hg]at r;exact f _ _ ⟨_,rfl,trivial,hR.step 5 _ (Eg a off W.heap.size) l (r.from hR.size),trivial⟩
  ·clear b;have o2:Own W.heap.size w2 (xs 2) (aH.le 4 a):=hR.each 2 (H {on:=2,ground:=.data} (by simp) rfl) (fun i m=>by rw[<-GZ (show some 6=some i from m)];exact C);have o5:Own W.heap.size w2 (xs 5) (aH.le 2 off):=hR.each 5 (H {on:=5,ground:=.data} (by simp) rfl) (fun i m=>by rw[<-GZ (show some 6=some i from m)];exact C);refine eu _ _ rfl W.heap.size (xs 2) _ rfl o2 (xs 5) _ rfl o5.aP (by rw[aH.al,aH.al];decide) hR.size ?_;intro u w' r l _;refine f _ _ ⟨_,rfl,trivial,hR.append 6 _ l (fun j hj aj ha=>?_) r,trivial⟩;unfold E9;split
   ·exact absurd (ha 6 rfl) (by rw[jA];decide)
   ·exact absurd (ha 6 rfl) (by rw[jA];decide)
   ·exact absurd rfl hj
   ·exact absurd aj (by cases hx:D 7 with|false=>decide|true=>exact absurd (Ord.af hC 7 6 rfl hx) (by rw[C];decide))
   ·trivial
  ·clear b;have o6:Own W.heap.size w2 (xs 6) (aH.le 4 a++aH.le 2 off):=hR.each 6 (H {on:=6,ground:=.data} (by simp) rfl) (fun i m=>by rw[<-GZ (show some 7=some i from m)];exact C);go_simp;exact f _ _ ⟨_,rfl,trivial,hR.step 7 _ (Eg a off W.heap.size) (GF _ _) o6,trivial⟩
  exact Ord.ay
 case hend3=>
  intro D xs w9 hR g;have T:=hR.each 7 (g 7 (by decide)).1 (fun i m=>by cases m);have HU:Hid (Own W.heap.size w9 (xs 7) (aH.le 4 a++aH.le 2 off)):=T;have q:=GD hR.below;clear T hR g;generalize xs 7=u3 at*
  generalize xs 6=x6 at*
  generalize xs 5=x5 at*
  generalize xs 4=x4 at*
  generalize xs 3=x3 at*
  generalize xs 2=x2 at*
  generalize xs 1=x1 at*
  generalize xs 0=x0 at*
  go_upto_region 4 with(fail)
  obtain⟨W2,S⟩:∃W2,W2=w9:=⟨_,rfl⟩
  rw[<-S]at q HU⊢;clear S;have HA:=GD (HA.out.below q.out);have G:Hid (B<W2.heap.size):=Hh s.out q.out.size;have v:Hid (W2.cell? ⟨B,6,none⟩=_):=(q.out.cell (p:=⟨B,6,none⟩) s.out).trans v.out;have t:Hid (W2.cell? ⟨B,7,none⟩=_):=(q.out.cell (p:=⟨B,7,none⟩) s.out).trans t.out;have ak:=s;have s:=G;refine Ord.walk (Ep B u3 (.slice p1 ol.length c1) (.slice p2 nw.length c2)) (ef W2.heap.size W2 (Fw W2.heap.size (aH.le 4 a++aH.le 2 off) ol nw) GB) (fun _ _=>True)
   (by kernel_rfl) (by kernel_rfl) ?fr4 ?hfr4 (fun _ _ _ _ _ h=>h) (fun xs=>ef.first xs (GH _)) ?he4 ?hend4
  case hfr4=>
   intro xs;simp only[Ord.fill,Act.put,GP,GX,GV];rfl
  case he4=>
   iterate 8 (refine Ord.aa (fun D xs w2 C hC H hR b K f=>?_) ?_;rotate_left)
   rotate_left
   ·clear b;go_simp;exact f _ _ ⟨_,rfl,trivial,hR.step 0 _ (CZ W2.heap.size (aH.le 4 a++aH.le 2 off) ol nw) (GF _ _) trivial,rfl⟩
   ·clear b;go_simp;exact f _ _ ⟨_,rfl,trivial,hR.step 1 _ (CZ W2.heap.size (aH.le 4 a++aH.le 2 off) ol nw) (GF _ _) trivial,rfl⟩
   ·have z:=Ord.ab _ b 1 (by decide);simp only[Ep]at z;simp only[z]at f;clear b;have F:=hR.below.cell (p:=⟨B,6,none⟩) s.out;rw[v.out]at F;go_simp;exact f _ _ ⟨_,rfl,trivial,hR.step 2 _ (CZ W2.heap.size (aH.le 4 a++aH.le 2 off) ol nw) (GF _ _) trivial,rfl⟩
   ·have A:=Ord.ab _ b 0 (by decide);simp only[Ep]at A;have L:=Ord.ab _ b 2 (by decide);simp only[Ep]at L;simp only[A,L]at f;clear b;go_simp;refine(iD u3 (.slice p1 ol.length c1) _ ol w2 (HU.out.aP.below hR.below) (HA.out.old.below hR.below) (by rw[GI,aH.al,aH.al];have:=HF.out.old;dsimp only at this;omega)).mono ?_;rintro e w'⟨u,rfl,r,l⟩;exact f _ _ ⟨_,rfl,trivial,hR.step 3 _ (CZ W2.heap.size (aH.le 4 a++aH.le 2 off) ol nw) l (r.from hR.size),trivial⟩
   ·clear b;go_simp;exact f _ _ ⟨_,rfl,trivial,hR.step 4 _ (CZ W2.heap.size (aH.le 4 a++aH.le 2 off) ol nw) (GF _ _) trivial,rfl⟩
   ·have y:=Ord.ab _ b 4 (by decide);simp only[Ep]at y;simp only[y]at f;clear b;have F:=hR.below.cell (p:=⟨B,7,none⟩) s.out;rw[t.out]at F;go_simp;exact f _ _ ⟨_,rfl,trivial,hR.step 5 _ (CZ W2.heap.size (aH.le 4 a++aH.le 2 off) ol nw) (GF _ _) trivial,rfl⟩
   ·have I:=Ord.ab _ b 5 (by decide);simp only[Ep]at I;simp only[I]at f;clear b;have o3:Own W2.heap.size w2 (xs 3) ((aH.le 4 a++aH.le 2 off)++(aH.uv ol.length++ol)):=hR.each 3 (H {on:=3,ground:=.data} (by simp) rfl) (fun i m=>by rw[<-GZ (show some 6=some i from m)];exact C);go_simp;refine(iD (xs 3) (.slice p2 nw.length c2) _ nw w2 o3.aP (HA.out.new.below hR.below) (by have h1:=HF.out.old;have h2:=HF.out.new;have h3:=aH.iF (n:=ol.length) (by dsimp only at h1;omega);simp only[GI,aH.al];dsimp only at h1 h2;omega)).mono ?_;rintro e w'⟨u,rfl,r,l⟩;exact f _ _ ⟨_,rfl,trivial,hR.step 6 _ (CZ W2.heap.size (aH.le 4 a++aH.le 2 off) ol nw) l (r.from hR.size),trivial⟩
   ·clear b;have o6:Own W2.heap.size w2 (xs 6) (((aH.le 4 a++aH.le 2 off)++(aH.uv ol.length++ol))++(aH.uv nw.length++nw)):=hR.each 6 (H {on:=6,ground:=.data} (by simp) rfl) (fun i m=>by rw[<-GZ (show some 7=some i from m)];exact C);go_simp;exact f _ _ ⟨_,rfl,trivial,hR.step 7 _ (CZ W2.heap.size (aH.le 4 a++aH.le 2 off) ol nw) (GF _ _) o6,trivial⟩
   exact Ord.ay
  case hend4=>
   intro D xs w9 hR g;have T:=hR.each 7 (g 7 (by decide)).1 (fun i m=>by cases m);have HV:=GD T;have ai:=GD hR.below;clear T hR g;generalize xs 7=z7 at*
   generalize xs 6=z6 at*
   generalize xs 5=z5 at*
   generalize xs 4=z4 at*
   generalize xs 3=z3 at*
   generalize xs 2=z2 at*
   generalize xs 1=z1 at*
   generalize xs 0=z0 at*
   go_wp2_with fail
   go_ret;refine⟨_,rfl,?_,by rw[<-ah.out];exact(HB.out.trans (q.out.mono (Hu ak.out))).trans (ai.out.mono (Hu G.out))⟩;rw[<-ah.out];have h8:Own W2.heap.size w9 z7 _:=HV.out;rw[G3,G3]at h8;exact h8.from (Hu G.out)
def E8(B:Nat)(a:Value)(dv:Value)(i:Nat)(v:Value)(_:World):Prop:=
 match i with
 |0=>v=.pointer (some ⟨B,13,none⟩)
 |1=>v=a
 |3=>v=.pointer (some ⟨B,14,none⟩)
 |4=>v=dv
 |_=>True
def E7(base:Nat)(op:List Lr.Ch)(a:List Lr.Di)(i:Nat)(w:World)(v:Value):Prop:=
 match i with
 |2=>Own base w v (aH.uv op.length++Lr.tU op)
 |5=>Own base w v (aH.uv a.length++Lr.tS a)
 |6=>Own base w v ((aH.uv op.length++Lr.tU op)++(aH.uv a.length++Lr.tS a))
 |7=>Own base w v ((aH.uv op.length++Lr.tU op)++(aH.uv a.length++Lr.tS a))
 |_=>True
def GA(i:Nat):Option Nat:=
 match i with
 |2=>some 6
 |5=>some 6
 |6=>some 7
 |_=>none
theorem Ee(base:Nat)(op:List Lr.Ch)(b:List Lr.Di):∀k w w' v,E7 base op b k w v->Below w.heap.size w w'->E7 base op b k w' v:=by
 intro k w w' v h a;unfold E7 at*
 split
 ·exact h.below a
 ·exact h.below a
 ·exact h.below a
 ·exact h.below a
 ·trivial
set_option maxHeartbeats 6400000 in
set_option maxRecDepth 20000 in
theorem yj(x:Lr.R)(o n u c d:Value)(w:World)(h:bm w x o n u c d)(hf:Lr.xd x)(hk:x.kind=5):
 Calls Tryz.prog 82 #[cz x o n u c d] w fun e w'=>∃u,e=.returned u/\Own w.heap.size w' u (Lr.own x)/\Below w.heap.size w w':=by
 obtain⟨W,Q⟩:∃W,W=w.alloc (az x o n u c d):=⟨_,rfl⟩
 have g:=ae w (az x o n u c d);have P:=dd w x o n u c d;rw[<-Q]at g P;have HB:=GD g;have HA:=GD (h.below g);have I:Hid (w.heap.size<W.heap.size):=GN P;obtain⟨G,F,q2,v,t,q5,q6,q7,q8,q9,E,C,A,z,y⟩:=aq P;obtain⟨p1,c1,p2,c2,p3,c3,p4,c4,p5,c5,rfl,rfl,rfl,rfl,rfl⟩:=au h;have T:=GD hf;clear h g P hf;unfold az at Q;obtain⟨k,bl,ep,bn,pg,off,ol,nw,un,pv,nx,cl,st,op,a⟩:=x;dsimp only at*
 subst hk;rw[show Lr.own ⟨5,bl,ep,bn,pg,off,ol,nw,un,pv,nx,cl,st,op,a⟩=(aH.uv op.length++Lr.tU op)++(aH.uv a.length++Lr.tS a)from rfl];have an:=GD G;have al:=GD F;have ak:=GD q2;have aj:=GD v;have ai:=GD t;have ah:=GD q5;have ag:=GD q6;have ad:=GD q7;have Z:=GD q8;have Y:=GD q9;have M:=GD E;have L:=GD C;have J:=GD A;have q:=GD z;have m:=GD y;go_enter Tryz.func82,Tryz.ntmps82;go_upto_region 1 with(fail)
 rw[<-Q];clear Q;go_upto_region 15 with(fail)
 obtain⟨B,s⟩:∃B,B=w.heap.size:=⟨_,rfl⟩
 rw[<-s]at HB I an al ak aj ai ah ag ad Z Y M L J q m⊢;have N:=GD s;clear s G F q2 v t q5 q6 q7 q8 q9 E C A z y;refine Ord.walk (E8 B (.slice p4 op.length c4) (.slice p5 a.length c5)) (ef W.heap.size W (E7 W.heap.size op a) GA) (fun _ _=>True)
  (by kernel_rfl) (by kernel_rfl) ?fr15 ?hfr15 (fun _ _ _ _ _ h=>h) (fun xs=>ef.first xs (GH _)) ?he15 ?hend15
 case hfr15=>
  intro xs;simp only[Ord.fill,Act.put,GP,GX,GV];rfl
 case he15=>
  iterate 8 (refine Ord.aa (fun D xs w2 S hC U hR f K b=>?_) ?_;rotate_left)
  rotate_left
  ·clear f;go_simp;exact b _ _ ⟨_,rfl,trivial,hR.step 0 _ (Ee W.heap.size op a) (GF _ _) trivial,rfl⟩
  ·have G:=Ord.ab _ f 0 (by decide);simp only[E8]at G;simp only[G]at b;clear f;have X:=hR.below.cell (p:=⟨B,13,none⟩) I.out;rw[q.out]at X;go_simp;exact b _ _ ⟨_,rfl,trivial,hR.step 1 _ (Ee W.heap.size op a) (GF _ _) trivial,rfl⟩
  ·have F:=Ord.ab _ f 1 (by decide);simp only[E8]at F;simp only[F]at b;clear f;go_simp;refine(vJ (.slice p4 op.length c4) op w2 (HA.out.dH.below hR.below) (by have:=T.out.dH;dsimp only at this;omega)).mono ?_;rintro e w'⟨u,rfl,H,g⟩;exact b _ _ ⟨_,rfl,trivial,hR.step 2 _ (Ee W.heap.size op a) g (H.from hR.size),trivial⟩
  ·clear f;go_simp;exact b _ _ ⟨_,rfl,trivial,hR.step 3 _ (Ee W.heap.size op a) (GF _ _) trivial,rfl⟩
  ·have v:=Ord.ab _ f 3 (by decide);simp only[E8]at v;simp only[v]at b;clear f;have X:=hR.below.cell (p:=⟨B,14,none⟩) I.out;rw[m.out]at X;go_simp;exact b _ _ ⟨_,rfl,trivial,hR.step 4 _ (Ee W.heap.size op a) (GF _ _) trivial,rfl⟩
  ·have t:=Ord.ab _ f 4 (by decide);simp only[E8]at t;simp only[t]at b;clear f;go_simp;refine(yt (.slice p5 a.length c5) a w2 (HA.out.cq.below hR.below) (by have:=T.out.cq;dsimp only at this;omega)).mono ?_;rintro e w'⟨u,rfl,H,g⟩;exact b _ _ ⟨_,rfl,trivial,hR.step 5 _ (Ee W.heap.size op a) g (H.from hR.size),trivial⟩
  ·clear f;have o2:Own W.heap.size w2 (xs 2) (aH.uv op.length++Lr.tU op):=hR.each 2 (U {on:=2,ground:=.data} (by simp) rfl) (fun i r=>by rw[<-GZ (show some 6=some i from r)];exact S);have o5:Own W.heap.size w2 (xs 5) (aH.uv a.length++Lr.tS a):=hR.each 5 (U {on:=5,ground:=.data} (by simp) rfl) (fun i r=>by rw[<-GZ (show some 6=some i from r)];exact S);refine eu _ _ rfl W.heap.size (xs 2) _ rfl o2 (xs 5) _ rfl o5.aP (by have h1:=T.out.dH;have h2:=T.out.cq;dsimp only at h1 h2;have h3:=aH.iF (n:=op.length) (by omega);have h4:=aH.iF (n:=a.length) (by omega);simp only[GI,Lr.jq,Lr.jo];omega) hR.size ?_;intro u w' H g _;refine b _ _ ⟨_,rfl,trivial,hR.append 6 _ g (fun j hj V ha=>?_) H,trivial⟩;unfold E7;split
   ·exact absurd (ha 6 rfl) (by rw[jA];decide)
   ·exact absurd (ha 6 rfl) (by rw[jA];decide)
   ·exact absurd rfl hj
   ·exact absurd V (by cases hx:D 7 with|false=>decide|true=>exact absurd (Ord.af hC 7 6 rfl hx) (by rw[S];decide))
   ·trivial
  ·clear f;have o6:Own W.heap.size w2 (xs 6) ((aH.uv op.length++Lr.tU op)++(aH.uv a.length++Lr.tS a)):=hR.each 6 (U {on:=6,ground:=.data} (by simp) rfl) (fun i r=>by rw[<-GZ (show some 7=some i from r)];exact S);go_simp;exact b _ _ ⟨_,rfl,trivial,hR.step 7 _ (Ee W.heap.size op a) (GF _ _) o6,trivial⟩
  exact Ord.ay
 case hend15=>
  intro D xs w9 hR l;have h7:=hR.each 7 (l 7 (by decide)).1 (fun i r=>by cases r);have HV:=GD h7;have O:=GD hR.below;clear h7 hR l;generalize xs 7=z7 at*
  generalize xs 6=z6 at*
  generalize xs 5=z5 at*
  generalize xs 4=z4 at*
  generalize xs 3=z3 at*
  generalize xs 2=z2 at*
  generalize xs 1=z1 at*
  generalize xs 0=z0 at*
  go_wp2_with fail
  go_ret;refine⟨_,rfl,?_,by rw[<-N.out];exact HB.out.trans (O.out.mono (Hu I.out))⟩;rw[<-N.out];have h8:Own W.heap.size w9 z7 _:=HV.out;exact h8.from (Hu I.out)
set_option maxHeartbeats 6400000 in
set_option maxRecDepth 20000 in
theorem yl(x:Lr.R)(o n u c d:Value)(w:World)(h:bm w x o n u c d)(hf:Lr.xd x)(A:x.kind=3):
 Calls Tryz.prog 82 #[cz x o n u c d] w fun e w'=>∃u,e=.returned u/\Own w.heap.size w' u (Lr.own x)/\Below w.heap.size w w':=by
 obtain⟨W,j⟩:∃W,W=w.alloc (az x o n u c d):=⟨_,rfl⟩
 have i:=ae w (az x o n u c d);have g:=dd w x o n u c d;rw[<-j]at i g;have m:=GD i;have Y:=GD (h.below i);have V:Hid (w.heap.size<W.heap.size):=GN g;obtain⟨O,N,M,L,K,J,I,H,G,F,v,t,s,r,q⟩:=aq g;obtain⟨U,c1,T,c2,S,c3,Q,c4,P,c5,rfl,rfl,rfl,rfl,rfl⟩:=au h;have X:=GD hf;clear h i g hf;unfold az at j;obtain⟨k,bl,ep,bn,y,off,ol,nw,un,pv,z,D,st,op,C⟩:=x;dsimp only at*
 subst A;rw[show Lr.own ⟨3,bl,ep,bn,y,off,ol,nw,un,pv,z,D,st,op,C⟩=aH.le 8 bn++aH.le 8 st from rfl];go_enter Tryz.func82,Tryz.ntmps82;go_upto_region 1 with(fail)
 rw[<-j];clear j;go_wp2_with fail
 have p:=lG W [bn,st] 2 rfl #[.int .u64 (bn:Int),.int .u64 (st:Int)] 56 rfl;have a:=ae W (.cells #[.int .u64 (bn:Int),.int .u64 (st:Int)] 56);generalize W.alloc (.cells #[.int .u64 (bn:Int),.int .u64 (st:Int)] 56)=wn at*
 refine(ia _ [bn,st] wn p (show 2<=100 by decide)).mono ?_;rintro e w1⟨u,rfl,f,b⟩;have E:=GD (f.from (GR m.out.size a.size));have l:=GD (m.out.trans ((a.trans (b.mono a.size)).mono m.out.size));clear f b p a;go_wp2_with fail
 go_ret;refine⟨_,rfl,?_,l.out⟩;have B:=E.out;simpa[m4]using B
set_option maxHeartbeats 6400000 in
set_option maxRecDepth 20000 in
theorem yk(x:Lr.R)(o n u c d:Value)(w:World)(h:bm w x o n u c d)(hf:Lr.xd x)(A:x.kind=4):
 Calls Tryz.prog 82 #[cz x o n u c d] w fun e w'=>∃u,e=.returned u/\Own w.heap.size w' u (Lr.own x)/\Below w.heap.size w w':=by
 obtain⟨W,j⟩:∃W,W=w.alloc (az x o n u c d):=⟨_,rfl⟩
 have i:=ae w (az x o n u c d);have g:=dd w x o n u c d;rw[<-j]at i g;have m:=GD i;have Y:=GD (h.below i);have V:Hid (w.heap.size<W.heap.size):=GN g;obtain⟨O,N,M,L,K,J,I,H,G,F,v,t,s,r,q⟩:=aq g;obtain⟨U,c1,T,c2,S,c3,Q,c4,P,c5,rfl,rfl,rfl,rfl,rfl⟩:=au h;have X:=GD hf;clear h i g hf;unfold az at j;obtain⟨k,bl,ep,bn,y,off,ol,nw,un,pv,z,D,st,op,C⟩:=x;dsimp only at*
 subst A;rw[show Lr.own ⟨4,bl,ep,bn,y,off,ol,nw,un,pv,z,D,st,op,C⟩=aH.le 8 bn from rfl];go_enter Tryz.func82,Tryz.ntmps82;go_upto_region 1 with(fail)
 rw[<-j];clear j;go_wp2_with fail
 have p:=lG W [bn] 1 rfl #[.int .u64 (bn:Int)] 56 rfl;have a:=ae W (.cells #[.int .u64 (bn:Int)] 56);generalize W.alloc (.cells #[.int .u64 (bn:Int)] 56)=wn at*
 refine(ia _ [bn] wn p (show 1<=100 by decide)).mono ?_;rintro e w1⟨u,rfl,f,b⟩;have E:=GD (f.from (GR m.out.size a.size));have l:=GD (m.out.trans ((a.trans (b.mono a.size)).mono m.out.size));clear f b p a;go_wp2_with fail
 go_ret;refine⟨_,rfl,?_,l.out⟩;have B:=E.out;simpa[m4]using B
set_option maxHeartbeats 6400000 in
set_option maxRecDepth 20000 in
theorem yn(x:Lr.R)(o n u c d:Value)(w:World)(h:bm w x o n u c d)(hf:Lr.xd x)(a:¬x.kind=1/\¬x.kind=2/\¬x.kind=3/\¬x.kind=4/\¬x.kind=5):
 Calls Tryz.prog 82 #[cz x o n u c d] w fun e w'=>∃u,e=.returned u/\Own w.heap.size w' u (Lr.own x)/\Below w.heap.size w w':=by
 obtain⟨W,g⟩:∃W,W=w.alloc (az x o n u c d):=⟨_,rfl⟩
 have f:=ae w (az x o n u c d);have b:=dd w x o n u c d;rw[<-g]at f b;have C:=GD f;have Z:=GD (h.below f);have X:Hid (w.heap.size<W.heap.size):=GN b;obtain⟨M,L,K,J,I,H,G,F,E,D,v,t,s,r,q⟩:=aq b;obtain⟨S,c1,Q,c2,P,c3,O,c4,N,c5,rfl,rfl,rfl,rfl,rfl⟩:=au h;have Y:=GD hf;clear h f b hf;unfold az at g;obtain⟨k,bl,ep,bn,y,off,ol,nw,un,pv,z,B,st,op,A⟩:=x;dsimp only at*
 have p:=a.1;have m:=a.2.1;have l:=a.2.2.1;have j:=a.2.2.2.1;have i:=a.2.2.2.2;rw[show Lr.own ⟨k,bl,ep,bn,y,off,ol,nw,un,pv,z,B,st,op,A⟩=[]by unfold Lr.own;simp only[GQ p,GQ m,GQ l,GQ j,GQ i]];have k1:(k==1)=false:=by rw[G6];exact p
 have k2:(k==2)=false:=by rw[G6];exact m
 have V:(k==3)=false:=by rw[G6];exact l
 have U:(k==4)=false:=by rw[G6];exact j
 have T:(k==5)=false:=by rw[G6];exact i
 clear a p m l j i;go_enter Tryz.func82,Tryz.ntmps82;go_upto_region 1 with(fail)
 rw[<-g];clear g;go_wp2_with fail
 go_ret;exact⟨_,rfl,cU _ _,C.out⟩
def qK(B:Nat)(bn:Nat)(pv:Nat)(a:Nat)(ci:Int)(uv:Value)(i:Nat)(v:Value)(_:World):Prop:=
 match i with
 |0=>v=.pointer (some ⟨B,3,none⟩)
 |1=>v=.int .u64 (bn:Int)
 |2=>v=.pointer (some ⟨B,9,none⟩)
 |3=>v=.int .u64 (pv:Int)
 |4=>v=.pointer (some ⟨B,10,none⟩)
 |5=>v=.int .u64 (a:Int)
 |8=>v=.int .u8 ci
 |11=>v=.pointer (some ⟨B,8,none⟩)
 |12=>v=uv
 |_=>True
def Ef(base:Nat)(bn:Nat)(pv:Nat)(a:Nat)(c:Nat)(un:List Nat)(i:Nat)(w:World)(v:Value):Prop:=
 match i with
 |6=>CW w v [bn,pv,a]
 |7=>Own base w v (m4 [bn,pv,a])
 |9=>aJ w v [c]
 |10=>Own base w v (m4 [bn,pv,a]++[c])
 |13=>Own base w v ((m4 [bn,pv,a]++[c])++(aH.uv un.length++un))
 |14=>Own base w v ((m4 [bn,pv,a]++[c])++(aH.uv un.length++un))
 |_=>True
def Gb(i:Nat):Option Nat:=
 match i with
 |6=>some 7
 |7=>some 10
 |9=>some 10
 |10=>some 13
 |13=>some 14
 |_=>none
theorem l7(base:Nat)(bn:Nat)(pv:Nat)(b:Nat)(c:Nat)(un:List Nat):∀k w w' v,Ef base bn pv b c un k w v->Below w.heap.size w w'->Ef base bn pv b c un k w' v:=by
 intro k w w' v h a;unfold Ef at*
 split
 ·exact h.below a
 ·exact h.below a
 ·exact h.below a
 ·exact h.below a
 ·exact h.below a
 ·exact h.below a
 ·trivial
set_option maxHeartbeats 6400000 in
set_option maxRecDepth 20000 in
theorem vF(x:Lr.R)(o n u c d:Value)(w:World)(h:bm w x o n u c d)(hf:Lr.xd x)(hk:x.kind=2)(hc:x.lj=false):
 Calls Tryz.prog 82 #[cz x o n u c d] w fun e w'=>∃u,e=.returned u/\Own w.heap.size w' u (Lr.own x)/\Below w.heap.size w w':=by
 obtain⟨W,hW⟩:∃W,W=w.alloc (az x o n u c d):=⟨_,rfl⟩
 have q:=ae w (az x o n u c d);have hr:=dd w x o n u c d;rw[<-hW]at q hr;have HB:=GD q;have HA:=GD (h.below q);have z:Hid (w.heap.size<W.heap.size):=GN hr;obtain⟨N,M,H,G,F,E,q6,q7,C,q9,L,l,g,J,I⟩:=aq hr;obtain⟨p1,c1,p2,c2,p3,c3,p4,c4,p5,c5,rfl,rfl,rfl,rfl,rfl⟩:=au h;have HF:=GD hf;clear h q hr hf;unfold az at hW;obtain⟨k,bl,ep,bn,pg,off,ol,nw,un,pv,a,cl,st,op,di⟩:=x;dsimp only at*
 subst hk;subst hc;rw[show Lr.own ⟨2,bl,ep,bn,pg,off,ol,nw,un,pv,a,false,st,op,di⟩=aH.le 8 bn++(aH.le 8 pv++(aH.le 8 a++(0::Lr.text un)))from rfl];have ar:=GD N;have ao:=GD M;have an:=GD H;have T:=GD G;have al:=GD F;have ak:=GD E;have aj:=GD q6;have ai:=GD q7;have S:=GD C;have Q:=GD q9;have s:=GD L;have Y:=GD l;have X:=GD g;have V:=GD J;have U:=GD I;go_enter Tryz.func82,Tryz.ntmps82;go_upto_region 1 with(fail)
 rw[<-hW];clear hW;go_upto_region 9 with(fail)
 obtain⟨B,v⟩:∃B,B=w.heap.size:=⟨_,rfl⟩
 rw[<-v]at HB z ar ao an T al ak aj ai S Q s Y X V U⊢;have Z:=GD v;clear v N M H G F E q6 q7 C q9 L l g J I;refine Ord.walk (qK B bn pv a 0 (.slice p3 un.length c3)) (ef W.heap.size W (Ef W.heap.size bn pv a 0 un) Gb) (fun _ _=>True)
  (by kernel_rfl) (by kernel_rfl) ?fr9 ?hfr9 (fun _ _ _ _ _ h=>h) (fun xs=>ef.first xs (GH _)) ?he9 ?hend9
 case hfr9=>
  intro xs;simp only[Ord.fill,Act.put,GP,GX,GV];rfl
 case he9=>
  iterate 15 (refine Ord.aa (fun D xs w2 t hC A hR b K f=>?_) ?_;rotate_left)
  rotate_left
  ·clear b;go_simp;exact f _ _ ⟨_,rfl,trivial,hR.step 0 _ (l7 W.heap.size bn pv a 0 un) (GF _ _) trivial,rfl⟩
  ·have N:=Ord.ab _ b 0 (by decide);simp only[qK]at N;simp only[N]at f;clear b;have y:=hR.below.cell (p:=⟨B,3,none⟩) z.out;rw[T.out]at y;go_simp;exact f _ _ ⟨_,rfl,trivial,hR.step 1 _ (l7 W.heap.size bn pv a 0 un) (GF _ _) trivial,rfl⟩
  ·clear b;go_simp;exact f _ _ ⟨_,rfl,trivial,hR.step 2 _ (l7 W.heap.size bn pv a 0 un) (GF _ _) trivial,rfl⟩
  ·have H:=Ord.ab _ b 2 (by decide);simp only[qK]at H;simp only[H]at f;clear b;have y:=hR.below.cell (p:=⟨B,9,none⟩) z.out;rw[Q.out]at y;go_simp;exact f _ _ ⟨_,rfl,trivial,hR.step 3 _ (l7 W.heap.size bn pv a 0 un) (GF _ _) trivial,rfl⟩
  ·clear b;go_simp;exact f _ _ ⟨_,rfl,trivial,hR.step 4 _ (l7 W.heap.size bn pv a 0 un) (GF _ _) trivial,rfl⟩
  ·have F:=Ord.ab _ b 4 (by decide);simp only[qK]at F;simp only[F]at f;clear b;have y:=hR.below.cell (p:=⟨B,10,none⟩) z.out;rw[s.out]at y;go_simp;exact f _ _ ⟨_,rfl,trivial,hR.step 5 _ (l7 W.heap.size bn pv a 0 un) (GF _ _) trivial,rfl⟩
  ·have M:=Ord.ab _ b 1 (by decide);simp only[qK]at M;have G:=Ord.ab _ b 3 (by decide);simp only[qK]at G;have E:=Ord.ab _ b 5 (by decide);simp only[qK]at E;simp only[M,G,E]at f;clear b;go_simp;exact f _ _ ⟨_,rfl,trivial,hR.step 6 _ (l7 W.heap.size bn pv a 0 un) (ae _ _) (lG _ [bn,pv,a] 3 rfl _ _ rfl),trivial⟩
  ·clear b;have o6:CW w2 (xs 6) [bn,pv,a]:=hR.each 6 (A {on:=6,ground:=.data} (by simp) rfl) (fun i m=>by rw[<-GZ (show some 7=some i from m)];exact t);go_simp;refine(ia (xs 6) [bn,pv,a] w2 o6 (show 3<=100 by decide)).mono ?_;rintro e w'⟨u,rfl,O,q⟩;exact f _ _ ⟨_,rfl,trivial,hR.step 7 _ (l7 W.heap.size bn pv a 0 un) q (O.from hR.size),trivial⟩
  ·clear b;go_simp;exact f _ _ ⟨_,rfl,trivial,hR.step 8 _ (l7 W.heap.size bn pv a 0 un) (GF _ _) trivial,rfl⟩
  ·have C:=Ord.ab _ b 8 (by decide);simp only[qK]at C;simp only[C]at f;clear b;go_simp;exact f _ _ ⟨_,rfl,trivial,hR.step 9 _ (l7 W.heap.size bn pv a 0 un) (ae _ _) (eN w2 [0] 1 (by simp) _ (0,0) (by decide) (by simp)),trivial⟩
  ·clear b;have o7:Own W.heap.size w2 (xs 7) (m4 [bn,pv,a]):=hR.each 7 (A {on:=7,ground:=.data} (by simp) rfl) (fun i m=>by rw[<-GZ (show some 10=some i from m)];exact t);have o9:aJ w2 (xs 9) [0]:=hR.each 9 (A {on:=9,ground:=.data} (by simp) rfl) (fun i m=>by rw[<-GZ (show some 10=some i from m)];exact t);refine eu _ _ rfl W.heap.size (xs 7) _ rfl o7 (xs 9) _ rfl o9 (by rw[eH];show 8*3+1<=140737488355328;decide) hR.size ?_;intro u w' O q _;refine f _ _ ⟨_,rfl,trivial,hR.append 10 _ q (fun j hj P ha=>?_) O,trivial⟩;unfold Ef;split
   ·exact absurd (ha 7 rfl) (by rw[show Ord.bB D 10 7=D 7 from GQ (by decide),A {on:=7,ground:=.data} (by simp) rfl];decide)
   ·exact absurd (ha 10 rfl) (by rw[jA];decide)
   ·exact absurd (ha 10 rfl) (by rw[jA];decide)
   ·exact absurd rfl hj
   ·exact absurd P (by cases hx:D 13 with|false=>decide|true=>exact absurd (Ord.af hC 13 10 rfl hx) (by rw[t];decide))
   ·exact absurd P (by cases hx:D 14 with|false=>decide|true=>exact absurd (Ord.af hC 13 10 rfl (Ord.af hC 14 13 rfl hx)) (by rw[t];decide))
   ·trivial
  ·clear b;go_simp;exact f _ _ ⟨_,rfl,trivial,hR.step 11 _ (l7 W.heap.size bn pv a 0 un) (GF _ _) trivial,rfl⟩
  ·have l:=Ord.ab _ b 11 (by decide);simp only[qK]at l;simp only[l]at f;clear b;have y:=hR.below.cell (p:=⟨B,8,none⟩) z.out;rw[S.out]at y;go_simp;exact f _ _ ⟨_,rfl,trivial,hR.step 12 _ (l7 W.heap.size bn pv a 0 un) (GF _ _) trivial,rfl⟩
  ·have g:=Ord.ab _ b 12 (by decide);simp only[qK]at g;simp only[g]at f;clear b;have ah:Own W.heap.size w2 (xs 10) (m4 [bn,pv,a]++[0]):=hR.each 10 (A {on:=10,ground:=.data} (by simp) rfl) (fun i m=>by rw[<-GZ (show some 13=some i from m)];exact t);go_simp;refine(iD (xs 10) (.slice p3 un.length c3) _ un w2 ah.aP (HA.out.bI.below hR.below) (by rw[GI,eH];have:=HF.out.bI;dsimp only at this;simp only[G2,Hz];omega)).mono ?_;rintro e w'⟨u,rfl,O,q⟩;exact f _ _ ⟨_,rfl,trivial,hR.step 13 _ (l7 W.heap.size bn pv a 0 un) q (O.from hR.size),trivial⟩
  ·clear b;have ag:Own W.heap.size w2 (xs 13) ((m4 [bn,pv,a]++[0])++(aH.uv un.length++un)):=hR.each 13 (A {on:=13,ground:=.data} (by simp) rfl) (fun i m=>by rw[<-GZ (show some 14=some i from m)];exact t);go_simp;exact f _ _ ⟨_,rfl,trivial,hR.step 14 _ (l7 W.heap.size bn pv a 0 un) (GF _ _) ag,trivial⟩
  exact Ord.ay
 case hend9=>
  intro D xs w9 hR r;have h7:=hR.each 14 (r 14 (by decide)).1 (fun i m=>by cases m);have HV:=GD h7;have ad:=GD hR.below;clear h7 hR r;generalize xs 14=z14 at*
  generalize xs 13=z13 at*
  generalize xs 12=z12 at*
  generalize xs 11=z11 at*
  generalize xs 10=z10 at*
  generalize xs 9=z9 at*
  generalize xs 8=z8 at*
  generalize xs 7=z7 at*
  generalize xs 6=z6 at*
  generalize xs 5=z5 at*
  generalize xs 4=z4 at*
  generalize xs 3=z3 at*
  generalize xs 2=z2 at*
  generalize xs 1=z1 at*
  generalize xs 0=z0 at*
  go_wp2_with fail
  go_ret;refine⟨_,rfl,?_,by rw[<-Z.out];exact HB.out.trans (ad.out.mono (Hu z.out))⟩;rw[<-Z.out];have h8:Own W.heap.size w9 z14 _:=HV.out;have e:(m4 [bn,pv,a]++[0])++(aH.uv un.length++un)=aH.le 8 bn++(aH.le 8 pv++(aH.le 8 a++(0::Lr.text un))):=by unfold m4 Lr.text;simp only[Ha,IC,G3,Ip,Iy,Hg]
  rw[e]at h8;exact h8.from (Hu z.out)
set_option maxHeartbeats 6400000 in
set_option maxRecDepth 20000 in
theorem vE(x:Lr.R)(o n u c d:Value)(w:World)(h:bm w x o n u c d)(hf:Lr.xd x)(hk:x.kind=2)(hc:x.lj=true):
 Calls Tryz.prog 82 #[cz x o n u c d] w fun e w'=>∃u,e=.returned u/\Own w.heap.size w' u (Lr.own x)/\Below w.heap.size w w':=by
 obtain⟨W,hW⟩:∃W,W=w.alloc (az x o n u c d):=⟨_,rfl⟩
 have q:=ae w (az x o n u c d);have hr:=dd w x o n u c d;rw[<-hW]at q hr;have HB:=GD q;have HA:=GD (h.below q);have z:Hid (w.heap.size<W.heap.size):=GN hr;obtain⟨N,M,H,G,F,E,q6,q7,C,q9,L,l,g,J,I⟩:=aq hr;obtain⟨p1,c1,p2,c2,p3,c3,p4,c4,p5,c5,rfl,rfl,rfl,rfl,rfl⟩:=au h;have HF:=GD hf;clear h q hr hf;unfold az at hW;obtain⟨k,bl,ep,bn,pg,off,ol,nw,un,pv,a,cl,st,op,di⟩:=x;dsimp only at*
 subst hk;subst hc;rw[show Lr.own ⟨2,bl,ep,bn,pg,off,ol,nw,un,pv,a,true,st,op,di⟩=aH.le 8 bn++(aH.le 8 pv++(aH.le 8 a++(1::Lr.text un)))from rfl];have ar:=GD N;have ao:=GD M;have an:=GD H;have T:=GD G;have al:=GD F;have ak:=GD E;have aj:=GD q6;have ai:=GD q7;have S:=GD C;have Q:=GD q9;have s:=GD L;have Y:=GD l;have X:=GD g;have V:=GD J;have U:=GD I;go_enter Tryz.func82,Tryz.ntmps82;go_upto_region 1 with(fail)
 rw[<-hW];clear hW;go_upto_region 9 with(fail)
 obtain⟨B,v⟩:∃B,B=w.heap.size:=⟨_,rfl⟩
 rw[<-v]at HB z ar ao an T al ak aj ai S Q s Y X V U⊢;have Z:=GD v;clear v N M H G F E q6 q7 C q9 L l g J I;refine Ord.walk (qK B bn pv a 1 (.slice p3 un.length c3)) (ef W.heap.size W (Ef W.heap.size bn pv a 1 un) Gb) (fun _ _=>True)
  (by kernel_rfl) (by kernel_rfl) ?fr9 ?hfr9 (fun _ _ _ _ _ h=>h) (fun xs=>ef.first xs (GH _)) ?he9 ?hend9
 case hfr9=>
  intro xs;simp only[Ord.fill,Act.put,GP,GX,GV];rfl
 case he9=>
  iterate 15 (refine Ord.aa (fun D xs w2 t hC A hR b K f=>?_) ?_;rotate_left)
  rotate_left
  ·clear b;go_simp;exact f _ _ ⟨_,rfl,trivial,hR.step 0 _ (l7 W.heap.size bn pv a 1 un) (GF _ _) trivial,rfl⟩
  ·have N:=Ord.ab _ b 0 (by decide);simp only[qK]at N;simp only[N]at f;clear b;have y:=hR.below.cell (p:=⟨B,3,none⟩) z.out;rw[T.out]at y;go_simp;exact f _ _ ⟨_,rfl,trivial,hR.step 1 _ (l7 W.heap.size bn pv a 1 un) (GF _ _) trivial,rfl⟩
  ·clear b;go_simp;exact f _ _ ⟨_,rfl,trivial,hR.step 2 _ (l7 W.heap.size bn pv a 1 un) (GF _ _) trivial,rfl⟩
  ·have H:=Ord.ab _ b 2 (by decide);simp only[qK]at H;simp only[H]at f;clear b;have y:=hR.below.cell (p:=⟨B,9,none⟩) z.out;rw[Q.out]at y;go_simp;exact f _ _ ⟨_,rfl,trivial,hR.step 3 _ (l7 W.heap.size bn pv a 1 un) (GF _ _) trivial,rfl⟩
  ·clear b;go_simp;exact f _ _ ⟨_,rfl,trivial,hR.step 4 _ (l7 W.heap.size bn pv a 1 un) (GF _ _) trivial,rfl⟩
  ·have F:=Ord.ab _ b 4 (by decide);simp only[qK]at F;simp only[F]at f;clear b;have y:=hR.below.cell (p:=⟨B,10,none⟩) z.out;rw[s.out]at y;go_simp;exact f _ _ ⟨_,rfl,trivial,hR.step 5 _ (l7 W.heap.size bn pv a 1 un) (GF _ _) trivial,rfl⟩
  ·have M:=Ord.ab _ b 1 (by decide);simp only[qK]at M;have G:=Ord.ab _ b 3 (by decide);simp only[qK]at G;have E:=Ord.ab _ b 5 (by decide);simp only[qK]at E;simp only[M,G,E]at f;clear b;go_simp;exact f _ _ ⟨_,rfl,trivial,hR.step 6 _ (l7 W.heap.size bn pv a 1 un) (ae _ _) (lG _ [bn,pv,a] 3 rfl _ _ rfl),trivial⟩
  ·clear b;have o6:CW w2 (xs 6) [bn,pv,a]:=hR.each 6 (A {on:=6,ground:=.data} (by simp) rfl) (fun i m=>by rw[<-GZ (show some 7=some i from m)];exact t);go_simp;refine(ia (xs 6) [bn,pv,a] w2 o6 (show 3<=100 by decide)).mono ?_;rintro e w'⟨u,rfl,O,q⟩;exact f _ _ ⟨_,rfl,trivial,hR.step 7 _ (l7 W.heap.size bn pv a 1 un) q (O.from hR.size),trivial⟩
  ·clear b;go_simp;exact f _ _ ⟨_,rfl,trivial,hR.step 8 _ (l7 W.heap.size bn pv a 1 un) (GF _ _) trivial,rfl⟩
  ·have C:=Ord.ab _ b 8 (by decide);simp only[qK]at C;simp only[C]at f;clear b;go_simp;exact f _ _ ⟨_,rfl,trivial,hR.step 9 _ (l7 W.heap.size bn pv a 1 un) (ae _ _) (eN w2 [1] 1 (by simp) _ (0,0) (by decide) (by simp)),trivial⟩
  ·clear b;have o7:Own W.heap.size w2 (xs 7) (m4 [bn,pv,a]):=hR.each 7 (A {on:=7,ground:=.data} (by simp) rfl) (fun i m=>by rw[<-GZ (show some 10=some i from m)];exact t);have o9:aJ w2 (xs 9) [1]:=hR.each 9 (A {on:=9,ground:=.data} (by simp) rfl) (fun i m=>by rw[<-GZ (show some 10=some i from m)];exact t);refine eu _ _ rfl W.heap.size (xs 7) _ rfl o7 (xs 9) _ rfl o9 (by rw[eH];show 8*3+1<=140737488355328;decide) hR.size ?_;intro u w' O q _;refine f _ _ ⟨_,rfl,trivial,hR.append 10 _ q (fun j hj P ha=>?_) O,trivial⟩;unfold Ef;split
   ·exact absurd (ha 7 rfl) (by rw[show Ord.bB D 10 7=D 7 from GQ (by decide),A {on:=7,ground:=.data} (by simp) rfl];decide)
   ·exact absurd (ha 10 rfl) (by rw[jA];decide)
   ·exact absurd (ha 10 rfl) (by rw[jA];decide)
   ·exact absurd rfl hj
   ·exact absurd P (by cases hx:D 13 with|false=>decide|true=>exact absurd (Ord.af hC 13 10 rfl hx) (by rw[t];decide))
   ·exact absurd P (by cases hx:D 14 with|false=>decide|true=>exact absurd (Ord.af hC 13 10 rfl (Ord.af hC 14 13 rfl hx)) (by rw[t];decide))
   ·trivial
  ·clear b;go_simp;exact f _ _ ⟨_,rfl,trivial,hR.step 11 _ (l7 W.heap.size bn pv a 1 un) (GF _ _) trivial,rfl⟩
  ·have l:=Ord.ab _ b 11 (by decide);simp only[qK]at l;simp only[l]at f;clear b;have y:=hR.below.cell (p:=⟨B,8,none⟩) z.out;rw[S.out]at y;go_simp;exact f _ _ ⟨_,rfl,trivial,hR.step 12 _ (l7 W.heap.size bn pv a 1 un) (GF _ _) trivial,rfl⟩
  ·have g:=Ord.ab _ b 12 (by decide);simp only[qK]at g;simp only[g]at f;clear b;have ah:Own W.heap.size w2 (xs 10) (m4 [bn,pv,a]++[1]):=hR.each 10 (A {on:=10,ground:=.data} (by simp) rfl) (fun i m=>by rw[<-GZ (show some 13=some i from m)];exact t);go_simp;refine(iD (xs 10) (.slice p3 un.length c3) _ un w2 ah.aP (HA.out.bI.below hR.below) (by rw[GI,eH];have:=HF.out.bI;dsimp only at this;simp only[G2,Hz];omega)).mono ?_;rintro e w'⟨u,rfl,O,q⟩;exact f _ _ ⟨_,rfl,trivial,hR.step 13 _ (l7 W.heap.size bn pv a 1 un) q (O.from hR.size),trivial⟩
  ·clear b;have ag:Own W.heap.size w2 (xs 13) ((m4 [bn,pv,a]++[1])++(aH.uv un.length++un)):=hR.each 13 (A {on:=13,ground:=.data} (by simp) rfl) (fun i m=>by rw[<-GZ (show some 14=some i from m)];exact t);go_simp;exact f _ _ ⟨_,rfl,trivial,hR.step 14 _ (l7 W.heap.size bn pv a 1 un) (GF _ _) ag,trivial⟩
  exact Ord.ay
 case hend9=>
  intro D xs w9 hR r;have h7:=hR.each 14 (r 14 (by decide)).1 (fun i m=>by cases m);have HV:=GD h7;have ad:=GD hR.below;clear h7 hR r;generalize xs 14=z14 at*
  generalize xs 13=z13 at*
  generalize xs 12=z12 at*
  generalize xs 11=z11 at*
  generalize xs 10=z10 at*
  generalize xs 9=z9 at*
  generalize xs 8=z8 at*
  generalize xs 7=z7 at*
  generalize xs 6=z6 at*
  generalize xs 5=z5 at*
  generalize xs 4=z4 at*
  generalize xs 3=z3 at*
  generalize xs 2=z2 at*
  generalize xs 1=z1 at*
  generalize xs 0=z0 at*
  go_wp2_with fail
  go_ret;refine⟨_,rfl,?_,by rw[<-Z.out];exact HB.out.trans (ad.out.mono (Hu z.out))⟩;rw[<-Z.out];have h8:Own W.heap.size w9 z14 _:=HV.out;have e:(m4 [bn,pv,a]++[1])++(aH.uv un.length++un)=aH.le 8 bn++(aH.le 8 pv++(aH.le 8 a++(1::Lr.text un))):=by unfold m4 Lr.text;simp only[Ha,IC,G3,Ip,Iy,Hg]
  rw[e]at h8;exact h8.from (Hu z.out)
theorem vG(x:Lr.R)(o n u c d:Value)(w:World)(h:bm w x o n u c d)(hf:Lr.xd x):
 Calls Tryz.prog 82 #[cz x o n u c d] w fun e w'=>∃u,e=.returned u/\Own w.heap.size w' u (Lr.own x)/\Below w.heap.size w w':=by
 by_cases i:x.kind=1
 ·exact ym x _ _ _ _ _ w h hf i
 by_cases a:x.kind=2
 ·cases hc:x.lj
  ·exact vF x _ _ _ _ _ w h hf a hc
  ·exact vE x _ _ _ _ _ w h hf a hc
 by_cases g:x.kind=3
 ·exact yl x _ _ _ _ _ w h hf g
 by_cases f:x.kind=4
 ·exact yk x _ _ _ _ _ w h hf f
 by_cases b:x.kind=5
 ·exact yj x _ _ _ _ _ w h hf b
 exact yn x _ _ _ _ _ w h hf ⟨i,a,g,f,b⟩
end Go.Proofs.YtbpodmallknhfaaGreat
