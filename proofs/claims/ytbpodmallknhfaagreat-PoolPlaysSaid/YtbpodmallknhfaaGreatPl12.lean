/- Parts of a proof. Conditions: as each row says. -/
import Derived.Test.YtbpodmallknhfaaGreatPl11
import Derived.Test.YtbpodmallknhfaaGreatPl10
namespace Go.Proofs.YtbpodmallknhfaaGreat
open Go.RowKit
def tN(w:World)(v:Value)(x:Lr.R):Prop:=∃o n u c d,v=cz x o n u c d/\bm w x o n u c d
theorem tN.below{w w':World}{v:Value}{x:Lr.R}(h:tN w v x)(a:Below w.heap.size w w'):tN w' v x:=by
 obtain⟨o,n,u,c,d,e,h⟩:=h;exact⟨o,n,u,c,d,e,h.below a⟩
namespace Lr
noncomputable def may(x:R):Bool:=within x&&same x (bare x)
theorem wC(x:R):may x=true↔rU x:=by
 unfold may rU;rw[Hs,within_iff];constructor
 ·rintro⟨a,b⟩;exact⟨a,BV b⟩
 ·rintro⟨a,b⟩;exact⟨a,qe b⟩
theorem AM{x:R}(h:rU x):may x=true:=(wC x).2 h
theorem xW{x:R}(h:¬rU x):may x=false:=by
 cases hm:may x
 ·rfl
 ·exact absurd ((wC x).1 hm) h
end Lr
def yK(a:Value)(b:Bool)(i:Nat)(v:Value)(_:World):Prop:=
 match i with
 |0=>v=a
 |1=>v=.bool true
 |2=>v=.bool true
 |3=>v=a
 |4=>v=a
 |6=>v=.bool b
 |7=>v=.bool b
 |8=>v=.bool b
 |_=>True
def Fs(x:Lr.R)(i:Nat)(w:World)(v:Value):Prop:=
 match i with
 |5=>tN w v (Lr.bare x)
 |_=>True
def Gs(i:Nat):Option Nat:=
 match i with
 |_=>none
theorem CD(x:Lr.R):∀k w w' v,Fs x k w v->Below w.heap.size w w'->Fs x k w' v:=by
 intro k w w' v h a;unfold Fs at*
 split
 ·exact h.below a
 ·trivial
def BJ(a:Value)(i:Nat)(v:Value)(_:World):Prop:=
 match i with
 |0=>v=a
 |1=>v=.bool false
 |2=>v=.bool false
 |7=>v=.bool false
 |8=>v=.bool false
 |_=>True
def Ft(i:Nat)(a:World)(b:Value):Prop:=
 match i with
 |_=>True
def Gu(i:Nat):Option Nat:=
 match i with
 |_=>none
theorem CE:∀k w w' v,Ft k w v->Below w.heap.size w w'->Ft k w' v:=by
 intro k w w' v _ _;unfold Ft;split
 ·trivial
set_option maxHeartbeats 6400000 in
set_option maxRecDepth 20000 in
theorem wD(x:Lr.R)(o n u c d:Value)(w:World)(h:bm w x o n u c d)(hf:Lr.xd x):
 Calls Tryz.prog 81 #[cz x o n u c d] w fun e w'=>e=.returned (.bool (Lr.may x))/\Below w.heap.size w w':=by
 obtain⟨W,z⟩:∃W,W=w.alloc (az x o n u c d):=⟨_,rfl⟩
 have l:=ae w (az x o n u c d);have F:=dd w x o n u c d;rw[<-z]at l F;have H:=GD l;have I:=GD (h.below l);have G:Hid (w.heap.size<W.heap.size):=GN F;obtain⟨p1,c1,p2,c2,p3,c3,p4,c4,p5,c5,rfl,rfl,rfl,rfl,rfl⟩:=au h;have k:=GD F;have HF:=GD hf;clear h l F hf;unfold az at z;obtain⟨bw,m⟩:∃bw,Lr.within x=bw:=⟨_,rfl⟩
 have E:=GD m;have hm:Lr.may x=(bw&&Lr.same x (Lr.bare x)):=by unfold Lr.may;rw[m]
 rw[hm];clear hm m;cases bw
 ·rw[Bool.false_and];go_enter Tryz.func81,Tryz.ntmps81;go_upto_region 1 with(fail)
  rw[<-z];clear z;refine Ord.walk (BJ (cz x (.slice p1 x.old.length c1) (.slice p2 x.new.length c2) (.slice p3 x.bI.length c3) (.slice p4 x.dH.length c4) (.slice p5 x.cq.length c5))) (ef W.heap.size W (Ft) Gu) (fun _ _=>True)
   (by kernel_rfl) (by kernel_rfl) ?frf ?hfrf (fun _ _ _ _ _ h=>h) (fun xs=>ef.first xs (GH _)) ?hef ?hendf
  case hfrf=>
   intro xs;simp only[Ord.fill,Act.put,GP,GX,GV];rfl
  case hef=>
   iterate 9 (refine Ord.aa (fun D xs w2 hD hC hP hR a K b=>?_) ?_;rotate_left)
   rotate_left
   ·clear a;have f:=(hR.below.block _ G.out).trans k.out;obtain⟨Z,Y,X,V,U,T,S,Q,P,O,v,t,s,r,q⟩:=aq f;clear f;go_simp;exact b _ _ ⟨_,rfl,trivial,hR.step 0 _ (CE) (GF _ _) trivial,rfl⟩
   ·have C:=Ord.ab _ a 0 (by decide);simp only[BJ]at C;simp only[C]at b;clear a;go_simp;refine(nB x _ _ _ _ _ w2 (I.out.below hR.below)).mono ?_;rintro e w'⟨rfl,l⟩;rw[E.out];exact b _ _ ⟨_,rfl,trivial,hR.step 1 _ (CE) l trivial,rfl⟩
   ·have B:=Ord.ab _ a 1 (by decide);simp only[BJ]at B;simp only[B]at b;clear a;go_simp;exact b _ _ ⟨_,rfl,trivial,hR.step 2 _ (CE) (GF _ _) trivial,rfl⟩
   ·have g:=Ord.ab _ a 2 (by decide);simp only[BJ]at g;simp only[g]at b;clear a;go_simp;exact b _ _ ⟨undef,rfl,trivial,hR.step 3 _ (CE) (GF _ _) trivial,trivial⟩
   ·have g:=Ord.ab _ a 2 (by decide);simp only[BJ]at g;simp only[g]at b;clear a;go_simp;exact b _ _ ⟨undef,rfl,trivial,hR.step 4 _ (CE) (GF _ _) trivial,trivial⟩
   ·have g:=Ord.ab _ a 2 (by decide);simp only[BJ]at g;simp only[g]at b;clear a;go_simp;exact b _ _ ⟨undef,rfl,trivial,hR.step 5 _ (CE) (GF _ _) trivial,trivial⟩
   ·have g:=Ord.ab _ a 2 (by decide);simp only[BJ]at g;simp only[g]at b;clear a;go_simp;exact b _ _ ⟨undef,rfl,trivial,hR.step 6 _ (CE) (GF _ _) trivial,trivial⟩
   ·have g:=Ord.ab _ a 2 (by decide);simp only[BJ]at g;simp only[g]at b;clear a;go_simp;exact b _ _ ⟨_,rfl,trivial,hR.step 7 _ (CE) (GF _ _) trivial,rfl⟩
   ·have A:=Ord.ab _ a 7 (by decide);simp only[BJ]at A;simp only[A]at b;clear a;go_simp;exact b _ _ ⟨_,rfl,trivial,hR.step 8 _ (CE) (GF _ _) trivial,rfl⟩
   exact Ord.ay
  case hendf=>
   intro D xs w9 hR j;have p:=(j 8 (by decide)).2;simp only[BJ]at p;have y:=GD hR.below;clear hR j;simp only[p];clear p;generalize xs 7=z7 at*
   generalize xs 6=z6 at*
   generalize xs 5=z5 at*
   generalize xs 4=z4 at*
   generalize xs 3=z3 at*
   generalize xs 2=z2 at*
   generalize xs 1=z1 at*
   generalize xs 0=z0 at*
   go_wp2_with fail
   go_ret;exact⟨rfl,H.out.trans (y.out.mono H.out.size)⟩
 ·rw[Bool.true_and];go_enter Tryz.func81,Tryz.ntmps81;go_upto_region 1 with(fail)
  rw[<-z];clear z;refine Ord.walk (yK (cz x (.slice p1 x.old.length c1) (.slice p2 x.new.length c2) (.slice p3 x.bI.length c3) (.slice p4 x.dH.length c4) (.slice p5 x.cq.length c5)) (Lr.same x (Lr.bare x))) (ef W.heap.size W (Fs x) Gs) (fun _ _=>True)
   (by kernel_rfl) (by kernel_rfl) ?frt ?hfrt (fun _ _ _ _ _ h=>h) (fun xs=>ef.first xs (GH _)) ?het ?hendt
  case hfrt=>
   intro xs;simp only[Ord.fill,Act.put,GP,GX,GV];rfl
  case het=>
   iterate 9 (refine Ord.aa (fun D xs w2 hD hC hP hR a K b=>?_) ?_;rotate_left)
   rotate_left
   ·clear a;have f:=(hR.below.block _ G.out).trans k.out;obtain⟨Z,Y,X,V,U,T,S,Q,P,O,v,t,s,r,q⟩:=aq f;clear f;go_simp;exact b _ _ ⟨_,rfl,trivial,hR.step 0 _ (CD x) (GF _ _) trivial,rfl⟩
   ·have C:=Ord.ab _ a 0 (by decide);simp only[yK]at C;simp only[C]at b;clear a;go_simp;refine(nB x _ _ _ _ _ w2 (I.out.below hR.below)).mono ?_;rintro e w'⟨rfl,l⟩;rw[E.out];exact b _ _ ⟨_,rfl,trivial,hR.step 1 _ (CD x) l trivial,rfl⟩
   ·have B:=Ord.ab _ a 1 (by decide);simp only[yK]at B;simp only[B]at b;clear a;go_simp;exact b _ _ ⟨_,rfl,trivial,hR.step 2 _ (CD x) (GF _ _) trivial,rfl⟩
   ·have g:=Ord.ab _ a 2 (by decide);simp only[yK]at g;simp only[g]at b;clear a;have f:=(hR.below.block _ G.out).trans k.out;obtain⟨Z,Y,X,V,U,T,S,Q,P,O,v,t,s,r,q⟩:=aq f;clear f;go_simp;exact b _ _ ⟨_,rfl,trivial,hR.step 3 _ (CD x) (GF _ _) trivial,rfl⟩
   ·have g:=Ord.ab _ a 2 (by decide);simp only[yK]at g;simp only[g]at b;clear a;have f:=(hR.below.block _ G.out).trans k.out;obtain⟨Z,Y,X,V,U,T,S,Q,P,O,v,t,s,r,q⟩:=aq f;clear f;go_simp;exact b _ _ ⟨_,rfl,trivial,hR.step 4 _ (CD x) (GF _ _) trivial,rfl⟩
   ·have g:=Ord.ab _ a 2 (by decide);simp only[yK]at g;have q4:=Ord.ab _ a 4 (by decide);simp only[yK]at q4;simp only[g,q4]at b;clear a;go_simp;refine(Br x _ _ _ _ _ w2 (I.out.below hR.below)).mono ?_;rintro e w'⟨L,M,J,c',d',rfl,N,l⟩;exact b _ _ ⟨_,rfl,trivial,hR.step 5 _ (CD x) l ⟨L,M,J,c',d',rfl,N⟩,trivial⟩
   ·have g:=Ord.ab _ a 2 (by decide);simp only[yK]at g;have q3:=Ord.ab _ a 3 (by decide);simp only[yK]at q3;simp only[g,q3]at b;clear a;have o5:tN w2 (xs 5) (Lr.bare x):=hR.each 5 (hP {on:=5,ground:=.data} (by simp) rfl) (fun i hi=>by cases hi);obtain⟨L,M,J,c',d',ev,N⟩:=o5;have q5:=ev;simp only[q5]at b;go_simp;refine(zV x (Lr.bare x) _ _ _ _ _ L M J c' d' w2 (I.out.below hR.below) N ⟨GR HF.out.dH (by decide),GR HF.out.cq (by decide)⟩).mono ?_;rintro e w'⟨rfl,l⟩;exact b _ _ ⟨_,rfl,trivial,hR.step 6 _ (CD x) l trivial,rfl⟩
   ·have g:=Ord.ab _ a 2 (by decide);simp only[yK]at g;have q6:=Ord.ab _ a 6 (by decide);simp only[yK]at q6;simp only[g,q6]at b;clear a;go_simp;exact b _ _ ⟨_,rfl,trivial,hR.step 7 _ (CD x) (GF _ _) trivial,rfl⟩
   ·have A:=Ord.ab _ a 7 (by decide);simp only[yK]at A;simp only[A]at b;clear a;go_simp;exact b _ _ ⟨_,rfl,trivial,hR.step 8 _ (CD x) (GF _ _) trivial,rfl⟩
   exact Ord.ay
  case hendt=>
   intro D xs w9 hR j;have p:=(j 8 (by decide)).2;simp only[yK]at p;have y:=GD hR.below;clear hR j;simp only[p];clear p;generalize xs 7=z7 at*
   generalize xs 6=z6 at*
   generalize xs 5=z5 at*
   generalize xs 4=z4 at*
   generalize xs 3=z3 at*
   generalize xs 2=z2 at*
   generalize xs 1=z1 at*
   generalize xs 0=z0 at*
   go_wp2_with fail
   go_ret;exact⟨rfl,H.out.trans (y.out.mono H.out.size)⟩
end Go.Proofs.YtbpodmallknhfaaGreat
