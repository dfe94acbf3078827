/- Parts of a proof. Conditions: as each row says. -/
import Derived.Test.YtbpodmallknhfaaGreatPl10
namespace Go.Proofs.YtbpodmallknhfaaGreat
open Go.RowKit
def iL(P Y:Nat)(v0 v1 v2 v3:Value)(i:Nat)(v:Value)(_:World):Prop:=
 match i with
 |0=>v=.pointer (some ⟨P,4,none⟩)
 |1=>v=v0
 |2=>v=.pointer (some ⟨P,5,none⟩)
 |3=>v=v1
 |4=>v=.pointer (some ⟨P,6,none⟩)
 |5=>v=v2
 |6=>v=.pointer (some ⟨P,7,none⟩)
 |7=>v=v3
 |8=>v=.pointer (some ⟨Y,4,none⟩)
 |10=>v=.pointer (some ⟨Y,5,none⟩)
 |12=>v=.pointer (some ⟨Y,6,none⟩)
 |14=>v=.pointer (some ⟨Y,7,none⟩)
 |_=>True
def fV(P Y:Nat)(v0 v1 v2 v3 v4:Value)(i:Nat)(v:Value)(_:World):Prop:=
 match i with
 |0=>v=.pointer (some ⟨P,3,none⟩)
 |1=>v=v0
 |2=>v=.pointer (some ⟨P,9,none⟩)
 |3=>v=v1
 |4=>v=.pointer (some ⟨P,10,none⟩)
 |5=>v=v2
 |6=>v=.pointer (some ⟨P,11,none⟩)
 |7=>v=v3
 |8=>v=.pointer (some ⟨P,8,none⟩)
 |9=>v=v4
 |10=>v=.pointer (some ⟨Y,3,none⟩)
 |12=>v=.pointer (some ⟨Y,9,none⟩)
 |14=>v=.pointer (some ⟨Y,10,none⟩)
 |16=>v=.pointer (some ⟨Y,11,none⟩)
 |18=>v=.pointer (some ⟨Y,8,none⟩)
 |_=>True
def pG(P Y:Nat)(v0 v1:Value)(i:Nat)(v:Value)(_:World):Prop:=
 match i with
 |0=>v=.pointer (some ⟨P,3,none⟩)
 |1=>v=v0
 |2=>v=.pointer (some ⟨P,12,none⟩)
 |3=>v=v1
 |4=>v=.pointer (some ⟨Y,3,none⟩)
 |6=>v=.pointer (some ⟨Y,12,none⟩)
 |_=>True
def pF(P Y:Nat)(v0 v1:Value)(i:Nat)(v:Value)(_:World):Prop:=
 match i with
 |0=>v=.pointer (some ⟨P,13,none⟩)
 |1=>v=v0
 |2=>v=.pointer (some ⟨P,14,none⟩)
 |3=>v=v1
 |4=>v=.pointer (some ⟨Y,13,none⟩)
 |6=>v=.pointer (some ⟨Y,14,none⟩)
 |_=>True
set_option maxHeartbeats 6400000 in
set_option maxRecDepth 20000 in
theorem Br(x:Lr.R)(o n u c d:Value)(w:World)(h:bm w x o n u c d):
 Calls Tryz.prog 112 #[cz x o n u c d] w fun e w'=>∃o' n' u' c' d',e=.returned (cz (Lr.bare x) o' n' u' c' d')/\bm w' (Lr.bare x) o' n' u' c' d'/\Below w.heap.size w w':=by
 obtain⟨W,hW⟩:∃W,W=w.alloc (az x o n u c d):=⟨_,rfl⟩
 have hb:=ae w (az x o n u c d);have av:=dd w x o n u c d;rw[<-hW]at hb av;obtain⟨V,hV⟩:∃V,V=W.alloc BL:=⟨_,rfl⟩
 have aw:=ae W BL;have hz:=Fx W;rw[<-hV]at aw hz;have aR:W.heap.size=w.heap.size+1:=by rw[hW];simp
 rw[aR]at hz;have hr:=(aw.block _ (GN av)).trans av;have HB:=GD (hb.trans (aw.mono hb.size));obtain⟨q0,q1,q2,q3,q4,q5,q6,q7,q8,q9,A,z,t,r,p⟩:=aq hr;obtain⟨p1,c1,p2,c2,p3,c3,p4,c4,p5,c5,rfl,rfl,rfl,rfl,rfl⟩:=au h;unfold az at hW;unfold BL at hV;obtain⟨k,bl,ep,bn,pg,off,ol,nw,un,pv,nx,cl,st,op,di⟩:=x;dsimp only at*
 have ao:=GD h;have HR:=GD hr;have HZ:=GD hz;clear h hb hr av aw hz aR;by_cases h1:k=1
 ·as_aux_lemma=>
   subst h1;rw[show Lr.bare ⟨1,bl,ep,bn,pg,off,ol,nw,un,pv,nx,cl,st,op,di⟩=⟨1,bl,ep,0,pg,off,ol,nw,[],0,0,false,0,[],[]⟩from rfl];go_enter Tryz.func112,Tryz.ntmps112;go_upto_region 1 with(fail)
   rw[<-hW,<-hV];clear hW hV;go_upto_region 2 with(fail)
   obtain⟨Y,Q⟩:∃Y,Y=V.alloc (.cells #[.int .i64 1,.int .u64 (bl:Int),.int .u32 (ep:Int),.int .u64 0,.int .u32 0,.int .u16 0,.slice none 0 0,.slice none 0 0,.slice none 0 0,.int .u64 0,.int .u64 0,.bool false,.int .u64 0,.slice none 0 0,.slice none 0 0] 78):=⟨_,rfl⟩
   have j:Below V.heap.size V Y:=by rw[Q];exact ae _ _
   have B:Hid (Y.heap[V.heap.size]?=some (.cells #[.int .i64 1,.int .u64 (bl:Int),.int .u32 (ep:Int),.int .u64 0,.int .u32 0,.int .u16 0,.slice none 0 0,.slice none 0 0,.slice none 0 0,.int .u64 0,.int .u64 0,.bool false,.int .u64 0,.slice none 0 0,.slice none 0 0] 78 (0,0))):=by rw[Q];exact GM _ _
   have L:=GD ((j.block _ (GN HZ.out)).trans HZ.out);have H:=(j.block _ (GN HR.out)).trans HR.out;have ad:=GD (HB.out.trans (j.mono HB.out.size));have l:Hid (w.heap.size<V.heap.size):=GN HR.out;have M:Hid (V.heap.size<Y.heap.size):=GN B.out;have C:Hid (¬w.heap.size=V.heap.size):=fun e=>Nat.ne_of_lt l.out e;have O:Hid (¬V.heap.size=w.heap.size+1):=by have:=GN HZ.out;intro e;omega
   rw[<-Q];clear Q j q0 q1 q2 q3 q4 q5 q6 q7 q8 q9 A z t r p;obtain⟨q0,q1,q2,q3,q4,q5,q6,q7,q8,q9,A,z,t,r,p⟩:=aq H;clear H;have aQ:=GD q0;have aP:=GD q1;have aN:=GD q2;have ar:=GD q3;have aE:=GD q4;have aD:=GD q5;have aC:=GD q6;have aB:=GD q7;have aA:=GD q8;have ax:=GD q9;have an:=GD A;have al:=GD z;have ak:=GD t;have aj:=GD r;have ai:=GD p;go_upto_region 4 with(fail)
   clear q0 q1 q2 q3 q4 q5 q6 q7 q8 q9 A z t r p;refine Ord.walk (iL w.heap.size V.heap.size (.int .u32 (pg:Int)) (.int .u16 (off:Int)) (.slice p1 ol.length c1) (.slice p2 nw.length c2)) (fun D _ w2=>eD Y V.heap.size #[.int .i64 1,.int .u64 (bl:Int),.int .u32 (ep:Int),.int .u64 0,.int .u32 0,.int .u16 0,.slice none 0 0,.slice none 0 0,.slice none 0 0,.int .u64 0,.int .u64 0,.bool false,.int .u64 0,.slice none 0 0,.slice none 0 0] 78 [(9,4,(.int .u32 (pg:Int))),(11,5,(.int .u16 (off:Int))),(13,6,(.slice p1 ol.length c1)),(15,7,(.slice p2 nw.length c2))] D w2) (fun _ _=>True)
    (by kernel_rfl) (by kernel_rfl) ?fr1 ?hfr1 (fun _ _ _ _ _ h=>h) (fun xs=>eD.first B.out) ?he1 ?hend1
   case hfr1=>
    intro xs;simp only[Ord.fill,Act.put,GP,GX,GV];rfl
   case he1=>
    iterate 16 (refine Ord.aa (fun D xs w2 hD hC hP hR b K g=>?_) ?_;rotate_left)
    rotate_left
    ·clear b;go_simp;exact g _ _ ⟨_,rfl,trivial,hR.skip rfl,rfl⟩
    ·have q:=Ord.ab _ b 0 (by decide);simp only[iL]at q;simp only[q]at g;clear b;have cc:=hR.cell aE.out C.out;go_simp;exact g _ _ ⟨_,rfl,trivial,hR.skip rfl,rfl⟩
    ·clear b;go_simp;exact g _ _ ⟨_,rfl,trivial,hR.skip rfl,rfl⟩
    ·have q:=Ord.ab _ b 2 (by decide);simp only[iL]at q;simp only[q]at g;clear b;have cc:=hR.cell aD.out C.out;go_simp;exact g _ _ ⟨_,rfl,trivial,hR.skip rfl,rfl⟩
    ·clear b;go_simp;exact g _ _ ⟨_,rfl,trivial,hR.skip rfl,rfl⟩
    ·have q:=Ord.ab _ b 4 (by decide);simp only[iL]at q;simp only[q]at g;clear b;have cc:=hR.cell aC.out C.out;go_simp;exact g _ _ ⟨_,rfl,trivial,hR.skip rfl,rfl⟩
    ·clear b;go_simp;exact g _ _ ⟨_,rfl,trivial,hR.skip rfl,rfl⟩
    ·have q:=Ord.ab _ b 6 (by decide);simp only[iL]at q;simp only[q]at g;clear b;have cc:=hR.cell aB.out C.out;go_simp;exact g _ _ ⟨_,rfl,trivial,hR.skip rfl,rfl⟩
    ·clear b;go_simp;exact g _ _ ⟨_,rfl,trivial,hR.skip rfl,rfl⟩
    ·have q:=Ord.ab _ b 8 (by decide);have E:=Ord.ab _ b 1 (by decide);simp only[iL]at q E;simp only[q,E]at g;clear b;obtain⟨u,cu⟩:=hR.there 4 (show 4<15 by decide);have ff:=hR.free 4;go_simp;exact g _ _ ⟨undef,rfl,trivial,hR.put 9 4 _ (by rfl) (by simp) hD,trivial⟩
    ·clear b;go_simp;exact g _ _ ⟨_,rfl,trivial,hR.skip rfl,rfl⟩
    ·have q:=Ord.ab _ b 10 (by decide);have E:=Ord.ab _ b 3 (by decide);simp only[iL]at q E;simp only[q,E]at g;clear b;obtain⟨u,cu⟩:=hR.there 5 (show 5<15 by decide);have ff:=hR.free 5;go_simp;exact g _ _ ⟨undef,rfl,trivial,hR.put 11 5 _ (by rfl) (by simp) hD,trivial⟩
    ·clear b;go_simp;exact g _ _ ⟨_,rfl,trivial,hR.skip rfl,rfl⟩
    ·have q:=Ord.ab _ b 12 (by decide);have E:=Ord.ab _ b 5 (by decide);simp only[iL]at q E;simp only[q,E]at g;clear b;obtain⟨u,cu⟩:=hR.there 6 (show 6<15 by decide);have ff:=hR.free 6;go_simp;exact g _ _ ⟨undef,rfl,trivial,hR.put 13 6 _ (by rfl) (by simp) hD,trivial⟩
    ·clear b;go_simp;exact g _ _ ⟨_,rfl,trivial,hR.skip rfl,rfl⟩
    ·have q:=Ord.ab _ b 14 (by decide);have E:=Ord.ab _ b 7 (by decide);simp only[iL]at q E;simp only[q,E]at g;clear b;obtain⟨u,cu⟩:=hR.there 7 (show 7<15 by decide);have ff:=hR.free 7;go_simp;exact g _ _ ⟨undef,rfl,trivial,hR.put 15 7 _ (by rfl) (by simp) hD,trivial⟩
    exact Ord.ay
   case hend1=>
    intro D xs Z hR a;have r0:=(a 0 (by decide)).2;simp only[iL]at r0;have r1:=(a 1 (by decide)).2;simp only[iL]at r1;have r2:=(a 2 (by decide)).2;simp only[iL]at r2;have r3:=(a 3 (by decide)).2;simp only[iL]at r3;have r4:=(a 4 (by decide)).2;simp only[iL]at r4;have r5:=(a 5 (by decide)).2;simp only[iL]at r5;have r6:=(a 6 (by decide)).2;simp only[iL]at r6;have r7:=(a 7 (by decide)).2;simp only[iL]at r7;have r8:=(a 8 (by decide)).2;simp only[iL]at r8;have ah:=(a 10 (by decide)).2;simp only[iL]at ah;have ag:=(a 12 (by decide)).2;simp only[iL]at ag;have af:=(a 14 (by decide)).2;simp only[iL]at af;have f:=hR.row;rw[lI _ (by intro s hs;simp only[IX,IY,or_false]at hs;rcases hs with rfl|rfl|rfl|rfl;exact(a 9 (by decide)).1;exact(a 11 (by decide)).1;exact(a 13 (by decide)).1;exact(a 15 (by decide)).1)]at f;simp only[Lay,if_true,GP,GX,GV]at f;have m:=hR.grown;simp only[r0,r1,r2,r3,r4,r5,r6,r7,r8,ah,ag,af];clear hR a r0 r1 r2 r3 r4 r5 r6 r7 r8 ah ag af;have F:=(m.block _ (GN L.out) (fun e=>O.out (GZ e).symm)).trans L.out;have X:=GD f;have T:=GD F;have HG:=GD m;clear m F f;go_upto_region 13 with(fail)
    go_step;refine bG rfl (.tmp 3) rfl V.heap.size rfl _ X.out rfl ?_;refine cO rfl (.tmp 2) (.tmp 65) rfl (w.heap.size+1) rfl _ rfl _ T.out rfl rfl (by simp[Value.oneCell']) ?_;intro U G I;have N:Hid (_/\_):=⟨G,I⟩
    clear G I;go_wp2_with fail
    refine bodyPost_ret (v:=.agg #[.int .i64 1,.int .u64 (bl:Int),.int .u32 (ep:Int),.int .u64 0,.int .u32 (pg:Int),.int .u16 (off:Int),.slice p1 ol.length c1,.slice p2 nw.length c2,.slice none 0 0,.int .u64 0,.int .u64 0,.bool false,.int .u64 0,.slice none 0 0,.slice none 0 0]) (IG Tryz.results112 _ _ (w.heap.size+1) _ _ _ _ rfl N.out.1 Tryz.underlying78 rfl (fL rfl)) rfl ?_;have J:Below w.heap.size w U:=aZ (aZ ad.out HG.out (Hu (II l.out M.out)) (Hu l.out)) N.out.2 (GR (Hu (II l.out M.out)) HG.out.size) (G8 _);have P:=ao.out.below J;refine⟨(.slice p1 ol.length c1),(.slice p2 nw.length c2),(.slice none 0 0),(.slice none 0 0),(.slice none 0 0),rfl,?_,J⟩;have S:=P.ok;exact⟨P.old,P.new,aO _,pE.ec _,eR.ec _,ke S⟩
 have k1:(k==1)=false:=by rw[G6];exact h1
 by_cases h2:k=2
 ·as_aux_lemma=>
   subst h2;rw[show Lr.bare ⟨2,bl,ep,bn,pg,off,ol,nw,un,pv,nx,cl,st,op,di⟩=⟨2,bl,ep,bn,0,0,[],[],un,pv,nx,cl,0,[],[]⟩from rfl];go_enter Tryz.func112,Tryz.ntmps112;go_upto_region 1 with(fail)
   rw[<-hW,<-hV];clear hW hV;go_upto_region 2 with(fail)
   obtain⟨Y,Q⟩:∃Y,Y=V.alloc (.cells #[.int .i64 2,.int .u64 (bl:Int),.int .u32 (ep:Int),.int .u64 0,.int .u32 0,.int .u16 0,.slice none 0 0,.slice none 0 0,.slice none 0 0,.int .u64 0,.int .u64 0,.bool false,.int .u64 0,.slice none 0 0,.slice none 0 0] 78):=⟨_,rfl⟩
   have j:Below V.heap.size V Y:=by rw[Q];exact ae _ _
   have B:Hid (Y.heap[V.heap.size]?=some (.cells #[.int .i64 2,.int .u64 (bl:Int),.int .u32 (ep:Int),.int .u64 0,.int .u32 0,.int .u16 0,.slice none 0 0,.slice none 0 0,.slice none 0 0,.int .u64 0,.int .u64 0,.bool false,.int .u64 0,.slice none 0 0,.slice none 0 0] 78 (0,0))):=by rw[Q];exact GM _ _
   have L:=GD ((j.block _ (GN HZ.out)).trans HZ.out);have H:=(j.block _ (GN HR.out)).trans HR.out;have ad:=GD (HB.out.trans (j.mono HB.out.size));have l:Hid (w.heap.size<V.heap.size):=GN HR.out;have M:Hid (V.heap.size<Y.heap.size):=GN B.out;have C:Hid (¬w.heap.size=V.heap.size):=fun e=>Nat.ne_of_lt l.out e;have O:Hid (¬V.heap.size=w.heap.size+1):=by have:=GN HZ.out;intro e;omega
   rw[<-Q];clear Q j q0 q1 q2 q3 q4 q5 q6 q7 q8 q9 A z t r p;obtain⟨q0,q1,q2,q3,q4,q5,q6,q7,q8,q9,A,z,t,r,p⟩:=aq H;clear H;have aQ:=GD q0;have aP:=GD q1;have aN:=GD q2;have ar:=GD q3;have aE:=GD q4;have aD:=GD q5;have aC:=GD q6;have aB:=GD q7;have aA:=GD q8;have ax:=GD q9;have an:=GD A;have al:=GD z;have ak:=GD t;have aj:=GD r;have ai:=GD p;go_upto_region 6 with(fail)
   clear q0 q1 q2 q3 q4 q5 q6 q7 q8 q9 A z t r p;refine Ord.walk (fV w.heap.size V.heap.size (.int .u64 (bn:Int)) (.int .u64 (pv:Int)) (.int .u64 (nx:Int)) (.bool cl) (.slice p3 un.length c3)) (fun D _ w2=>eD Y V.heap.size #[.int .i64 2,.int .u64 (bl:Int),.int .u32 (ep:Int),.int .u64 0,.int .u32 0,.int .u16 0,.slice none 0 0,.slice none 0 0,.slice none 0 0,.int .u64 0,.int .u64 0,.bool false,.int .u64 0,.slice none 0 0,.slice none 0 0] 78 [(11,3,(.int .u64 (bn:Int))),(13,9,(.int .u64 (pv:Int))),(15,10,(.int .u64 (nx:Int))),(17,11,(.bool cl)),(19,8,(.slice p3 un.length c3))] D w2) (fun _ _=>True)
    (by kernel_rfl) (by kernel_rfl) ?fr2 ?hfr2 (fun _ _ _ _ _ h=>h) (fun xs=>eD.first B.out) ?he2 ?hend2
   case hfr2=>
    intro xs;simp only[Ord.fill,Act.put,GP,GX,GV];rfl
   case he2=>
    iterate 20 (refine Ord.aa (fun D xs w2 hD hC hP hR b K g=>?_) ?_;rotate_left)
    rotate_left
    ·clear b;go_simp;exact g _ _ ⟨_,rfl,trivial,hR.skip rfl,rfl⟩
    ·have q:=Ord.ab _ b 0 (by decide);simp only[fV]at q;simp only[q]at g;clear b;have cc:=hR.cell ar.out C.out;go_simp;exact g _ _ ⟨_,rfl,trivial,hR.skip rfl,rfl⟩
    ·clear b;go_simp;exact g _ _ ⟨_,rfl,trivial,hR.skip rfl,rfl⟩
    ·have q:=Ord.ab _ b 2 (by decide);simp only[fV]at q;simp only[q]at g;clear b;have cc:=hR.cell ax.out C.out;go_simp;exact g _ _ ⟨_,rfl,trivial,hR.skip rfl,rfl⟩
    ·clear b;go_simp;exact g _ _ ⟨_,rfl,trivial,hR.skip rfl,rfl⟩
    ·have q:=Ord.ab _ b 4 (by decide);simp only[fV]at q;simp only[q]at g;clear b;have cc:=hR.cell an.out C.out;go_simp;exact g _ _ ⟨_,rfl,trivial,hR.skip rfl,rfl⟩
    ·clear b;go_simp;exact g _ _ ⟨_,rfl,trivial,hR.skip rfl,rfl⟩
    ·have q:=Ord.ab _ b 6 (by decide);simp only[fV]at q;simp only[q]at g;clear b;have cc:=hR.cell al.out C.out;go_simp;exact g _ _ ⟨_,rfl,trivial,hR.skip rfl,rfl⟩
    ·clear b;go_simp;exact g _ _ ⟨_,rfl,trivial,hR.skip rfl,rfl⟩
    ·have q:=Ord.ab _ b 8 (by decide);simp only[fV]at q;simp only[q]at g;clear b;have cc:=hR.cell aA.out C.out;go_simp;exact g _ _ ⟨_,rfl,trivial,hR.skip rfl,rfl⟩
    ·clear b;go_simp;exact g _ _ ⟨_,rfl,trivial,hR.skip rfl,rfl⟩
    ·have q:=Ord.ab _ b 10 (by decide);have E:=Ord.ab _ b 1 (by decide);simp only[fV]at q E;simp only[q,E]at g;clear b;obtain⟨u,cu⟩:=hR.there 3 (show 3<15 by decide);have ff:=hR.free 3;go_simp;exact g _ _ ⟨undef,rfl,trivial,hR.put 11 3 _ (by rfl) (by simp) hD,trivial⟩
    ·clear b;go_simp;exact g _ _ ⟨_,rfl,trivial,hR.skip rfl,rfl⟩
    ·have q:=Ord.ab _ b 12 (by decide);have E:=Ord.ab _ b 3 (by decide);simp only[fV]at q E;simp only[q,E]at g;clear b;obtain⟨u,cu⟩:=hR.there 9 (show 9<15 by decide);have ff:=hR.free 9;go_simp;exact g _ _ ⟨undef,rfl,trivial,hR.put 13 9 _ (by rfl) (by simp) hD,trivial⟩
    ·clear b;go_simp;exact g _ _ ⟨_,rfl,trivial,hR.skip rfl,rfl⟩
    ·have q:=Ord.ab _ b 14 (by decide);have E:=Ord.ab _ b 5 (by decide);simp only[fV]at q E;simp only[q,E]at g;clear b;obtain⟨u,cu⟩:=hR.there 10 (show 10<15 by decide);have ff:=hR.free 10;go_simp;exact g _ _ ⟨undef,rfl,trivial,hR.put 15 10 _ (by rfl) (by simp) hD,trivial⟩
    ·clear b;go_simp;exact g _ _ ⟨_,rfl,trivial,hR.skip rfl,rfl⟩
    ·have q:=Ord.ab _ b 16 (by decide);have E:=Ord.ab _ b 7 (by decide);simp only[fV]at q E;simp only[q,E]at g;clear b;obtain⟨u,cu⟩:=hR.there 11 (show 11<15 by decide);have ff:=hR.free 11;go_simp;exact g _ _ ⟨undef,rfl,trivial,hR.put 17 11 _ (by rfl) (by simp) hD,trivial⟩
    ·clear b;go_simp;exact g _ _ ⟨_,rfl,trivial,hR.skip rfl,rfl⟩
    ·have q:=Ord.ab _ b 18 (by decide);have E:=Ord.ab _ b 9 (by decide);simp only[fV]at q E;simp only[q,E]at g;clear b;obtain⟨u,cu⟩:=hR.there 8 (show 8<15 by decide);have ff:=hR.free 8;go_simp;exact g _ _ ⟨undef,rfl,trivial,hR.put 19 8 _ (by rfl) (by simp) hD,trivial⟩
    exact Ord.ay
   case hend2=>
    intro D xs Z hR a;have r0:=(a 0 (by decide)).2;simp only[fV]at r0;have r1:=(a 1 (by decide)).2;simp only[fV]at r1;have r2:=(a 2 (by decide)).2;simp only[fV]at r2;have r3:=(a 3 (by decide)).2;simp only[fV]at r3;have r4:=(a 4 (by decide)).2;simp only[fV]at r4;have r5:=(a 5 (by decide)).2;simp only[fV]at r5;have r6:=(a 6 (by decide)).2;simp only[fV]at r6;have r7:=(a 7 (by decide)).2;simp only[fV]at r7;have r8:=(a 8 (by decide)).2;simp only[fV]at r8;have r9:=(a 9 (by decide)).2;simp only[fV]at r9;have ah:=(a 10 (by decide)).2;simp only[fV]at ah;have ag:=(a 12 (by decide)).2;simp only[fV]at ag;have af:=(a 14 (by decide)).2;simp only[fV]at af;have aL:=(a 16 (by decide)).2;simp only[fV]at aL;have aK:=(a 18 (by decide)).2;simp only[fV]at aK;have f:=hR.row;rw[lI _ (by intro s hs;simp only[IX,IY,or_false]at hs;rcases hs with rfl|rfl|rfl|rfl|rfl;exact(a 11 (by decide)).1;exact(a 13 (by decide)).1;exact(a 15 (by decide)).1;exact(a 17 (by decide)).1;exact(a 19 (by decide)).1)]at f;simp only[Lay,if_true,GP,GX,GV]at f;have m:=hR.grown;simp only[r0,r1,r2,r3,r4,r5,r6,r7,r8,r9,ah,ag,af,aL,aK];clear hR a r0 r1 r2 r3 r4 r5 r6 r7 r8 r9 ah ag af aL aK;have F:=(m.block _ (GN L.out) (fun e=>O.out (GZ e).symm)).trans L.out;have X:=GD f;have T:=GD F;have HG:=GD m;clear m F f;go_upto_region 13 with(fail)
    go_step;refine bG rfl (.tmp 3) rfl V.heap.size rfl _ X.out rfl ?_;refine cO rfl (.tmp 2) (.tmp 65) rfl (w.heap.size+1) rfl _ rfl _ T.out rfl rfl (by simp[Value.oneCell']) ?_;intro U G I;have N:Hid (_/\_):=⟨G,I⟩
    clear G I;go_wp2_with fail
    refine bodyPost_ret (v:=.agg #[.int .i64 2,.int .u64 (bl:Int),.int .u32 (ep:Int),.int .u64 (bn:Int),.int .u32 0,.int .u16 0,.slice none 0 0,.slice none 0 0,.slice p3 un.length c3,.int .u64 (pv:Int),.int .u64 (nx:Int),.bool cl,.int .u64 0,.slice none 0 0,.slice none 0 0]) (IG Tryz.results112 _ _ (w.heap.size+1) _ _ _ _ rfl N.out.1 Tryz.underlying78 rfl (fL rfl)) rfl ?_;have J:Below w.heap.size w U:=aZ (aZ ad.out HG.out (Hu (II l.out M.out)) (Hu l.out)) N.out.2 (GR (Hu (II l.out M.out)) HG.out.size) (G8 _);have P:=ao.out.below J;refine⟨(.slice none 0 0),(.slice none 0 0),(.slice p3 un.length c3),(.slice none 0 0),(.slice none 0 0),rfl,?_,J⟩;have S:=P.ok;exact⟨aO _,aO _,P.bI,pE.ec _,eR.ec _,ke S⟩
 have k2:(k==2)=false:=by rw[G6];exact h2
 by_cases h3:k=3
 ·as_aux_lemma=>
   subst h3;rw[show Lr.bare ⟨3,bl,ep,bn,pg,off,ol,nw,un,pv,nx,cl,st,op,di⟩=⟨3,bl,ep,bn,0,0,[],[],[],0,0,false,st,[],[]⟩from rfl];go_enter Tryz.func112,Tryz.ntmps112;go_upto_region 1 with(fail)
   rw[<-hW,<-hV];clear hW hV;go_upto_region 2 with(fail)
   obtain⟨Y,Q⟩:∃Y,Y=V.alloc (.cells #[.int .i64 3,.int .u64 (bl:Int),.int .u32 (ep:Int),.int .u64 0,.int .u32 0,.int .u16 0,.slice none 0 0,.slice none 0 0,.slice none 0 0,.int .u64 0,.int .u64 0,.bool false,.int .u64 0,.slice none 0 0,.slice none 0 0] 78):=⟨_,rfl⟩
   have j:Below V.heap.size V Y:=by rw[Q];exact ae _ _
   have B:Hid (Y.heap[V.heap.size]?=some (.cells #[.int .i64 3,.int .u64 (bl:Int),.int .u32 (ep:Int),.int .u64 0,.int .u32 0,.int .u16 0,.slice none 0 0,.slice none 0 0,.slice none 0 0,.int .u64 0,.int .u64 0,.bool false,.int .u64 0,.slice none 0 0,.slice none 0 0] 78 (0,0))):=by rw[Q];exact GM _ _
   have L:=GD ((j.block _ (GN HZ.out)).trans HZ.out);have H:=(j.block _ (GN HR.out)).trans HR.out;have ad:=GD (HB.out.trans (j.mono HB.out.size));have l:Hid (w.heap.size<V.heap.size):=GN HR.out;have M:Hid (V.heap.size<Y.heap.size):=GN B.out;have C:Hid (¬w.heap.size=V.heap.size):=fun e=>Nat.ne_of_lt l.out e;have O:Hid (¬V.heap.size=w.heap.size+1):=by have:=GN HZ.out;intro e;omega
   rw[<-Q];clear Q j q0 q1 q2 q3 q4 q5 q6 q7 q8 q9 A z t r p;obtain⟨q0,q1,q2,q3,q4,q5,q6,q7,q8,q9,A,z,t,r,p⟩:=aq H;clear H;have aQ:=GD q0;have aP:=GD q1;have aN:=GD q2;have ar:=GD q3;have aE:=GD q4;have aD:=GD q5;have aC:=GD q6;have aB:=GD q7;have aA:=GD q8;have ax:=GD q9;have an:=GD A;have al:=GD z;have ak:=GD t;have aj:=GD r;have ai:=GD p;go_upto_region 8 with(fail)
   clear q0 q1 q2 q3 q4 q5 q6 q7 q8 q9 A z t r p;refine Ord.walk (pG w.heap.size V.heap.size (.int .u64 (bn:Int)) (.int .u64 (st:Int))) (fun D _ w2=>eD Y V.heap.size #[.int .i64 3,.int .u64 (bl:Int),.int .u32 (ep:Int),.int .u64 0,.int .u32 0,.int .u16 0,.slice none 0 0,.slice none 0 0,.slice none 0 0,.int .u64 0,.int .u64 0,.bool false,.int .u64 0,.slice none 0 0,.slice none 0 0] 78 [(5,3,(.int .u64 (bn:Int))),(7,12,(.int .u64 (st:Int)))] D w2) (fun _ _=>True)
    (by kernel_rfl) (by kernel_rfl) ?fr3 ?hfr3 (fun _ _ _ _ _ h=>h) (fun xs=>eD.first B.out) ?he3 ?hend3
   case hfr3=>
    intro xs;simp only[Ord.fill,Act.put,GP,GX,GV];rfl
   case he3=>
    iterate 8 (refine Ord.aa (fun D xs w2 hD hC hP hR b K g=>?_) ?_;rotate_left)
    rotate_left
    ·clear b;go_simp;exact g _ _ ⟨_,rfl,trivial,hR.skip rfl,rfl⟩
    ·have q:=Ord.ab _ b 0 (by decide);simp only[pG]at q;simp only[q]at g;clear b;have cc:=hR.cell ar.out C.out;go_simp;exact g _ _ ⟨_,rfl,trivial,hR.skip rfl,rfl⟩
    ·clear b;go_simp;exact g _ _ ⟨_,rfl,trivial,hR.skip rfl,rfl⟩
    ·have q:=Ord.ab _ b 2 (by decide);simp only[pG]at q;simp only[q]at g;clear b;have cc:=hR.cell ak.out C.out;go_simp;exact g _ _ ⟨_,rfl,trivial,hR.skip rfl,rfl⟩
    ·clear b;go_simp;exact g _ _ ⟨_,rfl,trivial,hR.skip rfl,rfl⟩
    ·have q:=Ord.ab _ b 4 (by decide);have E:=Ord.ab _ b 1 (by decide);simp only[pG]at q E;simp only[q,E]at g;clear b;obtain⟨u,cu⟩:=hR.there 3 (show 3<15 by decide);have ff:=hR.free 3;go_simp;exact g _ _ ⟨undef,rfl,trivial,hR.put 5 3 _ (by rfl) (by simp) hD,trivial⟩
    ·clear b;go_simp;exact g _ _ ⟨_,rfl,trivial,hR.skip rfl,rfl⟩
    ·have q:=Ord.ab _ b 6 (by decide);have E:=Ord.ab _ b 3 (by decide);simp only[pG]at q E;simp only[q,E]at g;clear b;obtain⟨u,cu⟩:=hR.there 12 (show 12<15 by decide);have ff:=hR.free 12;go_simp;exact g _ _ ⟨undef,rfl,trivial,hR.put 7 12 _ (by rfl) (by simp) hD,trivial⟩
    exact Ord.ay
   case hend3=>
    intro D xs Z hR a;have r0:=(a 0 (by decide)).2;simp only[pG]at r0;have r1:=(a 1 (by decide)).2;simp only[pG]at r1;have r2:=(a 2 (by decide)).2;simp only[pG]at r2;have r3:=(a 3 (by decide)).2;simp only[pG]at r3;have r4:=(a 4 (by decide)).2;simp only[pG]at r4;have r6:=(a 6 (by decide)).2;simp only[pG]at r6;have f:=hR.row;rw[lI _ (by intro s hs;simp only[IX,IY,or_false]at hs;rcases hs with rfl|rfl;exact(a 5 (by decide)).1;exact(a 7 (by decide)).1)]at f;simp only[Lay,if_true,GP,GX,GV]at f;have m:=hR.grown;simp only[r0,r1,r2,r3,r4,r6];clear hR a r0 r1 r2 r3 r4 r6;have F:=(m.block _ (GN L.out) (fun e=>O.out (GZ e).symm)).trans L.out;have X:=GD f;have T:=GD F;have HG:=GD m;clear m F f;go_upto_region 13 with(fail)
    go_step;refine bG rfl (.tmp 3) rfl V.heap.size rfl _ X.out rfl ?_;refine cO rfl (.tmp 2) (.tmp 65) rfl (w.heap.size+1) rfl _ rfl _ T.out rfl rfl (by simp[Value.oneCell']) ?_;intro U G I;have N:Hid (_/\_):=⟨G,I⟩
    clear G I;go_wp2_with fail
    refine bodyPost_ret (v:=.agg #[.int .i64 3,.int .u64 (bl:Int),.int .u32 (ep:Int),.int .u64 (bn:Int),.int .u32 0,.int .u16 0,.slice none 0 0,.slice none 0 0,.slice none 0 0,.int .u64 0,.int .u64 0,.bool false,.int .u64 (st:Int),.slice none 0 0,.slice none 0 0]) (IG Tryz.results112 _ _ (w.heap.size+1) _ _ _ _ rfl N.out.1 Tryz.underlying78 rfl (fL rfl)) rfl ?_;have J:Below w.heap.size w U:=aZ (aZ ad.out HG.out (Hu (II l.out M.out)) (Hu l.out)) N.out.2 (GR (Hu (II l.out M.out)) HG.out.size) (G8 _);have P:=ao.out.below J;refine⟨(.slice none 0 0),(.slice none 0 0),(.slice none 0 0),(.slice none 0 0),(.slice none 0 0),rfl,?_,J⟩;have S:=P.ok;exact⟨aO _,aO _,aO _,pE.ec _,eR.ec _,ke S⟩
 have k3:(k==3)=false:=by rw[G6];exact h3
 by_cases h4:k=4
 ·as_aux_lemma=>
   subst h4;rw[show Lr.bare ⟨4,bl,ep,bn,pg,off,ol,nw,un,pv,nx,cl,st,op,di⟩=⟨4,bl,ep,bn,0,0,[],[],[],0,0,false,0,[],[]⟩from rfl];go_enter Tryz.func112,Tryz.ntmps112;go_upto_region 1 with(fail)
   rw[<-hW,<-hV];clear hW hV;go_upto_region 2 with(fail)
   obtain⟨Y,Q⟩:∃Y,Y=V.alloc (.cells #[.int .i64 4,.int .u64 (bl:Int),.int .u32 (ep:Int),.int .u64 0,.int .u32 0,.int .u16 0,.slice none 0 0,.slice none 0 0,.slice none 0 0,.int .u64 0,.int .u64 0,.bool false,.int .u64 0,.slice none 0 0,.slice none 0 0] 78):=⟨_,rfl⟩
   have j:Below V.heap.size V Y:=by rw[Q];exact ae _ _
   have B:Hid (Y.heap[V.heap.size]?=some (.cells #[.int .i64 4,.int .u64 (bl:Int),.int .u32 (ep:Int),.int .u64 0,.int .u32 0,.int .u16 0,.slice none 0 0,.slice none 0 0,.slice none 0 0,.int .u64 0,.int .u64 0,.bool false,.int .u64 0,.slice none 0 0,.slice none 0 0] 78 (0,0))):=by rw[Q];exact GM _ _
   have L:=GD ((j.block _ (GN HZ.out)).trans HZ.out);have H:=(j.block _ (GN HR.out)).trans HR.out;have ad:=GD (HB.out.trans (j.mono HB.out.size));have l:Hid (w.heap.size<V.heap.size):=GN HR.out;have M:Hid (V.heap.size<Y.heap.size):=GN B.out;have C:Hid (¬w.heap.size=V.heap.size):=fun e=>Nat.ne_of_lt l.out e;have O:Hid (¬V.heap.size=w.heap.size+1):=by have:=GN HZ.out;intro e;omega
   rw[<-Q];clear Q j q0 q1 q2 q3 q4 q5 q6 q7 q8 q9 A z t r p;obtain⟨q0,q1,q2,q3,q4,q5,q6,q7,q8,q9,A,z,t,r,p⟩:=aq H;clear H;have y:=aq B.out;obtain⟨y0,y1,y2,y3,y4,y5,y6,y7,y8,y9,aJ,aI,aH,aG,aF⟩:=y;have fy:=nW B.out;have aM:=C.out;go_upto_region 13 with(fail)
   have f:=B.out;have f:=wm (i:=3) (.int .u64 (bn:Int)) f;simp only[GP,GX,GV]at f;have m:Y.grownBy (Y.setCell ⟨V.heap.size,3,none⟩ (.int .u64 (bn:Int))) (some V.heap.size):=aU _ _ _ _;obtain⟨Z,hZ⟩:∃Z,Z=(Y.setCell ⟨V.heap.size,3,none⟩ (.int .u64 (bn:Int))):=⟨_,rfl⟩
   rw[<-hZ]at m f⊢;clear hZ;clear fy aM y0 q0 y1 q1 y2 q2 y3 q3 y4 q4 y5 q5 y6 q6 y7 q7 y8 q8 y9 q9 aJ A aI z aH t aG r aF p;have F:=(m.block _ (GN L.out) (fun e=>O.out (GZ e).symm)).trans L.out;have X:=GD f;have T:=GD F;have HG:=GD m;clear m F f;go_upto_region 13 with(fail)
   go_step;refine bG rfl (.tmp 3) rfl V.heap.size rfl _ X.out rfl ?_;refine cO rfl (.tmp 2) (.tmp 65) rfl (w.heap.size+1) rfl _ rfl _ T.out rfl rfl (by simp[Value.oneCell']) ?_;intro U G I;have N:Hid (_/\_):=⟨G,I⟩
   clear G I;go_wp2_with fail
   refine bodyPost_ret (v:=.agg #[.int .i64 4,.int .u64 (bl:Int),.int .u32 (ep:Int),.int .u64 (bn:Int),.int .u32 0,.int .u16 0,.slice none 0 0,.slice none 0 0,.slice none 0 0,.int .u64 0,.int .u64 0,.bool false,.int .u64 0,.slice none 0 0,.slice none 0 0]) (IG Tryz.results112 _ _ (w.heap.size+1) _ _ _ _ rfl N.out.1 Tryz.underlying78 rfl (fL rfl)) rfl ?_;have J:Below w.heap.size w U:=aZ (aZ ad.out HG.out (Hu (II l.out M.out)) (Hu l.out)) N.out.2 (GR (Hu (II l.out M.out)) HG.out.size) (G8 _);have P:=ao.out.below J;refine⟨(.slice none 0 0),(.slice none 0 0),(.slice none 0 0),(.slice none 0 0),(.slice none 0 0),rfl,?_,J⟩;have S:=P.ok;exact⟨aO _,aO _,aO _,pE.ec _,eR.ec _,ke S⟩
 have k4:(k==4)=false:=by rw[G6];exact h4
 by_cases h5:k=5
 ·as_aux_lemma=>
   subst h5;rw[show Lr.bare ⟨5,bl,ep,bn,pg,off,ol,nw,un,pv,nx,cl,st,op,di⟩=⟨5,bl,ep,0,0,0,[],[],[],0,0,false,0,op,di⟩from rfl];go_enter Tryz.func112,Tryz.ntmps112;go_upto_region 1 with(fail)
   rw[<-hW,<-hV];clear hW hV;go_upto_region 2 with(fail)
   obtain⟨Y,Q⟩:∃Y,Y=V.alloc (.cells #[.int .i64 5,.int .u64 (bl:Int),.int .u32 (ep:Int),.int .u64 0,.int .u32 0,.int .u16 0,.slice none 0 0,.slice none 0 0,.slice none 0 0,.int .u64 0,.int .u64 0,.bool false,.int .u64 0,.slice none 0 0,.slice none 0 0] 78):=⟨_,rfl⟩
   have j:Below V.heap.size V Y:=by rw[Q];exact ae _ _
   have B:Hid (Y.heap[V.heap.size]?=some (.cells #[.int .i64 5,.int .u64 (bl:Int),.int .u32 (ep:Int),.int .u64 0,.int .u32 0,.int .u16 0,.slice none 0 0,.slice none 0 0,.slice none 0 0,.int .u64 0,.int .u64 0,.bool false,.int .u64 0,.slice none 0 0,.slice none 0 0] 78 (0,0))):=by rw[Q];exact GM _ _
   have L:=GD ((j.block _ (GN HZ.out)).trans HZ.out);have H:=(j.block _ (GN HR.out)).trans HR.out;have ad:=GD (HB.out.trans (j.mono HB.out.size));have l:Hid (w.heap.size<V.heap.size):=GN HR.out;have M:Hid (V.heap.size<Y.heap.size):=GN B.out;have C:Hid (¬w.heap.size=V.heap.size):=fun e=>Nat.ne_of_lt l.out e;have O:Hid (¬V.heap.size=w.heap.size+1):=by have:=GN HZ.out;intro e;omega
   rw[<-Q];clear Q j q0 q1 q2 q3 q4 q5 q6 q7 q8 q9 A z t r p;obtain⟨q0,q1,q2,q3,q4,q5,q6,q7,q8,q9,A,z,t,r,p⟩:=aq H;clear H;have aQ:=GD q0;have aP:=GD q1;have aN:=GD q2;have ar:=GD q3;have aE:=GD q4;have aD:=GD q5;have aC:=GD q6;have aB:=GD q7;have aA:=GD q8;have ax:=GD q9;have an:=GD A;have al:=GD z;have ak:=GD t;have aj:=GD r;have ai:=GD p;go_upto_region 12 with(fail)
   clear q0 q1 q2 q3 q4 q5 q6 q7 q8 q9 A z t r p;refine Ord.walk (pF w.heap.size V.heap.size (.slice p4 op.length c4) (.slice p5 di.length c5)) (fun D _ w2=>eD Y V.heap.size #[.int .i64 5,.int .u64 (bl:Int),.int .u32 (ep:Int),.int .u64 0,.int .u32 0,.int .u16 0,.slice none 0 0,.slice none 0 0,.slice none 0 0,.int .u64 0,.int .u64 0,.bool false,.int .u64 0,.slice none 0 0,.slice none 0 0] 78 [(5,13,(.slice p4 op.length c4)),(7,14,(.slice p5 di.length c5))] D w2) (fun _ _=>True)
    (by kernel_rfl) (by kernel_rfl) ?fr5 ?hfr5 (fun _ _ _ _ _ h=>h) (fun xs=>eD.first B.out) ?he5 ?hend5
   case hfr5=>
    intro xs;simp only[Ord.fill,Act.put,GP,GX,GV];rfl
   case he5=>
    iterate 8 (refine Ord.aa (fun D xs w2 hD hC hP hR b K g=>?_) ?_;rotate_left)
    rotate_left
    ·clear b;go_simp;exact g _ _ ⟨_,rfl,trivial,hR.skip rfl,rfl⟩
    ·have q:=Ord.ab _ b 0 (by decide);simp only[pF]at q;simp only[q]at g;clear b;have cc:=hR.cell aj.out C.out;go_simp;exact g _ _ ⟨_,rfl,trivial,hR.skip rfl,rfl⟩
    ·clear b;go_simp;exact g _ _ ⟨_,rfl,trivial,hR.skip rfl,rfl⟩
    ·have q:=Ord.ab _ b 2 (by decide);simp only[pF]at q;simp only[q]at g;clear b;have cc:=hR.cell ai.out C.out;go_simp;exact g _ _ ⟨_,rfl,trivial,hR.skip rfl,rfl⟩
    ·clear b;go_simp;exact g _ _ ⟨_,rfl,trivial,hR.skip rfl,rfl⟩
    ·have q:=Ord.ab _ b 4 (by decide);have E:=Ord.ab _ b 1 (by decide);simp only[pF]at q E;simp only[q,E]at g;clear b;obtain⟨u,cu⟩:=hR.there 13 (show 13<15 by decide);have ff:=hR.free 13;go_simp;exact g _ _ ⟨undef,rfl,trivial,hR.put 5 13 _ (by rfl) (by simp) hD,trivial⟩
    ·clear b;go_simp;exact g _ _ ⟨_,rfl,trivial,hR.skip rfl,rfl⟩
    ·have q:=Ord.ab _ b 6 (by decide);have E:=Ord.ab _ b 3 (by decide);simp only[pF]at q E;simp only[q,E]at g;clear b;obtain⟨u,cu⟩:=hR.there 14 (show 14<15 by decide);have ff:=hR.free 14;go_simp;exact g _ _ ⟨undef,rfl,trivial,hR.put 7 14 _ (by rfl) (by simp) hD,trivial⟩
    exact Ord.ay
   case hend5=>
    intro D xs Z hR a;have r0:=(a 0 (by decide)).2;simp only[pF]at r0;have r1:=(a 1 (by decide)).2;simp only[pF]at r1;have r2:=(a 2 (by decide)).2;simp only[pF]at r2;have r3:=(a 3 (by decide)).2;simp only[pF]at r3;have r4:=(a 4 (by decide)).2;simp only[pF]at r4;have r6:=(a 6 (by decide)).2;simp only[pF]at r6;have f:=hR.row;rw[lI _ (by intro s hs;simp only[IX,IY,or_false]at hs;rcases hs with rfl|rfl;exact(a 5 (by decide)).1;exact(a 7 (by decide)).1)]at f;simp only[Lay,if_true,GP,GX,GV]at f;have m:=hR.grown;simp only[r0,r1,r2,r3,r4,r6];clear hR a r0 r1 r2 r3 r4 r6;have F:=(m.block _ (GN L.out) (fun e=>O.out (GZ e).symm)).trans L.out;have X:=GD f;have T:=GD F;have HG:=GD m;clear m F f;go_upto_region 13 with(fail)
    go_step;refine bG rfl (.tmp 3) rfl V.heap.size rfl _ X.out rfl ?_;refine cO rfl (.tmp 2) (.tmp 65) rfl (w.heap.size+1) rfl _ rfl _ T.out rfl rfl (by simp[Value.oneCell']) ?_;intro U G I;have N:Hid (_/\_):=⟨G,I⟩
    clear G I;go_wp2_with fail
    refine bodyPost_ret (v:=.agg #[.int .i64 5,.int .u64 (bl:Int),.int .u32 (ep:Int),.int .u64 0,.int .u32 0,.int .u16 0,.slice none 0 0,.slice none 0 0,.slice none 0 0,.int .u64 0,.int .u64 0,.bool false,.int .u64 0,.slice p4 op.length c4,.slice p5 di.length c5]) (IG Tryz.results112 _ _ (w.heap.size+1) _ _ _ _ rfl N.out.1 Tryz.underlying78 rfl (fL rfl)) rfl ?_;have J:Below w.heap.size w U:=aZ (aZ ad.out HG.out (Hu (II l.out M.out)) (Hu l.out)) N.out.2 (GR (Hu (II l.out M.out)) HG.out.size) (G8 _);have P:=ao.out.below J;refine⟨(.slice none 0 0),(.slice none 0 0),(.slice none 0 0),(.slice p4 op.length c4),(.slice p5 di.length c5),rfl,?_,J⟩;have S:=P.ok;exact⟨aO _,aO _,aO _,P.dH,P.cq,ke S⟩
 have k5:(k==5)=false:=by rw[G6];exact h5
 rw[show Lr.bare ⟨k,bl,ep,bn,pg,off,ol,nw,un,pv,nx,cl,st,op,di⟩=⟨k,bl,ep,0,0,0,[],[],[],0,0,false,0,[],[]⟩by unfold Lr.bare;simp only[GQ h1,GQ h2,GQ h3,GQ h4,GQ h5]];go_enter Tryz.func112,Tryz.ntmps112;go_upto_region 1 with(fail)
 rw[<-hW,<-hV];clear hW hV;go_upto_region 2 with(fail)
 obtain⟨Y,Q⟩:∃Y,Y=V.alloc (.cells #[.int .i64 k,.int .u64 (bl:Int),.int .u32 (ep:Int),.int .u64 0,.int .u32 0,.int .u16 0,.slice none 0 0,.slice none 0 0,.slice none 0 0,.int .u64 0,.int .u64 0,.bool false,.int .u64 0,.slice none 0 0,.slice none 0 0] 78):=⟨_,rfl⟩
 have j:Below V.heap.size V Y:=by rw[Q];exact ae _ _
 have B:Hid (Y.heap[V.heap.size]?=some (.cells #[.int .i64 k,.int .u64 (bl:Int),.int .u32 (ep:Int),.int .u64 0,.int .u32 0,.int .u16 0,.slice none 0 0,.slice none 0 0,.slice none 0 0,.int .u64 0,.int .u64 0,.bool false,.int .u64 0,.slice none 0 0,.slice none 0 0] 78 (0,0))):=by rw[Q];exact GM _ _
 have L:=GD ((j.block _ (GN HZ.out)).trans HZ.out);have H:=(j.block _ (GN HR.out)).trans HR.out;have ad:=GD (HB.out.trans (j.mono HB.out.size));have l:Hid (w.heap.size<V.heap.size):=GN HR.out;have M:Hid (V.heap.size<Y.heap.size):=GN B.out;have C:Hid (¬w.heap.size=V.heap.size):=fun e=>Nat.ne_of_lt l.out e;have O:Hid (¬V.heap.size=w.heap.size+1):=by have:=GN HZ.out;intro e;omega
 rw[<-Q];clear Q j q0 q1 q2 q3 q4 q5 q6 q7 q8 q9 A z t r p;obtain⟨q0,q1,q2,q3,q4,q5,q6,q7,q8,q9,A,z,t,r,p⟩:=aq H;clear H;have y:=aq B.out;obtain⟨y0,y1,y2,y3,y4,y5,y6,y7,y8,y9,aJ,aI,aH,aG,aF⟩:=y;have fy:=nW B.out;have aM:=C.out;go_upto_region 13 with(fail)
 have f:=B.out;have m:Y.grownBy Y (some V.heap.size):=de _ _;obtain⟨Z,hZ⟩:∃Z,Z=Y:=⟨_,rfl⟩
 subst hZ;clear fy aM y0 q0 y1 q1 y2 q2 y3 q3 y4 q4 y5 q5 y6 q6 y7 q7 y8 q8 y9 q9 aJ A aI z aH t aG r aF p;have F:=(m.block _ (GN L.out) (fun e=>O.out (GZ e).symm)).trans L.out;have X:=GD f;have T:=GD F;have HG:=GD m;clear m F f;go_upto_region 13 with(fail)
 go_step;refine bG rfl (.tmp 3) rfl V.heap.size rfl _ X.out rfl ?_;refine cO rfl (.tmp 2) (.tmp 65) rfl (w.heap.size+1) rfl _ rfl _ T.out rfl rfl (by simp[Value.oneCell']) ?_;intro U G I;have N:Hid (_/\_):=⟨G,I⟩
 clear G I;go_wp2_with fail
 refine bodyPost_ret (v:=.agg #[.int .i64 k,.int .u64 (bl:Int),.int .u32 (ep:Int),.int .u64 0,.int .u32 0,.int .u16 0,.slice none 0 0,.slice none 0 0,.slice none 0 0,.int .u64 0,.int .u64 0,.bool false,.int .u64 0,.slice none 0 0,.slice none 0 0]) (IG Tryz.results112 _ _ (w.heap.size+1) _ _ _ _ rfl N.out.1 Tryz.underlying78 rfl (fL rfl)) rfl ?_;have J:Below w.heap.size w U:=aZ (aZ ad.out HG.out (Hu (II l.out M.out)) (Hu l.out)) N.out.2 (GR (Hu (II l.out M.out)) HG.out.size) (G8 _);have P:=ao.out.below J;refine⟨(.slice none 0 0),(.slice none 0 0),(.slice none 0 0),(.slice none 0 0),(.slice none 0 0),rfl,?_,J⟩;have S:=P.ok;exact⟨aO _,aO _,aO _,pE.ec _,eR.ec _,ke S⟩
set_option maxHeartbeats 6400000 in
set_option maxRecDepth 20000 in
theorem Dz(a i:Lr.R)(g h f c1 d1 m n l c2 d2:Value)(w:World)(F:bm w a g h f c1 d1)(E:bm w i m n l c2 d2)(r:a.dH.length<=1000000/\a.cq.length<=1000000)(q:¬a.kind=i.kind):
 Calls Tryz.prog 111 #[cz a g h f c1 d1,cz i m n l c2 d2] w fun e w'=>e=.returned (.bool false)/\Below w.heap.size w w':=by
 obtain⟨W,s⟩:∃W,W=(w.alloc (az a g h f c1 d1)).alloc (az i m n l c2 d2):=⟨_,rfl⟩
 have k:=ae w (az a g h f c1 d1);have d:=ae (w.alloc (az a g h f c1 d1)) (az i m n l c2 d2);have j:=dd w a g h f c1 d1;have b:=dd (w.alloc (az a g h f c1 d1)) i m n l c2 d2;rw[<-s]at d b;have p:=(d.block _ (GN j)).trans j;have c:=k.trans (d.mono k.size);have O:=F.below c;have N:=E.below c;have o:(w.alloc (az a g h f c1 d1)).heap.size=w.heap.size+1:=by simp
 rw[o]at b;obtain⟨q0,q1,q2,q3,q4,q5,q6,q7,q8,q9,D,C,B,A,z⟩:=aq p;obtain⟨r0,r1,r2,r3,r4,Z,Y,X,V,U,y,x,v,u,t⟩:=aq b;obtain⟨p1,s1,p2,s2,p3,s3,p4,s4,p5,s5,rfl,rfl,rfl,rfl,rfl⟩:=au F;obtain⟨p6,s6,p7,s7,p8,s8,p9,s9,pa,sa,rfl,rfl,rfl,rfl,rfl⟩:=au E;unfold az at s;obtain⟨k1,M,aw,I,af,K,aj,ao,Q,ab,al,aB,T,ah,ay⟩:=a;obtain⟨k2,L,av,H,ad,J,ai,an,P,aa,ak,aA,S,ag,ax⟩:=i;dsimp only at*
 have G:=GD c;have HA:=GD O;have HB:=GD N;have HL:=GD r;clear k d j b p c O N F E o r;have ar:(k1==k2)=false:=by rw[G6];exact q
 clear q;clear q1 r1 q2 r2 q3 r3 q4 r4 q5 Z q6 Y q7 X q8 V q9 U D y C x B v A u z t;go_enter Tryz.func111,Tryz.ntmps111;go_upto_region 0 with(fail)
 iterate 7 go_step
 rw[<-s];clear s;go_wp2_with fail
 go_ret;exact⟨rfl,G.out⟩
set_option maxHeartbeats 6400000 in
set_option maxRecDepth 20000 in
theorem Dy(a f:Lr.R)(h i g c1 d1 m n l c2 d2:Value)(w:World)(I:bm w a h i g c1 d1)(H:bm w f m n l c2 d2)(t:a.dH.length<=1000000/\a.cq.length<=1000000)(u:a.kind=f.kind)(s:¬a.bl=f.bl):
 Calls Tryz.prog 111 #[cz a h i g c1 d1,cz f m n l c2 d2] w fun e w'=>e=.returned (.bool false)/\Below w.heap.size w w':=by
 obtain⟨W,v⟩:∃W,W=(w.alloc (az a h i g c1 d1)).alloc (az f m n l c2 d2):=⟨_,rfl⟩
 have k:=ae w (az a h i g c1 d1);have d:=ae (w.alloc (az a h i g c1 d1)) (az f m n l c2 d2);have j:=dd w a h i g c1 d1;have b:=dd (w.alloc (az a h i g c1 d1)) f m n l c2 d2;rw[<-v]at d b;have r:=(d.block _ (GN j)).trans j;have c:=k.trans (d.mono k.size);have Q:=I.below c;have P:=H.below c;have q:(w.alloc (az a h i g c1 d1)).heap.size=w.heap.size+1:=by simp
 rw[q]at b;obtain⟨q0,q1,q2,q3,q4,q5,q6,q7,q8,q9,G,F,E,D,C⟩:=aq r;obtain⟨r0,r1,r2,r3,r4,r5,r6,Z,Y,X,B,A,z,y,x⟩:=aq b;obtain⟨p1,s1,p2,s2,p3,s3,p4,s4,p5,s5,rfl,rfl,rfl,rfl,rfl⟩:=au I;obtain⟨p6,s6,p7,s7,p8,s8,p9,s9,pa,sa,rfl,rfl,rfl,rfl,rfl⟩:=au H;unfold az at v;obtain⟨k1,p,aw,M,af,O,aj,ao,T,ab,al,aB,V,ah,ay⟩:=a;obtain⟨k2,o,av,L,ad,N,ai,an,S,aa,ak,aA,U,ag,ax⟩:=f;dsimp only at*
 have K:=GD c;have HA:=GD Q;have HB:=GD P;have HL:=GD t;clear k d j b r c Q P I H q t;have ar:(k1==k2)=true:=by rw[u];simp
 clear u;have J:((p:Int)==(o:Int))=false:=by rw[dp,GY s]
 clear s;clear q2 r2 q3 r3 q4 r4 q5 r5 q6 r6 q7 Z q8 Y q9 X G B F A E z D y C x;go_enter Tryz.func111,Tryz.ntmps111;go_upto_region 0 with(fail)
 iterate 7 go_step
 rw[<-v];clear v;go_wp2_with fail
 go_ret;exact⟨rfl,K.out⟩
set_option maxHeartbeats 6400000 in
set_option maxRecDepth 20000 in
theorem Dx(a b:Lr.R)(h i g c1 d1 m n l c2 d2:Value)(w:World)(J:bm w a h i g c1 d1)(I:bm w b m n l c2 d2)(t:a.dH.length<=1000000/\a.cq.length<=1000000)(v:a.kind=b.kind)(u:a.bl=b.bl)(s:¬a.an=b.an):
 Calls Tryz.prog 111 #[cz a h i g c1 d1,cz b m n l c2 d2] w fun e w'=>e=.returned (.bool false)/\Below w.heap.size w w':=by
 obtain⟨W,x⟩:∃W,W=(w.alloc (az a h i g c1 d1)).alloc (az b m n l c2 d2):=⟨_,rfl⟩
 have k:=ae w (az a h i g c1 d1);have f:=ae (w.alloc (az a h i g c1 d1)) (az b m n l c2 d2);have j:=dd w a h i g c1 d1;have c:=dd (w.alloc (az a h i g c1 d1)) b m n l c2 d2;rw[<-x]at f c;have r:=(f.block _ (GN j)).trans j;have d:=k.trans (f.mono k.size);have U:=J.below d;have T:=I.below d;have q:(w.alloc (az a h i g c1 d1)).heap.size=w.heap.size+1:=by simp
 rw[q]at c;obtain⟨q0,q1,q2,q3,q4,q5,q6,q7,q8,q9,H,G,F,E,D⟩:=aq r;obtain⟨r0,r1,r2,r3,r4,r5,r6,r7,r8,r9,C,B,A,z,y⟩:=aq c;obtain⟨p1,s1,p2,s2,p3,s3,p4,s4,p5,s5,rfl,rfl,rfl,rfl,rfl⟩:=au J;obtain⟨p6,s6,p7,s7,p8,s8,p9,s9,pa,sa,rfl,rfl,rfl,rfl,rfl⟩:=au I;unfold az at x;obtain⟨k1,p,M,P,ag,S,ak,av,Y,ad,ao,aB,aa,ai,ay⟩:=a;obtain⟨k2,o,L,O,af,Q,aj,ar,X,ab,al,aA,Z,ah,ax⟩:=b;dsimp only at*
 have N:=GD d;have HA:=GD U;have HB:=GD T;have HL:=GD t;clear k f j c r d U T J I q t;have aw:(k1==k2)=true:=by rw[v];simp
 clear v;have K:((p:Int)==(o:Int))=true:=by rw[dp,GK u]
 clear u;have V:((M:Int)==(L:Int))=false:=by rw[dp,GY s]
 clear s;clear q3 r3 q4 r4 q5 r5 q6 r6 q7 r7 q8 r8 q9 r9 H C G B F A E z D y;go_enter Tryz.func111,Tryz.ntmps111;go_upto_region 0 with(fail)
 iterate 7 go_step
 rw[<-x];clear x;go_wp2_with fail
 go_ret;exact⟨rfl,N.out⟩
set_option maxHeartbeats 6400000 in
set_option maxRecDepth 20000 in
theorem Dw(a b:Lr.R)(h i g c1 d1 o p l c2 d2:Value)(w:World)(M:bm w a h i g c1 d1)(L:bm w b o p l c2 d2)(v:a.dH.length<=1000000/\a.cq.length<=1000000)(z:a.kind=b.kind)(y:a.bl=b.bl)(x:a.an=b.an)(u:¬a.bn=b.bn):
 Calls Tryz.prog 111 #[cz a h i g c1 d1,cz b o p l c2 d2] w fun e w'=>e=.returned (.bool false)/\Below w.heap.size w w':=by
 obtain⟨W,A⟩:∃W,W=(w.alloc (az a h i g c1 d1)).alloc (az b o p l c2 d2):=⟨_,rfl⟩
 have k:=ae w (az a h i g c1 d1);have f:=ae (w.alloc (az a h i g c1 d1)) (az b o p l c2 d2);have j:=dd w a h i g c1 d1;have c:=dd (w.alloc (az a h i g c1 d1)) b o p l c2 d2;rw[<-A]at f c;have t:=(f.block _ (GN j)).trans j;have d:=k.trans (f.mono k.size);have X:=M.below d;have V:=L.below d;have s:(w.alloc (az a h i g c1 d1)).heap.size=w.heap.size+1:=by simp
 rw[s]at c;obtain⟨q0,q1,q2,q3,q4,q5,q6,q7,q8,q9,K,J,I,H,G⟩:=aq t;obtain⟨r0,r1,r2,r3,r4,r5,r6,r7,r8,r9,F,E,D,C,B⟩:=aq c;obtain⟨p1,s1,p2,s2,p3,s3,p4,s4,p5,s5,rfl,rfl,rfl,rfl,rfl⟩:=au M;obtain⟨p6,s6,p7,s7,p8,s8,p9,s9,pa,sa,rfl,rfl,rfl,rfl,rfl⟩:=au L;unfold az at A;obtain⟨k1,r,Q,n,ai,U,ao,ax,aa,ag,av,aD,ad,ak,aB⟩:=a;obtain⟨k2,q,P,m,ah,T,al,aw,Z,af,ar,aC,ab,aj,aA⟩:=b;dsimp only at*
 have S:=GD d;have HA:=GD X;have HB:=GD V;have HL:=GD v;clear k f j c t d X V M L s v;have ay:(k1==k2)=true:=by rw[z];simp
 clear z;have O:((r:Int)==(q:Int))=true:=by rw[dp,GK y]
 clear y;have Y:((Q:Int)==(P:Int))=true:=by rw[dp,GK x]
 clear x;have N:((n:Int)==(m:Int))=false:=by rw[dp,GY u]
 clear u;clear q4 r4 q5 r5 q6 r6 q7 r7 q8 r8 q9 r9 K F J E I D H C G B;go_enter Tryz.func111,Tryz.ntmps111;go_upto_region 0 with(fail)
 iterate 7 go_step
 rw[<-A];clear A;go_wp2_with fail
 go_ret;exact⟨rfl,S.out⟩
set_option maxHeartbeats 6400000 in
set_option maxRecDepth 20000 in
theorem Du(a b:Lr.R)(h i g c1 d1 o p l c2 d2:Value)(w:World)(P:bm w a h i g c1 d1)(O:bm w b o p l c2 d2)(v:a.dH.length<=1000000/\a.cq.length<=1000000)(A:a.kind=b.kind)(z:a.bl=b.bl)(y:a.an=b.an)(x:a.bn=b.bn)(u:¬a.aw=b.aw):
 Calls Tryz.prog 111 #[cz a h i g c1 d1,cz b o p l c2 d2] w fun e w'=>e=.returned (.bool false)/\Below w.heap.size w w':=by
 obtain⟨W,B⟩:∃W,W=(w.alloc (az a h i g c1 d1)).alloc (az b o p l c2 d2):=⟨_,rfl⟩
 have k:=ae w (az a h i g c1 d1);have f:=ae (w.alloc (az a h i g c1 d1)) (az b o p l c2 d2);have j:=dd w a h i g c1 d1;have c:=dd (w.alloc (az a h i g c1 d1)) b o p l c2 d2;rw[<-B]at f c;have t:=(f.block _ (GN j)).trans j;have d:=k.trans (f.mono k.size);have hA:=P.below d;have Z:=O.below d;have s:(w.alloc (az a h i g c1 d1)).heap.size=w.heap.size+1:=by simp
 rw[s]at c;obtain⟨q0,q1,q2,q3,q4,q5,q6,q7,q8,q9,L,K,J,I,H⟩:=aq t;obtain⟨r0,r1,r2,r3,r4,r5,r6,r7,r8,r9,G,F,E,D,C⟩:=aq c;obtain⟨p1,s1,p2,s2,p3,s3,p4,s4,p5,s5,rfl,rfl,rfl,rfl,rfl⟩:=au P;obtain⟨p6,s6,p7,s7,p8,s8,p9,s9,pa,sa,rfl,rfl,rfl,rfl,rfl⟩:=au O;unfold az at B;obtain⟨k1,r,U,n,N,Y,ar,aA,af,aj,ax,aF,ah,al,aD⟩:=a;obtain⟨k2,q,T,m,M,X,ao,ay,ad,ai,av,aE,ag,ak,aC⟩:=b;dsimp only at*
 have V:=GD d;have HA:=GD hA;have HB:=GD Z;have HL:=GD v;clear k f j c t d hA Z P O s v;have aB:(k1==k2)=true:=by rw[A];simp
 clear A;have S:((r:Int)==(q:Int))=true:=by rw[dp,GK z]
 clear z;have ab:((U:Int)==(T:Int))=true:=by rw[dp,GK y]
 clear y;have Q:((n:Int)==(m:Int))=true:=by rw[dp,GK x]
 clear x;have aa:((N:Int)==(M:Int))=false:=by rw[dp,GY u]
 clear u;clear q5 r5 q6 r6 q7 r7 q8 r8 q9 r9 L G K F J E I D H C;go_enter Tryz.func111,Tryz.ntmps111;go_upto_region 0 with(fail)
 iterate 7 go_step
 rw[<-B];clear B;go_wp2_with fail
 go_ret;exact⟨rfl,V.out⟩
set_option maxHeartbeats 6400000 in
set_option maxRecDepth 20000 in
theorem Dt(a b:Lr.R)(h i g c1 d1 q r l c2 d2:Value)(w:World)(T:bm w a h i g c1 d1)(S:bm w b q r l c2 d2)(y:a.dH.length<=1000000/\a.cq.length<=1000000)(D:a.kind=b.kind)(C:a.bl=b.bl)(B:a.an=b.an)(A:a.bn=b.bn)(z:a.aw=b.aw)(x:¬a.off=b.off):
 Calls Tryz.prog 111 #[cz a h i g c1 d1,cz b q r l c2 d2] w fun e w'=>e=.returned (.bool false)/\Below w.heap.size w w':=by
 obtain⟨W,E⟩:∃W,W=(w.alloc (az a h i g c1 d1)).alloc (az b q r l c2 d2):=⟨_,rfl⟩
 have k:=ae w (az a h i g c1 d1);have f:=ae (w.alloc (az a h i g c1 d1)) (az b q r l c2 d2);have j:=dd w a h i g c1 d1;have c:=dd (w.alloc (az a h i g c1 d1)) b q r l c2 d2;rw[<-E]at f c;have v:=(f.block _ (GN j)).trans j;have d:=k.trans (f.mono k.size);have hA:=T.below d;have hB:=S.below d;have u:(w.alloc (az a h i g c1 d1)).heap.size=w.heap.size+1:=by simp
 rw[u]at c;obtain⟨q0,q1,q2,q3,q4,q5,q6,q7,q8,q9,O,N,M,L,K⟩:=aq v;obtain⟨r0,r1,r2,r3,r4,r5,r6,r7,r8,r9,J,I,H,G,F⟩:=aq c;obtain⟨p1,s1,p2,s2,p3,s3,p4,s4,p5,s5,rfl,rfl,rfl,rfl,rfl⟩:=au T;obtain⟨p6,s6,p7,s7,p8,s8,p9,s9,pa,sa,rfl,rfl,rfl,rfl,rfl⟩:=au S;unfold az at E;obtain⟨k1,t,Z,n,Q,p,av,aB,ag,ak,ay,aG,ai,ao,aE⟩:=a;obtain⟨k2,s,Y,m,P,o,ar,aA,af,aj,ax,aF,ah,al,aD⟩:=b;dsimp only at*
 have aa:=GD d;have HA:=GD hA;have HB:=GD hB;have HL:=GD y;clear k f j c v d hA hB T S u y;have aC:(k1==k2)=true:=by rw[D];simp
 clear D;have X:((t:Int)==(s:Int))=true:=by rw[dp,GK C]
 clear C;have ad:((Z:Int)==(Y:Int))=true:=by rw[dp,GK B]
 clear B;have U:((n:Int)==(m:Int))=true:=by rw[dp,GK A]
 clear A;have ab:((Q:Int)==(P:Int))=true:=by rw[dp,GK z]
 clear z;have V:((p:Int)==(o:Int))=false:=by rw[dp,GY x]
 clear x;clear q6 r6 q7 r7 q8 r8 q9 r9 O J N I M H L G K F;go_enter Tryz.func111,Tryz.ntmps111;go_upto_region 0 with(fail)
 iterate 7 go_step
 rw[<-E];clear E;go_wp2_with fail
 go_ret;exact⟨rfl,aa.out⟩
set_option maxHeartbeats 6400000 in
set_option maxRecDepth 20000 in
theorem Ds(a b:Lr.R)(h i g c1 d1 s t l c2 d2:Value)(w:World)(X:bm w a h i g c1 d1)(V:bm w b s t l c2 d2)(A:a.dH.length<=1000000/\a.cq.length<=1000000)(G:a.kind=b.kind)(F:a.bl=b.bl)(E:a.an=b.an)(D:a.bn=b.bn)(C:a.aw=b.aw)(B:a.off=b.off)(z:¬a.old=b.old):
 Calls Tryz.prog 111 #[cz a h i g c1 d1,cz b s t l c2 d2] w fun e w'=>e=.returned (.bool false)/\Below w.heap.size w w':=by
 obtain⟨W,H⟩:∃W,W=(w.alloc (az a h i g c1 d1)).alloc (az b s t l c2 d2):=⟨_,rfl⟩
 have k:=ae w (az a h i g c1 d1);have f:=ae (w.alloc (az a h i g c1 d1)) (az b s t l c2 d2);have j:=dd w a h i g c1 d1;have c:=dd (w.alloc (az a h i g c1 d1)) b s t l c2 d2;rw[<-H]at f c;have y:=(f.block _ (GN j)).trans j;have d:=k.trans (f.mono k.size);have hA:=X.below d;have hB:=V.below d;have x:(w.alloc (az a h i g c1 d1)).heap.size=w.heap.size+1:=by simp
 rw[x]at c;obtain⟨q0,q1,q2,q3,q4,q5,q6,q7,q8,q9,S,Q,P,O,N⟩:=aq y;obtain⟨r0,r1,r2,r3,r4,r5,r6,r7,r8,r9,M,L,K,J,I⟩:=aq c;obtain⟨p1,s1,p2,s2,p3,s3,p4,s4,p5,s5,rfl,rfl,rfl,rfl,rfl⟩:=au X;obtain⟨p6,s6,p7,s7,p8,s8,p9,s9,pa,sa,rfl,rfl,rfl,rfl,rfl⟩:=au V;unfold az at H;obtain⟨k1,v,ad,n,U,r,p,aD,ak,av,aB,aJ,ao,ay,aH⟩:=a;obtain⟨k2,u,ab,m,T,q,o,aC,aj,ar,aA,aI,al,ax,aF⟩:=b;dsimp only at*
 have af:=GD d;have HA:=GD hA;have HB:=GD hB;have HL:=GD A;clear k f j c y d hA hB X V x A;have aE:(k1==k2)=true:=by rw[G];simp
 clear G;have aa:((v:Int)==(u:Int))=true:=by rw[dp,GK F]
 clear F;have ai:((ad:Int)==(ab:Int))=true:=by rw[dp,GK E]
 clear E;have Y:((n:Int)==(m:Int))=true:=by rw[dp,GK D]
 clear D;have ah:((U:Int)==(T:Int))=true:=by rw[dp,GK C]
 clear C;have Z:((r:Int)==(q:Int))=true:=by rw[dp,GK B]
 clear B;have ag:Hid (decide (p=o)=false):=GY z;clear z;clear q7 r7 q8 r8 q9 r9 S M Q L P K O J N I;go_enter Tryz.func111,Tryz.ntmps111;go_upto_region 0 with(fail)
 iterate 7 go_step
 rw[<-H];clear H;go_wp2_with fail
 refine(aG _ _ p o _ HA.out.old HB.out.old).mono ?_;rintro e w'⟨rfl,rfl⟩;rw[ag.out];go_wp2_with fail
 go_ret;exact⟨rfl,af.out⟩
set_option maxHeartbeats 6400000 in
set_option maxRecDepth 20000 in
theorem Dr(a b:Lr.R)(h i g c1 d1 s v l c2 d2:Value)(w:World)(h1:bm w a h i g c1 d1)(Z:bm w b s v l c2 d2)(C:a.dH.length<=1000000/\a.cq.length<=1000000)(J:a.kind=b.kind)(I:a.bl=b.bl)(H:a.an=b.an)(G:a.bn=b.bn)(F:a.aw=b.aw)(E:a.off=b.off)(D:a.old=b.old)(B:¬a.new=b.new):
 Calls Tryz.prog 111 #[cz a h i g c1 d1,cz b s v l c2 d2] w fun e w'=>e=.returned (.bool false)/\Below w.heap.size w w':=by
 obtain⟨W,K⟩:∃W,W=(w.alloc (az a h i g c1 d1)).alloc (az b s v l c2 d2):=⟨_,rfl⟩
 have k:=ae w (az a h i g c1 d1);have f:=ae (w.alloc (az a h i g c1 d1)) (az b s v l c2 d2);have j:=dd w a h i g c1 d1;have c:=dd (w.alloc (az a h i g c1 d1)) b s v l c2 d2;rw[<-K]at f c;have A:=(f.block _ (GN j)).trans j;have d:=k.trans (f.mono k.size);have hA:=h1.below d;have hB:=Z.below d;have z:(w.alloc (az a h i g c1 d1)).heap.size=w.heap.size+1:=by simp
 rw[z]at c;obtain⟨q0,q1,q2,q3,q4,q5,q6,q7,q8,q9,V,U,T,S,Q⟩:=aq A;obtain⟨r0,r1,r2,r3,r4,r5,r6,r7,r8,r9,P,O,N,M,L⟩:=aq c;obtain⟨p1,s1,p2,s2,p3,s3,p4,s4,p5,s5,rfl,rfl,rfl,rfl,rfl⟩:=au h1;obtain⟨p6,s6,p7,s7,p8,s8,p9,s9,pa,sa,rfl,rfl,rfl,rfl,rfl⟩:=au Z;unfold az at K;obtain⟨k1,y,ag,n,Y,r,p,u,ar,aA,aE,aK,ax,aC,aI⟩:=a;obtain⟨k2,x,af,m,X,q,o,t,ao,ay,aD,aJ,av,aB,aH⟩:=b;dsimp only at*
 have ah:=GD d;have HA:=GD hA;have HB:=GD hB;have HL:=GD C;clear k f j c A d hA hB h1 Z z C;have aF:(k1==k2)=true:=by rw[J];simp
 clear J;have ad:((y:Int)==(x:Int))=true:=by rw[dp,GK I]
 clear I;have al:((ag:Int)==(af:Int))=true:=by rw[dp,GK H]
 clear H;have aa:((n:Int)==(m:Int))=true:=by rw[dp,GK G]
 clear G;have ak:((Y:Int)==(X:Int))=true:=by rw[dp,GK F]
 clear F;have ab:((r:Int)==(q:Int))=true:=by rw[dp,GK E]
 clear E;have ai:Hid (decide (p=o)=true):=GK D;clear D;have aj:Hid (decide (u=t)=false):=GY B;clear B;clear q8 r8 q9 r9 V P U O T N S M Q L;go_enter Tryz.func111,Tryz.ntmps111;go_upto_region 0 with(fail)
 iterate 7 go_step
 rw[<-K];clear K;go_wp2_with fail
 refine(aG _ _ p o _ HA.out.old HB.out.old).mono ?_;rintro e w'⟨rfl,rfl⟩;rw[ai.out];go_wp2_with fail
 refine(aG _ _ u t _ HA.out.new HB.out.new).mono ?_;rintro e w'⟨rfl,rfl⟩;rw[aj.out];go_wp2_with fail
 go_ret;exact⟨rfl,ah.out⟩
set_option maxHeartbeats 6400000 in
set_option maxRecDepth 20000 in
theorem Dq(a b:Lr.R)(h i g c1 d1 u y n c2 d2:Value)(w:World)(h1:bm w a h i g c1 d1)(h2:bm w b u y n c2 d2)(E:a.dH.length<=1000000/\a.cq.length<=1000000)(M:a.kind=b.kind)(L:a.bl=b.bl)(K:a.an=b.an)(J:a.bn=b.bn)(I:a.aw=b.aw)(H:a.off=b.off)(G:a.old=b.old)(F:a.new=b.new)(D:¬a.bI=b.bI):
 Calls Tryz.prog 111 #[cz a h i g c1 d1,cz b u y n c2 d2] w fun e w'=>e=.returned (.bool false)/\Below w.heap.size w w':=by
 obtain⟨W,N⟩:∃W,W=(w.alloc (az a h i g c1 d1)).alloc (az b u y n c2 d2):=⟨_,rfl⟩
 have k:=ae w (az a h i g c1 d1);have f:=ae (w.alloc (az a h i g c1 d1)) (az b u y n c2 d2);have j:=dd w a h i g c1 d1;have c:=dd (w.alloc (az a h i g c1 d1)) b u y n c2 d2;rw[<-N]at f c;have C:=(f.block _ (GN j)).trans j;have d:=k.trans (f.mono k.size);have hA:=h1.below d;have hB:=h2.below d;have B:(w.alloc (az a h i g c1 d1)).heap.size=w.heap.size+1:=by simp
 rw[B]at c;obtain⟨q0,q1,q2,q3,q4,q5,q6,q7,q8,q9,Z,Y,X,V,U⟩:=aq C;obtain⟨r0,r1,r2,r3,r4,r5,r6,r7,r8,r9,T,S,Q,P,O⟩:=aq c;obtain⟨p1,s1,p2,s2,p3,s3,p4,s4,p5,s5,rfl,rfl,rfl,rfl,rfl⟩:=au h1;obtain⟨p6,s6,p7,s7,p8,s8,p9,s9,pa,sa,rfl,rfl,rfl,rfl,rfl⟩:=au h2;unfold az at N;obtain⟨k1,A,ai,p,ab,t,r,x,m,aB,aF,aL,ay,aD,aJ⟩:=a;obtain⟨k2,z,ah,o,aa,s,q,v,l,aA,aE,aK,ax,aC,aI⟩:=b;dsimp only at*
 have aj:=GD d;have HA:=GD hA;have HB:=GD hB;have HL:=GD E;clear k f j c C d hA hB h1 h2 B E;have aH:(k1==k2)=true:=by rw[M];simp
 clear M;have ag:((A:Int)==(z:Int))=true:=by rw[dp,GK L]
 clear L;have av:((ai:Int)==(ah:Int))=true:=by rw[dp,GK K]
 clear K;have ad:((p:Int)==(o:Int))=true:=by rw[dp,GK J]
 clear J;have ar:((ab:Int)==(aa:Int))=true:=by rw[dp,GK I]
 clear I;have af:((t:Int)==(s:Int))=true:=by rw[dp,GK H]
 clear H;have al:Hid (decide (r=q)=true):=GK G;clear G;have ao:Hid (decide (x=v)=true):=GK F;clear F;have ak:Hid (decide (m=l)=false):=GY D;clear D;clear q9 r9 Z T Y S X Q V P U O;go_enter Tryz.func111,Tryz.ntmps111;go_upto_region 0 with(fail)
 iterate 7 go_step
 rw[<-N];clear N;go_wp2_with fail
 refine(aG _ _ r q _ HA.out.old HB.out.old).mono ?_;rintro e w'⟨rfl,rfl⟩;rw[al.out];go_wp2_with fail
 refine(aG _ _ x v _ HA.out.new HB.out.new).mono ?_;rintro e w'⟨rfl,rfl⟩;rw[ao.out];go_wp2_with fail
 refine(aG _ _ m l _ HA.out.bI HB.out.bI).mono ?_;rintro e w'⟨rfl,rfl⟩;rw[ak.out];go_wp2_with fail
 go_ret;exact⟨rfl,aj.out⟩
set_option maxHeartbeats 6400000 in
set_option maxRecDepth 20000 in
theorem Dp(a b:Lr.R)(h i g c1 d1 u y n c2 d2:Value)(w:World)(h1:bm w a h i g c1 d1)(h2:bm w b u y n c2 d2)(E:a.dH.length<=1000000/\a.cq.length<=1000000)(N:a.kind=b.kind)(M:a.bl=b.bl)(L:a.an=b.an)(K:a.bn=b.bn)(J:a.aw=b.aw)(I:a.off=b.off)(H:a.old=b.old)(G:a.new=b.new)(F:a.bI=b.bI)(D:¬a.prev=b.prev):
 Calls Tryz.prog 111 #[cz a h i g c1 d1,cz b u y n c2 d2] w fun e w'=>e=.returned (.bool false)/\Below w.heap.size w w':=by
 obtain⟨W,O⟩:∃W,W=(w.alloc (az a h i g c1 d1)).alloc (az b u y n c2 d2):=⟨_,rfl⟩
 have k:=ae w (az a h i g c1 d1);have f:=ae (w.alloc (az a h i g c1 d1)) (az b u y n c2 d2);have j:=dd w a h i g c1 d1;have c:=dd (w.alloc (az a h i g c1 d1)) b u y n c2 d2;rw[<-O]at f c;have C:=(f.block _ (GN j)).trans j;have d:=k.trans (f.mono k.size);have hA:=h1.below d;have hB:=h2.below d;have B:(w.alloc (az a h i g c1 d1)).heap.size=w.heap.size+1:=by simp
 rw[B]at c;obtain⟨q0,q1,q2,q3,q4,q5,q6,q7,q8,q9,aa,Z,Y,X,V⟩:=aq C;obtain⟨r0,r1,r2,r3,r4,r5,r6,r7,r8,r9,U,T,S,Q,P⟩:=aq c;obtain⟨p1,s1,p2,s2,p3,s3,p4,s4,p5,s5,rfl,rfl,rfl,rfl,rfl⟩:=au h1;obtain⟨p6,s6,p7,s7,p8,s8,p9,s9,pa,sa,rfl,rfl,rfl,rfl,rfl⟩:=au h2;unfold az at O;obtain⟨k1,A,al,p,ag,t,r,x,m,ad,aI,aN,aD,aF,aL⟩:=a;obtain⟨k2,z,ak,o,af,s,q,v,l,ab,aH,aM,aC,aE,aK⟩:=b;dsimp only at*
 have ao:=GD d;have HA:=GD hA;have HB:=GD hB;have HL:=GD E;clear k f j c C d hA hB h1 h2 B E;have aJ:(k1==k2)=true:=by rw[N];simp
 clear N;have aj:((A:Int)==(z:Int))=true:=by rw[dp,GK M]
 clear M;have aB:((al:Int)==(ak:Int))=true:=by rw[dp,GK L]
 clear L;have ah:((p:Int)==(o:Int))=true:=by rw[dp,GK K]
 clear K;have aA:((ag:Int)==(af:Int))=true:=by rw[dp,GK J]
 clear J;have ai:((t:Int)==(s:Int))=true:=by rw[dp,GK I]
 clear I;have av:Hid (decide (r=q)=true):=GK H;clear H;have ax:Hid (decide (x=v)=true):=GK G;clear G;have ar:Hid (decide (m=l)=true):=GK F;clear F;have ay:((ad:Int)==(ab:Int))=false:=by rw[dp,GY D]
 clear D;clear aa U Z T Y S X Q V P;go_enter Tryz.func111,Tryz.ntmps111;go_upto_region 0 with(fail)
 iterate 7 go_step
 rw[<-O];clear O;go_wp2_with fail
 refine(aG _ _ r q _ HA.out.old HB.out.old).mono ?_;rintro e w'⟨rfl,rfl⟩;rw[av.out];go_wp2_with fail
 refine(aG _ _ x v _ HA.out.new HB.out.new).mono ?_;rintro e w'⟨rfl,rfl⟩;rw[ax.out];go_wp2_with fail
 refine(aG _ _ m l _ HA.out.bI HB.out.bI).mono ?_;rintro e w'⟨rfl,rfl⟩;rw[ar.out];go_wp2_with fail
 go_ret;exact⟨rfl,ao.out⟩
set_option maxHeartbeats 6400000 in
set_option maxRecDepth 20000 in
theorem B3(a b:Lr.R)(h i g c1 d1 u y n c2 d2:Value)(w:World)(h1:bm w a h i g c1 d1)(h2:bm w b u y n c2 d2)(E:a.dH.length<=1000000/\a.cq.length<=1000000)(O:a.kind=b.kind)(N:a.bl=b.bl)(M:a.an=b.an)(L:a.bn=b.bn)(K:a.aw=b.aw)(J:a.off=b.off)(I:a.old=b.old)(H:a.new=b.new)(G:a.bI=b.bI)(F:a.prev=b.prev)(D:¬a.next=b.next):
 Calls Tryz.prog 111 #[cz a h i g c1 d1,cz b u y n c2 d2] w fun e w'=>e=.returned (.bool false)/\Below w.heap.size w w':=by
 obtain⟨W,P⟩:∃W,W=(w.alloc (az a h i g c1 d1)).alloc (az b u y n c2 d2):=⟨_,rfl⟩
 have k:=ae w (az a h i g c1 d1);have f:=ae (w.alloc (az a h i g c1 d1)) (az b u y n c2 d2);have j:=dd w a h i g c1 d1;have c:=dd (w.alloc (az a h i g c1 d1)) b u y n c2 d2;rw[<-P]at f c;have C:=(f.block _ (GN j)).trans j;have d:=k.trans (f.mono k.size);have hA:=h1.below d;have hB:=h2.below d;have B:(w.alloc (az a h i g c1 d1)).heap.size=w.heap.size+1:=by simp
 rw[B]at c;obtain⟨q0,q1,q2,q3,q4,q5,q6,q7,q8,q9,aI,Z,Y,X,V⟩:=aq C;obtain⟨r0,r1,r2,r3,r4,r5,r6,r7,r8,r9,aH,U,T,S,Q⟩:=aq c;obtain⟨p1,s1,p2,s2,p3,s3,p4,s4,p5,s5,rfl,rfl,rfl,rfl,rfl⟩:=au h1;obtain⟨p6,s6,p7,s7,p8,s8,p9,s9,pa,sa,rfl,rfl,rfl,rfl,rfl⟩:=au h2;unfold az at P;obtain⟨k1,A,ao,p,af,t,r,x,m,ab,ah,aP,aF,aK,aN⟩:=a;obtain⟨k2,z,al,o,ad,s,q,v,l,aa,ag,aO,aE,aJ,aM⟩:=b;dsimp only at*
 have ar:=GD d;have HA:=GD hA;have HB:=GD hB;have HL:=GD E;clear k f j c C d hA hB h1 h2 B E;have aL:(k1==k2)=true:=by rw[O];simp
 clear O;have ak:((A:Int)==(z:Int))=true:=by rw[dp,GK N]
 clear N;have aD:((ao:Int)==(al:Int))=true:=by rw[dp,GK M]
 clear M;have ai:((p:Int)==(o:Int))=true:=by rw[dp,GK L]
 clear L;have aB:((af:Int)==(ad:Int))=true:=by rw[dp,GK K]
 clear K;have aj:((t:Int)==(s:Int))=true:=by rw[dp,GK J]
 clear J;have ax:Hid (decide (r=q)=true):=GK I;clear I;have ay:Hid (decide (x=v)=true):=GK H;clear H;have av:Hid (decide (m=l)=true):=GK G;clear G;have aA:((ab:Int)==(aa:Int))=true:=by rw[dp,GK F]
 clear F;have aC:((ah:Int)==(ag:Int))=false:=by rw[dp,GY D]
 clear D;clear Z U Y T X S V Q;go_enter Tryz.func111,Tryz.ntmps111;go_upto_region 0 with(fail)
 iterate 7 go_step
 rw[<-P];clear P;go_wp2_with fail
 refine(aG _ _ r q _ HA.out.old HB.out.old).mono ?_;rintro e w'⟨rfl,rfl⟩;rw[ax.out];go_wp2_with fail
 refine(aG _ _ x v _ HA.out.new HB.out.new).mono ?_;rintro e w'⟨rfl,rfl⟩;rw[ay.out];go_wp2_with fail
 refine(aG _ _ m l _ HA.out.bI HB.out.bI).mono ?_;rintro e w'⟨rfl,rfl⟩;rw[av.out];go_wp2_with fail
 go_ret;exact⟨rfl,ar.out⟩
set_option maxHeartbeats 6400000 in
set_option maxRecDepth 20000 in
theorem B2(a b:Lr.R)(h i g c1 d1 v z o c2 d2:Value)(w:World)(h1:bm w a h i g c1 d1)(h2:bm w b v z o c2 d2)(F:a.dH.length<=1000000/\a.cq.length<=1000000)(P:a.kind=b.kind)(O:a.bl=b.bl)(N:a.an=b.an)(M:a.bn=b.bn)(L:a.aw=b.aw)(K:a.off=b.off)(J:a.old=b.old)(I:a.new=b.new)(H:a.bI=b.bI)(G:a.prev=b.prev)(j:a.next=b.next)(E:¬a.lj=b.lj):
 Calls Tryz.prog 111 #[cz a h i g c1 d1,cz b v z o c2 d2] w fun e w'=>e=.returned (.bool false)/\Below w.heap.size w w':=by
 obtain⟨W,Q⟩:∃W,W=(w.alloc (az a h i g c1 d1)).alloc (az b v z o c2 d2):=⟨_,rfl⟩
 have l:=ae w (az a h i g c1 d1);have f:=ae (w.alloc (az a h i g c1 d1)) (az b v z o c2 d2);have k:=dd w a h i g c1 d1;have c:=dd (w.alloc (az a h i g c1 d1)) b v z o c2 d2;rw[<-Q]at f c;have D:=(f.block _ (GN k)).trans k;have d:=l.trans (f.mono l.size);have hA:=h1.below d;have hB:=h2.below d;have C:(w.alloc (az a h i g c1 d1)).heap.size=w.heap.size+1:=by simp
 rw[C]at c;obtain⟨q0,q1,q2,q3,q4,q5,q6,q7,q8,q9,aM,aL,Y,X,V⟩:=aq D;obtain⟨r0,r1,r2,r3,r4,r5,r6,r7,r8,r9,aK,aJ,U,T,S⟩:=aq c;obtain⟨p1,s1,p2,s2,p3,s3,p4,s4,p5,s5,rfl,rfl,rfl,rfl,rfl⟩:=au h1;obtain⟨p6,s6,p7,s7,p8,s8,p9,s9,pa,sa,rfl,rfl,rfl,rfl,rfl⟩:=au h2;unfold az at Q;obtain⟨k1,B,al,q,ad,u,s,y,n,aa,ag,ar,aI,aO,aR⟩:=a;obtain⟨k2,A,ak,p,ab,t,r,x,m,Z,af,ao,aH,aN,aQ⟩:=b;dsimp only at*
 have av:=GD d;have HA:=GD hA;have HB:=GD hB;have HL:=GD F;clear l f k c D d hA hB h1 h2 C F;have aP:(k1==k2)=true:=by rw[P];simp
 clear P;have aj:((B:Int)==(A:Int))=true:=by rw[dp,GK O]
 clear O;have aE:((al:Int)==(ak:Int))=true:=by rw[dp,GK N]
 clear N;have ah:((q:Int)==(p:Int))=true:=by rw[dp,GK M]
 clear M;have aC:((ad:Int)==(ab:Int))=true:=by rw[dp,GK L]
 clear L;have ai:((u:Int)==(t:Int))=true:=by rw[dp,GK K]
 clear K;have ay:Hid (decide (s=r)=true):=GK J;clear J;have aA:Hid (decide (y=x)=true):=GK I;clear I;have ax:Hid (decide (n=m)=true):=GK H;clear H;have aB:((aa:Int)==(Z:Int))=true:=by rw[dp,GK G]
 clear G;have aD:((ag:Int)==(af:Int))=true:=by rw[dp,GK j]
 clear j;have aF:(ar==ao)=false:=by rw[G6];exact E
 clear E;clear Y U X T V S;go_enter Tryz.func111,Tryz.ntmps111;go_upto_region 0 with(fail)
 iterate 7 go_step
 rw[<-Q];clear Q;go_wp2_with fail
 refine(aG _ _ s r _ HA.out.old HB.out.old).mono ?_;rintro e w'⟨rfl,rfl⟩;rw[ay.out];go_wp2_with fail
 refine(aG _ _ y x _ HA.out.new HB.out.new).mono ?_;rintro e w'⟨rfl,rfl⟩;rw[aA.out];go_wp2_with fail
 refine(aG _ _ n m _ HA.out.bI HB.out.bI).mono ?_;rintro e w'⟨rfl,rfl⟩;rw[ax.out];go_wp2_with fail
 go_ret;exact⟨rfl,av.out⟩
set_option maxHeartbeats 6400000 in
set_option maxRecDepth 20000 in
theorem BZ(a b:Lr.R)(h i g c1 d1 x A p c2 d2:Value)(w:World)(h1:bm w a h i g c1 d1)(h2:bm w b x A p c2 d2)(G:a.dH.length<=1000000/\a.cq.length<=1000000)(Q:a.kind=b.kind)(P:a.bl=b.bl)(O:a.an=b.an)(N:a.bn=b.bn)(M:a.aw=b.aw)(L:a.off=b.off)(K:a.old=b.old)(J:a.new=b.new)(I:a.bI=b.bI)(H:a.prev=b.prev)(k:a.next=b.next)(j:a.lj=b.lj)(F:¬a.aV=b.aV):
 Calls Tryz.prog 111 #[cz a h i g c1 d1,cz b x A p c2 d2] w fun e w'=>e=.returned (.bool false)/\Below w.heap.size w w':=by
 obtain⟨W,S⟩:∃W,W=(w.alloc (az a h i g c1 d1)).alloc (az b x A p c2 d2):=⟨_,rfl⟩
 have m:=ae w (az a h i g c1 d1);have f:=ae (w.alloc (az a h i g c1 d1)) (az b x A p c2 d2);have l:=dd w a h i g c1 d1;have c:=dd (w.alloc (az a h i g c1 d1)) b x A p c2 d2;rw[<-S]at f c;have E:=(f.block _ (GN l)).trans l;have d:=m.trans (f.mono m.size);have hA:=h1.below d;have hB:=h2.below d;have D:(w.alloc (az a h i g c1 d1)).heap.size=w.heap.size+1:=by simp
 rw[D]at c;obtain⟨q0,q1,q2,q3,q4,q5,q6,q7,q8,q9,aO,aN,aM,Z,Y⟩:=aq E;obtain⟨r0,r1,r2,r3,r4,r5,r6,r7,r8,r9,aL,aK,aJ,X,V⟩:=aq c;obtain⟨p1,s1,p2,s2,p3,s3,p4,s4,p5,s5,rfl,rfl,rfl,rfl,rfl⟩:=au h1;obtain⟨p6,s6,p7,s7,p8,s8,p9,s9,pa,sa,rfl,rfl,rfl,rfl,rfl⟩:=au h2;unfold az at S;obtain⟨k1,C,ao,r,af,v,t,z,o,ab,ah,av,U,aQ,aT⟩:=a;obtain⟨k2,B,al,q,ad,u,s,y,n,aa,ag,ar,T,aP,aS⟩:=b;dsimp only at*
 have ax:=GD d;have HA:=GD hA;have HB:=GD hB;have HL:=GD G;clear m f l c E d hA hB h1 h2 D G;have aR:(k1==k2)=true:=by rw[Q];simp
 clear Q;have ak:((C:Int)==(B:Int))=true:=by rw[dp,GK P]
 clear P;have aH:((ao:Int)==(al:Int))=true:=by rw[dp,GK O]
 clear O;have ai:((r:Int)==(q:Int))=true:=by rw[dp,GK N]
 clear N;have aE:((af:Int)==(ad:Int))=true:=by rw[dp,GK M]
 clear M;have aj:((v:Int)==(u:Int))=true:=by rw[dp,GK L]
 clear L;have aA:Hid (decide (t=s)=true):=GK K;clear K;have aB:Hid (decide (z=y)=true):=GK J;clear J;have ay:Hid (decide (o=n)=true):=GK I;clear I;have aD:((ab:Int)==(aa:Int))=true:=by rw[dp,GK H]
 clear H;have aF:((ah:Int)==(ag:Int))=true:=by rw[dp,GK k]
 clear k;have aI:(av==ar)=true:=by rw[j];simp
 clear j;have aC:((U:Int)==(T:Int))=false:=by rw[dp,GY F]
 clear F;clear Z X Y V;go_enter Tryz.func111,Tryz.ntmps111;go_upto_region 0 with(fail)
 iterate 7 go_step
 rw[<-S];clear S;go_wp2_with fail
 refine(aG _ _ t s _ HA.out.old HB.out.old).mono ?_;rintro e w'⟨rfl,rfl⟩;rw[aA.out];go_wp2_with fail
 refine(aG _ _ z y _ HA.out.new HB.out.new).mono ?_;rintro e w'⟨rfl,rfl⟩;rw[aB.out];go_wp2_with fail
 refine(aG _ _ o n _ HA.out.bI HB.out.bI).mono ?_;rintro e w'⟨rfl,rfl⟩;rw[ay.out];go_wp2_with fail
 go_ret;exact⟨rfl,ax.out⟩
set_option maxHeartbeats 6400000 in
set_option maxRecDepth 20000 in
theorem BY(a b:Lr.R)(h i g c1 d1 A D q c2 d2:Value)(w:World)(h1:bm w a h i g c1 d1)(h2:bm w b A D q c2 d2)(J:a.dH.length<=1000000/\a.cq.length<=1000000)(U:a.kind=b.kind)(T:a.bl=b.bl)(S:a.an=b.an)(Q:a.bn=b.bn)(P:a.aw=b.aw)(O:a.off=b.off)(N:a.old=b.old)(M:a.new=b.new)(L:a.bI=b.bI)(K:a.prev=b.prev)(l:a.next=b.next)(k:a.lj=b.lj)(j:a.aV=b.aV)(I:¬a.dH=b.dH):
 Calls Tryz.prog 111 #[cz a h i g c1 d1,cz b A D q c2 d2] w fun e w'=>e=.returned (.bool false)/\Below w.heap.size w w':=by
 obtain⟨W,V⟩:∃W,W=(w.alloc (az a h i g c1 d1)).alloc (az b A D q c2 d2):=⟨_,rfl⟩
 have n:=ae w (az a h i g c1 d1);have f:=ae (w.alloc (az a h i g c1 d1)) (az b A D q c2 d2);have m:=dd w a h i g c1 d1;have c:=dd (w.alloc (az a h i g c1 d1)) b A D q c2 d2;rw[<-V]at f c;have H:=(f.block _ (GN m)).trans m;have d:=n.trans (f.mono n.size);have hA:=h1.below d;have hB:=h2.below d;have G:(w.alloc (az a h i g c1 d1)).heap.size=w.heap.size+1:=by simp
 rw[G]at c;obtain⟨q0,q1,q2,q3,q4,q5,q6,q7,q8,q9,aU,aT,aS,aR,ad⟩:=aq H;obtain⟨r0,r1,r2,r3,r4,r5,r6,r7,r8,r9,aQ,aP,aO,aN,ab⟩:=aq c;obtain⟨p1,s1,p2,s2,p3,s3,p4,s4,p5,s5,rfl,rfl,rfl,rfl,rfl⟩:=au h1;obtain⟨p6,s6,p7,s7,p8,s8,p9,s9,pa,sa,rfl,rfl,rfl,rfl,rfl⟩:=au h2;unfold az at V;obtain⟨k1,F,ax,s,ai,z,x,C,p,ag,ak,aA,aa,u,aY⟩:=a;obtain⟨k2,E,av,r,ah,y,v,B,o,af,aj,ay,Z,t,aX⟩:=b;dsimp only at*
 have aB:=GD d;have Y:=GD hA;have X:=GD hB;have HL:=GD J;clear n f m c H d hA hB h1 h2 G J;have aW:(k1==k2)=true:=by rw[U];simp
 clear U;have ar:((F:Int)==(E:Int))=true:=by rw[dp,GK T]
 clear T;have aL:((ax:Int)==(av:Int))=true:=by rw[dp,GK S]
 clear S;have al:((s:Int)==(r:Int))=true:=by rw[dp,GK Q]
 clear Q;have aJ:((ai:Int)==(ah:Int))=true:=by rw[dp,GK P]
 clear P;have ao:((z:Int)==(y:Int))=true:=by rw[dp,GK O]
 clear O;have aE:Hid (decide (x=v)=true):=GK N;clear N;have aF:Hid (decide (C=B)=true):=GK M;clear M;have aC:Hid (decide (p=o)=true):=GK L;clear L;have aI:((ag:Int)==(af:Int))=true:=by rw[dp,GK K]
 clear K;have aK:((ak:Int)==(aj:Int))=true:=by rw[dp,GK l]
 clear l;have aM:(aA==ay)=true:=by rw[k];simp
 clear k;have aH:((aa:Int)==(Z:Int))=true:=by rw[dp,GK j]
 clear j;have aD:Hid (decide (u=t)=false):=GY I;clear I;clear ad ab;go_enter Tryz.func111,Tryz.ntmps111;go_upto_region 0 with(fail)
 iterate 7 go_step
 rw[<-V];clear V;go_wp2_with fail
 refine(aG _ _ x v _ Y.out.old X.out.old).mono ?_;rintro e w'⟨rfl,rfl⟩;rw[aE.out];go_wp2_with fail
 refine(aG _ _ C B _ Y.out.new X.out.new).mono ?_;rintro e w'⟨rfl,rfl⟩;rw[aF.out];go_wp2_with fail
 refine(aG _ _ p o _ Y.out.bI X.out.bI).mono ?_;rintro e w'⟨rfl,rfl⟩;rw[aC.out];go_wp2_with fail
 refine(pE.gM _ _ u t _ (Y.out.dH) (X.out.dH) HL.out.1).mono ?_;rintro e w'⟨rfl,n13,rfl⟩;rw[aD.out];go_wp2_with fail
 go_ret;exact⟨rfl,aB.out.goN _⟩
set_option maxHeartbeats 6400000 in
set_option maxRecDepth 20000 in
theorem BX(a b:Lr.R)(h i g c1 d1 B E r c2 d2:Value)(w:World)(h1:bm w a h i g c1 d1)(h2:bm w b B E r c2 d2)(K:a.dH.length<=1000000/\a.cq.length<=1000000)(V:a.kind=b.kind)(U:a.bl=b.bl)(T:a.an=b.an)(S:a.bn=b.bn)(Q:a.aw=b.aw)(P:a.off=b.off)(O:a.old=b.old)(N:a.new=b.new)(M:a.bI=b.bI)(L:a.prev=b.prev)(m:a.next=b.next)(l:a.lj=b.lj)(k:a.aV=b.aV)(j:a.dH=b.dH)(J:¬a.cq=b.cq):
 Calls Tryz.prog 111 #[cz a h i g c1 d1,cz b B E r c2 d2] w fun e w'=>e=.returned (.bool false)/\Below w.heap.size w w':=by
 obtain⟨W,hW⟩:∃W,W=(w.alloc (az a h i g c1 d1)).alloc (az b B E r c2 d2):=⟨_,rfl⟩
 have o:=ae w (az a h i g c1 d1);have f:=ae (w.alloc (az a h i g c1 d1)) (az b B E r c2 d2);have n:=dd w a h i g c1 d1;have c:=dd (w.alloc (az a h i g c1 d1)) b B E r c2 d2;rw[<-hW]at f c;have I:=(f.block _ (GN n)).trans n;have d:=o.trans (f.mono o.size);have hA:=h1.below d;have hB:=h2.below d;have H:(w.alloc (az a h i g c1 d1)).heap.size=w.heap.size+1:=by simp
 rw[H]at c;obtain⟨q0,q1,q2,q3,q4,q5,q6,q7,q8,q9,aX,aW,aU,aT,aS⟩:=aq I;obtain⟨r0,r1,r2,r3,r4,r5,r6,r7,r8,r9,aR,aQ,aP,aO,aN⟩:=aq c;obtain⟨p1,s1,p2,s2,p3,s3,p4,s4,p5,s5,rfl,rfl,rfl,rfl,rfl⟩:=au h1;obtain⟨p6,s6,p7,s7,p8,s8,p9,s9,pa,sa,rfl,rfl,rfl,rfl,rfl⟩:=au h2;unfold az at hW;obtain⟨k1,G,av,t,ah,A,y,D,q,af,aj,ay,ab,v,Y⟩:=a;obtain⟨k2,F,ar,s,ag,z,x,C,p,ad,ai,ax,aa,u,X⟩:=b;dsimp only at*
 have aA:=GD d;have HA:=GD hA;have Z:=GD hB;have HL:=GD K;clear o f n c I d hA hB h1 h2 H K;have aY:(k1==k2)=true:=by rw[V];simp
 clear V;have ao:((G:Int)==(F:Int))=true:=by rw[dp,GK U]
 clear U;have aL:((av:Int)==(ar:Int))=true:=by rw[dp,GK T]
 clear T;have ak:((t:Int)==(s:Int))=true:=by rw[dp,GK S]
 clear S;have aJ:((ah:Int)==(ag:Int))=true:=by rw[dp,GK Q]
 clear Q;have al:((A:Int)==(z:Int))=true:=by rw[dp,GK P]
 clear P;have aD:Hid (decide (y=x)=true):=GK O;clear O;have aE:Hid (decide (D=C)=true):=GK N;clear N;have aB:Hid (decide (q=p)=true):=GK M;clear M;have aI:((af:Int)==(ad:Int))=true:=by rw[dp,GK L]
 clear L;have aK:((aj:Int)==(ai:Int))=true:=by rw[dp,GK m]
 clear m;have aM:(ay==ax)=true:=by rw[l];simp
 clear l;have aH:((ab:Int)==(aa:Int))=true:=by rw[dp,GK k]
 clear k;have aC:Hid (decide (v=u)=true):=GK j;clear j;have aF:Hid (decide (Y=X)=false):=GY J;clear J;go_enter Tryz.func111,Tryz.ntmps111;go_upto_region 0 with(fail)
 iterate 7 go_step
 rw[<-hW];clear hW;go_wp2_with fail
 refine(aG _ _ y x _ HA.out.old Z.out.old).mono ?_;rintro e w'⟨rfl,rfl⟩;rw[aD.out];go_wp2_with fail
 refine(aG _ _ D C _ HA.out.new Z.out.new).mono ?_;rintro e w'⟨rfl,rfl⟩;rw[aE.out];go_wp2_with fail
 refine(aG _ _ q p _ HA.out.bI Z.out.bI).mono ?_;rintro e w'⟨rfl,rfl⟩;rw[aB.out];go_wp2_with fail
 refine(pE.gM _ _ v u _ (HA.out.dH) (Z.out.dH) HL.out.1).mono ?_;rintro e w'⟨rfl,n13,rfl⟩;rw[aC.out];go_wp2_with fail
 refine(eR.gM _ _ Y X _ (HA.out.cq.below ((GF _ _).goN _)) (Z.out.cq.below ((GF _ _).goN _)) HL.out.2).mono ?_;rintro e w'⟨rfl,n14,rfl⟩;rw[aF.out];go_wp2_with fail
 go_ret;exact⟨rfl,aA.out.goN _⟩
set_option maxHeartbeats 6400000 in
set_option maxRecDepth 20000 in
theorem BW(a b:Lr.R)(h i g c1 d1 C F s c2 d2:Value)(w:World)(h1:bm w a h i g c1 d1)(h2:bm w b C F s c2 d2)(K:a.dH.length<=1000000/\a.cq.length<=1000000)(V:a.kind=b.kind)(U:a.bl=b.bl)(T:a.an=b.an)(S:a.bn=b.bn)(Q:a.aw=b.aw)(P:a.off=b.off)(O:a.old=b.old)(N:a.new=b.new)(M:a.bI=b.bI)(L:a.prev=b.prev)(n:a.next=b.next)(m:a.lj=b.lj)(l:a.aV=b.aV)(k:a.dH=b.dH)(j:a.cq=b.cq):
 Calls Tryz.prog 111 #[cz a h i g c1 d1,cz b C F s c2 d2] w fun e w'=>e=.returned (.bool true)/\Below w.heap.size w w':=by
 obtain⟨W,hW⟩:∃W,W=(w.alloc (az a h i g c1 d1)).alloc (az b C F s c2 d2):=⟨_,rfl⟩
 have p:=ae w (az a h i g c1 d1);have f:=ae (w.alloc (az a h i g c1 d1)) (az b C F s c2 d2);have o:=dd w a h i g c1 d1;have c:=dd (w.alloc (az a h i g c1 d1)) b C F s c2 d2;rw[<-hW]at f c;have J:=(f.block _ (GN o)).trans o;have d:=p.trans (f.mono p.size);have hA:=h1.below d;have hB:=h2.below d;have I:(w.alloc (az a h i g c1 d1)).heap.size=w.heap.size+1:=by simp
 rw[I]at c;obtain⟨q0,q1,q2,q3,q4,q5,q6,q7,q8,q9,aX,aW,aU,aT,aS⟩:=aq J;obtain⟨r0,r1,r2,r3,r4,r5,r6,r7,r8,r9,aR,aQ,aP,aO,aN⟩:=aq c;obtain⟨p1,s1,p2,s2,p3,s3,p4,s4,p5,s5,rfl,rfl,rfl,rfl,rfl⟩:=au h1;obtain⟨p6,s6,p7,s7,p8,s8,p9,s9,pa,sa,rfl,rfl,rfl,rfl,rfl⟩:=au h2;unfold az at hW;obtain⟨k1,H,av,u,ah,B,z,E,r,af,aj,ay,ab,x,Y⟩:=a;obtain⟨k2,G,ar,t,ag,A,y,D,q,ad,ai,ax,aa,v,X⟩:=b;dsimp only at*
 have aA:=GD d;have HA:=GD hA;have Z:=GD hB;have HL:=GD K;clear p f o c J d hA hB h1 h2 I K;have aY:(k1==k2)=true:=by rw[V];simp
 clear V;have ao:((H:Int)==(G:Int))=true:=by rw[dp,GK U]
 clear U;have aL:((av:Int)==(ar:Int))=true:=by rw[dp,GK T]
 clear T;have ak:((u:Int)==(t:Int))=true:=by rw[dp,GK S]
 clear S;have aJ:((ah:Int)==(ag:Int))=true:=by rw[dp,GK Q]
 clear Q;have al:((B:Int)==(A:Int))=true:=by rw[dp,GK P]
 clear P;have aD:Hid (decide (z=y)=true):=GK O;clear O;have aE:Hid (decide (E=D)=true):=GK N;clear N;have aB:Hid (decide (r=q)=true):=GK M;clear M;have aI:((af:Int)==(ad:Int))=true:=by rw[dp,GK L]
 clear L;have aK:((aj:Int)==(ai:Int))=true:=by rw[dp,GK n]
 clear n;have aM:(ay==ax)=true:=by rw[m];simp
 clear m;have aH:((ab:Int)==(aa:Int))=true:=by rw[dp,GK l]
 clear l;have aC:Hid (decide (x=v)=true):=GK k;clear k;have aF:Hid (decide (Y=X)=true):=GK j;clear j;go_enter Tryz.func111,Tryz.ntmps111;go_upto_region 0 with(fail)
 iterate 7 go_step
 rw[<-hW];clear hW;go_wp2_with fail
 refine(aG _ _ z y _ HA.out.old Z.out.old).mono ?_;rintro e w'⟨rfl,rfl⟩;rw[aD.out];go_wp2_with fail
 refine(aG _ _ E D _ HA.out.new Z.out.new).mono ?_;rintro e w'⟨rfl,rfl⟩;rw[aE.out];go_wp2_with fail
 refine(aG _ _ r q _ HA.out.bI Z.out.bI).mono ?_;rintro e w'⟨rfl,rfl⟩;rw[aB.out];go_wp2_with fail
 refine(pE.gM _ _ x v _ (HA.out.dH) (Z.out.dH) HL.out.1).mono ?_;rintro e w'⟨rfl,n13,rfl⟩;rw[aC.out];go_wp2_with fail
 refine(eR.gM _ _ Y X _ (HA.out.cq.below ((GF _ _).goN _)) (Z.out.cq.below ((GF _ _).goN _)) HL.out.2).mono ?_;rintro e w'⟨rfl,n14,rfl⟩;rw[aF.out];go_wp2_with fail
 go_ret;exact⟨rfl,aA.out.goN _⟩
theorem zV(b d:Lr.R)(z B x c1 d1 y A v c2 d2:Value)(w:World)(t:bm w b z B x c1 d1)(s:bm w d y A v c2 d2)(f:b.dH.length<=1000000/\b.cq.length<=1000000):
 Calls Tryz.prog 111 #[cz b z B x c1 d1,cz d y A v c2 d2] w fun e w'=>e=.returned (.bool (Lr.same b d))/\Below w.heap.size w w':=by
 by_cases a:b.kind=d.kind
 case neg=>
  rw[Lr.bV fun e=>a (Ho Lr.R.kind e)];exact Dz b d _ _ _ _ _ _ _ _ _ _ w t s f a
 by_cases c:b.bl=d.bl
 case neg=>
  rw[Lr.bV fun e=>c (Ho Lr.R.bl e)];exact Dy b d _ _ _ _ _ _ _ _ _ _ w t s f a c
 by_cases g:b.an=d.an
 case neg=>
  rw[Lr.bV fun e=>g (Ho Lr.R.an e)];exact Dx b d _ _ _ _ _ _ _ _ _ _ w t s f a c g
 by_cases h:b.bn=d.bn
 case neg=>
  rw[Lr.bV fun e=>h (Ho Lr.R.bn e)];exact Dw b d _ _ _ _ _ _ _ _ _ _ w t s f a c g h
 by_cases i:b.aw=d.aw
 case neg=>
  rw[Lr.bV fun e=>i (Ho Lr.R.aw e)];exact Du b d _ _ _ _ _ _ _ _ _ _ w t s f a c g h i
 by_cases j:b.off=d.off
 case neg=>
  rw[Lr.bV fun e=>j (Ho Lr.R.off e)];exact Dt b d _ _ _ _ _ _ _ _ _ _ w t s f a c g h i j
 by_cases l:b.old=d.old
 case neg=>
  rw[Lr.bV fun e=>l (Ho Lr.R.old e)];exact Ds b d _ _ _ _ _ _ _ _ _ _ w t s f a c g h i j l
 by_cases m:b.new=d.new
 case neg=>
  rw[Lr.bV fun e=>m (Ho Lr.R.new e)];exact Dr b d _ _ _ _ _ _ _ _ _ _ w t s f a c g h i j l m
 by_cases o:b.bI=d.bI
 case neg=>
  rw[Lr.bV fun e=>o (Ho Lr.R.bI e)];exact Dq b d _ _ _ _ _ _ _ _ _ _ w t s f a c g h i j l m o
 by_cases q:b.prev=d.prev
 case neg=>
  rw[Lr.bV fun e=>q (Ho Lr.R.prev e)];exact Dp b d _ _ _ _ _ _ _ _ _ _ w t s f a c g h i j l m o q
 by_cases k:b.next=d.next
 case neg=>
  rw[Lr.bV fun e=>k (Ho Lr.R.next e)];exact B3 b d _ _ _ _ _ _ _ _ _ _ w t s f a c g h i j l m o q k
 by_cases n:b.lj=d.lj
 case neg=>
  rw[Lr.bV fun e=>n (Ho Lr.R.lj e)];exact B2 b d _ _ _ _ _ _ _ _ _ _ w t s f a c g h i j l m o q k n
 by_cases p:b.aV=d.aV
 case neg=>
  rw[Lr.bV fun e=>p (Ho Lr.R.aV e)];exact BZ b d _ _ _ _ _ _ _ _ _ _ w t s f a c g h i j l m o q k n p
 by_cases r:b.dH=d.dH
 case neg=>
  rw[Lr.bV fun e=>r (Ho Lr.R.dH e)];exact BY b d _ _ _ _ _ _ _ _ _ _ w t s f a c g h i j l m o q k n p r
 by_cases u:b.cq=d.cq
 case neg=>
  rw[Lr.bV fun e=>u (Ho Lr.R.cq e)];exact BX b d _ _ _ _ _ _ _ _ _ _ w t s f a c g h i j l m o q k n p r u
 rw[Lr.qe (Lr.mk_eq a c g h i j l m o q k n p r u)];exact BW b d _ _ _ _ _ _ _ _ _ _ w t s f a c g h i j l m o q k n p r u
end Go.Proofs.YtbpodmallknhfaaGreat
