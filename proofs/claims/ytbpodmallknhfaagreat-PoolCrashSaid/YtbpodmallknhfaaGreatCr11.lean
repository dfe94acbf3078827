/- Parts of a proof. Conditions: as each row says. -/
import Derived.Test.YtbpodmallknhfaaGreatCr10
namespace Go.Proofs.YtbpodmallknhfaaGreat
open Go.RowKit
def iL(P Y:Nat)(v0 v1 v2 v3:Value)(i:Nat)(v:Value)(_:World):Prop:=
 match i with
 |0=>v=.pointer (some ⟨P,4,none⟩)
 |1=>v=v0
 |2=>v=.pointer (some ⟨P,5,none⟩)
 |3=>v=v1
 |4=>v=.pointer (some ⟨P,6,none⟩)
 |5=>v=v2
 |6=>v=.pointer (some ⟨P,7,none⟩)
 |7=>v=v3
 |8=>v=.pointer (some ⟨Y,4,none⟩)
 |10=>v=.pointer (some ⟨Y,5,none⟩)
 |12=>v=.pointer (some ⟨Y,6,none⟩)
 |14=>v=.pointer (some ⟨Y,7,none⟩)
 |_=>True
def fY(P Y:Nat)(v0 v1 v2 v3 v4:Value)(i:Nat)(v:Value)(_:World):Prop:=
 match i with
 |0=>v=.pointer (some ⟨P,3,none⟩)
 |1=>v=v0
 |2=>v=.pointer (some ⟨P,9,none⟩)
 |3=>v=v1
 |4=>v=.pointer (some ⟨P,10,none⟩)
 |5=>v=v2
 |6=>v=.pointer (some ⟨P,11,none⟩)
 |7=>v=v3
 |8=>v=.pointer (some ⟨P,8,none⟩)
 |9=>v=v4
 |10=>v=.pointer (some ⟨Y,3,none⟩)
 |12=>v=.pointer (some ⟨Y,9,none⟩)
 |14=>v=.pointer (some ⟨Y,10,none⟩)
 |16=>v=.pointer (some ⟨Y,11,none⟩)
 |18=>v=.pointer (some ⟨Y,8,none⟩)
 |_=>True
def qf(P Y:Nat)(v0 v1:Value)(i:Nat)(v:Value)(_:World):Prop:=
 match i with
 |0=>v=.pointer (some ⟨P,3,none⟩)
 |1=>v=v0
 |2=>v=.pointer (some ⟨P,12,none⟩)
 |3=>v=v1
 |4=>v=.pointer (some ⟨Y,3,none⟩)
 |6=>v=.pointer (some ⟨Y,12,none⟩)
 |_=>True
def qe(P Y:Nat)(v0 v1:Value)(i:Nat)(v:Value)(_:World):Prop:=
 match i with
 |0=>v=.pointer (some ⟨P,13,none⟩)
 |1=>v=v0
 |2=>v=.pointer (some ⟨P,14,none⟩)
 |3=>v=v1
 |4=>v=.pointer (some ⟨Y,13,none⟩)
 |6=>v=.pointer (some ⟨Y,14,none⟩)
 |_=>True
set_option maxHeartbeats 6400000 in
set_option maxRecDepth 20000 in
theorem Co(x:Lr.R)(o n u c d:Value)(w:World)(h:bA w x o n u c d):
 Calls Tryz.prog 112 #[cz x o n u c d] w fun e w'=>∃o' n' u' c' d',e=.returned (cz (Lr.bare x) o' n' u' c' d')/\bA w' (Lr.bare x) o' n' u' c' d'/\Below w.heap.size w w':=by
 obtain⟨W,hW⟩:∃W,W=w.alloc (aD x o n u c d):=⟨_,rfl⟩
 have hb:=aj w (aD x o n u c d);have av:=dj w x o n u c d;rw[<-hW]at hb av;obtain⟨V,hV⟩:∃V,V=W.alloc qk:=⟨_,rfl⟩
 have aw:=aj W qk;have hz:=Em W;rw[<-hV]at aw hz;have aT:W.heap.size=w.heap.size+1:=by rw[hW];simp
 rw[aT]at hz;have hr:=(aw.block _ (lt_of_block av)).trans av;have HB:=Lib.hid (hb.trans (aw.mono hb.size));obtain⟨q0,q1,q2,q3,q4,q5,q6,q7,q8,q9,A,z,t,r,p⟩:=au hr;obtain⟨p1,c1,p2,c2,p3,c3,p4,c4,p5,c5,rfl,rfl,rfl,rfl,rfl⟩:=ax h;unfold aD at hW;unfold qk at hV;obtain⟨k,bj,ep,bs,pg,off,ol,nw,un,pv,nx,cl,st,op,di⟩:=x;dsimp only at*
 have aq:=Lib.hid h;have HR:=Lib.hid hr;have HZ:=Lib.hid hz;clear h hb hr av aw hz aT;by_cases h1:k=1
 ·as_aux_lemma=>
   subst h1;rw[show Lr.bare ⟨1,bj,ep,bs,pg,off,ol,nw,un,pv,nx,cl,st,op,di⟩=⟨1,bj,ep,0,pg,off,ol,nw,[],0,0,false,0,[],[]⟩from rfl];go_enter Tryz.func112,Tryz.ntmps112;go_upto_region 1 with(fail)
   rw[<-hW,<-hV];clear hW hV;go_upto_region 2 with(fail)
   obtain⟨Y,Q⟩:∃Y,Y=V.alloc (.cells #[.int .i64 1,.int .u64 (bj:Int),.int .u32 (ep:Int),.int .u64 0,.int .u32 0,.int .u16 0,.slice none 0 0,.slice none 0 0,.slice none 0 0,.int .u64 0,.int .u64 0,.bool false,.int .u64 0,.slice none 0 0,.slice none 0 0] 78):=⟨_,rfl⟩
   have j:Below V.heap.size V Y:=by rw[Q];exact aj _ _
   have B:Hid (Y.heap[V.heap.size]?=some (.cells #[.int .i64 1,.int .u64 (bj:Int),.int .u32 (ep:Int),.int .u64 0,.int .u32 0,.int .u16 0,.slice none 0 0,.slice none 0 0,.slice none 0 0,.int .u64 0,.int .u64 0,.bool false,.int .u64 0,.slice none 0 0,.slice none 0 0] 78 (0,0))):=by rw[Q];exact heap_alloc_last _ _
   have L:=Lib.hid ((j.block _ (lt_of_block HZ.out)).trans HZ.out);have H:=(j.block _ (lt_of_block HR.out)).trans HR.out;have ad:=Lib.hid (HB.out.trans (j.mono HB.out.size));have l:Hid (w.heap.size<V.heap.size):=lt_of_block HR.out;have M:Hid (V.heap.size<Y.heap.size):=lt_of_block B.out;have C:Hid (¬w.heap.size=V.heap.size):=fun e=>Nat.ne_of_lt l.out e;have O:Hid (¬V.heap.size=w.heap.size+1):=by have:=lt_of_block HZ.out;intro e;omega
   rw[<-Q];clear Q j q0 q1 q2 q3 q4 q5 q6 q7 q8 q9 A z t r p;obtain⟨q0,q1,q2,q3,q4,q5,q6,q7,q8,q9,A,z,t,r,p⟩:=au H;clear H;have aR:=Lib.hid q0;have aQ:=Lib.hid q1;have aP:=Lib.hid q2;have ar:=Lib.hid q3;have aF:=Lib.hid q4;have aE:=Lib.hid q5;have aC:=Lib.hid q6;have aB:=Lib.hid q7;have aA:=Lib.hid q8;have ay:=Lib.hid q9;have ao:=Lib.hid A;have al:=Lib.hid z;have ak:=Lib.hid t;have ai:=Lib.hid r;have ah:=Lib.hid p;go_upto_region 4 with(fail)
   clear q0 q1 q2 q3 q4 q5 q6 q7 q8 q9 A z t r p;refine Ord.walk (iL w.heap.size V.heap.size (.int .u32 (pg:Int)) (.int .u16 (off:Int)) (.slice p1 ol.length c1) (.slice p2 nw.length c2)) (fun D _ w2=>dR Y V.heap.size #[.int .i64 1,.int .u64 (bj:Int),.int .u32 (ep:Int),.int .u64 0,.int .u32 0,.int .u16 0,.slice none 0 0,.slice none 0 0,.slice none 0 0,.int .u64 0,.int .u64 0,.bool false,.int .u64 0,.slice none 0 0,.slice none 0 0] 78 [(9,4,(.int .u32 (pg:Int))),(11,5,(.int .u16 (off:Int))),(13,6,(.slice p1 ol.length c1)),(15,7,(.slice p2 nw.length c2))] D w2) (fun _ _=>True)
    (by kernel_rfl) (by kernel_rfl) ?fr1 ?hfr1 (fun _ _ _ _ _ h=>h) (fun xs=>dR.first B.out) ?he1 ?hend1
   case hfr1=>
    intro xs;simp only[Ord.fill,Act.put,List.setIfInBounds_toArray,List.set_cons_zero,List.set_cons_succ];rfl
   case he1=>
    iterate 16 (refine Ord.aa (fun D xs w2 hD hC hP hR b K g=>?_) ?_;rotate_left)
    rotate_left
    ·clear b;go_simp;exact g _ _ ⟨_,rfl,trivial,hR.skip rfl,rfl⟩
    ·have q:=Ord.ab _ b 0 (by decide);simp only[iL]at q;simp only[q]at g;clear b;have cc:=hR.cell aF.out C.out;go_simp;exact g _ _ ⟨_,rfl,trivial,hR.skip rfl,rfl⟩
    ·clear b;go_simp;exact g _ _ ⟨_,rfl,trivial,hR.skip rfl,rfl⟩
    ·have q:=Ord.ab _ b 2 (by decide);simp only[iL]at q;simp only[q]at g;clear b;have cc:=hR.cell aE.out C.out;go_simp;exact g _ _ ⟨_,rfl,trivial,hR.skip rfl,rfl⟩
    ·clear b;go_simp;exact g _ _ ⟨_,rfl,trivial,hR.skip rfl,rfl⟩
    ·have q:=Ord.ab _ b 4 (by decide);simp only[iL]at q;simp only[q]at g;clear b;have cc:=hR.cell aC.out C.out;go_simp;exact g _ _ ⟨_,rfl,trivial,hR.skip rfl,rfl⟩
    ·clear b;go_simp;exact g _ _ ⟨_,rfl,trivial,hR.skip rfl,rfl⟩
    ·have q:=Ord.ab _ b 6 (by decide);simp only[iL]at q;simp only[q]at g;clear b;have cc:=hR.cell aB.out C.out;go_simp;exact g _ _ ⟨_,rfl,trivial,hR.skip rfl,rfl⟩
    ·clear b;go_simp;exact g _ _ ⟨_,rfl,trivial,hR.skip rfl,rfl⟩
    ·have q:=Ord.ab _ b 8 (by decide);have E:=Ord.ab _ b 1 (by decide);simp only[iL]at q E;simp only[q,E]at g;clear b;obtain⟨u,cu⟩:=hR.there 4 (show 4<15 by decide);have ff:=hR.free 4;go_simp;exact g _ _ ⟨undef,rfl,trivial,hR.put 9 4 _ (by rfl) (by simp) hD,trivial⟩
    ·clear b;go_simp;exact g _ _ ⟨_,rfl,trivial,hR.skip rfl,rfl⟩
    ·have q:=Ord.ab _ b 10 (by decide);have E:=Ord.ab _ b 3 (by decide);simp only[iL]at q E;simp only[q,E]at g;clear b;obtain⟨u,cu⟩:=hR.there 5 (show 5<15 by decide);have ff:=hR.free 5;go_simp;exact g _ _ ⟨undef,rfl,trivial,hR.put 11 5 _ (by rfl) (by simp) hD,trivial⟩
    ·clear b;go_simp;exact g _ _ ⟨_,rfl,trivial,hR.skip rfl,rfl⟩
    ·have q:=Ord.ab _ b 12 (by decide);have E:=Ord.ab _ b 5 (by decide);simp only[iL]at q E;simp only[q,E]at g;clear b;obtain⟨u,cu⟩:=hR.there 6 (show 6<15 by decide);have ff:=hR.free 6;go_simp;exact g _ _ ⟨undef,rfl,trivial,hR.put 13 6 _ (by rfl) (by simp) hD,trivial⟩
    ·clear b;go_simp;exact g _ _ ⟨_,rfl,trivial,hR.skip rfl,rfl⟩
    ·have q:=Ord.ab _ b 14 (by decide);have E:=Ord.ab _ b 7 (by decide);simp only[iL]at q E;simp only[q,E]at g;clear b;obtain⟨u,cu⟩:=hR.there 7 (show 7<15 by decide);have ff:=hR.free 7;go_simp;exact g _ _ ⟨undef,rfl,trivial,hR.put 15 7 _ (by rfl) (by simp) hD,trivial⟩
    exact Ord.az
   case hend1=>
    intro D xs Z hR a;have r0:=(a 0 (by decide)).2;simp only[iL]at r0;have r1:=(a 1 (by decide)).2;simp only[iL]at r1;have r2:=(a 2 (by decide)).2;simp only[iL]at r2;have r3:=(a 3 (by decide)).2;simp only[iL]at r3;have r4:=(a 4 (by decide)).2;simp only[iL]at r4;have r5:=(a 5 (by decide)).2;simp only[iL]at r5;have r6:=(a 6 (by decide)).2;simp only[iL]at r6;have r7:=(a 7 (by decide)).2;simp only[iL]at r7;have r8:=(a 8 (by decide)).2;simp only[iL]at r8;have ag:=(a 10 (by decide)).2;simp only[iL]at ag;have af:=(a 12 (by decide)).2;simp only[iL]at af;have ae:=(a 14 (by decide)).2;simp only[iL]at ae;have f:=hR.row;rw[kB _ (by intro s hs;simp only[List.mem_cons,List.not_mem_nil,or_false]at hs;rcases hs with rfl|rfl|rfl|rfl;exact(a 9 (by decide)).1;exact(a 11 (by decide)).1;exact(a 13 (by decide)).1;exact(a 15 (by decide)).1)]at f;simp only[Lay,if_true,List.setIfInBounds_toArray,List.set_cons_zero,List.set_cons_succ]at f;have m:=hR.grown;simp only[r0,r1,r2,r3,r4,r5,r6,r7,r8,ag,af,ae];clear hR a r0 r1 r2 r3 r4 r5 r6 r7 r8 ag af ae;have F:=(m.block _ (lt_of_block L.out) (fun e=>O.out (Option.some.inj e).symm)).trans L.out;have X:=Lib.hid f;have T:=Lib.hid F;have HG:=Lib.hid m;clear m F f;go_upto_region 13 with(fail)
    go_step;refine aU rfl (.tmp 3) rfl V.heap.size rfl _ X.out rfl ?_;refine aS rfl (.tmp 2) (.tmp 65) rfl (w.heap.size+1) rfl _ rfl _ T.out rfl rfl (by simp[Value.oneCell']) ?_;intro U G I;have N:Hid (_/\_):=⟨G,I⟩
    clear G I;go_wp2_with fail
    refine bodyPost_ret (v:=.agg #[.int .i64 1,.int .u64 (bj:Int),.int .u32 (ep:Int),.int .u64 0,.int .u32 (pg:Int),.int .u16 (off:Int),.slice p1 ol.length c1,.slice p2 nw.length c2,.slice none 0 0,.int .u64 0,.int .u64 0,.bool false,.int .u64 0,.slice none 0 0,.slice none 0 0]) (results_cell_row Tryz.results112 _ _ (w.heap.size+1) _ _ _ _ rfl N.out.1 Tryz.underlying78 rfl (dg rfl)) rfl ?_;have J:Below w.heap.size w U:=aJ (aJ ad.out HG.out (Nat.le_of_lt (Nat.lt_trans l.out M.out)) (Nat.le_of_lt l.out)) N.out.2 (Nat.le_trans (Nat.le_of_lt (Nat.lt_trans l.out M.out)) HG.out.size) (Nat.le_succ _);have P:=aq.out.below J;refine⟨(.slice p1 ol.length c1),(.slice p2 nw.length c2),(.slice none 0 0),(.slice none 0 0),(.slice none 0 0),rfl,?_,J⟩;have S:=P.ok;exact⟨P.old,P.new,aX _,fX.eg _,gj.eg _,kz S⟩
 have k1:(k==1)=false:=by rw[beq_eq_false_iff_ne];exact h1
 by_cases h2:k=2
 ·as_aux_lemma=>
   subst h2;rw[show Lr.bare ⟨2,bj,ep,bs,pg,off,ol,nw,un,pv,nx,cl,st,op,di⟩=⟨2,bj,ep,bs,0,0,[],[],un,pv,nx,cl,0,[],[]⟩from rfl];go_enter Tryz.func112,Tryz.ntmps112;go_upto_region 1 with(fail)
   rw[<-hW,<-hV];clear hW hV;go_upto_region 2 with(fail)
   obtain⟨Y,Q⟩:∃Y,Y=V.alloc (.cells #[.int .i64 2,.int .u64 (bj:Int),.int .u32 (ep:Int),.int .u64 0,.int .u32 0,.int .u16 0,.slice none 0 0,.slice none 0 0,.slice none 0 0,.int .u64 0,.int .u64 0,.bool false,.int .u64 0,.slice none 0 0,.slice none 0 0] 78):=⟨_,rfl⟩
   have j:Below V.heap.size V Y:=by rw[Q];exact aj _ _
   have B:Hid (Y.heap[V.heap.size]?=some (.cells #[.int .i64 2,.int .u64 (bj:Int),.int .u32 (ep:Int),.int .u64 0,.int .u32 0,.int .u16 0,.slice none 0 0,.slice none 0 0,.slice none 0 0,.int .u64 0,.int .u64 0,.bool false,.int .u64 0,.slice none 0 0,.slice none 0 0] 78 (0,0))):=by rw[Q];exact heap_alloc_last _ _
   have L:=Lib.hid ((j.block _ (lt_of_block HZ.out)).trans HZ.out);have H:=(j.block _ (lt_of_block HR.out)).trans HR.out;have ad:=Lib.hid (HB.out.trans (j.mono HB.out.size));have l:Hid (w.heap.size<V.heap.size):=lt_of_block HR.out;have M:Hid (V.heap.size<Y.heap.size):=lt_of_block B.out;have C:Hid (¬w.heap.size=V.heap.size):=fun e=>Nat.ne_of_lt l.out e;have O:Hid (¬V.heap.size=w.heap.size+1):=by have:=lt_of_block HZ.out;intro e;omega
   rw[<-Q];clear Q j q0 q1 q2 q3 q4 q5 q6 q7 q8 q9 A z t r p;obtain⟨q0,q1,q2,q3,q4,q5,q6,q7,q8,q9,A,z,t,r,p⟩:=au H;clear H;have aR:=Lib.hid q0;have aQ:=Lib.hid q1;have aP:=Lib.hid q2;have ar:=Lib.hid q3;have aF:=Lib.hid q4;have aE:=Lib.hid q5;have aC:=Lib.hid q6;have aB:=Lib.hid q7;have aA:=Lib.hid q8;have ay:=Lib.hid q9;have ao:=Lib.hid A;have al:=Lib.hid z;have ak:=Lib.hid t;have ai:=Lib.hid r;have ah:=Lib.hid p;go_upto_region 6 with(fail)
   clear q0 q1 q2 q3 q4 q5 q6 q7 q8 q9 A z t r p;refine Ord.walk (fY w.heap.size V.heap.size (.int .u64 (bs:Int)) (.int .u64 (pv:Int)) (.int .u64 (nx:Int)) (.bool cl) (.slice p3 un.length c3)) (fun D _ w2=>dR Y V.heap.size #[.int .i64 2,.int .u64 (bj:Int),.int .u32 (ep:Int),.int .u64 0,.int .u32 0,.int .u16 0,.slice none 0 0,.slice none 0 0,.slice none 0 0,.int .u64 0,.int .u64 0,.bool false,.int .u64 0,.slice none 0 0,.slice none 0 0] 78 [(11,3,(.int .u64 (bs:Int))),(13,9,(.int .u64 (pv:Int))),(15,10,(.int .u64 (nx:Int))),(17,11,(.bool cl)),(19,8,(.slice p3 un.length c3))] D w2) (fun _ _=>True)
    (by kernel_rfl) (by kernel_rfl) ?fr2 ?hfr2 (fun _ _ _ _ _ h=>h) (fun xs=>dR.first B.out) ?he2 ?hend2
   case hfr2=>
    intro xs;simp only[Ord.fill,Act.put,List.setIfInBounds_toArray,List.set_cons_zero,List.set_cons_succ];rfl
   case he2=>
    iterate 20 (refine Ord.aa (fun D xs w2 hD hC hP hR b K g=>?_) ?_;rotate_left)
    rotate_left
    ·clear b;go_simp;exact g _ _ ⟨_,rfl,trivial,hR.skip rfl,rfl⟩
    ·have q:=Ord.ab _ b 0 (by decide);simp only[fY]at q;simp only[q]at g;clear b;have cc:=hR.cell ar.out C.out;go_simp;exact g _ _ ⟨_,rfl,trivial,hR.skip rfl,rfl⟩
    ·clear b;go_simp;exact g _ _ ⟨_,rfl,trivial,hR.skip rfl,rfl⟩
    ·have q:=Ord.ab _ b 2 (by decide);simp only[fY]at q;simp only[q]at g;clear b;have cc:=hR.cell ay.out C.out;go_simp;exact g _ _ ⟨_,rfl,trivial,hR.skip rfl,rfl⟩
    ·clear b;go_simp;exact g _ _ ⟨_,rfl,trivial,hR.skip rfl,rfl⟩
    ·have q:=Ord.ab _ b 4 (by decide);simp only[fY]at q;simp only[q]at g;clear b;have cc:=hR.cell ao.out C.out;go_simp;exact g _ _ ⟨_,rfl,trivial,hR.skip rfl,rfl⟩
    ·clear b;go_simp;exact g _ _ ⟨_,rfl,trivial,hR.skip rfl,rfl⟩
    ·have q:=Ord.ab _ b 6 (by decide);simp only[fY]at q;simp only[q]at g;clear b;have cc:=hR.cell al.out C.out;go_simp;exact g _ _ ⟨_,rfl,trivial,hR.skip rfl,rfl⟩
    ·clear b;go_simp;exact g _ _ ⟨_,rfl,trivial,hR.skip rfl,rfl⟩
    ·have q:=Ord.ab _ b 8 (by decide);simp only[fY]at q;simp only[q]at g;clear b;have cc:=hR.cell aA.out C.out;go_simp;exact g _ _ ⟨_,rfl,trivial,hR.skip rfl,rfl⟩
    ·clear b;go_simp;exact g _ _ ⟨_,rfl,trivial,hR.skip rfl,rfl⟩
    ·have q:=Ord.ab _ b 10 (by decide);have E:=Ord.ab _ b 1 (by decide);simp only[fY]at q E;simp only[q,E]at g;clear b;obtain⟨u,cu⟩:=hR.there 3 (show 3<15 by decide);have ff:=hR.free 3;go_simp;exact g _ _ ⟨undef,rfl,trivial,hR.put 11 3 _ (by rfl) (by simp) hD,trivial⟩
    ·clear b;go_simp;exact g _ _ ⟨_,rfl,trivial,hR.skip rfl,rfl⟩
    ·have q:=Ord.ab _ b 12 (by decide);have E:=Ord.ab _ b 3 (by decide);simp only[fY]at q E;simp only[q,E]at g;clear b;obtain⟨u,cu⟩:=hR.there 9 (show 9<15 by decide);have ff:=hR.free 9;go_simp;exact g _ _ ⟨undef,rfl,trivial,hR.put 13 9 _ (by rfl) (by simp) hD,trivial⟩
    ·clear b;go_simp;exact g _ _ ⟨_,rfl,trivial,hR.skip rfl,rfl⟩
    ·have q:=Ord.ab _ b 14 (by decide);have E:=Ord.ab _ b 5 (by decide);simp only[fY]at q E;simp only[q,E]at g;clear b;obtain⟨u,cu⟩:=hR.there 10 (show 10<15 by decide);have ff:=hR.free 10;go_simp;exact g _ _ ⟨undef,rfl,trivial,hR.put 15 10 _ (by rfl) (by simp) hD,trivial⟩
    ·clear b;go_simp;exact g _ _ ⟨_,rfl,trivial,hR.skip rfl,rfl⟩
    ·have q:=Ord.ab _ b 16 (by decide);have E:=Ord.ab _ b 7 (by decide);simp only[fY]at q E;simp only[q,E]at g;clear b;obtain⟨u,cu⟩:=hR.there 11 (show 11<15 by decide);have ff:=hR.free 11;go_simp;exact g _ _ ⟨undef,rfl,trivial,hR.put 17 11 _ (by rfl) (by simp) hD,trivial⟩
    ·clear b;go_simp;exact g _ _ ⟨_,rfl,trivial,hR.skip rfl,rfl⟩
    ·have q:=Ord.ab _ b 18 (by decide);have E:=Ord.ab _ b 9 (by decide);simp only[fY]at q E;simp only[q,E]at g;clear b;obtain⟨u,cu⟩:=hR.there 8 (show 8<15 by decide);have ff:=hR.free 8;go_simp;exact g _ _ ⟨undef,rfl,trivial,hR.put 19 8 _ (by rfl) (by simp) hD,trivial⟩
    exact Ord.az
   case hend2=>
    intro D xs Z hR a;have r0:=(a 0 (by decide)).2;simp only[fY]at r0;have r1:=(a 1 (by decide)).2;simp only[fY]at r1;have r2:=(a 2 (by decide)).2;simp only[fY]at r2;have r3:=(a 3 (by decide)).2;simp only[fY]at r3;have r4:=(a 4 (by decide)).2;simp only[fY]at r4;have r5:=(a 5 (by decide)).2;simp only[fY]at r5;have r6:=(a 6 (by decide)).2;simp only[fY]at r6;have r7:=(a 7 (by decide)).2;simp only[fY]at r7;have r8:=(a 8 (by decide)).2;simp only[fY]at r8;have r9:=(a 9 (by decide)).2;simp only[fY]at r9;have ag:=(a 10 (by decide)).2;simp only[fY]at ag;have af:=(a 12 (by decide)).2;simp only[fY]at af;have ae:=(a 14 (by decide)).2;simp only[fY]at ae;have aN:=(a 16 (by decide)).2;simp only[fY]at aN;have aM:=(a 18 (by decide)).2;simp only[fY]at aM;have f:=hR.row;rw[kB _ (by intro s hs;simp only[List.mem_cons,List.not_mem_nil,or_false]at hs;rcases hs with rfl|rfl|rfl|rfl|rfl;exact(a 11 (by decide)).1;exact(a 13 (by decide)).1;exact(a 15 (by decide)).1;exact(a 17 (by decide)).1;exact(a 19 (by decide)).1)]at f;simp only[Lay,if_true,List.setIfInBounds_toArray,List.set_cons_zero,List.set_cons_succ]at f;have m:=hR.grown;simp only[r0,r1,r2,r3,r4,r5,r6,r7,r8,r9,ag,af,ae,aN,aM];clear hR a r0 r1 r2 r3 r4 r5 r6 r7 r8 r9 ag af ae aN aM;have F:=(m.block _ (lt_of_block L.out) (fun e=>O.out (Option.some.inj e).symm)).trans L.out;have X:=Lib.hid f;have T:=Lib.hid F;have HG:=Lib.hid m;clear m F f;go_upto_region 13 with(fail)
    go_step;refine aU rfl (.tmp 3) rfl V.heap.size rfl _ X.out rfl ?_;refine aS rfl (.tmp 2) (.tmp 65) rfl (w.heap.size+1) rfl _ rfl _ T.out rfl rfl (by simp[Value.oneCell']) ?_;intro U G I;have N:Hid (_/\_):=⟨G,I⟩
    clear G I;go_wp2_with fail
    refine bodyPost_ret (v:=.agg #[.int .i64 2,.int .u64 (bj:Int),.int .u32 (ep:Int),.int .u64 (bs:Int),.int .u32 0,.int .u16 0,.slice none 0 0,.slice none 0 0,.slice p3 un.length c3,.int .u64 (pv:Int),.int .u64 (nx:Int),.bool cl,.int .u64 0,.slice none 0 0,.slice none 0 0]) (results_cell_row Tryz.results112 _ _ (w.heap.size+1) _ _ _ _ rfl N.out.1 Tryz.underlying78 rfl (dg rfl)) rfl ?_;have J:Below w.heap.size w U:=aJ (aJ ad.out HG.out (Nat.le_of_lt (Nat.lt_trans l.out M.out)) (Nat.le_of_lt l.out)) N.out.2 (Nat.le_trans (Nat.le_of_lt (Nat.lt_trans l.out M.out)) HG.out.size) (Nat.le_succ _);have P:=aq.out.below J;refine⟨(.slice none 0 0),(.slice none 0 0),(.slice p3 un.length c3),(.slice none 0 0),(.slice none 0 0),rfl,?_,J⟩;have S:=P.ok;exact⟨aX _,aX _,P.bD,fX.eg _,gj.eg _,kz S⟩
 have k2:(k==2)=false:=by rw[beq_eq_false_iff_ne];exact h2
 by_cases h3:k=3
 ·as_aux_lemma=>
   subst h3;rw[show Lr.bare ⟨3,bj,ep,bs,pg,off,ol,nw,un,pv,nx,cl,st,op,di⟩=⟨3,bj,ep,bs,0,0,[],[],[],0,0,false,st,[],[]⟩from rfl];go_enter Tryz.func112,Tryz.ntmps112;go_upto_region 1 with(fail)
   rw[<-hW,<-hV];clear hW hV;go_upto_region 2 with(fail)
   obtain⟨Y,Q⟩:∃Y,Y=V.alloc (.cells #[.int .i64 3,.int .u64 (bj:Int),.int .u32 (ep:Int),.int .u64 0,.int .u32 0,.int .u16 0,.slice none 0 0,.slice none 0 0,.slice none 0 0,.int .u64 0,.int .u64 0,.bool false,.int .u64 0,.slice none 0 0,.slice none 0 0] 78):=⟨_,rfl⟩
   have j:Below V.heap.size V Y:=by rw[Q];exact aj _ _
   have B:Hid (Y.heap[V.heap.size]?=some (.cells #[.int .i64 3,.int .u64 (bj:Int),.int .u32 (ep:Int),.int .u64 0,.int .u32 0,.int .u16 0,.slice none 0 0,.slice none 0 0,.slice none 0 0,.int .u64 0,.int .u64 0,.bool false,.int .u64 0,.slice none 0 0,.slice none 0 0] 78 (0,0))):=by rw[Q];exact heap_alloc_last _ _
   have L:=Lib.hid ((j.block _ (lt_of_block HZ.out)).trans HZ.out);have H:=(j.block _ (lt_of_block HR.out)).trans HR.out;have ad:=Lib.hid (HB.out.trans (j.mono HB.out.size));have l:Hid (w.heap.size<V.heap.size):=lt_of_block HR.out;have M:Hid (V.heap.size<Y.heap.size):=lt_of_block B.out;have C:Hid (¬w.heap.size=V.heap.size):=fun e=>Nat.ne_of_lt l.out e;have O:Hid (¬V.heap.size=w.heap.size+1):=by have:=lt_of_block HZ.out;intro e;omega
   rw[<-Q];clear Q j q0 q1 q2 q3 q4 q5 q6 q7 q8 q9 A z t r p;obtain⟨q0,q1,q2,q3,q4,q5,q6,q7,q8,q9,A,z,t,r,p⟩:=au H;clear H;have aR:=Lib.hid q0;have aQ:=Lib.hid q1;have aP:=Lib.hid q2;have ar:=Lib.hid q3;have aF:=Lib.hid q4;have aE:=Lib.hid q5;have aC:=Lib.hid q6;have aB:=Lib.hid q7;have aA:=Lib.hid q8;have ay:=Lib.hid q9;have ao:=Lib.hid A;have al:=Lib.hid z;have ak:=Lib.hid t;have ai:=Lib.hid r;have ah:=Lib.hid p;go_upto_region 8 with(fail)
   clear q0 q1 q2 q3 q4 q5 q6 q7 q8 q9 A z t r p;refine Ord.walk (qf w.heap.size V.heap.size (.int .u64 (bs:Int)) (.int .u64 (st:Int))) (fun D _ w2=>dR Y V.heap.size #[.int .i64 3,.int .u64 (bj:Int),.int .u32 (ep:Int),.int .u64 0,.int .u32 0,.int .u16 0,.slice none 0 0,.slice none 0 0,.slice none 0 0,.int .u64 0,.int .u64 0,.bool false,.int .u64 0,.slice none 0 0,.slice none 0 0] 78 [(5,3,(.int .u64 (bs:Int))),(7,12,(.int .u64 (st:Int)))] D w2) (fun _ _=>True)
    (by kernel_rfl) (by kernel_rfl) ?fr3 ?hfr3 (fun _ _ _ _ _ h=>h) (fun xs=>dR.first B.out) ?he3 ?hend3
   case hfr3=>
    intro xs;simp only[Ord.fill,Act.put,List.setIfInBounds_toArray,List.set_cons_zero,List.set_cons_succ];rfl
   case he3=>
    iterate 8 (refine Ord.aa (fun D xs w2 hD hC hP hR b K g=>?_) ?_;rotate_left)
    rotate_left
    ·clear b;go_simp;exact g _ _ ⟨_,rfl,trivial,hR.skip rfl,rfl⟩
    ·have q:=Ord.ab _ b 0 (by decide);simp only[qf]at q;simp only[q]at g;clear b;have cc:=hR.cell ar.out C.out;go_simp;exact g _ _ ⟨_,rfl,trivial,hR.skip rfl,rfl⟩
    ·clear b;go_simp;exact g _ _ ⟨_,rfl,trivial,hR.skip rfl,rfl⟩
    ·have q:=Ord.ab _ b 2 (by decide);simp only[qf]at q;simp only[q]at g;clear b;have cc:=hR.cell ak.out C.out;go_simp;exact g _ _ ⟨_,rfl,trivial,hR.skip rfl,rfl⟩
    ·clear b;go_simp;exact g _ _ ⟨_,rfl,trivial,hR.skip rfl,rfl⟩
    ·have q:=Ord.ab _ b 4 (by decide);have E:=Ord.ab _ b 1 (by decide);simp only[qf]at q E;simp only[q,E]at g;clear b;obtain⟨u,cu⟩:=hR.there 3 (show 3<15 by decide);have ff:=hR.free 3;go_simp;exact g _ _ ⟨undef,rfl,trivial,hR.put 5 3 _ (by rfl) (by simp) hD,trivial⟩
    ·clear b;go_simp;exact g _ _ ⟨_,rfl,trivial,hR.skip rfl,rfl⟩
    ·have q:=Ord.ab _ b 6 (by decide);have E:=Ord.ab _ b 3 (by decide);simp only[qf]at q E;simp only[q,E]at g;clear b;obtain⟨u,cu⟩:=hR.there 12 (show 12<15 by decide);have ff:=hR.free 12;go_simp;exact g _ _ ⟨undef,rfl,trivial,hR.put 7 12 _ (by rfl) (by simp) hD,trivial⟩
    exact Ord.az
   case hend3=>
    intro D xs Z hR a;have r0:=(a 0 (by decide)).2;simp only[qf]at r0;have r1:=(a 1 (by decide)).2;simp only[qf]at r1;have r2:=(a 2 (by decide)).2;simp only[qf]at r2;have r3:=(a 3 (by decide)).2;simp only[qf]at r3;have r4:=(a 4 (by decide)).2;simp only[qf]at r4;have r6:=(a 6 (by decide)).2;simp only[qf]at r6;have f:=hR.row;rw[kB _ (by intro s hs;simp only[List.mem_cons,List.not_mem_nil,or_false]at hs;rcases hs with rfl|rfl;exact(a 5 (by decide)).1;exact(a 7 (by decide)).1)]at f;simp only[Lay,if_true,List.setIfInBounds_toArray,List.set_cons_zero,List.set_cons_succ]at f;have m:=hR.grown;simp only[r0,r1,r2,r3,r4,r6];clear hR a r0 r1 r2 r3 r4 r6;have F:=(m.block _ (lt_of_block L.out) (fun e=>O.out (Option.some.inj e).symm)).trans L.out;have X:=Lib.hid f;have T:=Lib.hid F;have HG:=Lib.hid m;clear m F f;go_upto_region 13 with(fail)
    go_step;refine aU rfl (.tmp 3) rfl V.heap.size rfl _ X.out rfl ?_;refine aS rfl (.tmp 2) (.tmp 65) rfl (w.heap.size+1) rfl _ rfl _ T.out rfl rfl (by simp[Value.oneCell']) ?_;intro U G I;have N:Hid (_/\_):=⟨G,I⟩
    clear G I;go_wp2_with fail
    refine bodyPost_ret (v:=.agg #[.int .i64 3,.int .u64 (bj:Int),.int .u32 (ep:Int),.int .u64 (bs:Int),.int .u32 0,.int .u16 0,.slice none 0 0,.slice none 0 0,.slice none 0 0,.int .u64 0,.int .u64 0,.bool false,.int .u64 (st:Int),.slice none 0 0,.slice none 0 0]) (results_cell_row Tryz.results112 _ _ (w.heap.size+1) _ _ _ _ rfl N.out.1 Tryz.underlying78 rfl (dg rfl)) rfl ?_;have J:Below w.heap.size w U:=aJ (aJ ad.out HG.out (Nat.le_of_lt (Nat.lt_trans l.out M.out)) (Nat.le_of_lt l.out)) N.out.2 (Nat.le_trans (Nat.le_of_lt (Nat.lt_trans l.out M.out)) HG.out.size) (Nat.le_succ _);have P:=aq.out.below J;refine⟨(.slice none 0 0),(.slice none 0 0),(.slice none 0 0),(.slice none 0 0),(.slice none 0 0),rfl,?_,J⟩;have S:=P.ok;exact⟨aX _,aX _,aX _,fX.eg _,gj.eg _,kz S⟩
 have k3:(k==3)=false:=by rw[beq_eq_false_iff_ne];exact h3
 by_cases h4:k=4
 ·as_aux_lemma=>
   subst h4;rw[show Lr.bare ⟨4,bj,ep,bs,pg,off,ol,nw,un,pv,nx,cl,st,op,di⟩=⟨4,bj,ep,bs,0,0,[],[],[],0,0,false,0,[],[]⟩from rfl];go_enter Tryz.func112,Tryz.ntmps112;go_upto_region 1 with(fail)
   rw[<-hW,<-hV];clear hW hV;go_upto_region 2 with(fail)
   obtain⟨Y,Q⟩:∃Y,Y=V.alloc (.cells #[.int .i64 4,.int .u64 (bj:Int),.int .u32 (ep:Int),.int .u64 0,.int .u32 0,.int .u16 0,.slice none 0 0,.slice none 0 0,.slice none 0 0,.int .u64 0,.int .u64 0,.bool false,.int .u64 0,.slice none 0 0,.slice none 0 0] 78):=⟨_,rfl⟩
   have j:Below V.heap.size V Y:=by rw[Q];exact aj _ _
   have B:Hid (Y.heap[V.heap.size]?=some (.cells #[.int .i64 4,.int .u64 (bj:Int),.int .u32 (ep:Int),.int .u64 0,.int .u32 0,.int .u16 0,.slice none 0 0,.slice none 0 0,.slice none 0 0,.int .u64 0,.int .u64 0,.bool false,.int .u64 0,.slice none 0 0,.slice none 0 0] 78 (0,0))):=by rw[Q];exact heap_alloc_last _ _
   have L:=Lib.hid ((j.block _ (lt_of_block HZ.out)).trans HZ.out);have H:=(j.block _ (lt_of_block HR.out)).trans HR.out;have ad:=Lib.hid (HB.out.trans (j.mono HB.out.size));have l:Hid (w.heap.size<V.heap.size):=lt_of_block HR.out;have M:Hid (V.heap.size<Y.heap.size):=lt_of_block B.out;have C:Hid (¬w.heap.size=V.heap.size):=fun e=>Nat.ne_of_lt l.out e;have O:Hid (¬V.heap.size=w.heap.size+1):=by have:=lt_of_block HZ.out;intro e;omega
   rw[<-Q];clear Q j q0 q1 q2 q3 q4 q5 q6 q7 q8 q9 A z t r p;obtain⟨q0,q1,q2,q3,q4,q5,q6,q7,q8,q9,A,z,t,r,p⟩:=au H;clear H;have y:=au B.out;obtain⟨y0,y1,y2,y3,y4,y5,y6,y7,y8,y9,aL,aK,aI,aH,aG⟩:=y;have fy:=eA B.out;have aO:=C.out;go_upto_region 13 with(fail)
   have f:=B.out;have f:=dy (i:=3) (.int .u64 (bs:Int)) f;simp only[List.setIfInBounds_toArray,List.set_cons_zero,List.set_cons_succ]at f;have m:Y.grownBy (Y.setCell ⟨V.heap.size,3,none⟩ (.int .u64 (bs:Int))) (some V.heap.size):=an _ _ _ _;obtain⟨Z,hZ⟩:∃Z,Z=(Y.setCell ⟨V.heap.size,3,none⟩ (.int .u64 (bs:Int))):=⟨_,rfl⟩
   rw[<-hZ]at m f⊢;clear hZ;clear fy aO y0 q0 y1 q1 y2 q2 y3 q3 y4 q4 y5 q5 y6 q6 y7 q7 y8 q8 y9 q9 aL A aK z aI t aH r aG p;have F:=(m.block _ (lt_of_block L.out) (fun e=>O.out (Option.some.inj e).symm)).trans L.out;have X:=Lib.hid f;have T:=Lib.hid F;have HG:=Lib.hid m;clear m F f;go_upto_region 13 with(fail)
   go_step;refine aU rfl (.tmp 3) rfl V.heap.size rfl _ X.out rfl ?_;refine aS rfl (.tmp 2) (.tmp 65) rfl (w.heap.size+1) rfl _ rfl _ T.out rfl rfl (by simp[Value.oneCell']) ?_;intro U G I;have N:Hid (_/\_):=⟨G,I⟩
   clear G I;go_wp2_with fail
   refine bodyPost_ret (v:=.agg #[.int .i64 4,.int .u64 (bj:Int),.int .u32 (ep:Int),.int .u64 (bs:Int),.int .u32 0,.int .u16 0,.slice none 0 0,.slice none 0 0,.slice none 0 0,.int .u64 0,.int .u64 0,.bool false,.int .u64 0,.slice none 0 0,.slice none 0 0]) (results_cell_row Tryz.results112 _ _ (w.heap.size+1) _ _ _ _ rfl N.out.1 Tryz.underlying78 rfl (dg rfl)) rfl ?_;have J:Below w.heap.size w U:=aJ (aJ ad.out HG.out (Nat.le_of_lt (Nat.lt_trans l.out M.out)) (Nat.le_of_lt l.out)) N.out.2 (Nat.le_trans (Nat.le_of_lt (Nat.lt_trans l.out M.out)) HG.out.size) (Nat.le_succ _);have P:=aq.out.below J;refine⟨(.slice none 0 0),(.slice none 0 0),(.slice none 0 0),(.slice none 0 0),(.slice none 0 0),rfl,?_,J⟩;have S:=P.ok;exact⟨aX _,aX _,aX _,fX.eg _,gj.eg _,kz S⟩
 have k4:(k==4)=false:=by rw[beq_eq_false_iff_ne];exact h4
 by_cases h5:k=5
 ·as_aux_lemma=>
   subst h5;rw[show Lr.bare ⟨5,bj,ep,bs,pg,off,ol,nw,un,pv,nx,cl,st,op,di⟩=⟨5,bj,ep,0,0,0,[],[],[],0,0,false,0,op,di⟩from rfl];go_enter Tryz.func112,Tryz.ntmps112;go_upto_region 1 with(fail)
   rw[<-hW,<-hV];clear hW hV;go_upto_region 2 with(fail)
   obtain⟨Y,Q⟩:∃Y,Y=V.alloc (.cells #[.int .i64 5,.int .u64 (bj:Int),.int .u32 (ep:Int),.int .u64 0,.int .u32 0,.int .u16 0,.slice none 0 0,.slice none 0 0,.slice none 0 0,.int .u64 0,.int .u64 0,.bool false,.int .u64 0,.slice none 0 0,.slice none 0 0] 78):=⟨_,rfl⟩
   have j:Below V.heap.size V Y:=by rw[Q];exact aj _ _
   have B:Hid (Y.heap[V.heap.size]?=some (.cells #[.int .i64 5,.int .u64 (bj:Int),.int .u32 (ep:Int),.int .u64 0,.int .u32 0,.int .u16 0,.slice none 0 0,.slice none 0 0,.slice none 0 0,.int .u64 0,.int .u64 0,.bool false,.int .u64 0,.slice none 0 0,.slice none 0 0] 78 (0,0))):=by rw[Q];exact heap_alloc_last _ _
   have L:=Lib.hid ((j.block _ (lt_of_block HZ.out)).trans HZ.out);have H:=(j.block _ (lt_of_block HR.out)).trans HR.out;have ad:=Lib.hid (HB.out.trans (j.mono HB.out.size));have l:Hid (w.heap.size<V.heap.size):=lt_of_block HR.out;have M:Hid (V.heap.size<Y.heap.size):=lt_of_block B.out;have C:Hid (¬w.heap.size=V.heap.size):=fun e=>Nat.ne_of_lt l.out e;have O:Hid (¬V.heap.size=w.heap.size+1):=by have:=lt_of_block HZ.out;intro e;omega
   rw[<-Q];clear Q j q0 q1 q2 q3 q4 q5 q6 q7 q8 q9 A z t r p;obtain⟨q0,q1,q2,q3,q4,q5,q6,q7,q8,q9,A,z,t,r,p⟩:=au H;clear H;have aR:=Lib.hid q0;have aQ:=Lib.hid q1;have aP:=Lib.hid q2;have ar:=Lib.hid q3;have aF:=Lib.hid q4;have aE:=Lib.hid q5;have aC:=Lib.hid q6;have aB:=Lib.hid q7;have aA:=Lib.hid q8;have ay:=Lib.hid q9;have ao:=Lib.hid A;have al:=Lib.hid z;have ak:=Lib.hid t;have ai:=Lib.hid r;have ah:=Lib.hid p;go_upto_region 12 with(fail)
   clear q0 q1 q2 q3 q4 q5 q6 q7 q8 q9 A z t r p;refine Ord.walk (qe w.heap.size V.heap.size (.slice p4 op.length c4) (.slice p5 di.length c5)) (fun D _ w2=>dR Y V.heap.size #[.int .i64 5,.int .u64 (bj:Int),.int .u32 (ep:Int),.int .u64 0,.int .u32 0,.int .u16 0,.slice none 0 0,.slice none 0 0,.slice none 0 0,.int .u64 0,.int .u64 0,.bool false,.int .u64 0,.slice none 0 0,.slice none 0 0] 78 [(5,13,(.slice p4 op.length c4)),(7,14,(.slice p5 di.length c5))] D w2) (fun _ _=>True)
    (by kernel_rfl) (by kernel_rfl) ?fr5 ?hfr5 (fun _ _ _ _ _ h=>h) (fun xs=>dR.first B.out) ?he5 ?hend5
   case hfr5=>
    intro xs;simp only[Ord.fill,Act.put,List.setIfInBounds_toArray,List.set_cons_zero,List.set_cons_succ];rfl
   case he5=>
    iterate 8 (refine Ord.aa (fun D xs w2 hD hC hP hR b K g=>?_) ?_;rotate_left)
    rotate_left
    ·clear b;go_simp;exact g _ _ ⟨_,rfl,trivial,hR.skip rfl,rfl⟩
    ·have q:=Ord.ab _ b 0 (by decide);simp only[qe]at q;simp only[q]at g;clear b;have cc:=hR.cell ai.out C.out;go_simp;exact g _ _ ⟨_,rfl,trivial,hR.skip rfl,rfl⟩
    ·clear b;go_simp;exact g _ _ ⟨_,rfl,trivial,hR.skip rfl,rfl⟩
    ·have q:=Ord.ab _ b 2 (by decide);simp only[qe]at q;simp only[q]at g;clear b;have cc:=hR.cell ah.out C.out;go_simp;exact g _ _ ⟨_,rfl,trivial,hR.skip rfl,rfl⟩
    ·clear b;go_simp;exact g _ _ ⟨_,rfl,trivial,hR.skip rfl,rfl⟩
    ·have q:=Ord.ab _ b 4 (by decide);have E:=Ord.ab _ b 1 (by decide);simp only[qe]at q E;simp only[q,E]at g;clear b;obtain⟨u,cu⟩:=hR.there 13 (show 13<15 by decide);have ff:=hR.free 13;go_simp;exact g _ _ ⟨undef,rfl,trivial,hR.put 5 13 _ (by rfl) (by simp) hD,trivial⟩
    ·clear b;go_simp;exact g _ _ ⟨_,rfl,trivial,hR.skip rfl,rfl⟩
    ·have q:=Ord.ab _ b 6 (by decide);have E:=Ord.ab _ b 3 (by decide);simp only[qe]at q E;simp only[q,E]at g;clear b;obtain⟨u,cu⟩:=hR.there 14 (show 14<15 by decide);have ff:=hR.free 14;go_simp;exact g _ _ ⟨undef,rfl,trivial,hR.put 7 14 _ (by rfl) (by simp) hD,trivial⟩
    exact Ord.az
   case hend5=>
    intro D xs Z hR a;have r0:=(a 0 (by decide)).2;simp only[qe]at r0;have r1:=(a 1 (by decide)).2;simp only[qe]at r1;have r2:=(a 2 (by decide)).2;simp only[qe]at r2;have r3:=(a 3 (by decide)).2;simp only[qe]at r3;have r4:=(a 4 (by decide)).2;simp only[qe]at r4;have r6:=(a 6 (by decide)).2;simp only[qe]at r6;have f:=hR.row;rw[kB _ (by intro s hs;simp only[List.mem_cons,List.not_mem_nil,or_false]at hs;rcases hs with rfl|rfl;exact(a 5 (by decide)).1;exact(a 7 (by decide)).1)]at f;simp only[Lay,if_true,List.setIfInBounds_toArray,List.set_cons_zero,List.set_cons_succ]at f;have m:=hR.grown;simp only[r0,r1,r2,r3,r4,r6];clear hR a r0 r1 r2 r3 r4 r6;have F:=(m.block _ (lt_of_block L.out) (fun e=>O.out (Option.some.inj e).symm)).trans L.out;have X:=Lib.hid f;have T:=Lib.hid F;have HG:=Lib.hid m;clear m F f;go_upto_region 13 with(fail)
    go_step;refine aU rfl (.tmp 3) rfl V.heap.size rfl _ X.out rfl ?_;refine aS rfl (.tmp 2) (.tmp 65) rfl (w.heap.size+1) rfl _ rfl _ T.out rfl rfl (by simp[Value.oneCell']) ?_;intro U G I;have N:Hid (_/\_):=⟨G,I⟩
    clear G I;go_wp2_with fail
    refine bodyPost_ret (v:=.agg #[.int .i64 5,.int .u64 (bj:Int),.int .u32 (ep:Int),.int .u64 0,.int .u32 0,.int .u16 0,.slice none 0 0,.slice none 0 0,.slice none 0 0,.int .u64 0,.int .u64 0,.bool false,.int .u64 0,.slice p4 op.length c4,.slice p5 di.length c5]) (results_cell_row Tryz.results112 _ _ (w.heap.size+1) _ _ _ _ rfl N.out.1 Tryz.underlying78 rfl (dg rfl)) rfl ?_;have J:Below w.heap.size w U:=aJ (aJ ad.out HG.out (Nat.le_of_lt (Nat.lt_trans l.out M.out)) (Nat.le_of_lt l.out)) N.out.2 (Nat.le_trans (Nat.le_of_lt (Nat.lt_trans l.out M.out)) HG.out.size) (Nat.le_succ _);have P:=aq.out.below J;refine⟨(.slice none 0 0),(.slice none 0 0),(.slice none 0 0),(.slice p4 op.length c4),(.slice p5 di.length c5),rfl,?_,J⟩;have S:=P.ok;exact⟨aX _,aX _,aX _,P.dm,P.bR,kz S⟩
 have k5:(k==5)=false:=by rw[beq_eq_false_iff_ne];exact h5
 rw[show Lr.bare ⟨k,bj,ep,bs,pg,off,ol,nw,un,pv,nx,cl,st,op,di⟩=⟨k,bj,ep,0,0,0,[],[],[],0,0,false,0,[],[]⟩by unfold Lr.bare;simp only[if_neg h1,if_neg h2,if_neg h3,if_neg h4,if_neg h5]];go_enter Tryz.func112,Tryz.ntmps112;go_upto_region 1 with(fail)
 rw[<-hW,<-hV];clear hW hV;go_upto_region 2 with(fail)
 obtain⟨Y,Q⟩:∃Y,Y=V.alloc (.cells #[.int .i64 k,.int .u64 (bj:Int),.int .u32 (ep:Int),.int .u64 0,.int .u32 0,.int .u16 0,.slice none 0 0,.slice none 0 0,.slice none 0 0,.int .u64 0,.int .u64 0,.bool false,.int .u64 0,.slice none 0 0,.slice none 0 0] 78):=⟨_,rfl⟩
 have j:Below V.heap.size V Y:=by rw[Q];exact aj _ _
 have B:Hid (Y.heap[V.heap.size]?=some (.cells #[.int .i64 k,.int .u64 (bj:Int),.int .u32 (ep:Int),.int .u64 0,.int .u32 0,.int .u16 0,.slice none 0 0,.slice none 0 0,.slice none 0 0,.int .u64 0,.int .u64 0,.bool false,.int .u64 0,.slice none 0 0,.slice none 0 0] 78 (0,0))):=by rw[Q];exact heap_alloc_last _ _
 have L:=Lib.hid ((j.block _ (lt_of_block HZ.out)).trans HZ.out);have H:=(j.block _ (lt_of_block HR.out)).trans HR.out;have ad:=Lib.hid (HB.out.trans (j.mono HB.out.size));have l:Hid (w.heap.size<V.heap.size):=lt_of_block HR.out;have M:Hid (V.heap.size<Y.heap.size):=lt_of_block B.out;have C:Hid (¬w.heap.size=V.heap.size):=fun e=>Nat.ne_of_lt l.out e;have O:Hid (¬V.heap.size=w.heap.size+1):=by have:=lt_of_block HZ.out;intro e;omega
 rw[<-Q];clear Q j q0 q1 q2 q3 q4 q5 q6 q7 q8 q9 A z t r p;obtain⟨q0,q1,q2,q3,q4,q5,q6,q7,q8,q9,A,z,t,r,p⟩:=au H;clear H;have y:=au B.out;obtain⟨y0,y1,y2,y3,y4,y5,y6,y7,y8,y9,aL,aK,aI,aH,aG⟩:=y;have fy:=eA B.out;have aO:=C.out;go_upto_region 13 with(fail)
 have f:=B.out;have m:Y.grownBy Y (some V.heap.size):=bW _ _;obtain⟨Z,hZ⟩:∃Z,Z=Y:=⟨_,rfl⟩
 subst hZ;clear fy aO y0 q0 y1 q1 y2 q2 y3 q3 y4 q4 y5 q5 y6 q6 y7 q7 y8 q8 y9 q9 aL A aK z aI t aH r aG p;have F:=(m.block _ (lt_of_block L.out) (fun e=>O.out (Option.some.inj e).symm)).trans L.out;have X:=Lib.hid f;have T:=Lib.hid F;have HG:=Lib.hid m;clear m F f;go_upto_region 13 with(fail)
 go_step;refine aU rfl (.tmp 3) rfl V.heap.size rfl _ X.out rfl ?_;refine aS rfl (.tmp 2) (.tmp 65) rfl (w.heap.size+1) rfl _ rfl _ T.out rfl rfl (by simp[Value.oneCell']) ?_;intro U G I;have N:Hid (_/\_):=⟨G,I⟩
 clear G I;go_wp2_with fail
 refine bodyPost_ret (v:=.agg #[.int .i64 k,.int .u64 (bj:Int),.int .u32 (ep:Int),.int .u64 0,.int .u32 0,.int .u16 0,.slice none 0 0,.slice none 0 0,.slice none 0 0,.int .u64 0,.int .u64 0,.bool false,.int .u64 0,.slice none 0 0,.slice none 0 0]) (results_cell_row Tryz.results112 _ _ (w.heap.size+1) _ _ _ _ rfl N.out.1 Tryz.underlying78 rfl (dg rfl)) rfl ?_;have J:Below w.heap.size w U:=aJ (aJ ad.out HG.out (Nat.le_of_lt (Nat.lt_trans l.out M.out)) (Nat.le_of_lt l.out)) N.out.2 (Nat.le_trans (Nat.le_of_lt (Nat.lt_trans l.out M.out)) HG.out.size) (Nat.le_succ _);have P:=aq.out.below J;refine⟨(.slice none 0 0),(.slice none 0 0),(.slice none 0 0),(.slice none 0 0),(.slice none 0 0),rfl,?_,J⟩;have S:=P.ok;exact⟨aX _,aX _,aX _,fX.eg _,gj.eg _,kz S⟩
set_option maxHeartbeats 6400000 in
set_option maxRecDepth 20000 in
theorem ES(a i:Lr.R)(g h f c1 d1 m n l c2 d2:Value)(w:World)(F:bA w a g h f c1 d1)(E:bA w i m n l c2 d2)(r:a.dm.length<=1000000/\a.bR.length<=1000000)(q:¬a.kind=i.kind):
 Calls Tryz.prog 111 #[cz a g h f c1 d1,cz i m n l c2 d2] w fun e w'=>e=.returned (.bool false)/\Below w.heap.size w w':=by
 obtain⟨W,s⟩:∃W,W=(w.alloc (aD a g h f c1 d1)).alloc (aD i m n l c2 d2):=⟨_,rfl⟩
 have k:=aj w (aD a g h f c1 d1);have d:=aj (w.alloc (aD a g h f c1 d1)) (aD i m n l c2 d2);have j:=dj w a g h f c1 d1;have b:=dj (w.alloc (aD a g h f c1 d1)) i m n l c2 d2;rw[<-s]at d b;have p:=(d.block _ (lt_of_block j)).trans j;have c:=k.trans (d.mono k.size);have O:=F.below c;have N:=E.below c;have o:(w.alloc (aD a g h f c1 d1)).heap.size=w.heap.size+1:=by simp
 rw[o]at b;obtain⟨q0,q1,q2,q3,q4,q5,q6,q7,q8,q9,D,C,B,A,z⟩:=au p;obtain⟨r0,r1,r2,r3,r4,Z,Y,X,V,U,y,x,v,u,t⟩:=au b;obtain⟨p1,s1,p2,s2,p3,s3,p4,s4,p5,s5,rfl,rfl,rfl,rfl,rfl⟩:=ax F;obtain⟨p6,s6,p7,s7,p8,s8,p9,s9,pa,sa,rfl,rfl,rfl,rfl,rfl⟩:=ax E;unfold aD at s;obtain⟨k1,M,av,I,ae,K,ai,ao,Q,ab,al,aA,T,ag,ay⟩:=a;obtain⟨k2,L,ar,H,ad,J,ah,an,P,aa,ak,az,S,af,aw⟩:=i;dsimp only at*
 have G:=Lib.hid c;have HA:=Lib.hid O;have HB:=Lib.hid N;have HL:=Lib.hid r;clear k d j b p c O N F E o r;have aq:(k1==k2)=false:=by rw[beq_eq_false_iff_ne];exact q
 clear q;clear q1 r1 q2 r2 q3 r3 q4 r4 q5 Z q6 Y q7 X q8 V q9 U D y C x B v A u z t;go_enter Tryz.func111,Tryz.ntmps111;go_upto_region 0 with(fail)
 iterate 7 go_step
 rw[<-s];clear s;go_wp2_with fail
 go_ret;exact⟨rfl,G.out⟩
set_option maxHeartbeats 6400000 in
set_option maxRecDepth 20000 in
theorem ER(a f:Lr.R)(h i g c1 d1 m n l c2 d2:Value)(w:World)(I:bA w a h i g c1 d1)(H:bA w f m n l c2 d2)(t:a.dm.length<=1000000/\a.bR.length<=1000000)(u:a.kind=f.kind)(s:¬a.bj=f.bj):
 Calls Tryz.prog 111 #[cz a h i g c1 d1,cz f m n l c2 d2] w fun e w'=>e=.returned (.bool false)/\Below w.heap.size w w':=by
 obtain⟨W,v⟩:∃W,W=(w.alloc (aD a h i g c1 d1)).alloc (aD f m n l c2 d2):=⟨_,rfl⟩
 have k:=aj w (aD a h i g c1 d1);have d:=aj (w.alloc (aD a h i g c1 d1)) (aD f m n l c2 d2);have j:=dj w a h i g c1 d1;have b:=dj (w.alloc (aD a h i g c1 d1)) f m n l c2 d2;rw[<-v]at d b;have r:=(d.block _ (lt_of_block j)).trans j;have c:=k.trans (d.mono k.size);have Q:=I.below c;have P:=H.below c;have q:(w.alloc (aD a h i g c1 d1)).heap.size=w.heap.size+1:=by simp
 rw[q]at b;obtain⟨q0,q1,q2,q3,q4,q5,q6,q7,q8,q9,G,F,E,D,C⟩:=au r;obtain⟨r0,r1,r2,r3,r4,r5,r6,Z,Y,X,B,A,z,y,x⟩:=au b;obtain⟨p1,s1,p2,s2,p3,s3,p4,s4,p5,s5,rfl,rfl,rfl,rfl,rfl⟩:=ax I;obtain⟨p6,s6,p7,s7,p8,s8,p9,s9,pa,sa,rfl,rfl,rfl,rfl,rfl⟩:=ax H;unfold aD at v;obtain⟨k1,p,av,M,ae,O,ai,ao,T,ab,al,aA,V,ag,ay⟩:=a;obtain⟨k2,o,ar,L,ad,N,ah,an,S,aa,ak,az,U,af,aw⟩:=f;dsimp only at*
 have K:=Lib.hid c;have HA:=Lib.hid Q;have HB:=Lib.hid P;have HL:=Lib.hid t;clear k d j b r c Q P I H q t;have aq:(k1==k2)=true:=by rw[u];simp
 clear u;have J:((p:Int)==(o:Int))=false:=by rw[du,decide_eq_false s]
 clear s;clear q2 r2 q3 r3 q4 r4 q5 r5 q6 r6 q7 Z q8 Y q9 X G B F A E z D y C x;go_enter Tryz.func111,Tryz.ntmps111;go_upto_region 0 with(fail)
 iterate 7 go_step
 rw[<-v];clear v;go_wp2_with fail
 go_ret;exact⟨rfl,K.out⟩
set_option maxHeartbeats 6400000 in
set_option maxRecDepth 20000 in
theorem EP(a b:Lr.R)(h i g c1 d1 m n l c2 d2:Value)(w:World)(J:bA w a h i g c1 d1)(I:bA w b m n l c2 d2)(t:a.dm.length<=1000000/\a.bR.length<=1000000)(v:a.kind=b.kind)(u:a.bj=b.bj)(s:¬a.ai=b.ai):
 Calls Tryz.prog 111 #[cz a h i g c1 d1,cz b m n l c2 d2] w fun e w'=>e=.returned (.bool false)/\Below w.heap.size w w':=by
 obtain⟨W,x⟩:∃W,W=(w.alloc (aD a h i g c1 d1)).alloc (aD b m n l c2 d2):=⟨_,rfl⟩
 have k:=aj w (aD a h i g c1 d1);have f:=aj (w.alloc (aD a h i g c1 d1)) (aD b m n l c2 d2);have j:=dj w a h i g c1 d1;have c:=dj (w.alloc (aD a h i g c1 d1)) b m n l c2 d2;rw[<-x]at f c;have r:=(f.block _ (lt_of_block j)).trans j;have d:=k.trans (f.mono k.size);have U:=J.below d;have T:=I.below d;have q:(w.alloc (aD a h i g c1 d1)).heap.size=w.heap.size+1:=by simp
 rw[q]at c;obtain⟨q0,q1,q2,q3,q4,q5,q6,q7,q8,q9,H,G,F,E,D⟩:=au r;obtain⟨r0,r1,r2,r3,r4,r5,r6,r7,r8,r9,C,B,A,z,y⟩:=au c;obtain⟨p1,s1,p2,s2,p3,s3,p4,s4,p5,s5,rfl,rfl,rfl,rfl,rfl⟩:=ax J;obtain⟨p6,s6,p7,s7,p8,s8,p9,s9,pa,sa,rfl,rfl,rfl,rfl,rfl⟩:=ax I;unfold aD at x;obtain⟨k1,p,M,P,af,S,al,ar,Y,ad,ao,aA,aa,ah,ay⟩:=a;obtain⟨k2,o,L,O,ae,Q,ak,aq,X,ab,an,az,Z,ag,aw⟩:=b;dsimp only at*
 have N:=Lib.hid d;have HA:=Lib.hid U;have HB:=Lib.hid T;have HL:=Lib.hid t;clear k f j c r d U T J I q t;have av:(k1==k2)=true:=by rw[v];simp
 clear v;have K:((p:Int)==(o:Int))=true:=by rw[du,decide_eq_true u]
 clear u;have V:((M:Int)==(L:Int))=false:=by rw[du,decide_eq_false s]
 clear s;clear q3 r3 q4 r4 q5 r5 q6 r6 q7 r7 q8 r8 q9 r9 H C G B F A E z D y;go_enter Tryz.func111,Tryz.ntmps111;go_upto_region 0 with(fail)
 iterate 7 go_step
 rw[<-x];clear x;go_wp2_with fail
 go_ret;exact⟨rfl,N.out⟩
set_option maxHeartbeats 6400000 in
set_option maxRecDepth 20000 in
theorem EO(a b:Lr.R)(h i g c1 d1 o p l c2 d2:Value)(w:World)(M:bA w a h i g c1 d1)(L:bA w b o p l c2 d2)(v:a.dm.length<=1000000/\a.bR.length<=1000000)(z:a.kind=b.kind)(y:a.bj=b.bj)(x:a.ai=b.ai)(u:¬a.bs=b.bs):
 Calls Tryz.prog 111 #[cz a h i g c1 d1,cz b o p l c2 d2] w fun e w'=>e=.returned (.bool false)/\Below w.heap.size w w':=by
 obtain⟨W,A⟩:∃W,W=(w.alloc (aD a h i g c1 d1)).alloc (aD b o p l c2 d2):=⟨_,rfl⟩
 have k:=aj w (aD a h i g c1 d1);have f:=aj (w.alloc (aD a h i g c1 d1)) (aD b o p l c2 d2);have j:=dj w a h i g c1 d1;have c:=dj (w.alloc (aD a h i g c1 d1)) b o p l c2 d2;rw[<-A]at f c;have t:=(f.block _ (lt_of_block j)).trans j;have d:=k.trans (f.mono k.size);have X:=M.below d;have V:=L.below d;have s:(w.alloc (aD a h i g c1 d1)).heap.size=w.heap.size+1:=by simp
 rw[s]at c;obtain⟨q0,q1,q2,q3,q4,q5,q6,q7,q8,q9,K,J,I,H,G⟩:=au t;obtain⟨r0,r1,r2,r3,r4,r5,r6,r7,r8,r9,F,E,D,C,B⟩:=au c;obtain⟨p1,s1,p2,s2,p3,s3,p4,s4,p5,s5,rfl,rfl,rfl,rfl,rfl⟩:=ax M;obtain⟨p6,s6,p7,s7,p8,s8,p9,s9,pa,sa,rfl,rfl,rfl,rfl,rfl⟩:=ax L;unfold aD at A;obtain⟨k1,r,Q,n,ah,U,ao,aw,aa,af,ar,aC,ad,al,aA⟩:=a;obtain⟨k2,q,P,m,ag,T,an,av,Z,ae,aq,aB,ab,ak,az⟩:=b;dsimp only at*
 have S:=Lib.hid d;have HA:=Lib.hid X;have HB:=Lib.hid V;have HL:=Lib.hid v;clear k f j c t d X V M L s v;have ay:(k1==k2)=true:=by rw[z];simp
 clear z;have O:((r:Int)==(q:Int))=true:=by rw[du,decide_eq_true y]
 clear y;have Y:((Q:Int)==(P:Int))=true:=by rw[du,decide_eq_true x]
 clear x;have N:((n:Int)==(m:Int))=false:=by rw[du,decide_eq_false u]
 clear u;clear q4 r4 q5 r5 q6 r6 q7 r7 q8 r8 q9 r9 K F J E I D H C G B;go_enter Tryz.func111,Tryz.ntmps111;go_upto_region 0 with(fail)
 iterate 7 go_step
 rw[<-A];clear A;go_wp2_with fail
 go_ret;exact⟨rfl,S.out⟩
set_option maxHeartbeats 6400000 in
set_option maxRecDepth 20000 in
theorem EN(a b:Lr.R)(h i g c1 d1 o p l c2 d2:Value)(w:World)(P:bA w a h i g c1 d1)(O:bA w b o p l c2 d2)(v:a.dm.length<=1000000/\a.bR.length<=1000000)(A:a.kind=b.kind)(z:a.bj=b.bj)(y:a.ai=b.ai)(x:a.bs=b.bs)(u:¬a.aA=b.aA):
 Calls Tryz.prog 111 #[cz a h i g c1 d1,cz b o p l c2 d2] w fun e w'=>e=.returned (.bool false)/\Below w.heap.size w w':=by
 obtain⟨W,B⟩:∃W,W=(w.alloc (aD a h i g c1 d1)).alloc (aD b o p l c2 d2):=⟨_,rfl⟩
 have k:=aj w (aD a h i g c1 d1);have f:=aj (w.alloc (aD a h i g c1 d1)) (aD b o p l c2 d2);have j:=dj w a h i g c1 d1;have c:=dj (w.alloc (aD a h i g c1 d1)) b o p l c2 d2;rw[<-B]at f c;have t:=(f.block _ (lt_of_block j)).trans j;have d:=k.trans (f.mono k.size);have hA:=P.below d;have Z:=O.below d;have s:(w.alloc (aD a h i g c1 d1)).heap.size=w.heap.size+1:=by simp
 rw[s]at c;obtain⟨q0,q1,q2,q3,q4,q5,q6,q7,q8,q9,L,K,J,I,H⟩:=au t;obtain⟨r0,r1,r2,r3,r4,r5,r6,r7,r8,r9,G,F,E,D,C⟩:=au c;obtain⟨p1,s1,p2,s2,p3,s3,p4,s4,p5,s5,rfl,rfl,rfl,rfl,rfl⟩:=ax P;obtain⟨p6,s6,p7,s7,p8,s8,p9,s9,pa,sa,rfl,rfl,rfl,rfl,rfl⟩:=ax O;unfold aD at B;obtain⟨k1,r,U,n,N,Y,aq,ay,ae,ak,av,aF,ag,an,aC⟩:=a;obtain⟨k2,q,T,m,M,X,ao,aw,ad,ah,ar,aE,af,al,aB⟩:=b;dsimp only at*
 have V:=Lib.hid d;have HA:=Lib.hid hA;have HB:=Lib.hid Z;have HL:=Lib.hid v;clear k f j c t d hA Z P O s v;have az:(k1==k2)=true:=by rw[A];simp
 clear A;have S:((r:Int)==(q:Int))=true:=by rw[du,decide_eq_true z]
 clear z;have ab:((U:Int)==(T:Int))=true:=by rw[du,decide_eq_true y]
 clear y;have Q:((n:Int)==(m:Int))=true:=by rw[du,decide_eq_true x]
 clear x;have aa:((N:Int)==(M:Int))=false:=by rw[du,decide_eq_false u]
 clear u;clear q5 r5 q6 r6 q7 r7 q8 r8 q9 r9 L G K F J E I D H C;go_enter Tryz.func111,Tryz.ntmps111;go_upto_region 0 with(fail)
 iterate 7 go_step
 rw[<-B];clear B;go_wp2_with fail
 go_ret;exact⟨rfl,V.out⟩
set_option maxHeartbeats 6400000 in
set_option maxRecDepth 20000 in
theorem EM(a b:Lr.R)(h i g c1 d1 q r l c2 d2:Value)(w:World)(T:bA w a h i g c1 d1)(S:bA w b q r l c2 d2)(y:a.dm.length<=1000000/\a.bR.length<=1000000)(D:a.kind=b.kind)(C:a.bj=b.bj)(B:a.ai=b.ai)(A:a.bs=b.bs)(z:a.aA=b.aA)(x:¬a.off=b.off):
 Calls Tryz.prog 111 #[cz a h i g c1 d1,cz b q r l c2 d2] w fun e w'=>e=.returned (.bool false)/\Below w.heap.size w w':=by
 obtain⟨W,E⟩:∃W,W=(w.alloc (aD a h i g c1 d1)).alloc (aD b q r l c2 d2):=⟨_,rfl⟩
 have k:=aj w (aD a h i g c1 d1);have f:=aj (w.alloc (aD a h i g c1 d1)) (aD b q r l c2 d2);have j:=dj w a h i g c1 d1;have c:=dj (w.alloc (aD a h i g c1 d1)) b q r l c2 d2;rw[<-E]at f c;have v:=(f.block _ (lt_of_block j)).trans j;have d:=k.trans (f.mono k.size);have hA:=T.below d;have hB:=S.below d;have u:(w.alloc (aD a h i g c1 d1)).heap.size=w.heap.size+1:=by simp
 rw[u]at c;obtain⟨q0,q1,q2,q3,q4,q5,q6,q7,q8,q9,O,N,M,L,K⟩:=au v;obtain⟨r0,r1,r2,r3,r4,r5,r6,r7,r8,r9,J,I,H,G,F⟩:=au c;obtain⟨p1,s1,p2,s2,p3,s3,p4,s4,p5,s5,rfl,rfl,rfl,rfl,rfl⟩:=ax T;obtain⟨p6,s6,p7,s7,p8,s8,p9,s9,pa,sa,rfl,rfl,rfl,rfl,rfl⟩:=ax S;unfold aD at E;obtain⟨k1,t,Z,n,Q,p,ar,az,af,al,aw,aG,ah,ao,aE⟩:=a;obtain⟨k2,s,Y,m,P,o,aq,ay,ae,ak,av,aF,ag,an,aC⟩:=b;dsimp only at*
 have aa:=Lib.hid d;have HA:=Lib.hid hA;have HB:=Lib.hid hB;have HL:=Lib.hid y;clear k f j c v d hA hB T S u y;have aB:(k1==k2)=true:=by rw[D];simp
 clear D;have X:((t:Int)==(s:Int))=true:=by rw[du,decide_eq_true C]
 clear C;have ad:((Z:Int)==(Y:Int))=true:=by rw[du,decide_eq_true B]
 clear B;have U:((n:Int)==(m:Int))=true:=by rw[du,decide_eq_true A]
 clear A;have ab:((Q:Int)==(P:Int))=true:=by rw[du,decide_eq_true z]
 clear z;have V:((p:Int)==(o:Int))=false:=by rw[du,decide_eq_false x]
 clear x;clear q6 r6 q7 r7 q8 r8 q9 r9 O J N I M H L G K F;go_enter Tryz.func111,Tryz.ntmps111;go_upto_region 0 with(fail)
 iterate 7 go_step
 rw[<-E];clear E;go_wp2_with fail
 go_ret;exact⟨rfl,aa.out⟩
set_option maxHeartbeats 6400000 in
set_option maxRecDepth 20000 in
theorem EL(a b:Lr.R)(h i g c1 d1 s t l c2 d2:Value)(w:World)(X:bA w a h i g c1 d1)(V:bA w b s t l c2 d2)(A:a.dm.length<=1000000/\a.bR.length<=1000000)(G:a.kind=b.kind)(F:a.bj=b.bj)(E:a.ai=b.ai)(D:a.bs=b.bs)(C:a.aA=b.aA)(B:a.off=b.off)(z:¬a.old=b.old):
 Calls Tryz.prog 111 #[cz a h i g c1 d1,cz b s t l c2 d2] w fun e w'=>e=.returned (.bool false)/\Below w.heap.size w w':=by
 obtain⟨W,H⟩:∃W,W=(w.alloc (aD a h i g c1 d1)).alloc (aD b s t l c2 d2):=⟨_,rfl⟩
 have k:=aj w (aD a h i g c1 d1);have f:=aj (w.alloc (aD a h i g c1 d1)) (aD b s t l c2 d2);have j:=dj w a h i g c1 d1;have c:=dj (w.alloc (aD a h i g c1 d1)) b s t l c2 d2;rw[<-H]at f c;have y:=(f.block _ (lt_of_block j)).trans j;have d:=k.trans (f.mono k.size);have hA:=X.below d;have hB:=V.below d;have x:(w.alloc (aD a h i g c1 d1)).heap.size=w.heap.size+1:=by simp
 rw[x]at c;obtain⟨q0,q1,q2,q3,q4,q5,q6,q7,q8,q9,S,Q,P,O,N⟩:=au y;obtain⟨r0,r1,r2,r3,r4,r5,r6,r7,r8,r9,M,L,K,J,I⟩:=au c;obtain⟨p1,s1,p2,s2,p3,s3,p4,s4,p5,s5,rfl,rfl,rfl,rfl,rfl⟩:=ax X;obtain⟨p6,s6,p7,s7,p8,s8,p9,s9,pa,sa,rfl,rfl,rfl,rfl,rfl⟩:=ax V;unfold aD at H;obtain⟨k1,v,ad,n,U,r,p,aC,al,ar,az,aJ,ao,aw,aH⟩:=a;obtain⟨k2,u,ab,m,T,q,o,aB,ak,aq,ay,aI,an,av,aF⟩:=b;dsimp only at*
 have ae:=Lib.hid d;have HA:=Lib.hid hA;have HB:=Lib.hid hB;have HL:=Lib.hid A;clear k f j c y d hA hB X V x A;have aE:(k1==k2)=true:=by rw[G];simp
 clear G;have aa:((v:Int)==(u:Int))=true:=by rw[du,decide_eq_true F]
 clear F;have ah:((ad:Int)==(ab:Int))=true:=by rw[du,decide_eq_true E]
 clear E;have Y:((n:Int)==(m:Int))=true:=by rw[du,decide_eq_true D]
 clear D;have ag:((U:Int)==(T:Int))=true:=by rw[du,decide_eq_true C]
 clear C;have Z:((r:Int)==(q:Int))=true:=by rw[du,decide_eq_true B]
 clear B;have af:Hid (decide (p=o)=false):=decide_eq_false z;clear z;clear q7 r7 q8 r8 q9 r9 S M Q L P K O J N I;go_enter Tryz.func111,Tryz.ntmps111;go_upto_region 0 with(fail)
 iterate 7 go_step
 rw[<-H];clear H;go_wp2_with fail
 refine(aG _ _ p o _ HA.out.old HB.out.old).mono ?_;rintro e w'⟨rfl,rfl⟩;rw[af.out];go_wp2_with fail
 go_ret;exact⟨rfl,ae.out⟩
set_option maxHeartbeats 6400000 in
set_option maxRecDepth 20000 in
theorem EK(a b:Lr.R)(h i g c1 d1 s v l c2 d2:Value)(w:World)(h1:bA w a h i g c1 d1)(Z:bA w b s v l c2 d2)(C:a.dm.length<=1000000/\a.bR.length<=1000000)(J:a.kind=b.kind)(I:a.bj=b.bj)(H:a.ai=b.ai)(G:a.bs=b.bs)(F:a.aA=b.aA)(E:a.off=b.off)(D:a.old=b.old)(B:¬a.new=b.new):
 Calls Tryz.prog 111 #[cz a h i g c1 d1,cz b s v l c2 d2] w fun e w'=>e=.returned (.bool false)/\Below w.heap.size w w':=by
 obtain⟨W,K⟩:∃W,W=(w.alloc (aD a h i g c1 d1)).alloc (aD b s v l c2 d2):=⟨_,rfl⟩
 have k:=aj w (aD a h i g c1 d1);have f:=aj (w.alloc (aD a h i g c1 d1)) (aD b s v l c2 d2);have j:=dj w a h i g c1 d1;have c:=dj (w.alloc (aD a h i g c1 d1)) b s v l c2 d2;rw[<-K]at f c;have A:=(f.block _ (lt_of_block j)).trans j;have d:=k.trans (f.mono k.size);have hA:=h1.below d;have hB:=Z.below d;have z:(w.alloc (aD a h i g c1 d1)).heap.size=w.heap.size+1:=by simp
 rw[z]at c;obtain⟨q0,q1,q2,q3,q4,q5,q6,q7,q8,q9,V,U,T,S,Q⟩:=au A;obtain⟨r0,r1,r2,r3,r4,r5,r6,r7,r8,r9,P,O,N,M,L⟩:=au c;obtain⟨p1,s1,p2,s2,p3,s3,p4,s4,p5,s5,rfl,rfl,rfl,rfl,rfl⟩:=ax h1;obtain⟨p6,s6,p7,s7,p8,s8,p9,s9,pa,sa,rfl,rfl,rfl,rfl,rfl⟩:=ax Z;unfold aD at K;obtain⟨k1,y,af,n,Y,r,p,u,aq,ay,aE,aK,av,aB,aI⟩:=a;obtain⟨k2,x,ae,m,X,q,o,t,ao,aw,aC,aJ,ar,az,aH⟩:=b;dsimp only at*
 have ag:=Lib.hid d;have HA:=Lib.hid hA;have HB:=Lib.hid hB;have HL:=Lib.hid C;clear k f j c A d hA hB h1 Z z C;have aF:(k1==k2)=true:=by rw[J];simp
 clear J;have ad:((y:Int)==(x:Int))=true:=by rw[du,decide_eq_true I]
 clear I;have an:((af:Int)==(ae:Int))=true:=by rw[du,decide_eq_true H]
 clear H;have aa:((n:Int)==(m:Int))=true:=by rw[du,decide_eq_true G]
 clear G;have al:((Y:Int)==(X:Int))=true:=by rw[du,decide_eq_true F]
 clear F;have ab:((r:Int)==(q:Int))=true:=by rw[du,decide_eq_true E]
 clear E;have ah:Hid (decide (p=o)=true):=decide_eq_true D;clear D;have ak:Hid (decide (u=t)=false):=decide_eq_false B;clear B;clear q8 r8 q9 r9 V P U O T N S M Q L;go_enter Tryz.func111,Tryz.ntmps111;go_upto_region 0 with(fail)
 iterate 7 go_step
 rw[<-K];clear K;go_wp2_with fail
 refine(aG _ _ p o _ HA.out.old HB.out.old).mono ?_;rintro e w'⟨rfl,rfl⟩;rw[ah.out];go_wp2_with fail
 refine(aG _ _ u t _ HA.out.new HB.out.new).mono ?_;rintro e w'⟨rfl,rfl⟩;rw[ak.out];go_wp2_with fail
 go_ret;exact⟨rfl,ag.out⟩
set_option maxHeartbeats 6400000 in
set_option maxRecDepth 20000 in
theorem EJ(a b:Lr.R)(h i g c1 d1 u y n c2 d2:Value)(w:World)(h1:bA w a h i g c1 d1)(h2:bA w b u y n c2 d2)(E:a.dm.length<=1000000/\a.bR.length<=1000000)(M:a.kind=b.kind)(L:a.bj=b.bj)(K:a.ai=b.ai)(J:a.bs=b.bs)(I:a.aA=b.aA)(H:a.off=b.off)(G:a.old=b.old)(F:a.new=b.new)(D:¬a.bD=b.bD):
 Calls Tryz.prog 111 #[cz a h i g c1 d1,cz b u y n c2 d2] w fun e w'=>e=.returned (.bool false)/\Below w.heap.size w w':=by
 obtain⟨W,N⟩:∃W,W=(w.alloc (aD a h i g c1 d1)).alloc (aD b u y n c2 d2):=⟨_,rfl⟩
 have k:=aj w (aD a h i g c1 d1);have f:=aj (w.alloc (aD a h i g c1 d1)) (aD b u y n c2 d2);have j:=dj w a h i g c1 d1;have c:=dj (w.alloc (aD a h i g c1 d1)) b u y n c2 d2;rw[<-N]at f c;have C:=(f.block _ (lt_of_block j)).trans j;have d:=k.trans (f.mono k.size);have hA:=h1.below d;have hB:=h2.below d;have B:(w.alloc (aD a h i g c1 d1)).heap.size=w.heap.size+1:=by simp
 rw[B]at c;obtain⟨q0,q1,q2,q3,q4,q5,q6,q7,q8,q9,Z,Y,X,V,U⟩:=au C;obtain⟨r0,r1,r2,r3,r4,r5,r6,r7,r8,r9,T,S,Q,P,O⟩:=au c;obtain⟨p1,s1,p2,s2,p3,s3,p4,s4,p5,s5,rfl,rfl,rfl,rfl,rfl⟩:=ax h1;obtain⟨p6,s6,p7,s7,p8,s8,p9,s9,pa,sa,rfl,rfl,rfl,rfl,rfl⟩:=ax h2;unfold aD at N;obtain⟨k1,A,ah,p,ab,t,r,x,m,az,aF,aL,aw,aC,aJ⟩:=a;obtain⟨k2,z,ag,o,aa,s,q,v,l,ay,aE,aK,av,aB,aI⟩:=b;dsimp only at*
 have ak:=Lib.hid d;have HA:=Lib.hid hA;have HB:=Lib.hid hB;have HL:=Lib.hid E;clear k f j c C d hA hB h1 h2 B E;have aH:(k1==k2)=true:=by rw[M];simp
 clear M;have af:((A:Int)==(z:Int))=true:=by rw[du,decide_eq_true L]
 clear L;have ar:((ah:Int)==(ag:Int))=true:=by rw[du,decide_eq_true K]
 clear K;have ad:((p:Int)==(o:Int))=true:=by rw[du,decide_eq_true J]
 clear J;have aq:((ab:Int)==(aa:Int))=true:=by rw[du,decide_eq_true I]
 clear I;have ae:((t:Int)==(s:Int))=true:=by rw[du,decide_eq_true H]
 clear H;have an:Hid (decide (r=q)=true):=decide_eq_true G;clear G;have ao:Hid (decide (x=v)=true):=decide_eq_true F;clear F;have al:Hid (decide (m=l)=false):=decide_eq_false D;clear D;clear q9 r9 Z T Y S X Q V P U O;go_enter Tryz.func111,Tryz.ntmps111;go_upto_region 0 with(fail)
 iterate 7 go_step
 rw[<-N];clear N;go_wp2_with fail
 refine(aG _ _ r q _ HA.out.old HB.out.old).mono ?_;rintro e w'⟨rfl,rfl⟩;rw[an.out];go_wp2_with fail
 refine(aG _ _ x v _ HA.out.new HB.out.new).mono ?_;rintro e w'⟨rfl,rfl⟩;rw[ao.out];go_wp2_with fail
 refine(aG _ _ m l _ HA.out.bD HB.out.bD).mono ?_;rintro e w'⟨rfl,rfl⟩;rw[al.out];go_wp2_with fail
 go_ret;exact⟨rfl,ak.out⟩
set_option maxHeartbeats 6400000 in
set_option maxRecDepth 20000 in
theorem EI(a b:Lr.R)(h i g c1 d1 u y n c2 d2:Value)(w:World)(h1:bA w a h i g c1 d1)(h2:bA w b u y n c2 d2)(E:a.dm.length<=1000000/\a.bR.length<=1000000)(N:a.kind=b.kind)(M:a.bj=b.bj)(L:a.ai=b.ai)(K:a.bs=b.bs)(J:a.aA=b.aA)(I:a.off=b.off)(H:a.old=b.old)(G:a.new=b.new)(F:a.bD=b.bD)(D:¬a.prev=b.prev):
 Calls Tryz.prog 111 #[cz a h i g c1 d1,cz b u y n c2 d2] w fun e w'=>e=.returned (.bool false)/\Below w.heap.size w w':=by
 obtain⟨W,O⟩:∃W,W=(w.alloc (aD a h i g c1 d1)).alloc (aD b u y n c2 d2):=⟨_,rfl⟩
 have k:=aj w (aD a h i g c1 d1);have f:=aj (w.alloc (aD a h i g c1 d1)) (aD b u y n c2 d2);have j:=dj w a h i g c1 d1;have c:=dj (w.alloc (aD a h i g c1 d1)) b u y n c2 d2;rw[<-O]at f c;have C:=(f.block _ (lt_of_block j)).trans j;have d:=k.trans (f.mono k.size);have hA:=h1.below d;have hB:=h2.below d;have B:(w.alloc (aD a h i g c1 d1)).heap.size=w.heap.size+1:=by simp
 rw[B]at c;obtain⟨q0,q1,q2,q3,q4,q5,q6,q7,q8,q9,aa,Z,Y,X,V⟩:=au C;obtain⟨r0,r1,r2,r3,r4,r5,r6,r7,r8,r9,U,T,S,Q,P⟩:=au c;obtain⟨p1,s1,p2,s2,p3,s3,p4,s4,p5,s5,rfl,rfl,rfl,rfl,rfl⟩:=ax h1;obtain⟨p6,s6,p7,s7,p8,s8,p9,s9,pa,sa,rfl,rfl,rfl,rfl,rfl⟩:=ax h2;unfold aD at O;obtain⟨k1,A,an,p,af,t,r,x,m,ad,aI,aN,aC,aF,aL⟩:=a;obtain⟨k2,z,al,o,ae,s,q,v,l,ab,aH,aM,aB,aE,aK⟩:=b;dsimp only at*
 have ao:=Lib.hid d;have HA:=Lib.hid hA;have HB:=Lib.hid hB;have HL:=Lib.hid E;clear k f j c C d hA hB h1 h2 B E;have aJ:(k1==k2)=true:=by rw[N];simp
 clear N;have ak:((A:Int)==(z:Int))=true:=by rw[du,decide_eq_true M]
 clear M;have az:((an:Int)==(al:Int))=true:=by rw[du,decide_eq_true L]
 clear L;have ag:((p:Int)==(o:Int))=true:=by rw[du,decide_eq_true K]
 clear K;have ay:((af:Int)==(ae:Int))=true:=by rw[du,decide_eq_true J]
 clear J;have ah:((t:Int)==(s:Int))=true:=by rw[du,decide_eq_true I]
 clear I;have ar:Hid (decide (r=q)=true):=decide_eq_true H;clear H;have av:Hid (decide (x=v)=true):=decide_eq_true G;clear G;have aq:Hid (decide (m=l)=true):=decide_eq_true F;clear F;have aw:((ad:Int)==(ab:Int))=false:=by rw[du,decide_eq_false D]
 clear D;clear aa U Z T Y S X Q V P;go_enter Tryz.func111,Tryz.ntmps111;go_upto_region 0 with(fail)
 iterate 7 go_step
 rw[<-O];clear O;go_wp2_with fail
 refine(aG _ _ r q _ HA.out.old HB.out.old).mono ?_;rintro e w'⟨rfl,rfl⟩;rw[ar.out];go_wp2_with fail
 refine(aG _ _ x v _ HA.out.new HB.out.new).mono ?_;rintro e w'⟨rfl,rfl⟩;rw[av.out];go_wp2_with fail
 refine(aG _ _ m l _ HA.out.bD HB.out.bD).mono ?_;rintro e w'⟨rfl,rfl⟩;rw[aq.out];go_wp2_with fail
 go_ret;exact⟨rfl,ao.out⟩
set_option maxHeartbeats 6400000 in
set_option maxRecDepth 20000 in
theorem Db(a b:Lr.R)(h i g c1 d1 u y n c2 d2:Value)(w:World)(h1:bA w a h i g c1 d1)(h2:bA w b u y n c2 d2)(E:a.dm.length<=1000000/\a.bR.length<=1000000)(O:a.kind=b.kind)(N:a.bj=b.bj)(M:a.ai=b.ai)(L:a.bs=b.bs)(K:a.aA=b.aA)(J:a.off=b.off)(I:a.old=b.old)(H:a.new=b.new)(G:a.bD=b.bD)(F:a.prev=b.prev)(D:¬a.next=b.next):
 Calls Tryz.prog 111 #[cz a h i g c1 d1,cz b u y n c2 d2] w fun e w'=>e=.returned (.bool false)/\Below w.heap.size w w':=by
 obtain⟨W,P⟩:∃W,W=(w.alloc (aD a h i g c1 d1)).alloc (aD b u y n c2 d2):=⟨_,rfl⟩
 have k:=aj w (aD a h i g c1 d1);have f:=aj (w.alloc (aD a h i g c1 d1)) (aD b u y n c2 d2);have j:=dj w a h i g c1 d1;have c:=dj (w.alloc (aD a h i g c1 d1)) b u y n c2 d2;rw[<-P]at f c;have C:=(f.block _ (lt_of_block j)).trans j;have d:=k.trans (f.mono k.size);have hA:=h1.below d;have hB:=h2.below d;have B:(w.alloc (aD a h i g c1 d1)).heap.size=w.heap.size+1:=by simp
 rw[B]at c;obtain⟨q0,q1,q2,q3,q4,q5,q6,q7,q8,q9,aI,Z,Y,X,V⟩:=au C;obtain⟨r0,r1,r2,r3,r4,r5,r6,r7,r8,r9,aH,U,T,S,Q⟩:=au c;obtain⟨p1,s1,p2,s2,p3,s3,p4,s4,p5,s5,rfl,rfl,rfl,rfl,rfl⟩:=ax h1;obtain⟨p6,s6,p7,s7,p8,s8,p9,s9,pa,sa,rfl,rfl,rfl,rfl,rfl⟩:=ax h2;unfold aD at P;obtain⟨k1,A,ao,p,ae,t,r,x,m,ab,ag,aP,aF,aK,aN⟩:=a;obtain⟨k2,z,an,o,ad,s,q,v,l,aa,af,aO,aE,aJ,aM⟩:=b;dsimp only at*
 have aq:=Lib.hid d;have HA:=Lib.hid hA;have HB:=Lib.hid hB;have HL:=Lib.hid E;clear k f j c C d hA hB h1 h2 B E;have aL:(k1==k2)=true:=by rw[O];simp
 clear O;have al:((A:Int)==(z:Int))=true:=by rw[du,decide_eq_true N]
 clear N;have aC:((ao:Int)==(an:Int))=true:=by rw[du,decide_eq_true M]
 clear M;have ah:((p:Int)==(o:Int))=true:=by rw[du,decide_eq_true L]
 clear L;have az:((ae:Int)==(ad:Int))=true:=by rw[du,decide_eq_true K]
 clear K;have ak:((t:Int)==(s:Int))=true:=by rw[du,decide_eq_true J]
 clear J;have av:Hid (decide (r=q)=true):=decide_eq_true I;clear I;have aw:Hid (decide (x=v)=true):=decide_eq_true H;clear H;have ar:Hid (decide (m=l)=true):=decide_eq_true G;clear G;have ay:((ab:Int)==(aa:Int))=true:=by rw[du,decide_eq_true F]
 clear F;have aB:((ag:Int)==(af:Int))=false:=by rw[du,decide_eq_false D]
 clear D;clear Z U Y T X S V Q;go_enter Tryz.func111,Tryz.ntmps111;go_upto_region 0 with(fail)
 iterate 7 go_step
 rw[<-P];clear P;go_wp2_with fail
 refine(aG _ _ r q _ HA.out.old HB.out.old).mono ?_;rintro e w'⟨rfl,rfl⟩;rw[av.out];go_wp2_with fail
 refine(aG _ _ x v _ HA.out.new HB.out.new).mono ?_;rintro e w'⟨rfl,rfl⟩;rw[aw.out];go_wp2_with fail
 refine(aG _ _ m l _ HA.out.bD HB.out.bD).mono ?_;rintro e w'⟨rfl,rfl⟩;rw[ar.out];go_wp2_with fail
 go_ret;exact⟨rfl,aq.out⟩
set_option maxHeartbeats 6400000 in
set_option maxRecDepth 20000 in
theorem Da(a b:Lr.R)(h i g c1 d1 v z o c2 d2:Value)(w:World)(h1:bA w a h i g c1 d1)(h2:bA w b v z o c2 d2)(F:a.dm.length<=1000000/\a.bR.length<=1000000)(P:a.kind=b.kind)(O:a.bj=b.bj)(N:a.ai=b.ai)(M:a.bs=b.bs)(L:a.aA=b.aA)(K:a.off=b.off)(J:a.old=b.old)(I:a.new=b.new)(H:a.bD=b.bD)(G:a.prev=b.prev)(j:a.next=b.next)(E:¬a.jE=b.jE):
 Calls Tryz.prog 111 #[cz a h i g c1 d1,cz b v z o c2 d2] w fun e w'=>e=.returned (.bool false)/\Below w.heap.size w w':=by
 obtain⟨W,Q⟩:∃W,W=(w.alloc (aD a h i g c1 d1)).alloc (aD b v z o c2 d2):=⟨_,rfl⟩
 have l:=aj w (aD a h i g c1 d1);have f:=aj (w.alloc (aD a h i g c1 d1)) (aD b v z o c2 d2);have k:=dj w a h i g c1 d1;have c:=dj (w.alloc (aD a h i g c1 d1)) b v z o c2 d2;rw[<-Q]at f c;have D:=(f.block _ (lt_of_block k)).trans k;have d:=l.trans (f.mono l.size);have hA:=h1.below d;have hB:=h2.below d;have C:(w.alloc (aD a h i g c1 d1)).heap.size=w.heap.size+1:=by simp
 rw[C]at c;obtain⟨q0,q1,q2,q3,q4,q5,q6,q7,q8,q9,aM,aL,Y,X,V⟩:=au D;obtain⟨r0,r1,r2,r3,r4,r5,r6,r7,r8,r9,aK,aJ,U,T,S⟩:=au c;obtain⟨p1,s1,p2,s2,p3,s3,p4,s4,p5,s5,rfl,rfl,rfl,rfl,rfl⟩:=ax h1;obtain⟨p6,s6,p7,s7,p8,s8,p9,s9,pa,sa,rfl,rfl,rfl,rfl,rfl⟩:=ax h2;unfold aD at Q;obtain⟨k1,B,an,q,ad,u,s,y,n,aa,af,aq,aI,aO,aR⟩:=a;obtain⟨k2,A,al,p,ab,t,r,x,m,Z,ae,ao,aH,aN,aQ⟩:=b;dsimp only at*
 have ar:=Lib.hid d;have HA:=Lib.hid hA;have HB:=Lib.hid hB;have HL:=Lib.hid F;clear l f k c D d hA hB h1 h2 C F;have aP:(k1==k2)=true:=by rw[P];simp
 clear P;have ak:((B:Int)==(A:Int))=true:=by rw[du,decide_eq_true O]
 clear O;have aE:((an:Int)==(al:Int))=true:=by rw[du,decide_eq_true N]
 clear N;have ag:((q:Int)==(p:Int))=true:=by rw[du,decide_eq_true M]
 clear M;have aB:((ad:Int)==(ab:Int))=true:=by rw[du,decide_eq_true L]
 clear L;have ah:((u:Int)==(t:Int))=true:=by rw[du,decide_eq_true K]
 clear K;have aw:Hid (decide (s=r)=true):=decide_eq_true J;clear J;have ay:Hid (decide (y=x)=true):=decide_eq_true I;clear I;have av:Hid (decide (n=m)=true):=decide_eq_true H;clear H;have az:((aa:Int)==(Z:Int))=true:=by rw[du,decide_eq_true G]
 clear G;have aC:((af:Int)==(ae:Int))=true:=by rw[du,decide_eq_true j]
 clear j;have aF:(aq==ao)=false:=by rw[beq_eq_false_iff_ne];exact E
 clear E;clear Y U X T V S;go_enter Tryz.func111,Tryz.ntmps111;go_upto_region 0 with(fail)
 iterate 7 go_step
 rw[<-Q];clear Q;go_wp2_with fail
 refine(aG _ _ s r _ HA.out.old HB.out.old).mono ?_;rintro e w'⟨rfl,rfl⟩;rw[aw.out];go_wp2_with fail
 refine(aG _ _ y x _ HA.out.new HB.out.new).mono ?_;rintro e w'⟨rfl,rfl⟩;rw[ay.out];go_wp2_with fail
 refine(aG _ _ n m _ HA.out.bD HB.out.bD).mono ?_;rintro e w'⟨rfl,rfl⟩;rw[av.out];go_wp2_with fail
 go_ret;exact⟨rfl,ar.out⟩
set_option maxHeartbeats 6400000 in
set_option maxRecDepth 20000 in
theorem C9(a b:Lr.R)(h i g c1 d1 x A p c2 d2:Value)(w:World)(h1:bA w a h i g c1 d1)(h2:bA w b x A p c2 d2)(G:a.dm.length<=1000000/\a.bR.length<=1000000)(Q:a.kind=b.kind)(P:a.bj=b.bj)(O:a.ai=b.ai)(N:a.bs=b.bs)(M:a.aA=b.aA)(L:a.off=b.off)(K:a.old=b.old)(J:a.new=b.new)(I:a.bD=b.bD)(H:a.prev=b.prev)(k:a.next=b.next)(j:a.jE=b.jE)(F:¬a.bf=b.bf):
 Calls Tryz.prog 111 #[cz a h i g c1 d1,cz b x A p c2 d2] w fun e w'=>e=.returned (.bool false)/\Below w.heap.size w w':=by
 obtain⟨W,S⟩:∃W,W=(w.alloc (aD a h i g c1 d1)).alloc (aD b x A p c2 d2):=⟨_,rfl⟩
 have m:=aj w (aD a h i g c1 d1);have f:=aj (w.alloc (aD a h i g c1 d1)) (aD b x A p c2 d2);have l:=dj w a h i g c1 d1;have c:=dj (w.alloc (aD a h i g c1 d1)) b x A p c2 d2;rw[<-S]at f c;have E:=(f.block _ (lt_of_block l)).trans l;have d:=m.trans (f.mono m.size);have hA:=h1.below d;have hB:=h2.below d;have D:(w.alloc (aD a h i g c1 d1)).heap.size=w.heap.size+1:=by simp
 rw[D]at c;obtain⟨q0,q1,q2,q3,q4,q5,q6,q7,q8,q9,aO,aN,aM,Z,Y⟩:=au E;obtain⟨r0,r1,r2,r3,r4,r5,r6,r7,r8,r9,aL,aK,aJ,X,V⟩:=au c;obtain⟨p1,s1,p2,s2,p3,s3,p4,s4,p5,s5,rfl,rfl,rfl,rfl,rfl⟩:=ax h1;obtain⟨p6,s6,p7,s7,p8,s8,p9,s9,pa,sa,rfl,rfl,rfl,rfl,rfl⟩:=ax h2;unfold aD at S;obtain⟨k1,C,ao,r,ae,v,t,z,o,ab,ag,ar,U,aQ,aT⟩:=a;obtain⟨k2,B,an,q,ad,u,s,y,n,aa,af,aq,T,aP,aS⟩:=b;dsimp only at*
 have av:=Lib.hid d;have HA:=Lib.hid hA;have HB:=Lib.hid hB;have HL:=Lib.hid G;clear m f l c E d hA hB h1 h2 D G;have aR:(k1==k2)=true:=by rw[Q];simp
 clear Q;have al:((C:Int)==(B:Int))=true:=by rw[du,decide_eq_true P]
 clear P;have aH:((ao:Int)==(an:Int))=true:=by rw[du,decide_eq_true O]
 clear O;have ah:((r:Int)==(q:Int))=true:=by rw[du,decide_eq_true N]
 clear N;have aE:((ae:Int)==(ad:Int))=true:=by rw[du,decide_eq_true M]
 clear M;have ak:((v:Int)==(u:Int))=true:=by rw[du,decide_eq_true L]
 clear L;have ay:Hid (decide (t=s)=true):=decide_eq_true K;clear K;have az:Hid (decide (z=y)=true):=decide_eq_true J;clear J;have aw:Hid (decide (o=n)=true):=decide_eq_true I;clear I;have aC:((ab:Int)==(aa:Int))=true:=by rw[du,decide_eq_true H]
 clear H;have aF:((ag:Int)==(af:Int))=true:=by rw[du,decide_eq_true k]
 clear k;have aI:(ar==aq)=true:=by rw[j];simp
 clear j;have aB:((U:Int)==(T:Int))=false:=by rw[du,decide_eq_false F]
 clear F;clear Z X Y V;go_enter Tryz.func111,Tryz.ntmps111;go_upto_region 0 with(fail)
 iterate 7 go_step
 rw[<-S];clear S;go_wp2_with fail
 refine(aG _ _ t s _ HA.out.old HB.out.old).mono ?_;rintro e w'⟨rfl,rfl⟩;rw[ay.out];go_wp2_with fail
 refine(aG _ _ z y _ HA.out.new HB.out.new).mono ?_;rintro e w'⟨rfl,rfl⟩;rw[az.out];go_wp2_with fail
 refine(aG _ _ o n _ HA.out.bD HB.out.bD).mono ?_;rintro e w'⟨rfl,rfl⟩;rw[aw.out];go_wp2_with fail
 go_ret;exact⟨rfl,av.out⟩
set_option maxHeartbeats 6400000 in
set_option maxRecDepth 20000 in
theorem C8(a b:Lr.R)(h i g c1 d1 A D q c2 d2:Value)(w:World)(h1:bA w a h i g c1 d1)(h2:bA w b A D q c2 d2)(J:a.dm.length<=1000000/\a.bR.length<=1000000)(U:a.kind=b.kind)(T:a.bj=b.bj)(S:a.ai=b.ai)(Q:a.bs=b.bs)(P:a.aA=b.aA)(O:a.off=b.off)(N:a.old=b.old)(M:a.new=b.new)(L:a.bD=b.bD)(K:a.prev=b.prev)(l:a.next=b.next)(k:a.jE=b.jE)(j:a.bf=b.bf)(I:¬a.dm=b.dm):
 Calls Tryz.prog 111 #[cz a h i g c1 d1,cz b A D q c2 d2] w fun e w'=>e=.returned (.bool false)/\Below w.heap.size w w':=by
 obtain⟨W,V⟩:∃W,W=(w.alloc (aD a h i g c1 d1)).alloc (aD b A D q c2 d2):=⟨_,rfl⟩
 have n:=aj w (aD a h i g c1 d1);have f:=aj (w.alloc (aD a h i g c1 d1)) (aD b A D q c2 d2);have m:=dj w a h i g c1 d1;have c:=dj (w.alloc (aD a h i g c1 d1)) b A D q c2 d2;rw[<-V]at f c;have H:=(f.block _ (lt_of_block m)).trans m;have d:=n.trans (f.mono n.size);have hA:=h1.below d;have hB:=h2.below d;have G:(w.alloc (aD a h i g c1 d1)).heap.size=w.heap.size+1:=by simp
 rw[G]at c;obtain⟨q0,q1,q2,q3,q4,q5,q6,q7,q8,q9,aU,aT,aS,aR,ad⟩:=au H;obtain⟨r0,r1,r2,r3,r4,r5,r6,r7,r8,r9,aQ,aP,aO,aN,ab⟩:=au c;obtain⟨p1,s1,p2,s2,p3,s3,p4,s4,p5,s5,rfl,rfl,rfl,rfl,rfl⟩:=ax h1;obtain⟨p6,s6,p7,s7,p8,s8,p9,s9,pa,sa,rfl,rfl,rfl,rfl,rfl⟩:=ax h2;unfold aD at V;obtain⟨k1,F,av,s,ah,z,x,C,p,af,al,ay,aa,u,aX⟩:=a;obtain⟨k2,E,ar,r,ag,y,v,B,o,ae,ak,aw,Z,t,aW⟩:=b;dsimp only at*
 have az:=Lib.hid d;have Y:=Lib.hid hA;have X:=Lib.hid hB;have HL:=Lib.hid J;clear n f m c H d hA hB h1 h2 G J;have aV:(k1==k2)=true:=by rw[U];simp
 clear U;have aq:((F:Int)==(E:Int))=true:=by rw[du,decide_eq_true T]
 clear T;have aL:((av:Int)==(ar:Int))=true:=by rw[du,decide_eq_true S]
 clear S;have an:((s:Int)==(r:Int))=true:=by rw[du,decide_eq_true Q]
 clear Q;have aJ:((ah:Int)==(ag:Int))=true:=by rw[du,decide_eq_true P]
 clear P;have ao:((z:Int)==(y:Int))=true:=by rw[du,decide_eq_true O]
 clear O;have aE:Hid (decide (x=v)=true):=decide_eq_true N;clear N;have aF:Hid (decide (C=B)=true):=decide_eq_true M;clear M;have aB:Hid (decide (p=o)=true):=decide_eq_true L;clear L;have aI:((af:Int)==(ae:Int))=true:=by rw[du,decide_eq_true K]
 clear K;have aK:((al:Int)==(ak:Int))=true:=by rw[du,decide_eq_true l]
 clear l;have aM:(ay==aw)=true:=by rw[k];simp
 clear k;have aH:((aa:Int)==(Z:Int))=true:=by rw[du,decide_eq_true j]
 clear j;have aC:Hid (decide (u=t)=false):=decide_eq_false I;clear I;clear ad ab;go_enter Tryz.func111,Tryz.ntmps111;go_upto_region 0 with(fail)
 iterate 7 go_step
 rw[<-V];clear V;go_wp2_with fail
 refine(aG _ _ x v _ Y.out.old X.out.old).mono ?_;rintro e w'⟨rfl,rfl⟩;rw[aE.out];go_wp2_with fail
 refine(aG _ _ C B _ Y.out.new X.out.new).mono ?_;rintro e w'⟨rfl,rfl⟩;rw[aF.out];go_wp2_with fail
 refine(aG _ _ p o _ Y.out.bD X.out.bD).mono ?_;rintro e w'⟨rfl,rfl⟩;rw[aB.out];go_wp2_with fail
 refine(fX.gI _ _ u t _ (Y.out.dm) (X.out.dm) HL.out.1).mono ?_;rintro e w'⟨rfl,n13,rfl⟩;rw[aC.out];go_wp2_with fail
 go_ret;exact⟨rfl,az.out.goN _⟩
set_option maxHeartbeats 6400000 in
set_option maxRecDepth 20000 in
theorem C7(a b:Lr.R)(h i g c1 d1 B E r c2 d2:Value)(w:World)(h1:bA w a h i g c1 d1)(h2:bA w b B E r c2 d2)(K:a.dm.length<=1000000/\a.bR.length<=1000000)(V:a.kind=b.kind)(U:a.bj=b.bj)(T:a.ai=b.ai)(S:a.bs=b.bs)(Q:a.aA=b.aA)(P:a.off=b.off)(O:a.old=b.old)(N:a.new=b.new)(M:a.bD=b.bD)(L:a.prev=b.prev)(m:a.next=b.next)(l:a.jE=b.jE)(k:a.bf=b.bf)(j:a.dm=b.dm)(J:¬a.bR=b.bR):
 Calls Tryz.prog 111 #[cz a h i g c1 d1,cz b B E r c2 d2] w fun e w'=>e=.returned (.bool false)/\Below w.heap.size w w':=by
 obtain⟨W,hW⟩:∃W,W=(w.alloc (aD a h i g c1 d1)).alloc (aD b B E r c2 d2):=⟨_,rfl⟩
 have o:=aj w (aD a h i g c1 d1);have f:=aj (w.alloc (aD a h i g c1 d1)) (aD b B E r c2 d2);have n:=dj w a h i g c1 d1;have c:=dj (w.alloc (aD a h i g c1 d1)) b B E r c2 d2;rw[<-hW]at f c;have I:=(f.block _ (lt_of_block n)).trans n;have d:=o.trans (f.mono o.size);have hA:=h1.below d;have hB:=h2.below d;have H:(w.alloc (aD a h i g c1 d1)).heap.size=w.heap.size+1:=by simp
 rw[H]at c;obtain⟨q0,q1,q2,q3,q4,q5,q6,q7,q8,q9,aW,aV,aU,aT,aS⟩:=au I;obtain⟨r0,r1,r2,r3,r4,r5,r6,r7,r8,r9,aR,aQ,aP,aO,aN⟩:=au c;obtain⟨p1,s1,p2,s2,p3,s3,p4,s4,p5,s5,rfl,rfl,rfl,rfl,rfl⟩:=ax h1;obtain⟨p6,s6,p7,s7,p8,s8,p9,s9,pa,sa,rfl,rfl,rfl,rfl,rfl⟩:=ax h2;unfold aD at hW;obtain⟨k1,G,ar,t,ag,A,y,D,q,ae,ak,aw,ab,v,Y⟩:=a;obtain⟨k2,F,aq,s,af,z,x,C,p,ad,ah,av,aa,u,X⟩:=b;dsimp only at*
 have ay:=Lib.hid d;have HA:=Lib.hid hA;have Z:=Lib.hid hB;have HL:=Lib.hid K;clear o f n c I d hA hB h1 h2 H K;have aX:(k1==k2)=true:=by rw[V];simp
 clear V;have ao:((G:Int)==(F:Int))=true:=by rw[du,decide_eq_true U]
 clear U;have aL:((ar:Int)==(aq:Int))=true:=by rw[du,decide_eq_true T]
 clear T;have al:((t:Int)==(s:Int))=true:=by rw[du,decide_eq_true S]
 clear S;have aJ:((ag:Int)==(af:Int))=true:=by rw[du,decide_eq_true Q]
 clear Q;have an:((A:Int)==(z:Int))=true:=by rw[du,decide_eq_true P]
 clear P;have aC:Hid (decide (y=x)=true):=decide_eq_true O;clear O;have aE:Hid (decide (D=C)=true):=decide_eq_true N;clear N;have az:Hid (decide (q=p)=true):=decide_eq_true M;clear M;have aI:((ae:Int)==(ad:Int))=true:=by rw[du,decide_eq_true L]
 clear L;have aK:((ak:Int)==(ah:Int))=true:=by rw[du,decide_eq_true m]
 clear m;have aM:(aw==av)=true:=by rw[l];simp
 clear l;have aH:((ab:Int)==(aa:Int))=true:=by rw[du,decide_eq_true k]
 clear k;have aB:Hid (decide (v=u)=true):=decide_eq_true j;clear j;have aF:Hid (decide (Y=X)=false):=decide_eq_false J;clear J;go_enter Tryz.func111,Tryz.ntmps111;go_upto_region 0 with(fail)
 iterate 7 go_step
 rw[<-hW];clear hW;go_wp2_with fail
 refine(aG _ _ y x _ HA.out.old Z.out.old).mono ?_;rintro e w'⟨rfl,rfl⟩;rw[aC.out];go_wp2_with fail
 refine(aG _ _ D C _ HA.out.new Z.out.new).mono ?_;rintro e w'⟨rfl,rfl⟩;rw[aE.out];go_wp2_with fail
 refine(aG _ _ q p _ HA.out.bD Z.out.bD).mono ?_;rintro e w'⟨rfl,rfl⟩;rw[az.out];go_wp2_with fail
 refine(fX.gI _ _ v u _ (HA.out.dm) (Z.out.dm) HL.out.1).mono ?_;rintro e w'⟨rfl,n13,rfl⟩;rw[aB.out];go_wp2_with fail
 refine(gj.gI _ _ Y X _ (HA.out.bR.below ((Below.refl _ _).goN _)) (Z.out.bR.below ((Below.refl _ _).goN _)) HL.out.2).mono ?_;rintro e w'⟨rfl,n14,rfl⟩;rw[aF.out];go_wp2_with fail
 go_ret;exact⟨rfl,ay.out.goN _⟩
set_option maxHeartbeats 6400000 in
set_option maxRecDepth 20000 in
theorem C3(a b:Lr.R)(h i g c1 d1 C F s c2 d2:Value)(w:World)(h1:bA w a h i g c1 d1)(h2:bA w b C F s c2 d2)(K:a.dm.length<=1000000/\a.bR.length<=1000000)(V:a.kind=b.kind)(U:a.bj=b.bj)(T:a.ai=b.ai)(S:a.bs=b.bs)(Q:a.aA=b.aA)(P:a.off=b.off)(O:a.old=b.old)(N:a.new=b.new)(M:a.bD=b.bD)(L:a.prev=b.prev)(n:a.next=b.next)(m:a.jE=b.jE)(l:a.bf=b.bf)(k:a.dm=b.dm)(j:a.bR=b.bR):
 Calls Tryz.prog 111 #[cz a h i g c1 d1,cz b C F s c2 d2] w fun e w'=>e=.returned (.bool true)/\Below w.heap.size w w':=by
 obtain⟨W,hW⟩:∃W,W=(w.alloc (aD a h i g c1 d1)).alloc (aD b C F s c2 d2):=⟨_,rfl⟩
 have p:=aj w (aD a h i g c1 d1);have f:=aj (w.alloc (aD a h i g c1 d1)) (aD b C F s c2 d2);have o:=dj w a h i g c1 d1;have c:=dj (w.alloc (aD a h i g c1 d1)) b C F s c2 d2;rw[<-hW]at f c;have J:=(f.block _ (lt_of_block o)).trans o;have d:=p.trans (f.mono p.size);have hA:=h1.below d;have hB:=h2.below d;have I:(w.alloc (aD a h i g c1 d1)).heap.size=w.heap.size+1:=by simp
 rw[I]at c;obtain⟨q0,q1,q2,q3,q4,q5,q6,q7,q8,q9,aW,aV,aU,aT,aS⟩:=au J;obtain⟨r0,r1,r2,r3,r4,r5,r6,r7,r8,r9,aR,aQ,aP,aO,aN⟩:=au c;obtain⟨p1,s1,p2,s2,p3,s3,p4,s4,p5,s5,rfl,rfl,rfl,rfl,rfl⟩:=ax h1;obtain⟨p6,s6,p7,s7,p8,s8,p9,s9,pa,sa,rfl,rfl,rfl,rfl,rfl⟩:=ax h2;unfold aD at hW;obtain⟨k1,H,ar,u,ag,B,z,E,r,ae,ak,aw,ab,x,Y⟩:=a;obtain⟨k2,G,aq,t,af,A,y,D,q,ad,ah,av,aa,v,X⟩:=b;dsimp only at*
 have ay:=Lib.hid d;have HA:=Lib.hid hA;have Z:=Lib.hid hB;have HL:=Lib.hid K;clear p f o c J d hA hB h1 h2 I K;have aX:(k1==k2)=true:=by rw[V];simp
 clear V;have ao:((H:Int)==(G:Int))=true:=by rw[du,decide_eq_true U]
 clear U;have aL:((ar:Int)==(aq:Int))=true:=by rw[du,decide_eq_true T]
 clear T;have al:((u:Int)==(t:Int))=true:=by rw[du,decide_eq_true S]
 clear S;have aJ:((ag:Int)==(af:Int))=true:=by rw[du,decide_eq_true Q]
 clear Q;have an:((B:Int)==(A:Int))=true:=by rw[du,decide_eq_true P]
 clear P;have aC:Hid (decide (z=y)=true):=decide_eq_true O;clear O;have aE:Hid (decide (E=D)=true):=decide_eq_true N;clear N;have az:Hid (decide (r=q)=true):=decide_eq_true M;clear M;have aI:((ae:Int)==(ad:Int))=true:=by rw[du,decide_eq_true L]
 clear L;have aK:((ak:Int)==(ah:Int))=true:=by rw[du,decide_eq_true n]
 clear n;have aM:(aw==av)=true:=by rw[m];simp
 clear m;have aH:((ab:Int)==(aa:Int))=true:=by rw[du,decide_eq_true l]
 clear l;have aB:Hid (decide (x=v)=true):=decide_eq_true k;clear k;have aF:Hid (decide (Y=X)=true):=decide_eq_true j;clear j;go_enter Tryz.func111,Tryz.ntmps111;go_upto_region 0 with(fail)
 iterate 7 go_step
 rw[<-hW];clear hW;go_wp2_with fail
 refine(aG _ _ z y _ HA.out.old Z.out.old).mono ?_;rintro e w'⟨rfl,rfl⟩;rw[aC.out];go_wp2_with fail
 refine(aG _ _ E D _ HA.out.new Z.out.new).mono ?_;rintro e w'⟨rfl,rfl⟩;rw[aE.out];go_wp2_with fail
 refine(aG _ _ r q _ HA.out.bD Z.out.bD).mono ?_;rintro e w'⟨rfl,rfl⟩;rw[az.out];go_wp2_with fail
 refine(fX.gI _ _ x v _ (HA.out.dm) (Z.out.dm) HL.out.1).mono ?_;rintro e w'⟨rfl,n13,rfl⟩;rw[aB.out];go_wp2_with fail
 refine(gj.gI _ _ Y X _ (HA.out.bR.below ((Below.refl _ _).goN _)) (Z.out.bR.below ((Below.refl _ _).goN _)) HL.out.2).mono ?_;rintro e w'⟨rfl,n14,rfl⟩;rw[aF.out];go_wp2_with fail
 go_ret;exact⟨rfl,ay.out.goN _⟩
theorem AP(b d:Lr.R)(z B x c1 d1 y A v c2 d2:Value)(w:World)(t:bA w b z B x c1 d1)(s:bA w d y A v c2 d2)(f:b.dm.length<=1000000/\b.bR.length<=1000000):
 Calls Tryz.prog 111 #[cz b z B x c1 d1,cz d y A v c2 d2] w fun e w'=>e=.returned (.bool (Lr.same b d))/\Below w.heap.size w w':=by
 by_cases a:b.kind=d.kind
 case neg=>
  rw[Lr.bZ fun e=>a (congrArg Lr.R.kind e)];exact ES b d _ _ _ _ _ _ _ _ _ _ w t s f a
 by_cases c:b.bj=d.bj
 case neg=>
  rw[Lr.bZ fun e=>c (congrArg Lr.R.bj e)];exact ER b d _ _ _ _ _ _ _ _ _ _ w t s f a c
 by_cases g:b.ai=d.ai
 case neg=>
  rw[Lr.bZ fun e=>g (congrArg Lr.R.ai e)];exact EP b d _ _ _ _ _ _ _ _ _ _ w t s f a c g
 by_cases h:b.bs=d.bs
 case neg=>
  rw[Lr.bZ fun e=>h (congrArg Lr.R.bs e)];exact EO b d _ _ _ _ _ _ _ _ _ _ w t s f a c g h
 by_cases i:b.aA=d.aA
 case neg=>
  rw[Lr.bZ fun e=>i (congrArg Lr.R.aA e)];exact EN b d _ _ _ _ _ _ _ _ _ _ w t s f a c g h i
 by_cases j:b.off=d.off
 case neg=>
  rw[Lr.bZ fun e=>j (congrArg Lr.R.off e)];exact EM b d _ _ _ _ _ _ _ _ _ _ w t s f a c g h i j
 by_cases l:b.old=d.old
 case neg=>
  rw[Lr.bZ fun e=>l (congrArg Lr.R.old e)];exact EL b d _ _ _ _ _ _ _ _ _ _ w t s f a c g h i j l
 by_cases m:b.new=d.new
 case neg=>
  rw[Lr.bZ fun e=>m (congrArg Lr.R.new e)];exact EK b d _ _ _ _ _ _ _ _ _ _ w t s f a c g h i j l m
 by_cases o:b.bD=d.bD
 case neg=>
  rw[Lr.bZ fun e=>o (congrArg Lr.R.bD e)];exact EJ b d _ _ _ _ _ _ _ _ _ _ w t s f a c g h i j l m o
 by_cases q:b.prev=d.prev
 case neg=>
  rw[Lr.bZ fun e=>q (congrArg Lr.R.prev e)];exact EI b d _ _ _ _ _ _ _ _ _ _ w t s f a c g h i j l m o q
 by_cases k:b.next=d.next
 case neg=>
  rw[Lr.bZ fun e=>k (congrArg Lr.R.next e)];exact Db b d _ _ _ _ _ _ _ _ _ _ w t s f a c g h i j l m o q k
 by_cases n:b.jE=d.jE
 case neg=>
  rw[Lr.bZ fun e=>n (congrArg Lr.R.jE e)];exact Da b d _ _ _ _ _ _ _ _ _ _ w t s f a c g h i j l m o q k n
 by_cases p:b.bf=d.bf
 case neg=>
  rw[Lr.bZ fun e=>p (congrArg Lr.R.bf e)];exact C9 b d _ _ _ _ _ _ _ _ _ _ w t s f a c g h i j l m o q k n p
 by_cases r:b.dm=d.dm
 case neg=>
  rw[Lr.bZ fun e=>r (congrArg Lr.R.dm e)];exact C8 b d _ _ _ _ _ _ _ _ _ _ w t s f a c g h i j l m o q k n p r
 by_cases u:b.bR=d.bR
 case neg=>
  rw[Lr.bZ fun e=>u (congrArg Lr.R.bR e)];exact C7 b d _ _ _ _ _ _ _ _ _ _ w t s f a c g h i j l m o q k n p r u
 rw[Lr.qP (Lr.mk_eq a c g h i j l m o q k n p r u)];exact C3 b d _ _ _ _ _ _ _ _ _ _ w t s f a c g h i j l m o q k n p r u
end Go.Proofs.YtbpodmallknhfaaGreat
