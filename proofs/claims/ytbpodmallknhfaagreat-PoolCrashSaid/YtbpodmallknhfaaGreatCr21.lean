/- Parts of a proof. Conditions: as each row says. -/
import Derived.Test.YtbpodmallknhfaaGreatCr03
import Derived.Test.YtbpodmallknhfaaGreatCr13
import Derived.Test.YtbpodmallknhfaaGreatCr19
import Derived.Test.YtbpodmallknhfaaGreatCr07
import Derived.Test.YtbpodmallknhfaaGreatCr06
import Derived.Test.YtbpodmallknhfaaGreatCr09
import Derived.Test.YtbpodmallknhfaaGreatCr18
import Derived.Test.YtbpodmallknhfaaGreatCr14
import Derived.Deep.RegionWith
namespace Go.Proofs.YtbpodmallknhfaaGreat
open Go.RowKit
def FB(B n:Nat)(m:Value)(i:Nat)(v:Value)(_:World):Prop:=
 match i with
 |0=>v=.pointer (some ⟨B,0,none⟩)
 |1=>v=.int .u64 (n:Int)
 |3=>v=.pointer (some ⟨B,1,none⟩)
 |4=>v=m
 |_=>True
structure vi(base n:Nat)(l:List Nat)(W:World)(D:Nat->Bool)(xs:Nat->Value)(w:World):Prop where
 below:Below base W w
 size:base<=w.heap.size
 two:D 2=true->D 5=false->Own base w (xs 2) (aw.le 8 n)
 zx:D 5=true->Own base w (xs 5) (Pg.rest n l)
 FY:D 6=true->Own base w (xs 6) (Pg.rest n l)
theorem yG{B n:Nat}{m:Value}(k:Nat)(v:Value)(w w':World)(_:True)(h:FB B n m k v w):FB B n m k v w':=h
theorem vi.quiet{base n:Nat}{l:List Nat}{W:World}{D:Nat->Bool}{xs:Nat->Value}{w:World}(h:vi base n l W D xs w)(k:Nat)(v:Value)(c:k≠2)(a:k≠5)(b:k≠6):vi base n l W (Ord.bP D k) (Ord.set xs k v) w:=by
 refine⟨h.below,h.size,?_,?_,?_⟩
 ·rw[bO _ (Ne.symm c),bO _ (Ne.symm a),dz _ _ (Ne.symm c)];exact h.two
 ·rw[bO _ (Ne.symm a),dz _ _ (Ne.symm a)];exact h.zx
 ·rw[bO _ (Ne.symm b),dz _ _ (Ne.symm b)];exact h.FY
theorem vi.Ia{base n:Nat}{l:List Nat}{W:World}{D:Nat->Bool}{xs:Nat->Value}{w w':World}{v:Value}(h:vi base n l W D xs w)(a:Below w.heap.size w w')(b:Own w.heap.size w' v (aw.le 8 n)):vi base n l W (Ord.bP D 2) (Ord.set xs 2 v) w':=by
 refine⟨h.below.trans (a.mono h.size),Nat.le_trans h.size a.size,?_,?_,?_⟩
 ·intro _ _;rw[iW];exact b.from h.size
 ·rw[bO _ (by decide),dz _ _ (by decide)];exact fun d=>(h.zx d).below a
 ·rw[bO _ (by decide),dz _ _ (by decide)];exact fun c=>(h.FY c).below a
theorem vi.H8{base n:Nat}{l:List Nat}{W:World}{D:Nat->Bool}{xs:Nat->Value}{w w':World}{v:Value}(h:vi base n l W D xs w)(a:Below base w w')(c:Own base w' v (Pg.rest n l))(d:D 6=false):vi base n l W (Ord.bP D 5) (Ord.set xs 5 v) w':=by
 refine⟨h.below.trans a,Nat.le_trans h.size a.size,?_,?_,?_⟩
 ·intro _ b;rw[iO]at b;cases b
 ·intro _;rw[iW];exact c
 ·rw[bO _ (by decide),d];intro h;cases h
theorem vi.G3{base n:Nat}{l:List Nat}{W:World}{D:Nat->Bool}{xs:Nat->Value}{w:World}(h:vi base n l W D xs w)(a:D 5=true):vi base n l W (Ord.bP D 6) (Ord.set xs 6 (xs 5)) w:=by
 refine⟨h.below,h.size,?_,?_,?_⟩
 ·rw[bO _ (by decide),bO _ (by decide),dz _ _ (by decide)];exact h.two
 ·rw[bO _ (by decide),dz _ _ (by decide)];exact h.zx
 ·intro _;rw[iW];exact h.zx a
theorem vi.first(base n:Nat)(l:List Nat)(W:World)(xs:Nat->Value)(hs:base<=W.heap.size):vi base n l W (fun _=>false) xs W.drew:=⟨(Below.refl _ _).kH,hs,fun h=>(by cases h),fun h=>(by cases h),fun h=>(by cases h)⟩
theorem aV.ic{w:World}{b off cap k:Nat}{l:List Nat}(h:aV w (.slice (some ⟨b,off,none⟩) k cap) l)(n:Nat)(c:l.length=k)(a:n<=k:=by decide):aV w (.slice (some ⟨b,off+n,none⟩) (k-n) (cap-n)) (l.drop n):=by
 subst c;exact h.drop n a
structure sY(w W:World)(B:Nat):Prop where
 fF:W.heap[B]?=some (.cells #[.int .u64 0,.slice none 0 0] 59 (0,0))
 low:B=w.heap.size
 below:Below w.heap.size w W
theorem sY.later{w W b:World}{B:Nat}(h:sY w W B)(a:Below W.heap.size W b):sY w b B:=
 ⟨by rw[a.block _ (lt_of_block h.fF)];exact h.fF,h.low,h.below.trans (a.mono h.below.size)⟩
theorem sY.grown{w W b:World}{B g:Nat}(h:sY w W B)(a:W.grownBy b (some g))(c:B<g):sY w b B:=
 ⟨by rw[a.block _ (lt_of_block h.fF) (by simp;omega)];exact h.fF,h.low,aJ h.below a h.below.size (by have:=h.low;omega)⟩
theorem sY.lt{w W:World}{B:Nat}(h:sY w W B):B<W.heap.size:=lt_of_block h.fF
theorem sY.done{w W:World}{B:Nat}(h:sY w W B)(x y:Value):
 ((W.setCell ⟨B,0,none⟩ x).setCell ⟨B,1,none⟩ y).heap[B]?=some (.cells #[x,y] 59 (0,0))/\W.grownBy ((W.setCell ⟨B,0,none⟩ x).setCell ⟨B,1,none⟩ y) (some B)/\Below w.heap.size w ((W.setCell ⟨B,0,none⟩ x).setCell ⟨B,1,none⟩ y):=by
 obtain⟨b,a⟩:=EG (x:=x) (y:=y) h.fF;exact⟨b,a,aJ h.below a h.below.size (Nat.le_of_eq h.low.symm)⟩
structure Gw:Prop where
 bytes:∀(n:Nat)(m:Value)(l:List Nat)(w:World),n<18446744073709551616->aV w m l->
  Calls Tryz.prog 146 #[fZ n m] w fun e w'=>∃u,e=.returned (.tuple #[u,.int .i64 ((if l.length=500 then 0 else 2:Nat):Int)])/\Own w.heap.size w' u (if l.length=500 then Pg.form n l else [])/\Below w.heap.size w w'
 opens:∀(m:Value)(b:List Nat)(w:World),aV w m b->
  Calls Tryz.prog 104 #[m] w fun e w'=>∃u,e=.returned (.tuple #[fZ (Pg.cC b) u,.int .i64 (Pg.cD b:Nat)])/\Own w.heap.size w' u (Pg.cZ b)/\Below w.heap.size w w'
 blank:∀w:World,Calls Tryz.prog 143 #[] w fun e w'=>∃v,e=.returned (fZ 0 v)/\Own w.heap.size w' v (Pg.bm 500)/\Below w.heap.size w w'
set_option maxHeartbeats 1600000 in
set_option maxRecDepth 20000 in
theorem zR(n:Nat)(m:Value)(l:List Nat)(w:World)(y:aV w m l):
 Calls Tryz.prog 146 #[fZ n m] w fun e w'=>∃u,e=.returned (.tuple #[u,.int .i64 ((if l.length=500 then 0 else 2:Nat):Int)])/\Own w.heap.size w' u (if l.length=500 then Pg.form n l else [])/\Below w.heap.size w w':=by
 have i:Below w.heap.size w (w.alloc (.cells #[.int .u64 (n:Int),m] 59)):=(Below.refl _ _).alloc (Nat.le_refl _) _;have M:=Lib.hid (y.below i);have c:=Lib.hid i;have a:(w.alloc (.cells #[.int .u64 (n:Int),m] 59)).heap[w.heap.size]?=some (.cells #[.int .u64 (n:Int),m] 59 (0,0)):=heap_alloc_last _ _;obtain⟨p,cap,rfl,-,-,-⟩:=y.form;have hlen:=y.len;clear y i;by_cases hl:l.length=500
 ·rw[if_pos hl,if_pos hl];have Y:=Lib.hid hl;rw[hl]at M c a;have v:=Lib.hid a;clear a;go_enter Tryz.func146,Tryz.ntmps146;go_upto_region 3 with(fail)
  obtain⟨W,R⟩:∃W,W=w.alloc (.cells #[.int .u64 (n:Int),.slice p 500 cap] 59):=⟨_,rfl⟩
  rw[<-R]at M c v⊢;have A:Hid (w.heap.size<W.heap.size):=lt_of_block v.out;have c0:=bc v.out;have c1:=bI v.out;have D0:=Lib.hid c0;have Z:=Lib.hid c1;clear R c0 c1;obtain⟨B,k⟩:∃B,B=w.heap.size:=⟨_,rfl⟩
  rw[<-k]at c v A D0 Z⊢;have I:=Lib.hid k;clear k hl;refine Ord.walk (FB B n (.slice p 500 cap)) (vi W.heap.size n l W) (fun _ _=>True)
   (by kernel_rfl) (by kernel_rfl) ?fr ?hfr yG (fun xs=>vi.first _ _ _ _ _ (Nat.le_refl _)) ?he ?hend
  case hfr=>
   intro xs;simp only[Ord.fill,Act.put,List.setIfInBounds_toArray,List.set_cons_zero,List.set_cons_succ];rfl
  case he=>
   iterate 7 (refine Ord.aa (fun D xs w2 V hC T hR b K d=>?_) ?_;rotate_left)
   rotate_left
   ·clear b;go_simp;exact d _ _ ⟨_,rfl,trivial,hR.quiet _ _ (by decide) (by decide) (by decide),rfl⟩
   ·have Q:=Ord.ab _ b 0 (by decide);simp only[FB]at Q;simp only[Q]at d;clear b;have c0:=hR.below.cell (p:=⟨B,0,none⟩) A.out;rw[D0.out]at c0;go_simp;exact d _ _ ⟨_,rfl,trivial,hR.quiet _ _ (by decide) (by decide) (by decide),rfl⟩
   ·have P:=Ord.ab _ b 1 (by decide);simp only[FB]at P;simp only[P]at d;clear b;go_simp;refine(fw (.slice none 0 0) [] n w2 (aX w2) (by decide)).mono ?_;rintro e w'⟨u,rfl,g,x⟩;rw[List.nil_append]at g;exact d _ _ ⟨_,rfl,trivial,hR.Ia x g,trivial⟩
   ·clear b;go_simp;exact d _ _ ⟨_,rfl,trivial,hR.quiet _ _ (by decide) (by decide) (by decide),rfl⟩
   ·have O:=Ord.ab _ b 3 (by decide);simp only[FB]at O;simp only[O]at d;clear b;have c0:=hR.below.cell (p:=⟨B,1,none⟩) A.out;rw[Z.out]at c0;go_simp;exact d _ _ ⟨_,rfl,trivial,hR.quiet _ _ (by decide) (by decide) (by decide),rfl⟩
   ·have N:=Ord.ab _ b 4 (by decide);simp only[FB]at N;clear b;have z:D 6=false:=by
     cases h:D 6 with
     |false=>rfl
     |true=>have:=Ord.aL hC 6 5 rfl h;rw[V]at this;cases this
    have X:D 2=true:=T {on:=2,ground:=.data} (by simp) rfl;have g:=hR.two X V;refine ew _ _ rfl W.heap.size (xs 2) (aw.le 8 n) rfl g (.slice p 500 cap) l (by rw[<-N];rfl) (M.out.below hR.below) (by rw[aw.ao,Y.out];decide) hR.size ?_;intro u w' F C _;exact d _ _ ⟨_,rfl,trivial,hR.H8 C F z,trivial⟩
   ·clear b;have h5:D 5=true:=T {on:=5,ground:=.data} (by simp) rfl;go_simp;exact d _ _ ⟨_,rfl,trivial,hR.G3 h5,trivial⟩
   exact Ord.az
  case hend=>
   intro D xs w2 hR U;have z:=hR.FY (U 6 (by decide)).1;have t:=Lib.hid z;have L:=Lib.hid hR.below;have o:=Lib.hid hR.size;clear hR U;generalize xs 6=x6 at*
   generalize xs 5=x5 at*
   generalize xs 4=x4 at*
   generalize xs 3=x3 at*
   generalize xs 2=x2 at*
   generalize xs 1=x1 at*
   generalize xs 0=x0 at*
   go_wp2_with fail
   clear z;refine(lK x6 _ _ t.out.bz).mono ?_;rintro e w3⟨rfl,s⟩;obtain⟨S,E⟩:∃S,S=dK.more 0 (Pg.rest n l):=⟨_,rfl⟩
   rw[<-E];have G:=Lib.hid E;have f:=Lib.hid s;clear E s;go_wp2_with fail
   refine(de (.slice none 0 0) [] S w3 (aX w3) (by decide)).mono ?_;rintro e w4⟨x7,rfl,g,x⟩;rw[List.nil_append]at g;have q:=Lib.hid (f.out.trans (x.mono f.out.size));have HO:=Lib.hid (g.from (Nat.le_trans o.out f.out.size));clear g x f;dsimp only;iterate 4 go_step
   refine aB rfl (.tmp 17) (.tmp 18) rfl W.heap.size x7 _ rfl HO.out x6 _ rfl (t.out.bz.below q.out) (by rw[aw.ao,Pg.fK,Y.out];decide) (Nat.le_trans o.out q.out.size) ?_;intro x8 w5 j r _;rw[G.out]at j;have H:=Lib.hid j;have J:=Lib.hid r;clear j r;go_wp2_with fail
   go_ret2
   have hs:B<=W.heap.size:=Nat.le_of_lt A.out;rw[<-I.out];exact⟨_,rfl,H.out.from hs,c.out.trans (((L.out.trans (q.out.mono o.out)).trans J.out).mono hs)⟩
 ·rw[if_neg hl,if_neg hl];have hi:¬(l.length:Int)=500:=by omega
  have X:((l.length:Int)!=500)=true:=by simp;omega
  clear a;go_enter Tryz.func146,Tryz.ntmps146;go_wp2_with fail
  go_ret2
  exact⟨_,rfl,aM _ _,c.out⟩
set_option maxHeartbeats 400000 in
set_option maxRecDepth 20000 in
theorem pX(w:World):Calls Tryz.prog 143 #[] w fun e w'=>∃v,e=.returned (fZ 0 v)/\Own w.heap.size w' v (Pg.bm 500)/\Below w.heap.size w w':=by
 obtain⟨W,g⟩:∃W,W=w.alloc (.cells #[.int .u64 0,.slice none 0 0] 59):=⟨_,rfl⟩
 have b:(Instr.makeSlice 57 (.int .i64 500) (.int .i64 500)).run Tryz.prog (w.alloc (.cells #[.int .u64 0,.slice none 0 0] 59))=.ok (.slice (some ⟨(w.alloc (.cells #[.int .u64 0,.slice none 0 0] 59)).heap.size,0,none⟩) 500 500) _:=fk 500 (by decide) _;have q:=Lib.hid (j4 500 (by decide) W);have j:W.heap[w.heap.size]?=some (.cells #[.int .u64 0,.slice none 0 0] 59 (0,0)):=by rw[g];exact heap_alloc_last _ _
 have p:Below w.heap.size w W:=by rw[g];exact(Below.refl _ _).alloc (Nat.le_refl _) _
 have l:=lt_of_block j;rw[<-g]at b;obtain⟨k,d⟩:∃k,k=W.alloc (.cells ((Pg.bm 500).map bv).toArray 5):=⟨_,rfl⟩
 have c:Below W.heap.size W k:=by rw[d];exact(Below.refl _ _).alloc (Nat.le_refl _) _
 have a:k.heap[w.heap.size]?=some (.cells #[.int .u64 0,.slice none 0 0] 59 (0,0)):=by rw[c.block _ (lt_of_block j)];exact j
 rw[<-d]at b q;obtain⟨m,f⟩:=EG (x:=.int .u64 0) (y:=.slice (some ⟨W.heap.size,0,none⟩) 500 500) a;have i:=bc m;have h:=bI m;have r:=Lib.hid f;have o:=Lib.hid i;have n:=Lib.hid h;clear m f i h;go_enter Tryz.func143,Tryz.ntmps143;go_wp2_with fail
 rw[<-g,b];have c0:=bc a;have c1:=bI a;have f0:=cP a 0;have f1:=cP a 1;clear d b j a g;go_wp2_with fail
 have i:=o.out;have h:=n.out;refine bodyPost_ret (v:=fZ 0 (.slice (some ⟨W.heap.size,0,none⟩) 500 500)) (by simp[results,Tryz.results143,go_sem,i,h]) rfl ⟨_,rfl,?_,?_⟩
 ·exact(q.out.from (Nat.le_of_lt l)).grown r.out (Or.inr (by simp[Value.ownBlock];omega))
 ·exact aJ (p.trans (c.mono p.size)) r.out (by have:=c.size;omega) (Nat.le_refl _)
def vj(Q g off cap N M:Nat)(r:Bool)(i:Nat)(v:Value)(_:World):Prop:=
 match i with
 |0=>v=.pointer (some ⟨Q,0,none⟩)
 |1=>v=.int .u32 (N:Int)
 |2=>v=.slice (some ⟨g,off,none⟩) 512 cap
 |3=>v=.slice (some ⟨g,off+4,none⟩) 508 (cap-4)
 |4=>v=.int .u32 (M:Int)
 |_=>v=.bool r
theorem rb{Q g off cap N M:Nat}{r:Bool}(k:Nat)(v:Value)(w w':World)(_:True)(h:vj Q g off cap N M r k v w):vj Q g off cap N M r k v w':=h
structure Aq(w:World)(R lo Q g off cap:Nat)(b:List Nat)(D:Nat->Bool)(w':World):Prop where
 dm:sY w w' R
 bz:aV w' (.slice (some ⟨g,off,none⟩) 512 cap) b
 r0:D 1=false->Rd 217 (fun i=>lo<=i/\i<Q) w' Q (b.take 12) 0
 r1:D 1=true->Rd 217 (fun i=>lo<=i/\i<Q) w' Q ((b.drop 4).take 8) 0
theorem sY.drew{w W:World}{B:Nat}(h:sY w W B):sY w W.drew B:=⟨h.fF,h.low,h.below.kH⟩
section
variable{w w' w2:World}{R lo Q g off cap:Nat}{b:List Nat}{D:Nat->Bool}
theorem Aq.skip(h:Aq w R lo Q g off cap b D w')(k:Nat)(a:(k !=1)=true):Aq w R lo Q g off cap b (Ord.bP D k) w':=by
 have a:=(bne_iff_ne ..).1 a;refine⟨h.dm,h.bz,?_,?_⟩
 ·rw[bO _ (Ne.symm a)];exact h.r0
 ·rw[bO _ (Ne.symm a)];exact h.r1
theorem Aq.later(h:Aq w R lo Q g off cap b D w')(c:Below w'.heap.size w' w2):Aq w R lo Q g off cap b D w2:=⟨h.dm.later c,h.bz.below c,fun a=>(h.r0 a).below c,fun a=>(h.r1 a).below c⟩
theorem Aq.one(h:Aq w R lo Q g off cap b D w')(f:R<lo/\g<lo/\lo<=Q)(d:Rd 217 (fun i=>lo<=i/\i<Q) w2 Q ((b.drop 4).take 8) 0)(c:w'.grownBy w2 (some Q)):Aq w R lo Q g off cap b (Ord.bP D 1) w2:=by
 refine⟨h.dm.grown c (by omega),h.bz.grown c (fun _ e=>?_),fun a=>?_,fun _=>d⟩
 ·simp only[Value.ownBlock,Option.some.injEq]at e;omega
 ·rw[iO]at a;cases a
end
def Eg(Q g off cap n:Nat)(i:Nat)(v:Value)(_:World):Prop:=
 match i with
 |0=>v=.pointer (some ⟨Q,0,none⟩)
 |1=>v=.int .u64 (n:Int)
 |2=>v=.slice (some ⟨g,off,none⟩) 512 cap
 |3=>v=.slice (some ⟨g,off+12,none⟩) 500 (cap-12)
 |7=>v=.int .i64 0
 |_=>True
theorem yW{Q g off cap n:Nat}(k:Nat)(v:Value)(w w':World)(_:True)(h:Eg Q g off cap n k v w):Eg Q g off cap n k v w':=h
structure sS(w:World)(R lo Q g off cap:Nat)(b:List Nat)(D:Nat->Bool)(xs:Nat->Value)(w':World):Prop where
 sz:lo<=w'.heap.size
 dm:D 6=false->sY w w' R
 bz:D 6=false->aV w' (.slice (some ⟨g,off,none⟩) 512 cap) b
 rd:D 1=false->Rd 217 (fun i=>lo<=i/\i<Q) w' Q ((b.drop 4).take 8) 0
 a4:D 4=true->D 6=false->∃p c,xs 4=.slice p 500 c/\Own lo w' (xs 4) (b.drop 12)
 a5:D 5=true->xs 5=.agg #[.int .u64 (Pg.cC b:Int),xs 4]
 a6:D 6=true->∃u,w'.heap[R]?=some (.cells #[.int .u64 (Pg.cC b:Int),u] 59 (0,0))/\Own lo w' u (b.drop 12)/\(∃p c,u=.slice p 500 c)/\Below w.heap.size w w'
section
variable{w w' w2:World}{R lo Q g off cap:Nat}{b:List Nat}{D:Nat->Bool}{xs:Nat->Value}{u:Value}
theorem sS.first(xs:Nat->Value)(e:sY w w' R)(d:aV w' (.slice (some ⟨g,off,none⟩) 512 cap) b)(c:Rd 217 (fun i=>lo<=i/\i<Q) w' Q ((b.drop 4).take 8) 0)(a:lo<=w'.heap.size):sS w R lo Q g off cap b (fun _=>false) xs w'.drew:=
 ⟨a,fun _=>e.drew,fun _=>d.below (cH _ _),fun _=>c.below (cH _ _),fun h=>(by cases h),fun h=>(by cases h),fun h=>(by cases h)⟩
theorem sS.skip(h:sS w R lo Q g off cap b D xs w')(k:Nat)(u:Value)(a:(k !=1&&k !=4&&k !=5&&k !=6)=true):sS w R lo Q g off cap b (Ord.bP D k) (Ord.set xs k u) w':=by
 simp only[Bool.and_eq_true,bne_iff_ne]at a;obtain⟨⟨⟨c,n4⟩,n5⟩,n6⟩:=a;refine⟨h.sz,?_,?_,?_,?_,?_,?_⟩
 ·rw[bO _ (Ne.symm n6)];exact h.dm
 ·rw[bO _ (Ne.symm n6)];exact h.bz
 ·rw[bO _ (Ne.symm c)];exact h.rd
 ·rw[bO _ (Ne.symm n6),bO _ (Ne.symm n4),dz _ _ (Ne.symm n4)];exact h.a4
 ·rw[bO _ (Ne.symm n5),dz _ _ (Ne.symm n4),dz _ _ (Ne.symm n5)];exact h.a5
 ·rw[bO _ (Ne.symm n6)];exact h.a6
theorem sS.one(h:sS w R lo Q g off cap b D xs w')(u:Value)(i:R<lo/\g<lo/\lo<=Q)(f:D 4=false)(d:D 6=false)(c:w'.grownBy w2 (some Q)):sS w R lo Q g off cap b (Ord.bP D 1) (Ord.set xs 1 u) w2:=by
 refine⟨Nat.le_trans h.sz c.size,?_,?_,?_,?_,?_,?_⟩
 ·rw[bO _ (by decide)];exact fun a=>(h.dm a).grown c (by omega)
 ·rw[bO _ (by decide)];exact fun a=>(h.bz a).grown c (fun _ e=>by simp only[Value.ownBlock,Option.some.injEq]at e;omega)
 ·rw[iO];intro a;cases a
 ·rw[bO _ (by decide),f];intro a;cases a
 ·rw[bO _ (by decide),dz _ _ (by decide),dz _ _ (by decide)];exact h.a5
 ·rw[bO _ (by decide),d];intro a;cases a
theorem sS.four(h:sS w R lo Q g off cap b D xs w')(j:D 5=false)(i:D 6=false)(hl:(b.drop 12).length=500)(f:Own w'.heap.size w2 u (b.drop 12))(d:Below w'.heap.size w' w2):sS w R lo Q g off cap b (Ord.bP D 4) (Ord.set xs 4 u) w2:=by
 refine⟨Nat.le_trans h.sz d.size,?_,?_,?_,?_,?_,?_⟩
 ·rw[bO _ (by decide)];exact fun a=>(h.dm a).later d
 ·rw[bO _ (by decide)];exact fun a=>(h.bz a).below d
 ·rw[bO _ (by decide)];exact fun a=>(h.rd a).below d
 ·rw[iW];intro _ _;obtain⟨p,c,e,-⟩:=f.bz.form;rw[hl]at e;exact⟨p,c,e,f.from h.sz⟩
 ·rw[bO _ (by decide),j];intro a;cases a
 ·rw[bO _ (by decide),i];intro a;cases a
theorem sS.zx(h:sS w R lo Q g off cap b D xs w')(hu:u=.agg #[.int .u64 (Pg.cC b:Int),xs 4]):sS w R lo Q g off cap b (Ord.bP D 5) (Ord.set xs 5 u) w':=by
 refine⟨h.sz,?_,?_,?_,?_,?_,?_⟩
 ·rw[bO _ (by decide)];exact h.dm
 ·rw[bO _ (by decide)];exact h.bz
 ·rw[bO _ (by decide)];exact h.rd
 ·rw[bO _ (by decide),bO _ (by decide),dz _ _ (by decide)];exact h.a4
 ·rw[iW,dz _ _ (by decide)];exact fun _=>hu
 ·rw[bO _ (by decide)];exact h.a6
theorem sS.FY(h:sS w R lo Q g off cap b D xs w')(l:R<lo/\g<lo/\lo<=Q)(j:D 4=true)(f:D 6=false):
 sS w R lo Q g off cap b (Ord.bP D 6) (Ord.set xs 6 u) ((w'.setCell ⟨R,0,none⟩ (.int .u64 (Pg.cC b:Int))).setCell ⟨R,1,none⟩ (xs 4)):=by
 obtain⟨d1,d2,d3⟩:=(h.dm f).done (.int .u64 (Pg.cC b:Int)) (xs 4);obtain⟨p,c,e,d⟩:=h.a4 j f;refine⟨Nat.le_trans h.sz d2.size,?_,?_,?_,?_,?_,?_⟩
 ·rw[iO];intro a;cases a
 ·rw[iO];intro a;cases a
 ·rw[bO _ (by decide)];exact fun a=>(h.rd a).grown d2 (fun m k=>by simp only[Option.some.injEq]at k;omega)
 ·rw[iO];intro _ a;cases a
 ·rw[bO _ (by decide),dz _ _ (by decide),dz _ _ (by decide)];exact h.a5
 ·intro _;refine⟨xs 4,d1,d.grown d2 (Or.inr fun i=>?_),⟨p,c,e⟩,d3⟩;have:=(d.own.lt R i).1;omega
end
set_option maxHeartbeats 1600000 in
set_option maxRecDepth 20000 in
theorem uc(m:Value)(b:List Nat)(w:World)(hB:aV w m b):
 Calls Tryz.prog 104 #[m] w fun e w'=>∃u,e=.returned (.tuple #[fZ (Pg.cC b) u,.int .i64 (Pg.cD b:Nat)])/\Own w.heap.size w' u (Pg.cZ b)/\Below w.heap.size w w':=by
 obtain⟨W,U⟩:∃W,W=w.alloc (.cells #[.int .u64 0,.slice none 0 0] 59):=⟨_,rfl⟩
 obtain⟨R,hR⟩:∃R,R=w.heap.size:=⟨_,rfl⟩
 have y:sY w W R:=⟨by rw[U,hR];exact heap_alloc_last _ _,hR,by rw[U];exact(Below.refl _ _).alloc (Nat.le_refl _) _⟩
 have HB:=Lib.hid (hB.below y.below);have HO:=Lib.hid y;have HR:=Lib.hid hR;obtain⟨p,cap,rfl,S,-,hp⟩:=hB.form;have hlen:=hB.len;by_cases hl:b.length=512
 ·rw[hl]at HB⊢;have E:=Lib.hid hl;obtain⟨g,off,rfl,-⟩:=hp (by omega);clear hp hB y;have r:(Instr.makeSlice 57 (.int .i64 512) (.int .i64 512)).run Tryz.prog W=.ok (.slice (some ⟨W.heap.size,0,none⟩) 512 512) (W.alloc (.cells ((Pg.bm 512).map bv).toArray 5)):=fk 512 (by decide) W;have V:=j4 512 (by decide) W;obtain⟨j,ad⟩:∃j,j=W.alloc (.cells ((Pg.bm 512).map bv).toArray 5):=⟨_,rfl⟩
  have Z:Below W.heap.size W j:=by rw[ad];exact(Below.refl _ _).alloc (Nat.le_refl _) _
  rw[<-ad]at r V;have J:=Lib.hid (HB.out.below Z);have A:=Lib.hid (HO.out.later Z);have heq:=aG _ _ _ _ j J.out V.bz;clear ad V Z;by_cases hz:b=Pg.bm 512
  ·subst hz;rw[decide_eq_true rfl]at heq;rw[Pg.iA,Pg.nC,Pg.nD];have ah:=Lib.hid heq;clear heq;go_enter Tryz.func104,Tryz.ntmps104;go_wp2_with fail
   rw[<-U,<-HR.out,r];clear U r hR;go_wp2_with fail
   refine ah.out.mono ?_;rintro e w2⟨rfl,rfl⟩;go_wp2_with fail
   refine(pX j).mono ?_;rintro e w3⟨v,rfl,I,X⟩;obtain⟨p3,c3,rfl,-,-,-⟩:=I.bz.form;have HV:=Lib.hid I;have d:=Lib.hid (A.out.later X);have ak:=Lib.hid X;have aq:∀g3,(Value.slice p3 (Pg.bm 500).length c3).ownBlock=some g3->R<g3:=by
    intro g3 H;rcases I.form with⟨h1,h2⟩|⟨g4,c4,h1,h2,-⟩
    ·rw[h1]at H;cases H
    ·rw[h1]at H;simp only[Value.ownBlock,Option.some.injEq]at H;have:=A.out.lt;omega
   have au:=Lib.hid aq;clear I X aq;rw[Pg.bU]at HV au⊢;have c0:=bc d.out.fF;have c1:=bI d.out.fF;have f0:=cP d.out.fF 0;have f1:=cP d.out.fF 1;obtain⟨d1,d2,d3⟩:=d.out.done (.int .u64 0) (.slice p3 500 c3);have l:=bc d1;have k:=bI d1;have D2:=Lib.hid d2;have D3:=Lib.hid d3;clear d1 d2 d3;go_wp2_with fail
   refine bodyPost_ret (v:=.tuple #[fZ 0 (.slice p3 500 c3),.int .i64 0]) (by simp[results,Tryz.results104,go_sem,l,k]) rfl ⟨_,rfl,?_,D3.out⟩;refine(HV.out.from (by have:=A.out.lt;have:=HR.out;omega)).grown D2.out (Or.inr fun h=>?_);exact absurd (au.out _ h) (Nat.lt_irrefl _)
  ·rw[decide_eq_false hz]at heq;have ah:=Lib.hid heq;clear heq;go_enter Tryz.func104,Tryz.ntmps104;go_wp2_with fail
   rw[<-U,<-HR.out,r];clear U r hR;go_wp2_with fail
   refine ah.out.mono ?_;rintro e w2⟨rfl,rfl⟩;go_wp2_with fail
   have al:aV j (.slice (some ⟨g,off,none⟩) 12 cap) (b.take 12):=by
    have h:=J.out;rw[<-E.out]at h;exact h.take 12 (by have:=E.out;omega)
   refine(fB _ (b.take 12) j al).mono ?_;rintro e w2⟨Q,rfl,ao,hQ,Y⟩;have aD:=Lib.hid (A.out.later Y);have aH:=Lib.hid (J.out.below Y);have HQ:=Lib.hid hQ;have G:aw.rdNum 4 (b.take 12) 0=(aw.num (b.take 4),(b.drop 4).take 8,0):=by
    have:=E.out;unfold aw.rdNum;rw[if_neg (by simp),if_neg (by simp;omega),List.take_take,List.drop_take];rfl
   have HU:Hid (∀W2,Rd 217 (fun i=>j.heap.size<=i/\i<Q) W2 Q (b.take 12) 0->Calls Tryz.prog 144 #[.pointer (some ⟨Q,0,none⟩)] W2 fun en w'=>en=.returned (.int .u32 ((aw.num (b.take 4):Nat):Int))/\Rd 217 (fun i=>j.heap.size<=i/\i<Q) w' Q ((b.drop 4).take 8) 0/\W2.grownBy w' (some Q)):=fun W2 h=>by
    have t:=fH _ _ 0 _ _ h;rw[G]at t;exact t
   have q:Hid (R<j.heap.size/\g<j.heap.size/\j.heap.size<=Q):=⟨A.out.lt,J.out.fS (by have:=E.out;omega) g rfl,hQ⟩
   have av:Hid (Aq w R j.heap.size Q g off cap b (fun _=>false) w2.drew):=⟨aD.out.drew,aH.out.below (cH _ _),fun _=>ao.below (cH _ _),fun h=>(by cases h)⟩
   have ax:Hid (¬cap=4):=by show¬_;have:=S.1;omega
   have ay:Hid (¬cap=12):=by show¬_;have:=S.1;omega
   have B:=Lib.hid (show Pg.cD b=if aw.num (b.take 4)≠dK.more 0 (b.drop 4)then 14 else 0 by unfold Pg.cD;rw[if_neg (by have:=E.out;omega),if_neg hz]);clear al ao hQ Y G;generalize aw.num (b.take 4)=N at*
   obtain⟨M,ae⟩:∃M,M=dK.more 0 (b.drop 4):=⟨_,rfl⟩
   rw[<-ae]at B;have HM:=Lib.hid ae;clear ae;by_cases hs:N=M
   ·subst hs;have he:Pg.cD b=0:=by rw[B.out,if_neg (by simp)]
    have HN:=Lib.hid (show Pg.cC b=aw.num ((b.drop 4).take 8)from if_pos he);have ag:=Lib.hid (show Pg.cZ b=b.drop 12 from if_pos he);have aI:=Lib.hid (Pg.sx he);have ai:=Lib.hid he;have HC:Hid (((N:Int)!=(N:Int))=false):=bne_self_eq_false _;have aj:Hid (((N:Int)==(N:Int))=true):=beq_self_eq_true _;clear he B;go_upto_region 6 with(fail)
    refine Ord.walk (vj Q g off cap N N false) (fun D _ w'=>Aq w R j.heap.size Q g off cap b D w') (fun _ _=>True)
     (by kernel_rfl) (by kernel_rfl) ?fr1 ?hfr1 rb (fun xs=>av.out) ?he1 ?hend1
    case hfr1=>
     intro xs;simp only[Ord.fill,Act.put,List.setIfInBounds_toArray,List.set_cons_zero,List.set_cons_succ];rfl
    case he1=>
     iterate 6 (refine Ord.aa (fun D xs w2 o hC hP hR c K a=>?_) ?_;rotate_left)
     rotate_left
     ·clear c;go_simp;exact a _ _ ⟨_,rfl,trivial,hR.skip _ (by decide),rfl⟩
     ·have l:=Ord.ab _ c 0 (by decide);simp only[vj]at l;simp only[l]at a;clear c;go_simp;refine(HU.out w2 (hR.r0 o)).mono ?_;rintro e w'⟨rfl,hr,hg⟩;exact a _ _ ⟨_,rfl,trivial,hR.one q.out hr hg,rfl⟩
     ·clear c;go_simp;exact a _ _ ⟨_,rfl,trivial,hR.skip _ (by decide),rfl⟩
     ·have O:=Ord.ab _ c 2 (by decide);simp only[vj]at O;simp only[O]at a;clear c;have ar:=ax.out;go_simp;exact a _ _ ⟨_,rfl,trivial,hR.skip _ (by decide),rfl⟩
     ·have L:=Ord.ab _ c 3 (by decide);simp only[vj]at L;simp only[L]at a;clear c;go_simp;refine(lK _ _ _ (hR.bz.ic 4 E.out)).mono ?_;rintro e w'⟨rfl,hb⟩;rw[<-HM.out];exact a _ _ ⟨_,rfl,trivial,(hR.later hb).skip _ (by decide),rfl⟩
     ·have k:=Ord.ab _ c 1 (by decide);simp only[vj]at k;have q4:=Ord.ab _ c 4 (by decide);simp only[vj]at q4;simp only[k,q4]at a;clear c;have hc:=HC.out;have aA:=aj.out;go_simp;all_goals exact a _ _ ⟨_,rfl,trivial,hR.skip _ (by decide),rfl⟩
     exact Ord.az
    case hend1=>
     intro D xs w3 f z;have C:=(z 5 (by decide)).2;have s:=(z 1 (by decide)).1;simp only[vj]at C;rw[C];have af:=Lib.hid (f.r1 s);have d:=Lib.hid f.dm;have ak:=Lib.hid f.bz;clear C z f s;have aC:Hid (∀W2,Rd 217 (fun i=>j.heap.size<=i/\i<Q) W2 Q ((b.drop 4).take 8) 0->Calls Tryz.prog 145 #[.pointer (some ⟨Q,0,none⟩)] W2 fun en w'=>en=.returned (.int .u64 ((Pg.cC b:Nat):Int))/\Rd 217 (fun i=>j.heap.size<=i/\i<Q) w' Q (((b.drop 4).take 8).drop 8) 0/\W2.grownBy w' (some Q)):=fun W2 h=>by
      have t:=dH _ _ 0 _ _ h;have G:aw.rdNum 8 ((b.drop 4).take 8) 0=(Pg.cC b,((b.drop 4).take 8).drop 8,0):=by
       have:=E.out;unfold aw.rdNum;rw[if_neg (by simp),if_neg (by simp;omega),HN.out,List.take_take];rfl
      rw[G]at t;exact t
     have aF:Hid ((b.drop 12).length=500):=by show _=_;have:=E.out;simp;omega
     have aB:Hid (j.heap.size<=w3.heap.size):=by show _<=_;have h1:=af.out.lt;have h2:=q.out;omega
     generalize xs 0=x0 at*
     generalize xs 1=x1 at*
     generalize xs 2=x2 at*
     generalize xs 3=x3 at*
     generalize xs 4=x4 at*
     go_upto_region 8 with(fail)
     refine Ord.walk (Eg Q g off cap (Pg.cC b)) (sS w R j.heap.size Q g off cap b) (fun _ _=>True)
      (by kernel_rfl) (by kernel_rfl) ?fr8 ?hfr8 yW (fun xs=>sS.first xs d.out ak.out af.out aB.out) ?he8 ?hend8
     case hfr8=>
      intro xs;simp only[Ord.fill,Act.put,List.setIfInBounds_toArray,List.set_cons_zero,List.set_cons_succ];rfl
     case he8=>
      iterate 8 (refine Ord.aa (fun D xs w2 o hC hP hR c K a=>?_) ?_;rotate_left)
      rotate_left
      ·clear c;go_simp;exact a _ _ ⟨_,rfl,trivial,hR.skip _ _ (by decide),rfl⟩
      ·have l:=Ord.ab _ c 0 (by decide);simp only[Eg]at l;simp only[l]at a;clear c;have h6:D 6=false:=by
        cases h:D 6 with
        |false=>rfl
        |true=>have:=Ord.aL hC 6 1 rfl h;rw[o]at this;cases this
       have h4:D 4=false:=by
        cases h:D 4 with
        |false=>rfl
        |true=>have:=Ord.aL hC 4 1 rfl h;rw[o]at this;cases this
       go_simp;refine(aC.out w2 (hR.rd o)).mono ?_;rintro e w'⟨rfl,-,hg⟩;exact a _ _ ⟨_,rfl,trivial,hR.one _ q.out h4 h6 hg,rfl⟩
      ·clear c;go_simp;exact a _ _ ⟨_,rfl,trivial,hR.skip _ _ (by decide),rfl⟩
      ·have O:=Ord.ab _ c 2 (by decide);simp only[Eg]at O;simp only[O]at a;clear c;have ar:=ay.out;go_simp;exact a _ _ ⟨_,rfl,trivial,hR.skip _ _ (by decide),rfl⟩
      ·have L:=Ord.ab _ c 3 (by decide);simp only[Eg]at L;simp only[L]at a;clear c;have h6:D 6=false:=by
        cases h:D 6 with
        |false=>rfl
        |true=>have:=Ord.aL hC 6 4 rfl h;rw[o]at this;cases this
       have h5:D 5=false:=by
        cases h:D 5 with
        |false=>rfl
        |true=>have:=Ord.aL hC 5 4 rfl h;rw[o]at this;cases this
       go_simp;refine(gK _ (b.drop 12) _ ((hR.bz h6).ic 12 E.out)).mono ?_;rintro e w'⟨u,rfl,y,hb⟩;exact a _ _ ⟨_,rfl,trivial,hR.four h5 h6 aF.out y hb,trivial⟩
      ·have k:=Ord.ab _ c 1 (by decide);simp only[Eg]at k;simp only[k]at a;clear c;have h6:D 6=false:=by
        cases h:D 6 with
        |false=>rfl
        |true=>have:=Ord.aL hC 6 5 rfl h;rw[o]at this;cases this
       have h4:D 4=true:=hP {on:=4,ground:=.data} (by simp) rfl;obtain⟨p4,c4,e4,-⟩:=hR.a4 h4 h6;have he:=e4;simp only[e4]at a;go_simp;exact a _ _ ⟨_,rfl,trivial,hR.zx (by rw[he]),trivial⟩
      ·clear c;have h5:D 5=true:=hP {on:=5,ground:=.data} (by simp) rfl;have h4:D 4=true:=hP {on:=4,ground:=.chain} (by simp) rfl;obtain⟨p4,c4,e4,-⟩:=hR.a4 h4 o;have C:=hR.a5 h5;have F:=(hR.dm o).fF;have c0:=bc F;have c1:=bI F;have f0:=cP F 0;have f1:=cP F 1;have an:=hR.FY (u:=undef) q.out h4 o;rw[e4]at C;rw[e4]at an;simp only[e4,C]at a;go_simp;exact a _ _ ⟨_,rfl,trivial,an,trivial⟩
      ·clear c;go_simp;exact a _ _ ⟨_,rfl,trivial,hR.skip _ _ (by decide),rfl⟩
      exact Ord.az
     case hend8=>
      intro D2 n w4 f z;have e7:=(z 7 (by decide)).2;simp only[Eg]at e7;rw[e7];obtain⟨u,x,P,⟨p5,c5,rfl⟩,T⟩:=f.a6 (z 6 (by decide)).1;have HV:=Lib.hid P;have D3:=Lib.hid T;have l:=bc x;have k:=bI x;clear e7 z f x P T;generalize n 0=y0 at*
      generalize n 1=y1 at*
      generalize n 2=y2 at*
      generalize n 3=y3 at*
      generalize n 4=y4 at*
      generalize n 5=y5 at*
      generalize n 6=y6 at*
      go_wp2_with fail
      refine bodyPost_ret (v:=.tuple #[fZ (Pg.cC b) (.slice p5 500 c5),.int .i64 0]) (by simp[results,Tryz.results104,go_sem,l,k]) rfl ⟨_,by rw[ai.out];rfl,?_,D3.out⟩;rw[ag.out];exact HV.out.from (by have:=q.out;have:=HR.out;omega)
   ·have he:Pg.cD b=14:=by rw[B.out,if_pos hs]
    have ai:=Lib.hid he;have aE:=Lib.hid (Pg.re (b:=b) (by rw[he];decide));have ag:=Lib.hid (Pg.rf (b:=b) (by rw[he];decide));have HC:Hid (((N:Int)!=(M:Int))=true):=by show _=_;simp;omega
    have aj:Hid (((N:Int)==(M:Int))=false):=by show _=_;rw[beq_eq_false_iff_ne];omega
    clear he B hs;go_upto_region 6 with(fail)
    refine Ord.walk (vj Q g off cap N M true) (fun D _ w'=>Aq w R j.heap.size Q g off cap b D w') (fun _ _=>True)
     (by kernel_rfl) (by kernel_rfl) ?fr2 ?hfr2 rb (fun xs=>av.out) ?he2 ?hend2
    case hfr2=>
     intro xs;simp only[Ord.fill,Act.put,List.setIfInBounds_toArray,List.set_cons_zero,List.set_cons_succ];rfl
    case he2=>
     iterate 6 (refine Ord.aa (fun D xs w2 o hC hP hR c K a=>?_) ?_;rotate_left)
     rotate_left
     ·clear c;go_simp;exact a _ _ ⟨_,rfl,trivial,hR.skip _ (by decide),rfl⟩
     ·have l:=Ord.ab _ c 0 (by decide);simp only[vj]at l;simp only[l]at a;clear c;go_simp;refine(HU.out w2 (hR.r0 o)).mono ?_;rintro e w'⟨rfl,hr,hg⟩;exact a _ _ ⟨_,rfl,trivial,hR.one q.out hr hg,rfl⟩
     ·clear c;go_simp;exact a _ _ ⟨_,rfl,trivial,hR.skip _ (by decide),rfl⟩
     ·have O:=Ord.ab _ c 2 (by decide);simp only[vj]at O;simp only[O]at a;clear c;have ar:=ax.out;go_simp;exact a _ _ ⟨_,rfl,trivial,hR.skip _ (by decide),rfl⟩
     ·have L:=Ord.ab _ c 3 (by decide);simp only[vj]at L;simp only[L]at a;clear c;go_simp;refine(lK _ _ _ (hR.bz.ic 4 E.out)).mono ?_;rintro e w'⟨rfl,hb⟩;rw[<-HM.out];exact a _ _ ⟨_,rfl,trivial,(hR.later hb).skip _ (by decide),rfl⟩
     ·have k:=Ord.ab _ c 1 (by decide);simp only[vj]at k;have q4:=Ord.ab _ c 4 (by decide);simp only[vj]at q4;simp only[k,q4]at a;clear c;have hc:=HC.out;have aA:=aj.out;go_simp;all_goals exact a _ _ ⟨_,rfl,trivial,hR.skip _ (by decide),rfl⟩
     exact Ord.az
    case hend2=>
     intro D xs w3 f z;have C:=(z 5 (by decide)).2;have s:=(z 1 (by decide)).1;simp only[vj]at C;rw[C];have af:=Lib.hid (f.r1 s);have d:=Lib.hid f.dm;have ak:=Lib.hid f.bz;clear C z f s;have c0:=bc d.out.fF;have c1:=bI d.out.fF;have f0:=cP d.out.fF 0;have f1:=cP d.out.fF 1;obtain⟨d1,d2,d3⟩:=d.out.done (.int .u64 0) (.slice none 0 0);have l:=bc d1;have k:=bI d1;have D2:=Lib.hid d2;have D3:=Lib.hid d3;clear d1 d2 d3;go_wp2_with fail
     refine bodyPost_ret (v:=.tuple #[fZ 0 (.slice none 0 0),.int .i64 14]) (by simp[results,Tryz.results104,go_sem,l,k]) rfl ⟨_,by rw[ai.out,aE.out];rfl,by rw[ag.out];exact aM _ _,D3.out⟩
 ·have he:Pg.cD b=2:=by unfold Pg.cD;rw[if_pos hl]
  have hi:¬(b.length:Int)=512:=by omega
  have h2:((b.length:Int)!=512)=true:=by simp;omega
  rw[he,Pg.re (by rw[he];decide),Pg.rf (by rw[he];decide)];clear hp hB hR he hl;go_enter Tryz.func104,Tryz.ntmps104;go_upto_region 1 with(fail)
  rw[<-U,<-HR.out];have c0:=bc y.fF;have c1:=bI y.fF;have f0:=cP y.fF 0;have f1:=cP y.fF 1;obtain⟨d1,d2,d3⟩:=y.done (.int .u64 0) (.slice none 0 0);have l:=bc d1;have k:=bI d1;have D3:=Lib.hid d3;clear y d1 d2 d3 U;go_wp2_with fail
  refine bodyPost_ret (v:=.tuple #[fZ 0 (.slice none 0 0),.int .i64 2]) (by simp[results,Tryz.results104,go_sem,l,k]) rfl ⟨_,rfl,aM _ _,D3.out⟩
theorem Bc:Gw where
 bytes:=fun n m l w _ a=>zR n m l w a
 opens:=fun m b w a=>uc m b w a
 blank:=fun w=>pX w
theorem zf{s base n:Int}(h0:0<=base)(b:0<=n)(d:base<=s-4):Pg.dW s base n=decide (n<=(s-4-base)/4):=by
 unfold Pg.dW;by_cases a:base<=s
 ·rw[Int.tdiv_eq_ediv_of_nonneg (by omega)];by_cases h:n<=(s-4-base)/4
  ·rw[decide_eq_true h];exact decide_eq_true ⟨h0,b,a,by omega⟩
  ·rw[decide_eq_false h];exact decide_eq_false fun⟨_,_,_,c⟩=>h (by omega)
 ·omega
set_option maxHeartbeats 1600000 in
set_option maxRecDepth 20000 in
theorem qV{B i g:Nat}{d:Dk.aq}{w:World}(h:bh w B i g d)(base n:Int)(t:n<=9223372036854775807):
 Calls Tryz.prog 106 #[.pointer (some ⟨B,0,none⟩),.int .i64 base,.int .i64 n] w fun e w'=>(Pg.dW (Dk.size d) base n=true->e=.returned (.tuple #[.int .i64 (base+4*n),.int .i64 0]))/\(Pg.dW (Dk.size d) base n=false->e=.returned (.tuple #[.int .i64 0,.int .i64 2]))/\w'=w:=by
 have hs:=Lib.hid (fJ h);have f:=h.own.one;have c:=h.own.size;clear h;obtain⟨s,a⟩:∃s,s=Dk.size d:=⟨_,rfl⟩
 rw[<-a]at hs f c⊢;clear a;have o:¬(s:Int)=0:=by omega
 have m:((s:Int)==0)=false:=by rw[beq_eq_false_iff_ne];omega
 have hw:=IntWalk.i64_in ((s:Int)-4) (by omega);have x:=Lib.hid c;have H1:=Lib.hid f;by_cases k1:base<0
 ·have hl:=lp (s:=s) (base:=base) (n:=n) (fun h=>by omega);rw[hl];go_enter Tryz.func106,Tryz.ntmps106;go_wp2_with (go_at_call 66;refine hs.out.mono ?_;rintro e w'⟨rfl,rfl⟩)
  go_ret2
  exact⟨fun h=>(by cases h),fun _=>rfl,rfl⟩
 by_cases k2:n<0
 ·have hl:=lp (s:=s) (base:=base) (n:=n) (fun h=>by omega);rw[hl];go_enter Tryz.func106,Tryz.ntmps106;go_wp2_with (go_at_call 66;refine hs.out.mono ?_;rintro e w'⟨rfl,rfl⟩)
  go_ret2
  exact⟨fun h=>(by cases h),fun _=>rfl,rfl⟩
 by_cases q:(s:Int)-4<base
 ·have hl:=lp (s:=s) (base:=base) (n:=n) (fun⟨v,u,a3,a4⟩=>by
   rw[Int.tdiv_eq_ediv_of_nonneg (by omega)]at a4;omega)
  rw[hl];go_enter Tryz.func106,Tryz.ntmps106;go_wp2_with (go_at_call 66;refine hs.out.mono ?_;rintro e w'⟨rfl,rfl⟩)
  go_ret2
  exact⟨fun h=>(by cases h),fun _=>rfl,rfl⟩
 have hl:=zf (s:=s) (base:=base) (n:=n) (by omega) (by omega) (by omega);have l:=IntWalk.i64_in ((s:Int)-4-base) (by omega);have r:wrap64 (((s:Int)-4-base).tdiv 4)=((s:Int)-4-base)/4:=by
  rw[Int.tdiv_eq_ediv_of_nonneg (by omega)];unfold wrap64;omega
 rw[hl];by_cases b:((s:Int)-4-base)/4<n
 ·rw[decide_eq_false (by omega)];have p:=Lib.hid b;clear hl;go_enter Tryz.func106,Tryz.ntmps106;go_wp2_with (go_at_call 66;refine hs.out.mono ?_;rintro e w'⟨rfl,rfl⟩)
  go_ret2
  exact⟨fun h=>(by cases h),fun _=>rfl,rfl⟩
 ·rw[decide_eq_true (by omega)];have p:=Lib.hid b;have k:=IntWalk.i64_in (4*n) (by omega);have j:=IntWalk.i64_in (base+4*n) (by omega);clear hl;go_enter Tryz.func106,Tryz.ntmps106;go_wp2_with (go_at_call 66;refine hs.out.mono ?_;rintro e w'⟨rfl,rfl⟩)
  go_ret2
  exact⟨fun _=>rfl,fun h=>(by cases h),rfl⟩
end Go.Proofs.YtbpodmallknhfaaGreat
namespace Go.Proofs.YtbpodmallknhfaaGreat.Dk
structure Calm(n:Nat)(d:aq):Prop where
 own:Own d
 off:d.off=false
 bL:d.bL=0
 sz:size d=n
 aW:d.aW=n
theorem lB{n:Nat}(b:1<=n)(a:n<=65536):Calm n (fresh n n):=⟨ra b a (Nat.le_refl _),rfl,rfl,by show(List.replicate n blank).length=n;rw[List.length_replicate],rfl⟩
def sv(d:aq)(i:Nat):List Nat:=(d.waits.getD i none).getD (d.aP.getD i [])
def gh(b:List Nat):List (List Nat):=[b.take 128,(b.drop 128).take 128,(b.drop 256).take 128,(b.drop 384).take 128]
def jk:aq->Nat->List (List Nat)->aq×Nat
 |d,_,[]=>(d,0)
 |d,a,b::r=>if(Dk.write d (a:Int) b).2≠0 then Dk.write d (a:Int) b else jk (Dk.write d (a:Int) b).1 (a+1) r
def iw:aq->Nat->Nat->List Nat×Nat
 |_,_,0=>([],0)
 |d,a,k+1=>if(Dk.read d (a:Int)).2≠0 then([],(Dk.read d (a:Int)).2)else if(iw d (a+1) k).2≠0 then([],(iw d (a+1) k).2)else((Dk.read d (a:Int)).1++(iw d (a+1) k).1,0)
def eP:aq->Nat->List (List Nat)->aq
 |d,_,[]=>d
 |d,a,b::r=>eP (put d a b) (a+1) r
def pv(d:aq)(a:Nat):List Nat:=sv d a++(sv d (a+1)++(sv d (a+2)++sv d (a+3)))
theorem ir(b:List Nat):(gh b).length=4:=rfl
theorem yA{b:List Nat}(h:b.length=512):b.take 128++((b.drop 128).take 128++((b.drop 256).take 128++(b.drop 384).take 128))=b:=by
 have a:(b.drop 384).take 128=b.drop 384:=List.take_of_length_le (by simp;omega);have c:(b.drop 256).take 128++b.drop 384=b.drop 256:=by
  have:=List.take_append_drop 128 (b.drop 256);rwa[List.drop_drop]at this
 have d:(b.drop 128).take 128++b.drop 256=b.drop 128:=by
  have:=List.take_append_drop 128 (b.drop 128);rwa[List.drop_drop]at this
 rw[a,c,d,List.take_append_drop]
theorem oI{b:List Nat}(h:b.length=512)(hs:∀x∈b,x<256):∀s∈gh b,fI s:=by
 intro s hm;simp only[gh,List.mem_cons,List.not_mem_nil,or_false]at hm;have c:∀n,n+128<=512->fI ((b.drop n).take 128):=fun n d=>⟨by simp;omega,fun x a=>hs x (List.mem_of_mem_drop (List.mem_of_mem_take a))⟩
 rcases hm with rfl|rfl|rfl|rfl
 ·exact⟨by simp;omega,fun x a=>hs x (List.mem_of_mem_take a)⟩
 ·exact c 128 (by omega)
 ·exact c 256 (by omega)
 ·exact c 384 (by omega)
end Go.Proofs.YtbpodmallknhfaaGreat.Dk
namespace Go.Proofs.YtbpodmallknhfaaGreat.Pg
def place(base n:Int):Nat:=(base+4*n).toNat
def write(d:Dk.aq)(base n:Int)(k:Nat)(l:List Nat):Dk.aq×Nat:=
 if l.length≠500 then(d,2)else if dW (Dk.size d) base n=false then(d,2)else Dk.jk d (place base n) (Dk.gh (form k l))
def read(d:Dk.aq)(base n:Int):(Nat×List Nat)×Nat:=
 if dW (Dk.size d) base n=false then((0,[]),2)else if(Dk.iw d (place base n) 4).2≠0 then((0,[]),(Dk.iw d (place base n) 4).2)else
  ((cC (Dk.iw d (place base n) 4).1,cZ (Dk.iw d (place base n) 4).1),cD (Dk.iw d (place base n) 4).1)
theorem py{s:Nat}{base n:Int}(h:dW s base n=true):place base n+4<=s:=by
 have h:=of_decide_eq_true h;obtain⟨d,c,b,a⟩:=h;rw[Int.tdiv_eq_ediv_of_nonneg (by omega)]at a;unfold place;omega
theorem qH{d:Dk.aq}{base m:Int}{k:Nat}{l:List Nat}(h:l.length≠500\/dW (Dk.size d) base m=false):write d base m k l=(d,2):=by
 unfold write;by_cases a:l.length≠500
 ·rw[if_pos a]
 ·rw[if_neg a,if_pos (h.resolve_left a)]
theorem AT{d:Dk.aq}{base m:Int}(h:dW (Dk.size d) base m=false):read d base m=((0,[]),2):=if_pos h
end Go.Proofs.YtbpodmallknhfaaGreat.Pg
namespace Go.Proofs.YtbpodmallknhfaaGreat
open Go.RowKit
theorem aV.EH{w:World}{g cap:Nat}{l:List Nat}(h:aV w (.slice (some ⟨g,0,none⟩) 512 cap) l)(hl:l.length=512)(i:Nat)(b:i<4):aV w (.slice (some ⟨g,i*128,none⟩) 128 (cap-i*128)) ((l.drop (i*128)).take 128):=by
 have a:=h.ic (i*128) hl (by omega);rw[Nat.zero_add]at a;have hd:(l.drop (i*128)).length=512-i*128:=by simp;omega
 rw[<-hd]at a;exact a.take 128 (by rw[hd];omega)
theorem Dk.CY(b:List Nat){i:Nat}(a:i<4):(Dk.gh b).drop i=(b.drop (i*128)).take 128::(Dk.gh b).drop (i+1):=by
 rcases i with _|_|_|_|i
 ·rfl
 ·rfl
 ·rfl
 ·rfl
 ·omega
theorem Dk.En{d:Dk.aq}{a:Nat}{x:List Nat}{r:List (List Nat)}(h:(Dk.write d (a:Int) x).2=0):Dk.jk d a (x::r)=Dk.jk (Dk.write d (a:Int) x).1 (a+1) r:=by
 show(if(Dk.write d (a:Int) x).2≠0 then _ else _)=_;rw[if_neg (by omega)]
theorem Dk.Av{d:Dk.aq}{a:Nat}{x:List Nat}{r:List (List Nat)}(h:(Dk.write d (a:Int) x).2≠0):Dk.jk d a (x::r)=Dk.write d (a:Int) x:=by
 show(if(Dk.write d (a:Int) x).2≠0 then _ else _)=_;rw[if_pos h]
set_option maxHeartbeats 1600000 in
set_option maxRecDepth 20000 in
theorem tX{B M L:Nat}{d:Dk.aq}{w:World}(h:bh w B M L d)(base n:Int)(k:Nat)(m:Value)(l:List Nat)(hn:n<=9223372036854775807)(hk:k<18446744073709551616)(Z:aV w m l):
 Calls Tryz.prog 105 #[.pointer (some ⟨B,0,none⟩),.int .i64 base,.int .i64 n,fZ k m] w fun e w'=>e=.returned (.int .i64 ((Pg.write d base n k l).2:Nat))/\bh w' B M L (Pg.write d base n k l).1/\Touch (DS B M L) w w':=by
 obtain⟨W,C⟩:∃W,W=w.alloc (.cells #[.int .u64 (k:Int),m] 59):=⟨_,rfl⟩
 have y:Below w.heap.size w W:=by rw[C];exact(Below.refl _ _).alloc (Nat.le_refl _) _
 have p:=Lib.hid y;have HH:=Lib.hid (h.below y);have an:=Lib.hid h.lt;have t:=Bc.bytes k m l W hk (Z.below y);have s:W.heap[w.heap.size]?=some (.cells #[.int .u64 (k:Int),m] 59 (0,0)):=by rw[C];exact heap_alloc_last _ _
 have q0:=bc s;have q1:=bI s;by_cases hl:l.length=500
 ·rw[if_pos hl,if_pos hl]at t;have V:(Pg.form k l).length=512:=by rw[Pg.bq,hl]
  obtain⟨pm,cm,rfl,-,-,-⟩:=Z.form;have o:=Lib.hid t;have J:=Lib.hid V;have HL:=Lib.hid hl;have E:Hid (∀w1,Below W.heap.size W w1->_):=fun w1 hb=>qV (HH.out.below hb) base n hn;have P:=h.own.size;clear t V h Z s y;by_cases b:Pg.dW (Dk.size d) base n=true
  ·have af:=Pg.py b;have R:base+4*n=((Pg.place base n:Nat):Int):=by
    have:=of_decide_eq_true b;unfold Pg.place;omega
   have N:Pg.write d base n k l=Dk.jk d (Pg.place base n) (Dk.gh (Pg.form k l)):=by
    unfold Pg.write;rw[if_neg (by rw[hl];decide),if_neg (by rw[b];decide)]
   rw[N];have I:=Lib.hid b;generalize Pg.place base n=a at*
   have HA:Hid (a+4<=65536):=by show _<=_;omega
   have ak:=Lib.hid R;generalize Pg.form k l=f at*
   rw[hl]at C q1 o⊢;clear N b af R P hl;go_enter Tryz.func105,Tryz.ntmps105;go_upto_region 1 with(fail)
   rw[<-C];clear C;go_wp2_with fail
   refine o.out.mono ?_;rintro e w1⟨u,rfl,D,j⟩;obtain⟨g,c,hu,U,aa,aj,ar,-⟩:=gT D (by rw[J.out];decide);rw[J.out]at hu aj;subst hu;have A:=Lib.hid (HH.out.below j);have HG:Hid (W.heap.size<=g/\g<w1.heap.size):=⟨U,aa⟩
   have HO:=Lib.hid D.bz;have q:=Lib.hid j;clear D U aa j o;go_wp2_with fail
   refine(E.out w1 q.out).mono ?_;rintro e w2⟨H,-,rfl⟩;have H:=H I.out;rw[ak.out]at H;subst H;clear E;go_wp2_with fail
   clear H;go_loopw [32] (fun i wr=>∃(K:Nat)(d1:Dk.aq),K<=4/\i=.int .i64 K/\bh wr B M L d1/\Touch (DS B M L) w2 wr/\Dk.jk d a (Dk.gh f)=Dk.jk d1 (a+K) ((Dk.gh f).drop K)) (fun i _=>4-(intOf i).toNat)
   case atStart=>exact⟨0,d,Nat.zero_le _,rfl,A.out,.refl _ _,rfl⟩
   case round=>
    obtain⟨K,d1,hK,rfl,hP,hT,he⟩:=hrel;have HP:=Lib.hid hP;have HT:=Lib.hid hT;have HE:=Lib.hid he;clear hP hT he;by_cases T:K<4
    ·have HK:=Lib.hid T;have hi:(K:Int)<4:=by omega
     have ai:=IntWalk.i64_in ((K:Int)*128) (by omega);have S:=IntWalk.i64_in ((K:Int)+1) (by omega);have ah:=IntWalk.i64_in (((K:Int)+1)*128) (by omega);have ag:=IntWalk.i64_in ((a:Int)+(K:Int)) (by have:=HA.out;omega);have F:¬DS B M L g:=fun hd=>by
      have H:=an.out g hd;have h2:=HG.out.1;have h3:=p.out.size;omega
     have hx:=(HT.out.bz HO.out (fun _ g' e hd=>by
      simp only[Value.ownBlock,Option.some.injEq]at e;subst e;exact F hd)).EH J.out K T
     have O:=gD HP.out ((a+K:Nat):Int) _ _ hx (fun _ g' e hd=>by
      simp only[Value.ownBlock,Option.some.injEq]at e;subst e;exact F hd)
     have ab:=Lib.hid O;clear hx O F hK;go_wp2_with fail
     rw[show(K+1)*128-K*128=128 by omega,show(a:Int)+(K:Int)=((a+K:Nat):Int)by omega];refine ab.out.mono ?_;have Q:=Dk.CY f HK.out;have v:=Dk.En (d:=d1) (a:=a+K) (x:=(f.drop (K*128)).take 128) (r:=(Dk.gh f).drop (K+1));have hend:=Dk.Av (d:=d1) (a:=a+K) (x:=(f.drop (K*128)).take 128) (r:=(Dk.gh f).drop (K+1));rw[<-Q,<-HE.out]at v hend;generalize Dk.write d1 ((a+K:Nat):Int) ((f.drop (K*128)).take 128)=dw at*
     obtain⟨d2,e2⟩:=dw;dsimp only at v hend⊢;rintro e w3⟨rfl,Y,X⟩;have ae:=Lib.hid Y;have ad:=Lib.hid (HT.out.trans X);clear Y X Q ai S ah ag ab;by_cases he:e2=0
     ·subst he;have al:=Lib.hid (v rfl);have S:=IntWalk.i64_in ((K:Int)+1) (by omega);clear v hend;go_wp2_with fail
      go_roundw
      case rel=>exact⟨K+1,d2,by omega,by go_num,ae.out,ad.out,al.out⟩
      case measure=>simp[intOf];omega
     ·have ao:=Lib.hid (hend he);have H:¬(e2:Int)=0:=by omega
      have h2:((e2:Int)!=0)=true:=by simp;omega
      clear v hend he;go_wp2_with fail
      go_ret;rw[ao.out];exact⟨rfl,ae.out,(Touch.aE (p.out.trans (q.out.mono p.out.size))).trans ad.out⟩
    ·obtain rfl:K=4:=by omega
     go_wp2_with fail
     go_ret;rw[HE.out];exact⟨rfl,HP.out,(Touch.aE (p.out.trans (q.out.mono p.out.size))).trans HT.out⟩
  ·have G:Pg.dW (Dk.size d) base n=false:=by cases h:Pg.dW (Dk.size d) base n<;>simp_all
   have I:=Lib.hid G;rw[Pg.qH (Or.inr G)];rw[hl]at C q1 o⊢;clear b G P hl;go_enter Tryz.func105,Tryz.ntmps105;go_upto_region 1 with(fail)
   rw[<-C];clear C;go_wp2_with fail
   refine o.out.mono ?_;rintro e w1⟨u,rfl,D,j⟩;obtain⟨pu,cu,rfl,-,-,-⟩:=D.bz.form;have A:=Lib.hid (HH.out.below j);have q:=Lib.hid j;clear D j o;go_wp2_with fail
   refine(E.out w1 q.out).mono ?_;rintro e w2⟨-,h2,rfl⟩;have h2:=h2 I.out;subst h2;clear E;go_wp2_with fail
   go_ret;exact⟨rfl,A.out,.aE (p.out.trans (q.out.mono p.out.size))⟩
 ·rw[if_neg hl,if_neg hl]at t;rw[Pg.qH (Or.inl hl)];obtain⟨pm,cm,rfl,-,-,-⟩:=Z.form;have o:=Lib.hid t;clear t h Z s y hl;generalize(l.length:Int)=z at*
  go_enter Tryz.func105,Tryz.ntmps105;go_upto_region 1 with(fail)
  rw[<-C];clear C;go_wp2_with fail
  refine o.out.mono ?_;rintro e w1⟨u,rfl,D,j⟩;obtain⟨pu,cu,rfl,-,-,-⟩:=D.bz.form;have A:=Lib.hid (HH.out.below j);have q:=Lib.hid j;clear D j o;go_wp2_with fail
  go_ret;exact⟨rfl,A.out,.aE (p.out.trans (q.out.mono p.out.size))⟩
def Dk.Rest(d:Dk.aq)(a K:Nat)(acc:List Nat):Prop:=
 Dk.iw d a 4=if(Dk.iw d (a+K) (4-K)).2≠0 then([],(Dk.iw d (a+K) (4-K)).2)else(acc++(Dk.iw d (a+K) (4-K)).1,0)
theorem Dk.oQ{d:Dk.aq}{a j:Nat}{x:List Nat}{e:Nat}(h:Dk.read d (a:Int)=(x,e)):
 Dk.iw d a (j+1)=if e≠0 then([],e)else if(Dk.iw d (a+1) j).2≠0 then([],(Dk.iw d (a+1) j).2)else(x++(Dk.iw d (a+1) j).1,0):=by
 show(if(Dk.read d (a:Int)).2≠0 then _ else _)=_;rw[h]
theorem Dk.Dc{d:Dk.aq}{a:Nat}:∀k:Nat,(Dk.iw d a k).2≠0->(Dk.iw d a k).1=[]
 |0,h=>absurd rfl h
 |k+1,h=>by
  obtain⟨x,e,c⟩:∃x e,Dk.read d (a:Int)=(x,e):=⟨_,_,rfl⟩
  rw[Dk.oQ c]at h⊢;by_cases he:e≠0
  ·rw[if_pos he]
  ·rw[if_neg he]at h⊢;by_cases b:(Dk.iw d (a+1) k).2≠0
   ·rw[if_pos b]
   ·rw[if_neg b]at h;exact absurd rfl h
theorem Dk.vK(d:Dk.aq)(a:Nat):Dk.Rest d a 0 []:=by
 show Dk.iw d a 4=if(Dk.iw d a 4).2≠0 then([],(Dk.iw d a 4).2)else([]++(Dk.iw d a 4).1,0)
 split
 ·next h=>rw[<-Dk.Dc 4 h]
 ·next h=>
  have h:(Dk.iw d a 4).2=0:=by simpa using h
  rw[List.nil_append,<-h]
theorem Dk.Rest.next{d:Dk.aq}{a K:Nat}{acc x:List Nat}(h:Dk.Rest d a K acc)(e:K<4)(c:Dk.read d ((a+K:Nat):Int)=(x,0)):Dk.Rest d a (K+1) (acc++x):=by
 unfold Dk.Rest at h⊢;rw[show 4-K=(4-(K+1))+1 by omega,Dk.oQ c,if_neg (show¬(0:Nat)≠0 by simp),show a+K+1=a+(K+1)by omega]at h;rw[h];generalize Dk.iw d (a+(K+1)) (4-(K+1))=r;by_cases b:r.2≠0
 ·rw[if_pos b,if_pos b,if_pos b]
 ·rw[if_neg b,if_neg b,if_neg (by simp),List.append_assoc]
theorem Dk.Rest.stop{d:Dk.aq}{a K:Nat}{acc x:List Nat}{e:Nat}(h:Dk.Rest d a K acc)(c:K<4)(he:e≠0)(b:Dk.read d ((a+K:Nat):Int)=(x,e)):Dk.iw d a 4=([],e):=by
 unfold Dk.Rest at h;rw[show 4-K=(4-(K+1))+1 by omega,Dk.oQ b,if_pos he,if_pos he]at h;exact h
theorem Dk.Rest.last{d:Dk.aq}{a:Nat}{acc:List Nat}(h:Dk.Rest d a 4 acc):Dk.iw d a 4=(acc,0):=by
 have h:Dk.iw d a 4=(acc++[],0):=h;rw[List.append_nil]at h;exact h
theorem Dk.AU{d:Dk.aq}(h:Dk.Ok d)(a:Int):(Dk.read d a).1.length<=128:=by
 unfold Dk.read;split
 ·exact Nat.zero_le _
 ·split
  ·exact Nat.zero_le _
  ·next hb=>
   have c:a.toNat<Dk.size d:=by unfold Dk.bad at hb;omega
   cases hw:d.waits.getD a.toNat none with
   |some b=>
    have hm:some b∈d.waits:=by
     rw[List.getD_eq_getElem?_getD,List.getElem?_eq_getElem (by rw[h.w];exact c),Option.getD_some]at hw;rw[<-hw];exact List.getElem_mem _
    exact Nat.le_of_eq (h.w1 b hm).1
   |none=>
    have hm:d.aP.getD a.toNat []∈d.aP:=by
     rw[List.getD_eq_getElem?_getD,List.getElem?_eq_getElem c,Option.getD_some];exact List.getElem_mem _
    exact Nat.le_of_eq (h.l1 _ hm).1
set_option maxHeartbeats 1600000 in
set_option maxRecDepth 20000 in
theorem vX{B m1 m2:Nat}{d:Dk.aq}{w:World}(h:bh w B m1 m2 d)(base n:Int)(hn:n<=9223372036854775807):
 Calls Tryz.prog 75 #[.pointer (some ⟨B,0,none⟩),.int .i64 base,.int .i64 n] w fun e w'=>∃u,e=.returned (.tuple #[fZ (Pg.read d base n).1.1 u,.int .i64 ((Pg.read d base n).2:Nat)])/\Own w.heap.size w' u (Pg.read d base n).1.2/\Below w.heap.size w w':=by
 obtain⟨W,L⟩:∃W,W=w.alloc (.cells #[.int .u64 0,.slice none 0 0] 59):=⟨_,rfl⟩
 obtain⟨R,hR⟩:∃R,R=w.heap.size:=⟨_,rfl⟩
 have hO:sY w W R:=⟨by rw[L,hR];exact heap_alloc_last _ _,hR,by rw[L];exact(Below.refl _ _).alloc (Nat.le_refl _) _⟩
 have HP:=Lib.hid (h.below hO.below);have y:=Lib.hid hO;have HR:=Lib.hid hR;have t:=Lib.hid (qV HP.out base n hn);have D:=h.own.ok;have O:=h.own.size;by_cases b:Pg.dW (Dk.size d) base n=true
 ·have af:=Pg.py b;have P:base+4*n=((Pg.place base n:Nat):Int):=by
   have:=of_decide_eq_true b;unfold Pg.place;omega
  have g:Pg.read d base n=if(Dk.iw d (Pg.place base n) 4).2≠0 then((0,[]),(Dk.iw d (Pg.place base n) 4).2)else((Pg.cC (Dk.iw d (Pg.place base n) 4).1,Pg.cZ (Dk.iw d (Pg.place base n) 4).1),Pg.cD (Dk.iw d (Pg.place base n) 4).1):=by
   unfold Pg.read;rw[if_neg (by rw[b];decide)]
  rw[g];obtain⟨rr,f⟩:∃rr,rr=if(Dk.iw d (Pg.place base n) 4).2≠0 then(((0,[]),(Dk.iw d (Pg.place base n) 4).2):(Nat×List Nat)×Nat)else((Pg.cC (Dk.iw d (Pg.place base n) 4).1,Pg.cZ (Dk.iw d (Pg.place base n) 4).1),Pg.cD (Dk.iw d (Pg.place base n) 4).1):=⟨_,rfl⟩
  rw[<-f];have H:=Lib.hid f;have J:=Lib.hid b;have al:=Lib.hid D;generalize Pg.place base n=a at*
  have HA:Hid (a+4<=65536):=by show _<=_;omega
  have ak:=Lib.hid P;clear g f b af P O D h hO;go_enter Tryz.func75,Tryz.ntmps75;go_upto_region 1 with(fail)
  rw[<-L,<-HR.out];clear L hR;go_wp2_with fail
  refine t.out.mono ?_;rintro e w2⟨j,-,rfl⟩;have j:=j J.out;rw[ak.out]at j;subst j;clear t;go_wp2_with fail
  clear j;go_loopw [10,25] (fun v i wr=>∃(K:Nat)(acc:List Nat),K<=4/\i=.int .i64 K/\Own w2.heap.size wr v acc/\acc.length<=128*K/\Below w2.heap.size w2 wr/\Dk.Rest d a K acc) (fun _ i _=>4-(intOf i).toNat)
  case atStart=>exact⟨0,[],Nat.zero_le _,rfl,aM _ _,Nat.zero_le _,Below.refl _ _,Dk.vK d a⟩
  case round=>
   obtain⟨K,acc,hK,rfl,hv,U,hb,l⟩:=hrel;have HV:=Lib.hid hv;have ae:=Lib.hid U;have p:=Lib.hid hb;have G:=Lib.hid l;obtain⟨pv,cv,rfl,-,-,-⟩:=hv.bz.form;clear hv U hb l;by_cases ah:K<4
   ·have HK:=Lib.hid ah;have hi:(K:Int)<4:=by omega
    have ag:=IntWalk.i64_in ((a:Int)+(K:Int)) (by have:=HA.out;omega);have g:=jY (HP.out.below p.out) ((a+K:Nat):Int);have hlen:=Dk.AU al.out ((a+K:Nat):Int);have m:=fun x(hx:Dk.read d ((a+K:Nat):Int)=(x,0))=>G.out.next HK.out hx;have k:=fun x e(he:e≠0)(hx:Dk.read d ((a+K:Nat):Int)=(x,e))=>G.out.stop HK.out he hx;generalize Dk.read d ((a+K:Nat):Int)=rr at*
    obtain⟨x,X⟩:=rr;dsimp only at g hlen;have Z:=Lib.hid g;have C:=Lib.hid hlen;have I:=Lib.hid m;have F:=Lib.hid k;clear g hlen m k hK;go_wp2_with fail
    rw[show(a:Int)+(K:Int)=((a+K:Nat):Int)by omega];refine Z.out.mono ?_;rintro e w3⟨u,rfl,hM,o⟩;obtain⟨pu,cu,rfl,-,-,-⟩:=hM.bz.form;have HM:=Lib.hid hM;have A:=Lib.hid o;clear hM o Z ag;by_cases he:X=0
    ·subst he;have aj:=Lib.hid (I.out x rfl);have av:=IntWalk.i64_in ((K:Int)+1) (by omega);clear I F;go_upto_region 11 with(fail)
     iterate 7 go_step
     refine aB rfl (.tmp 40) (.tmp 41) rfl w2.heap.size _ acc rfl (HV.out.below A.out) _ x rfl HM.out.bz (by have j:=ae.out;have s:=C.out;have h3:=HK.out;omega) (Nat.le_trans p.out.size A.out.size) ?_;intro v' w4 V T _;have an:=Lib.hid V;have au:=Lib.hid ((p.out.trans (A.out.mono p.out.size)).trans T);have ar:Hid ((acc++x).length<=128*(K+1)):=by show _<=_;have j:=ae.out;have s:=C.out;rw[List.length_append];omega
     clear V T;go_wp2_with fail
     go_roundw
     case rel=>exact⟨K+1,acc++x,by omega,by go_num,an.out,ar.out,au.out,aj.out⟩
     case measure=>simp[intOf];omega
    ·have ab:=Lib.hid (F.out x X he rfl);have ad:=Lib.hid he;have j:¬(X:Int)=0:=by omega
     have s:((X:Int)!=0)=true:=by simp;omega
     have c:=Lib.hid (y.out.later (p.out.trans (A.out.mono p.out.size)));clear I F he;have c0:=bc c.out.fF;have c1:=bI c.out.fF;have f0:=cP c.out.fF 0;have f1:=cP c.out.fF 1;obtain⟨d1,d2,d3⟩:=c.out.done (.int .u64 0) (.slice none 0 0);have N:=bc d1;have M:=bI d1;have D2:=Lib.hid d2;have D3:=Lib.hid d3;clear d1 d2 d3;go_wp2_with fail
     refine bodyPost_ret (v:=.tuple #[fZ 0 (.slice none 0 0),.int .i64 (X:Int)]) (by simp[results,Tryz.results75,go_sem,N,M]) rfl ⟨_,by rw[H.out,ab.out,if_pos ad.out],by rw[H.out,ab.out,if_pos ad.out];exact aM _ _,D3.out⟩
   ·obtain rfl:K=4:=by omega
    have f:=H.out;rw[G.out.last,if_neg (by simp)]at f;have Y:=Lib.hid f;clear f;have Q:=Bc.opens _ _ wr HV.out.bz;have aa:=Lib.hid Q;clear Q;go_wp2_with fail
    refine aa.out.mono ?_;rintro e w3⟨u,rfl,r,o⟩;obtain⟨pu,cu,hu,-,-,-⟩:=r.bz.form;have S:∀g3,u.ownBlock=some g3->R<g3:=by
     intro g3 q;rcases r.form with⟨j,s⟩|⟨g4,c4,j,s,-⟩
     ·rw[j]at q;cases q
     ·rw[j]at q;simp only[Value.ownBlock,Option.some.injEq]at q;have:=y.out.lt;have:=p.out.size;omega
    have ao:=Lib.hid S;have ai:=Lib.hid r;have c:=Lib.hid (y.out.later (p.out.trans (o.mono p.out.size)));have HZ:Hid (w.heap.size<=wr.heap.size):=by show _<=_;have j:=y.out.below.size;have s:=p.out.size;omega
    subst hu;generalize(Pg.cZ acc).length=z at*
    clear r o S aa;have c0:=bc c.out.fF;have c1:=bI c.out.fF;have f0:=cP c.out.fF 0;have f1:=cP c.out.fF 1;obtain⟨d1,d2,d3⟩:=c.out.done (.int .u64 (Pg.cC acc:Int)) (.slice pu z cu);have N:=bc d1;have M:=bI d1;have D2:=Lib.hid d2;have D3:=Lib.hid d3;clear d1 d2 d3;go_wp2_with fail
    refine bodyPost_ret (v:=.tuple #[fZ (Pg.cC acc) (.slice pu z cu),.int .i64 (Pg.cD acc:Nat)]) (by simp[results,Tryz.results75,go_sem,N,M]) rfl ⟨_,by rw[Y.out],?_,D3.out⟩;rw[Y.out];refine(ai.out.from HZ.out).grown D2.out (Or.inr fun h=>?_);exact absurd (ao.out _ h) (Nat.lt_irrefl _)
 ·have E:Pg.dW (Dk.size d) base n=false:=by cases h:Pg.dW (Dk.size d) base n<;>simp_all
  have J:=Lib.hid E;rw[Pg.AT E];clear b E O D h hO;go_enter Tryz.func75,Tryz.ntmps75;go_upto_region 1 with(fail)
  rw[<-L,<-HR.out];clear L hR;go_wp2_with fail
  refine t.out.mono ?_;rintro e w2⟨-,s,rfl⟩;have s:=s J.out;subst s;clear t;have c0:=bc y.out.fF;have c1:=bI y.out.fF;have f0:=cP y.out.fF 0;have f1:=cP y.out.fF 1;obtain⟨d1,d2,d3⟩:=y.out.done (.int .u64 0) (.slice none 0 0);have N:=bc d1;have M:=bI d1;have D2:=Lib.hid d2;have D3:=Lib.hid d3;clear d1 d2 d3;go_wp2_with fail
  refine bodyPost_ret (v:=.tuple #[fZ 0 (.slice none 0 0),.int .i64 2]) (by simp[results,Tryz.results75,go_sem,N,M]) rfl ⟨_,rfl,aM _ _,D3.out⟩
end Go.Proofs.YtbpodmallknhfaaGreat
namespace Go.Proofs.YtbpodmallknhfaaGreat.Wl
open Go.Proofs.YtbpodmallknhfaaGreat
def bytes(s:S):List Nat:=s.cd.flatMap Lr.form
def dM(s:S)(p:Nat):Nat:=(bytes s).getD (p-s.start) 0
theorem j6:∀{l:List Lr.R}{p q:Nat},chain p l q->p+(l.flatMap Lr.form).length=q
 | [],_,_,h=>h
 |x::l,p,q,h=>by
  have:=j6 h.2;rw[List.flatMap_cons,List.length_append];unfold size at this;omega
theorem ef{s:S}(h:Good s):s.start+(bytes s).length=s.stop:=j6 h.chain
def CK(l:List Lr.R)(q k:Nat):Nat:=match l[k]? with
 |some x=>x.bj
 |none=>q
theorem lj(s:S)(k:Nat):placeOf s k=CK s.cd s.stop k:=rfl
theorem dD:∀{l:List Lr.R}{p q:Nat},chain p l q->∀k,k<=l.length->chain p (l.take k) (CK l q k)/\chain (CK l q k) (l.drop k) q
 | [],p,q,h,k,hk=>by
  obtain rfl:k=0:=by simpa using hk
  exact⟨h,rfl⟩
 |x::l,p,q,h,0,_=>⟨(h.1).symm,rfl,by show chain (x.bj+size x) l q;rw[h.1];exact h.2⟩
 |x::l,p,q,h,k+1,hk=>by
  have a:=dD h.2 k (by simpa using hk);have e:CK (x::l) q (k+1)=CK l q k:=by unfold CK;rw[List.getElem?_cons_succ]
  rw[e];exact⟨⟨h.1,a.1⟩,a.2⟩
theorem lh{s:S}(h:Good s){k:Nat}(a:k<=s.cd.length):s.start<=placeOf s k/\placeOf s k<=s.stop:=
 ⟨pS (dD h.chain k a).1,pS (dD h.chain k a).2⟩
theorem tT{s:S}(h:Good s):placeOf s 0=s.start:=by
 have:=(dD h.chain 0 (Nat.zero_le _)).1;exact this.symm
theorem sq(s:S):placeOf s s.cd.length=s.stop:=by
 rw[lj];unfold CK;rw[List.getElem?_eq_none (Nat.le_refl _)]
theorem lY{s:S}(h:Good s){k:Nat}(b:k<s.cd.length):placeOf s (k+1)=placeOf s k+size s.cd[k]/\(s.cd[k]).bj=placeOf s k:=by
 have a:=(dD h.chain k (by omega)).2;rw[List.drop_eq_getElem_cons b]at a;refine⟨?_,a.1⟩;have e:=(dD a.2 0 (Nat.zero_le _)).1;have d:placeOf s k+size s.cd[k]=CK (s.cd.drop (k+1)) s.stop 0:=e;have c:CK (s.cd.drop (k+1)) s.stop 0=placeOf s (k+1):=by
  rw[lj];unfold CK;rw[List.getElem?_drop,Nat.add_zero]
 rw[<-c,<-d]
theorem tU {s : S} (h : Good s) : ∀ {j k : Nat}, j ≤ k → k ≤ s.cd.length → placeOf s j ≤ placeOf s k := by
  intro j k c b
  induction k with
  | zero => obtain rfl : j = 0 := by omega
            exact Nat.le_refl _
  | succ k ih =>
    rcases Nat.lt_or_ge j (k + 1) with a | a
    · have := (lY h (k := k) (by omega)).1
      have := ih (by omega) (by omega)
      omega
    · obtain rfl : j = k + 1 := by omega
      exact Nat.le_refl _
theorem lC{s:S}(h:Good s){k:Nat}(a:k<=s.cd.length):(bytes s).take (placeOf s k-s.start)=(s.cd.take k).flatMap Lr.form/\(bytes s).drop (placeOf s k-s.start)=(s.cd.drop k).flatMap Lr.form:=by
 have d:=j6 (dD h.chain k a).1;have c:placeOf s k-s.start=((s.cd.take k).flatMap Lr.form).length:=by rw[lj];omega
 have b:bytes s=(s.cd.take k).flatMap Lr.form++(s.cd.drop k).flatMap Lr.form:=by
  unfold bytes;rw[<-List.flatMap_append,List.take_append_drop]
 rw[c,b];exact⟨List.take_left' rfl,List.drop_left' rfl⟩
theorem uN{s:S}(h:Good s){k:Nat}(a:k<s.cd.length):(bytes s).drop (placeOf s k-s.start)=Lr.form s.cd[k]++(bytes s).drop (placeOf s (k+1)-s.start):=by
 rw[(lC h (Nat.le_of_lt a)).2,(lC h (k:=k+1) a).2,List.drop_eq_getElem_cons a,List.flatMap_cons]
structure Kn where
 start:Nat
 ae:Nat
 bp:Nat
 ai:Nat
def jc(a c:Nat)(k:Kn):List Nat:=((((aw.le 4 a++aw.le 4 c)++aw.le 8 k.start)++aw.le 8 k.ae)++aw.le 8 k.bp)++aw.le 4 k.ai
def head(a c:Nat)(k:Kn):List Nat:=(aw.le 4 (dK.more 0 (jc a c k))++jc a c k)++List.replicate 88 0
theorem mi(a c:Nat)(k:Kn):(jc a c k).length=36:=by
 unfold jc;simp only[List.length_append,aw.ao]
theorem nE(a c:Nat)(k:Kn):(head a c k).length=128:=by
 unfold head;simp only[List.length_append,aw.ao,mi,List.length_replicate]
theorem uz(a c:Nat)(k:Kn):∀x∈jc a c k,x<256:=
 Lr.cM (Lr.cM (Lr.cM (Lr.cM (Lr.cM (aw.c7 _ _) (aw.c7 _ _)) (aw.c7 _ _)) (aw.c7 _ _)) (aw.c7 _ _)) (aw.c7 _ _)
theorem gY(a c:Nat)(k:Kn):Dk.fI (head a c k):=
 ⟨nE a c k,Lr.cM (Lr.cM (aw.c7 _ _) (uz a c k)) (fun x b=>by rw[List.eq_of_mem_replicate b];decide)⟩
structure Hf where
 round:Nat
 ai:Nat
 fill:Nat
 log:List Nat
def dQ(b:List Nat):Hf:=⟨aw.num (b.take 4),aw.num ((b.drop 4).take 4),aw.num ((b.drop 8).take 4),b.drop 12⟩
def ux(x:Hf):List Nat:=((aw.le 4 x.round++aw.le 4 x.ai)++aw.le 4 x.fill)++x.log
def hf(b:List Nat)(k:Nat):List Nat:=(b.drop (64*k)).take 64
theorem kF{b:List Nat}(h:b.length=128){k:Nat}(a:k<2):(hf b k).length=64:=by
 unfold hf;rw[List.length_take,List.length_drop];omega
theorem pD(x:Hf):(ux x).length=12+x.log.length:=by
 unfold ux;simp only[List.length_append,aw.ao]
theorem pf{n:Nat}(h:n<4294967296):aw.num (aw.le 4 n)=n:=by
 rw[aw.mO,Nat.mod_eq_of_lt (Nat.lt_of_lt_of_le h (by decide))]
theorem BR{x:Hf}(c:x.round<4294967296)(b:x.ai<4294967296)(a:x.fill<4294967296):dQ (ux x)=x:=by
 have g:(ux x).take 4=aw.le 4 x.round:=by
  unfold ux;rw[List.append_assoc,List.append_assoc];exact List.take_left' (aw.ao 4 _)
 have f:(ux x).drop 4=aw.le 4 x.ai++(aw.le 4 x.fill++x.log):=by
  unfold ux;rw[List.append_assoc,List.append_assoc];exact List.drop_left' (aw.ao 4 _)
 have e:(ux x).drop 8=aw.le 4 x.fill++x.log:=by
  unfold ux;rw[List.append_assoc];exact List.drop_left' (by rw[List.length_append,aw.ao,aw.ao])
 have d:(ux x).drop 12=x.log:=by
  unfold ux;exact List.drop_left' (by rw[List.length_append,List.length_append,aw.ao,aw.ao,aw.ao])
 unfold dQ;rw[g,f,e,d,List.take_left' (aw.ao 4 _),List.take_left' (aw.ao 4 _),pf c,pf b,pf a]
def aQ(said ep a h:Nat)(x:Hf):Nat:=
 if x.round≠h/a then 0 else if x.ai≠ep then min (min x.fill 52) (max (h*52) said-h*52)else min x.fill 52
theorem xN(said ep a h:Nat)(x:Hf):aQ said ep a h x<=52:=by
 unfold aQ;split
 ·omega
 split
 ·omega
 ·omega
structure qG(s:S)(said q:Nat)(x:Hf):Prop where
 ep:x.ai<=s.ai
 FM:∀h,s.start/52<=h->h%(2*s.count)=q->0<aQ said s.ai (2*s.count) h x->h*52+aQ said s.ai (2*s.count) h x<=s.stop
 is:∀h i,s.start/52<=h->h%(2*s.count)=q->i<aQ said s.ai (2*s.count) h x->s.start<=h*52+i->x.log.getD i 0=dM s (h*52+i)
 lo:∀h,s.start/52<=h->h%(2*s.count)=q->min 52 (s.ae-h*52)<=aQ said s.ai (2*s.count) h x
theorem qG.move{s t:S}{said e q:Nat}{x:Hf}(h:qG s said q x)(o:t.count=s.count)(hs:s.start<=t.start)(n:s.ai<=t.ai)(k:t.ai=s.ai->t.stop=s.stop)(w:e<=t.stop)(hef:t.ae=e)
 (r:∀p,t.start<=p->p<t.stop->dM t p=dM s p) (l:∀g,t.start/52<=g->g%(2*s.count)=q->min 52 (e-g*52)<=aQ said s.ai (2*s.count) g x):qG t e q x:=by
 have key:∀g,t.start/52<=g->g%(2*s.count)=q->aQ e t.ai (2*s.count) g x<=aQ said s.ai (2*s.count) g x/\(0<aQ e t.ai (2*s.count) g x->g*52+aQ e t.ai (2*s.count) g x<=t.stop)/\min 52 (e-g*52)<=aQ e t.ai (2*s.count) g x:=by
  intro g b a;have m:s.start/52<=g:=Nat.le_trans (Nat.div_le_div_right hs) b;have c:=l g b a;have d:=h.FM g m a;have he:=h.ep;unfold aQ at c d⊢;by_cases j:x.round≠g/(2*s.count)
  ·rw[if_pos j]at c d⊢;rw[if_pos j];exact⟨Nat.le_refl _,fun h=>absurd h (Nat.lt_irrefl 0),c⟩
  ·rw[if_neg j]at c d⊢;rw[if_neg j];by_cases u:x.ai≠t.ai
   ·rw[if_pos u];by_cases f:x.ai≠s.ai
    ·rw[if_pos f]at c d⊢;refine⟨by omega,fun _=>by omega,by omega⟩
    ·rw[if_neg f]at c d⊢;refine⟨by omega,fun _=>by omega,by omega⟩
   ·have f:¬x.ai≠s.ai:=by omega
    have:=k (by omega);rw[if_neg u];rw[if_neg f]at c d⊢;refine⟨Nat.le_refl _,fun h=>by have:=d h;omega,c⟩
 refine⟨Nat.le_trans h.ep n,fun g b a=>?_,fun g i b a v hp=>?_,fun g b a=>?_⟩
 ·rw[o]at a⊢;exact(key g b a).2.1
 ·rw[o]at a v;obtain⟨k1,k2,-⟩:=key g b a;have y:=k2 (by omega);rw[r _ hp (by omega)];exact h.is g i (Nat.le_trans (Nat.div_le_div_right hs) b) a (by omega) (by omega)
 ·rw[o]at a⊢;rw[hef];exact(key g b a).2.2
theorem qG.ae{s:S}{said q:Nat}{x:Hf}(h:qG s said q x){f:Nat}(a:∀g,s.start/52<=g->g%(2*s.count)=q->min 52 (f-g*52)<=aQ said s.ai (2*s.count) g x):qG {s with ae:=f} said q x:=
 ⟨h.ep,h.FM,h.is,a⟩
theorem wV{s:S}(h:Good s)(x:Lr.R){p:Nat}(hp:p<s.stop)(hs:s.start<=p):dM (app s x) p=dM s p:=by
 have:=ef h;unfold dM;have e:bytes (app s x)=bytes s++Lr.form (bf s x):=by
  show(s.cd++[bf s x]).flatMap Lr.form=_;rw[List.flatMap_append,List.flatMap_cons,List.flatMap_nil,List.append_nil];rfl
 rw[e];show(bytes s++_).getD (p-s.start) 0=_;rw[List.getD_eq_getElem?_getD,List.getD_eq_getElem?_getD,List.getElem?_append_left (by omega)]
theorem qG.app{s:S}{said q:Nat}{x:Hf}(h:qG s said q x)(e:Good s)(r:Lr.R):qG (app s r) said q x:=by
 refine⟨h.ep,fun g c b a=>?_,fun g i c b a d=>?_,h.lo⟩
 ·have:=h.FM g c b a;show _<=s.stop+_;exact Nat.le_trans this (Nat.le_add_right _ _)
 ·have f:i<aQ said s.ai (2*s.count) g x:=a;have:=h.FM g c b (by omega);rw[wV e r (by omega) d];exact h.is g i c b a d
theorem xH{s:S}{said q h:Nat}{x:Hf}(B:s.start/52<=h)(A:h<s.start/52+2*s.count)(u:h%(2*s.count)=q)(r:x.round=h/(2*s.count))(he:x.ai=s.ai)(hf:x.fill=min 52 (s.stop-h*52))(t:h*52<s.stop)
 (p:∀i,i<x.fill->s.start<=h*52+i->x.log.getD i 0=dM s (h*52+i)) (f:s.stop<=(s.start/52+2*s.count)*52) (v:s.ae<=s.stop):qG s said q x:=by
 have y:0<2*s.count:=by omega
 have key:∀g,s.start/52<=g->g%(2*s.count)=q->g≠h->aQ said s.ai (2*s.count) g x=0/\s.stop<=g*52:=by
  intro g z m k;have o:=Nat.div_add_mod g (2*s.count);have n:=Nat.div_add_mod h (2*s.count);have j:g/(2*s.count)≠h/(2*s.count):=fun e=>k (by rw[<-o,<-n,e,m,u]);have l:h<g:=by
   rcases Nat.lt_or_ge h g with d|d
   ·exact d
   ·exfalso;have c:g/(2*s.count)<h/(2*s.count):=Nat.lt_of_le_of_ne (Nat.div_le_div_right d) j;have b:2*s.count*(g/(2*s.count)+1)<=2*s.count*(h/(2*s.count)):=Nat.mul_le_mul_left _ c;rw[Nat.mul_succ]at b;omega
  have c:h/(2*s.count)<g/(2*s.count):=Nat.lt_of_le_of_ne (Nat.div_le_div_right (Nat.le_of_lt l)) (Ne.symm j);have b:2*s.count*(h/(2*s.count)+1)<=2*s.count*(g/(2*s.count)):=Nat.mul_le_mul_left _ c;rw[Nat.mul_succ]at b;refine⟨?_,?_⟩
  ·unfold aQ;rw[if_pos (by rw[r];exact Ne.symm j)]
  ·refine Nat.le_trans f (Nat.mul_le_mul_right _ ?_);omega
 have a:aQ said s.ai (2*s.count) h x=x.fill:=by
  unfold aQ;rw[if_neg (by rw[r];simp),if_neg (by rw[he];simp)];omega
 refine⟨by rw[he];exact Nat.le_refl _,fun g d c b=>?_,fun g i d c b w=>?_,fun g d c=>?_⟩
 ·by_cases e:g=h
  ·subst e;rw[a];omega
  ·rw[(key g d c e).1]at b;exact absurd b (Nat.lt_irrefl 0)
 ·by_cases e:g=h
  ·subst e;rw[a]at b;exact p i b w
  ·rw[(key g d c e).1]at b;exact absurd b (Nat.not_lt_zero _)
 ·by_cases e:g=h
  ·subst e;rw[a];omega
  ·have:=(key g d c e).2;omega
theorem zp{s:S}{said q:Nat}{x:Hf}(hf:x.fill=0)(he:x.ai<=s.ai)(b:s.ae<=s.start/52*52):qG s said q x:=by
 have a:∀g,aQ said s.ai (2*s.count) g x=0:=by
  intro g;unfold aQ;rw[hf];split
  ·rfl
  split
  ·omega
  ·omega
 refine⟨he,fun g _ _ h=>?_,fun g i _ _ h _=>?_,fun g h _=>?_⟩
 ·rw[a]at h;exact absurd h (Nat.lt_irrefl 0)
 ·rw[a]at h;exact absurd h (Nat.not_lt_zero _)
 ·have:s.start/52*52<=g*52:=Nat.mul_le_mul_right _ h;omega
end Go.Proofs.YtbpodmallknhfaaGreat.Wl
namespace Go.Proofs.YtbpodmallknhfaaGreat.Wl
open Go.Proofs.YtbpodmallknhfaaGreat
structure Ex(s:S):Prop where
 aQ:Good s
 low:16<=s.count
 high:s.count<=8192
 room:s.stop<=(s.start/52+2*s.count)*52
 Gl:∃k,k<=s.cd.length/\placeOf s k=s.ae
 ep:s.ai<4294967296
 pt:s.bp<18446744073709551616
def iM(d:Dk.aq)(i:Nat):List Nat:=(d.waits.getD i none).getD (d.aP.getD i [])
def half(s:S)(d:Dk.aq)(h:Nat):Hf:=dQ (hf (iM d (s.at_+2+h%(2*s.count)/2)) (h%2))
def ji(s:S)(said j:Nat)(b:List Nat):Prop:=qG s said (2*j) (dQ (hf b 0))/\qG s said (2*j+1) (dQ (hf b 1))
theorem ji.hf{s:S}{said j:Nat}{b:List Nat}(h:ji s said j b){k:Nat}(a:k<2):qG s said (2*j+k) (dQ (hf b k)):=by
 obtain rfl|rfl:k=0\/k=1:=by omega
 ·exact h.1
 ·exact h.2
structure Dv(s:S)(said:Nat)(d:Dk.aq):Prop where
 ok:Dk.Ok d
 fits:s.at_+s.count+2<=Dk.size d
 hl:∀i,i<2->d.aP.getD (s.at_+i) []=head s.at_ s.count ⟨s.start,said,s.bp,s.ai⟩
 hw:∀i b,i<2->d.waits.getD (s.at_+i) none=some b->b=head s.at_ s.count ⟨s.start,said,s.bp,s.ai⟩
 sl:∀j,j<s.count->ji s said j (d.aP.getD (s.at_+2+j) [])
 sw:∀j b,j<s.count->d.waits.getD (s.at_+2+j) none=some b->ji s said j b
theorem Dv.iM{s:S}{said:Nat}{d:Dk.aq}(h:Dv s said d){j:Nat}(a:j<s.count):ji s said j (iM d (s.at_+2+j)):=by
 unfold Wl.iM;cases hw:d.waits.getD (s.at_+2+j) none with
 |none=>exact h.sl j a
 |some b=>exact h.sw j b a hw
theorem Dv.Gk{s:S}{said:Nat}{d:Dk.aq}(h:Dv s said d){i:Nat}(a:i<2):Wl.iM d (s.at_+i)=head s.at_ s.count ⟨s.start,said,s.bp,s.ai⟩:=by
 unfold Wl.iM;cases hw:d.waits.getD (s.at_+i) none with
 |none=>exact h.hl i a
 |some b=>exact h.hw i b a hw
theorem mG{n h:Nat}:h%(2*n)=2*(h%(2*n)/2)+h%2:=by
 have a:h%(2*n)%2=h%2:=Nat.mod_mod_of_dvd h (Nat.dvd_mul_right 2 n);have:=Nat.div_add_mod (h%(2*n)) 2;omega
theorem jo{n h:Nat}(a:0<n):h%(2*n)/2<n:=by
 have:=Nat.mod_lt h (show 0<2*n by omega);omega
theorem Dv.half{s:S}{said:Nat}{d:Dk.aq}(h:Dv s said d)(b:0<s.count)(g:Nat):qG s said (g%(2*s.count)) (half s d g):=by
 have a:=(h.iM (jo (h:=g) b)).hf (k:=g%2) (by omega);rw[<-mG]at a;exact a
theorem mo{d:Dk.aq}(h:Dk.Ok d){i:Nat}(a:i<Dk.size d):Dk.fI (iM d i):=by
 unfold iM;cases hw:d.waits.getD i none with
 |none=>
  rw[Option.getD_none,List.getD_eq_getElem?_getD,List.getElem?_eq_getElem a,Option.getD_some];exact h.l1 _ (List.getElem_mem _)
 |some b=>
  rw[List.getD_eq_getElem?_getD,List.getElem?_eq_getElem (by rw[h.w];exact a),Option.getD_some]at hw;exact h.w1 b (by rw[<-hw];exact List.getElem_mem _)
theorem sG{a b:List Nat}(d:a.length=128)(c:b.length=128)(p:Nat){k:Nat}(f:k<2):hf (Dk.pick p a b) k=hf a k\/hf (Dk.pick p a b) k=hf b k:=by
 have mix:∀u v:List Nat,u.length=128->v.length=128->hf (u.take 64++v.drop 64) k=hf u k\/hf (u.take 64++v.drop 64) k=hf v k:=by
  intro u v hu e;have hl:(u.take 64).length=64:=by rw[List.length_take];omega
  obtain rfl|rfl:k=0\/k=1:=by omega
  ·refine Or.inl ?_;unfold hf;rw[Nat.mul_zero,List.drop_zero,List.drop_zero,List.take_left' hl]
  ·refine Or.inr ?_;unfold hf;rw[Nat.mul_one,List.drop_left' hl]
 unfold Dk.pick;split
 ·exact Or.inl rfl
 split
 ·exact Or.inr rfl
 split
 ·exact(mix b a c d).symm
 ·exact mix a b d c
theorem ji.pick{s:S}{said j:Nat}{a b:List Nat}(d:ji s said j a)(c:ji s said j b)(la:a.length=128)(lb:b.length=128)(p:Nat):ji s said j (Dk.pick p a b):=by
 refine⟨?_,?_⟩
 ·rcases sG la lb p (k:=0) (by decide)with e|e
  ·rw[e];exact d.1
  ·rw[e];exact c.1
 ·rcases sG la lb p (k:=1) (by decide)with e|e
  ·rw[e];exact d.2
  ·rw[e];exact c.2
theorem kv(p:Nat)(a:List Nat):Dk.pick p a a=a:=by
 unfold Dk.pick;split
 ·rfl
 split
 ·rfl
 split
 ·exact List.take_append_drop 64 a
 ·exact List.take_append_drop 64 a
theorem rk{d:Dk.aq}(h:Dk.Ok d){i:Nat}(a:i<Dk.size d):(d.aP.getD i []).length=128:=by
 rw[List.getD_eq_getElem?_getD,List.getElem?_eq_getElem a,Option.getD_some];exact(h.l1 _ (List.getElem_mem _)).1
theorem yj{d:Dk.aq}(h:Dk.Ok d){i:Nat}{b:List Nat}(hw:d.waits.getD i none=some b):b.length=128:=by
 rw[List.getD_eq_getElem?_getD]at hw;cases h1:d.waits[i]? with
 |none=>rw[h1]at hw;cases hw
 |some x=>
  rw[h1]at hw;obtain rfl:x=some b:=hw;exact(h.w1 b (List.mem_of_getElem? h1)).1
theorem gp(n i:Nat):(List.replicate n (none:Option (List Nat))).getD i none=none:=Dk.cU _ _ _
theorem Dv.ay{s:S}{said:Nat}{d:Dk.aq}(h:Dv s said d)(a:List Nat):Dv s said (Dk.ay d a):=by
 have hz:=Dk.dp h.ok a;refine⟨Dk.j2 h.ok a,by rw[hz];exact h.fits,fun i e=>?_,fun i b e hw=>?_,fun j c=>?_,fun j b c hw=>?_⟩
 ·have:=h.fits;rw[Dk.eL h.ok a (by omega)];cases hw:d.waits.getD (s.at_+i) none with
  |none=>exact h.hl i e
  |some b=>
   show Dk.pick _ _ _=_;rw[h.hl i e,h.hw i b e hw,kv]
 ·rw[show(Dk.ay d a).waits=Dk.none_ d from rfl]at hw;unfold Dk.none_ at hw;rw[gp]at hw;cases hw
 ·have:=h.fits;rw[Dk.eL h.ok a (by omega)];cases hw:d.waits.getD (s.at_+2+j) none with
  |none=>exact h.sl j c
  |some b=>exact(h.sl j c).pick (h.sw j b c hw) (rk h.ok (by omega)) (yj h.ok hw) _
 ·rw[show(Dk.ay d a).waits=Dk.none_ d from rfl]at hw;unfold Dk.none_ at hw;rw[gp]at hw;cases hw
theorem Dv.last{s:S}{said:Nat}{d:Dk.aq}(h:Dv s said d):Dv s said (Dk.last d):=by
 have hz:=Dk.cf h.ok;have hf:=h.fits;refine⟨Dk.ma h.ok,by rw[hz];exact hf,fun i c=>?_,fun i b c hw=>?_,fun j a=>?_,fun j b a hw=>?_⟩
 ·rw[Dk.dY h.ok (by omega)];exact h.Gk c
 ·rw[show(Dk.last d).waits=Dk.none_ d from rfl]at hw;unfold Dk.none_ at hw;rw[gp]at hw;cases hw
 ·rw[Dk.dY h.ok (by omega)];exact h.iM a
 ·rw[show(Dk.last d).waits=Dk.none_ d from rfl]at hw;unfold Dk.none_ at hw;rw[gp]at hw;cases hw
theorem Dv.same{s:S}{said:Nat}{d a:Dk.aq}(h:Dv s said d)(ok:Dk.Ok a)(hl:a.aP=d.aP)(hw:a.waits=d.waits):Dv s said a:=by
 refine⟨ok,?_,?_,?_,?_,?_⟩
 ·have:=h.fits;unfold Dk.size at*
  rw[hl];exact this
 ·rw[hl];exact h.hl
 ·rw[hw];exact h.hw
 ·rw[hl];exact h.sl
 ·rw[hw];exact h.sw
theorem Dv.cj{s:S}{said:Nat}{d:Dk.aq}(h:Dv s said d):Dv s said (Dk.cj d):=by
 obtain⟨b,a,-,-⟩:=Dk.ee d;exact h.same (Dk.mb h.ok) b a
theorem gE{d:Dk.aq}{i k:Nat}{b:List Nat}(a:i<d.waits.length):(Dk.put d i b).waits.getD k none=if i=k then some b else d.waits.getD k none:=by
 show(d.waits.set i (some b)).getD k none=_;by_cases e:i=k
 ·subst e;rw[if_pos rfl,Dk.aZ a]
 ·rw[if_neg e,Dk.getD_set_ne e]
theorem Dv.put{s:S}{said:Nat}{d:Dk.aq}(h:Dv s said d){j:Nat}{b:List Nat}(m:j<s.count)(l:Dk.fI b)(hs:ji s said j b):Dv s said (Dk.put d (s.at_+2+j) b):=by
 have hf:=h.fits;have f:s.at_+2+j<d.waits.length:=by rw[h.ok.w];omega
 refine⟨Dk.eT h.ok _ l,h.fits,h.hl,fun i c a hw=>?_,h.sl,fun k c g hw=>?_⟩
 ·rw[gE f,if_neg (by omega)]at hw;exact h.hw i c a hw
 ·rw[gE f]at hw;by_cases e:j=k
  ·subst e;rw[if_pos rfl]at hw;cases hw;exact hs
  ·rw[if_neg (by omega)]at hw;exact h.sw k c g hw
theorem sM{d:Dk.aq}{i k:Nat}{b:List Nat}(a:i<d.waits.length):iM (Dk.put d i b) k=if i=k then b else iM d k:=by
 unfold iM;rw[gE a];by_cases e:i=k
 ·rw[if_pos e,if_pos e];rfl
 ·rw[if_neg e,if_neg e];rfl
def told(d:Dk.aq)(a:Nat)(b:List Nat):Dk.aq:=Dk.last (Dk.put (Dk.put d a b) (a+1) b)
theorem xr{d:Dk.aq}(h:Dk.Ok d){a:Nat}{b:List Nat}(c:Dk.fI b):Dk.Ok (told d a b):=Dk.ma (Dk.eT (Dk.eT h _ c) _ c)
theorem mD{d:Dk.aq}(h:Dk.Ok d){a:Nat}{b:List Nat}(c:Dk.fI b):Dk.size (told d a b)=Dk.size d:=Dk.cf (Dk.eT (Dk.eT h _ c) _ c)
theorem jm(d:Dk.aq)(a i:Nat)(b:List Nat):(told d a b).waits.getD i none=none:=gp _ _
theorem jn{d:Dk.aq}(h:Dk.Ok d){a i:Nat}{b:List Nat}(c:Dk.fI b)(j:a+1<Dk.size d)(g:i<Dk.size d):(told d a b).aP.getD i []=if i=a\/i=a+1 then b else iM d i:=by
 have m:Dk.Ok (Dk.put (Dk.put d a b) (a+1) b):=Dk.eT (Dk.eT h _ c) _ c;have l:a<d.waits.length:=by rw[h.w];omega
 have k:a+1<(Dk.put d a b).waits.length:=by
  have:=(Dk.eT h a c).w;rw[this];exact j
 unfold told;rw[Dk.dY m g];show iM (Dk.put (Dk.put d a b) (a+1) b) i=_;rw[sM k,sM l];by_cases f:a+1=i
 ·rw[if_pos f,if_pos (Or.inr f.symm)]
 ·rw[if_neg f];by_cases e:a=i
  ·rw[if_pos e,if_pos (Or.inl e.symm)]
  ·rw[if_neg e,if_neg (by omega)]
theorem rE{n:Nat}{d:Dk.aq}(h:Calm n d)(ok:Dk.Ok d){a:Nat}{b:List Nat}(c:Dk.fI b):Calm n (told d a b):=⟨h.off,h.bL,by rw[mD ok c];exact h.sz,h.aW⟩
theorem Dv.told{s t:S}{said e:Nat}{d:Dk.aq}(h:Dv s said d)(B:0<s.count)(y:t.at_=s.at_)(q:t.count=s.count)(hs:s.start<=t.start)(o:s.ai<=t.ai)(a:t.ai=s.ai->t.stop=s.stop)(m:e<=t.stop)(hef:t.ae=e)
 (r:∀p,t.start<=p->p<t.stop->dM t p=dM s p) (c:∀g,t.start/52<=g->min 52 (e-g*52)<=aQ said s.ai (2*s.count) g (Wl.half s d g)):Dv t e (told d s.at_ (head s.at_ s.count ⟨t.start,e,t.bp,t.ai⟩)):=by
 have v:=gY s.at_ s.count ⟨t.start,e,t.bp,t.ai⟩;have l:=h.fits;have x:∀j,j<s.count->ji t e j (Wl.iM d (s.at_+2+j)):=by
  intro j f;have h0:=h.iM f;have z:∀k,k<2->∀g,g%(2*s.count)=2*j+k->Wl.half s d g=dQ (hf (Wl.iM d (s.at_+2+j)) k):=by
   intro k D g E;have w:=mG (n:=s.count) (h:=g);have u:g%(2*s.count)/2=j:=by omega
   have C:g%2=k:=by omega
   unfold Wl.half;rw[u,C]
  refine⟨h0.1.move q hs o a m hef r fun g w u=>?_,h0.2.move q hs o a m hef r fun g w u=>?_⟩
  ·rw[<-z 0 (by decide) g u];exact c g w
  ·rw[<-z 1 (by decide) g u];exact c g w
 refine⟨xr h.ok v,by rw[mD h.ok v,y,q];exact l,fun i A=>?_,fun i b A hw=>?_,fun j f=>?_,fun j b f hw=>?_⟩
 ·rw[y,q,jn h.ok v (by omega) (by omega),if_pos (by omega)]
 ·rw[jm]at hw;cases hw
 ·rw[q]at f;rw[y,jn h.ok v (by omega) (by omega),if_neg (by omega)];exact x j f
 ·rw[jm]at hw;cases hw
theorem Dv.app{s:S}{said:Nat}{d:Dk.aq}(h:Dv s said d)(c:Good s)(r:Lr.R):Dv (app s r) said d:=
 ⟨h.ok,h.fits,h.hl,h.hw,fun j a=>⟨(h.sl j a).1.app c r,(h.sl j a).2.app c r⟩,fun j b a hw=>⟨(h.sw j b a hw).1.app c r,(h.sw j b a hw).2.app c r⟩⟩
theorem Cb{d:Dk.aq}{a c:Nat}(ok:Dk.Ok d)(e:a+c+2<=Dk.size d)(hz:∀i,i<Dk.size d->iM d i=Dk.blank):Dv (fresh a c) 52 (told d a (head a c ⟨52,52,0,1⟩)):=by
 have f:=gY a c ⟨52,52,0,1⟩;have h0:∀k,k<2->∀q,qG (fresh a c) 52 q (dQ (hf Dk.blank k)):=by
  intro k l q;refine zp ?_ ?_ (show 52<=52/52*52 by decide)
  ·obtain rfl|rfl:k=0\/k=1:=by omega
   ·decide
   ·decide
  ·obtain rfl|rfl:k=0\/k=1:=by omega
   ·show(dQ (hf Dk.blank 0)).ai<=1;decide
   ·show(dQ (hf Dk.blank 1)).ai<=1;decide
 refine⟨xr ok f,by rw[mD ok f];exact e,fun i h=>?_,fun i b h hw=>?_,fun j g=>?_,fun j b g hw=>?_⟩
 ·show(Wl.told d a _).aP.getD (a+i) []=_;rw[jn ok f (by omega) (by omega),if_pos (by omega)];rfl
 ·rw[jm]at hw;cases hw
 ·have g:j<c:=g;show ji _ _ _ ((Wl.told d a _).aP.getD (a+2+j) []);rw[jn ok f (by omega) (by omega),if_neg (by omega),hz _ (by omega)];exact⟨h0 0 (by decide) _,h0 1 (by decide) _⟩
 ·rw[jm]at hw;cases hw
theorem B8{a c:Nat}(d:16<=c)(b:c<=8192):Ex (fresh a c):=by
 refine⟨lx a c,d,b,?_,⟨0,Nat.zero_le _,rfl⟩,(show 1<4294967296 by decide),(show 0<18446744073709551616 by decide)⟩;show 52<=(52/52+2*c)*52;omega
structure Ls(s:S)(said:Nat)(d:Dk.aq)(h:Nat)(acc:List Nat):Prop where
 low:s.start/52<=h
 high:h<=s.start/52+2*s.count
 len:acc.length=52*(h-s.start/52)
 is:∀i,i<acc.length->s.start<=s.start/52*52+i->acc.getD i 0=dM s (s.start/52*52+i)
 full:∀g,s.start/52<=g->g<h->aQ said s.ai (2*s.count) g (half s d g)=52
structure qc(s:S)(said:Nat)(d:Dk.aq)(E:Nat)(acc:List Nat):Prop where
 len:s.start/52*52+acc.length=E
 is:∀i,i<acc.length->s.start<=s.start/52*52+i->acc.getD i 0=dM s (s.start/52*52+i)
 lo:∀g,s.start/52<=g->min 52 (E-g*52)<=aQ said s.ai (2*s.count) g (half s d g)
 fl:s.ae<=E
 st:E<=s.stop
theorem eW{a b:List Nat}(i:Nat):(a++b).getD i 0=if i<a.length then a.getD i 0 else b.getD (i-a.length) 0:=by
 rw[List.getD_eq_getElem?_getD];by_cases h:i<a.length
 ·rw[if_pos h,List.getElem?_append_left h,List.getD_eq_getElem?_getD]
 ·rw[if_neg h,List.getElem?_append_right (by omega),List.getD_eq_getElem?_getD]
theorem getD_take{a:List Nat}{n i:Nat}(h:i<n):(a.take n).getD i 0=a.getD i 0:=by
 rw[List.getD_eq_getElem?_getD,List.getElem?_take,if_pos h,List.getD_eq_getElem?_getD]
theorem Ls.part{s:S}{said:Nat}{d:Dk.aq}{h:Nat}{acc:List Nat}(H:Ls s said d h acc)(g:Dv s said d)(b:0<s.count){n:Nat}(k:aQ said s.ai (2*s.count) h (Wl.half s d h)=n)(hl:(Wl.half s d h).log.length=52):
 (acc++(Wl.half s d h).log.take n).length=52*(h-s.start/52)+n/\∀i,i<(acc++(Wl.half s d h).log.take n).length->s.start<=s.start/52*52+i->(acc++(Wl.half s d h).log.take n).getD i 0=dM s (s.start/52*52+i):=by
 have c:=xN said s.ai (2*s.count) h (Wl.half s d h);have l:=H.low;have j:=H.len;have hlen:(acc++(Wl.half s d h).log.take n).length=52*(h-s.start/52)+n:=by
  rw[List.length_append,List.length_take,hl,j];omega
 refine⟨hlen,fun i f hp=>?_⟩;rw[hlen]at f;rw[eW];by_cases a:i<acc.length
 ·rw[if_pos a];exact H.is i a hp
 ·rw[if_neg a,getD_take (by omega)];have e:s.start/52*52+i=h*52+(i-acc.length):=by omega
  rw[e]at hp⊢;exact(g.half b h).is h _ H.low rfl (by omega) hp
theorem By(s:S)(said:Nat)(d:Dk.aq):Ls s said d (s.start/52) []:=⟨Nat.le_refl _,Nat.le_add_right _ _,by rw[Nat.sub_self];rfl,fun i a=>absurd a (Nat.not_lt_zero i),fun g c b=>by omega⟩
theorem Ls.next{s:S}{said:Nat}{d:Dk.aq}{h:Nat}{acc:List Nat}(H:Ls s said d h acc)(e:Dv s said d)(a:0<s.count)(b:aQ said s.ai (2*s.count) h (Wl.half s d h)=52)(hl:(Wl.half s d h).log.length=52)(k:h<s.start/52+2*s.count):
 Ls s said d (h+1) (acc++(Wl.half s d h).log.take 52):=by
 obtain⟨j,i⟩:=H.part e a b hl;have m:=H.low;refine⟨by omega,by omega,by rw[j];omega,i,fun g f l=>?_⟩;rcases Nat.lt_or_ge g h with c|c
 ·exact H.full g f c
 ·obtain rfl:g=h:=by omega
  exact b
theorem Ls.aW{s:S}{said:Nat}{d:Dk.aq}{h:Nat}{acc:List Nat}(H:Ls s said d h acc)(c:Dv s said d)(a:0<s.count):h*52<=s.stop\/h=s.start/52:=by
 rcases Nat.lt_or_ge (s.start/52) h with f|f
 ·refine Or.inl ?_;obtain⟨g,rfl⟩:∃g,h=g+1:=⟨h-1,by omega⟩
  have b:=H.full g (by omega) (by omega);have e:=(c.half a g).FM g (by omega) rfl (by rw[b];decide);rw[b]at e;omega
 ·exact Or.inr (by have:=H.low;omega)
theorem Ls.stop{s:S}{said:Nat}{d:Dk.aq}{h n:Nat}{acc:List Nat}(H:Ls s said d h acc)(c:Dv s said d)(a:0<s.count)(i:Ex s)(e:aQ said s.ai (2*s.count) h (Wl.half s d h)=n)(m:n<52)(hl:(Wl.half s d h).log.length=52):
 qc s said d (h*52+n) (acc++(Wl.half s d h).log.take n):=by
 obtain⟨t,r⟩:=H.part c a e hl;have l:=H.low;have f:=(c.half a h).lo h l rfl;have b:=(c.half a h).FM h l rfl;rw[e]at f b;have hm:=H.aW c a;have o:=i.aQ.low;have p:=i.aQ.high;refine⟨by rw[t];omega,r,fun g q=>?_,by omega,?_⟩
 ·rcases Nat.lt_or_ge g h with k|k
  ·rw[H.full g q k];omega
  ·rcases Nat.lt_or_ge h g with j|j
   ·have:(h+1)*52<=g*52:=Nat.mul_le_mul_right _ j;omega
   ·obtain rfl:g=h:=by omega
    rw[e];omega
 ·rcases Nat.eq_zero_or_pos n with h0|h0
  ·rcases hm with hm|hm
   ·omega
   ·subst hm;omega
  ·exact b h0
theorem Ls.done{s:S}{said:Nat}{d:Dk.aq}{h:Nat}{acc:List Nat}(H:Ls s said d h acc)(f:Dv s said d)(a:0<s.count)(c:Ex s)(k:¬h<s.start/52+2*s.count):qc s said d (h*52) acc:=by
 have n:=H.low;have m:=H.high;have l:=H.len;obtain rfl:h=s.start/52+2*s.count:=by omega
 have hm:=H.aW f a;have j:=c.room;have e:=c.aQ.high;refine⟨by omega,H.is,fun g i=>?_,by omega,by omega⟩;rcases Nat.lt_or_ge g (s.start/52+2*s.count)with b|b
 ·rw[H.full g i b];omega
 ·have:(s.start/52+2*s.count)*52<=g*52:=Nat.mul_le_mul_right _ b;omega
theorem B7{a b:List Nat}(h:a.length=b.length)(d:∀i,i<a.length->a.getD i 0=b.getD i 0):a=b:=by
 refine List.ext_getElem h fun i c e=>?_;have:=d i c;simp only[List.getD_eq_getElem?_getD]at this;rw[List.getElem?_eq_getElem c,List.getElem?_eq_getElem e]at this;exact this
theorem kI{a:List Nat}{n i:Nat}:(a.drop n).getD i 0=a.getD (n+i) 0:=by
 rw[List.getD_eq_getElem?_getD,List.getElem?_drop,List.getD_eq_getElem?_getD]
theorem qc.found{s:S}{said:Nat}{d:Dk.aq}{E:Nat}{acc:List Nat}(H:qc s said d E acc)(a:Good s):acc.drop (min acc.length (s.start%52))=(bytes s).take (E-s.start)/\s.start%52<=acc.length/\s.start<=E:=by
 have k:=H.len;have j:=a.low;have h:=H.fl;have g:=H.st;have f:=ef a;have e:=Nat.div_add_mod s.start 52;have b:s.start%52<=acc.length:=by omega
 refine⟨?_,b,by omega⟩;rw[Nat.min_eq_right b];refine B7 ?_ fun i c=>?_
 ·rw[List.length_drop,List.length_take];omega
 ·rw[List.length_drop]at c;rw[kI,H.is _ (by omega) (by omega),getD_take (by omega)];unfold dM;rw[show s.start/52*52+(s.start%52+i)-s.start=i by omega]
structure Fd(s:S)(E k:Nat)(b:List Nat):Prop where
 kl:k<=s.cd.length
 e:placeOf s k<=E
 st:E<=s.stop
 fl:s.ae<=E
 b:b=((bytes s).take (E-s.start)).drop (placeOf s k-s.start)
theorem B6{s:S}(a:Ex s){E:Nat}(d:s.start<=E)(c:E<=s.stop)(b:s.ae<=E):Fd s E 0 ((bytes s).take (E-s.start)):=by
 have:=tT a.aQ;exact⟨Nat.zero_le _,by omega,c,b,by rw[this,Nat.sub_self,List.drop_zero]⟩
theorem Fd.len{s:S}{E k:Nat}{b:List Nat}(h:Fd s E k b)(a:Ex s):b.length=E-placeOf s k:=by
 have e:=ef a.aQ;have d:=lh a.aQ h.kl;have c:=h.st;rw[h.b,List.length_drop,List.length_take];omega
theorem Fd.go{s:S}{E k:Nat}{b:List Nat}(h:Fd s E k b)(c:Ex s){x:Lr.R}(e:k<s.cd.length)(a:s.cd[k]=x)(hf:placeOf s k+size x<=E):
 Lr.jM b=(x,size x,0)/\x.bj=placeOf s k/\placeOf s (k+1)=placeOf s k+size x/\Fd s E (k+1) (b.drop (size x))/\size x<=b.length:=by
 have d:=lY c.aQ e;have g:=uN c.aQ e;have n:=lh c.aQ h.kl;have m:=h.len c;rw[a]at d g;have i:b=((bytes s).drop (placeOf s k-s.start)).take (E-placeOf s k):=by
  rw[h.b,List.drop_take,show E-s.start-(placeOf s k-s.start)=E-placeOf s k by omega]
 obtain⟨l,j⟩:=c.aQ.ok x (by rw[<-a];exact List.getElem_mem _);have hl:(Lr.form x).length=size x:=rfl;have f:Lr.Is b x:=by
  refine⟨l,j,((bytes s).drop (placeOf s (k+1)-s.start)).take (E-placeOf s k-size x),?_⟩;rw[i,g,List.take_append,hl,List.take_of_length_le (by omega)]
 refine⟨Lr.tK f,d.2,d.1,⟨e,by omega,h.st,h.fl,?_⟩,by omega⟩;rw[h.b,List.drop_drop,d.1,show placeOf s k-s.start+size x=placeOf s k+size x-s.start by omega]
theorem Fd.halt{s:S}{E k:Nat}{b:List Nat}(h:Fd s E k b)(a:Ex s)(p:∀x,s.cd[k]?=some x->E<placeOf s k+size x):Lr.jM b=(Lr.zero,0,4)/\s.ae<=placeOf s k:=by
 have A:=lh a.aQ h.kl;have z:=h.len a;have o:=h.st;have t:b=((bytes s).drop (placeOf s k-s.start)).take (E-placeOf s k):=by
  rw[h.b,List.drop_take,show E-s.start-(placeOf s k-s.start)=E-placeOf s k by omega]
 rcases Nat.lt_or_ge k s.cd.length with c|r
 ·have m:=lY a.aQ c;have l:=uN a.aQ c;have n:=p _ (List.getElem?_eq_getElem c);obtain⟨x,d⟩:∃x,s.cd[k]=x:=⟨_,rfl⟩
  rw[d]at m l n;have he:=h.e;obtain⟨u,v⟩:=a.aQ.ok x (by rw[<-d];exact List.getElem_mem _);have hl:(Lr.form x).length=size x:=rfl;refine⟨Lr.jr fun y f=>?_,?_⟩
  ·rw[t,l,List.take_append_of_le_length (by omega)]at f;exact Lr.Ce u _ (by omega) y f
  ·obtain⟨j,q,he⟩:=a.Gl;have w:=h.fl;rcases Nat.lt_or_ge k j with i|i
   ·have:=tU a.aQ (j:=k+1) (k:=j) i q;omega
   ·have:=tU a.aQ i h.kl;omega
 ·have g:k=s.cd.length:=by have:=h.kl;omega
  have m:=sq s;rw[<-g]at m;have l:=a.aQ.high;refine⟨Lr.jr fun y f=>?_,by omega⟩;have n:=(Lr.qT f).1;have:=Lr.bq y;omega
def Hd(d:Dk.aq)(s:S):Prop:=Ex s/\∃said,said<=s.stop/\Dv s said d
theorem Hd.ay{d:Dk.aq}{s:S}(h:Hd d s)(a:List Nat):Hd (Dk.ay d a) s:=by
 obtain⟨e,said,b,c⟩:=h;exact⟨e,said,b,c.ay a⟩
theorem uD{s:S}(h:Good s){k:Nat}(a:k<=s.cd.length):Good (cut s k):=
 ⟨(dD h.chain k a).1,(lh h a).1,Nat.le_refl _,fun x b=>h.ok x (List.mem_of_mem_take b)⟩
theorem wU{s:S}(h:Good s){k:Nat}(a:k<=s.cd.length){p:Nat}(c:s.start<=p)(b:p<placeOf s k):dM (cut s k) p=dM s p:=by
 have e:bytes (cut s k)=(bytes s).take (placeOf s k-s.start):=((lC h a).1).symm;unfold dM;rw[e];exact getD_take (by show p-s.start<_;omega)
theorem Fa{s:S}(h:Ex s){k:Nat}(a:k<=s.cd.length)(he:s.ai<=1000000):Ex (cut s k):=by
 have b:=lh h.aQ a;refine⟨uD h.aQ a,h.low,h.high,Nat.le_trans b.2 h.room,⟨(s.cd.take k).length,Nat.le_refl _,sq (cut s k)⟩,by show s.ai+1<_;omega,h.pt⟩
theorem qc.cut{s:S}{said:Nat}{d:Dk.aq}{E k:Nat}{acc:List Nat}(H:qc s said d E acc)(f:Dv s said d)(a:Ex s)(b:k<=s.cd.length)(l:placeOf s k<=E):
 Dv (cut s k) (placeOf s k) (Wl.told d s.at_ (head s.at_ s.count ⟨s.start,placeOf s k,s.bp,s.ai+1⟩)):=by
 refine f.told (t:=Wl.cut s k) (e:=placeOf s k) (by have:=a.low;omega) rfl rfl (Nat.le_refl _) (Nat.le_succ _) (fun h=>absurd h (Nat.succ_ne_self _)) (Nat.le_refl _) rfl (fun p j i=>wU a.aQ b j i) fun g c=>?_;have:=H.lo g c;omega
theorem Fc{s:S}(h:Ex s){x:Lr.R}(c:Lr.oe (bf s x))(b:Lr.Ok (bf s x))(hl:(size (bf s x):Int)<=left s):Ex (app s x):=by
 refine⟨BY h.aQ c b,h.low,h.high,?_,?_,h.ep,h.pt⟩
 ·show s.stop+size (bf s x)<=(s.start/52+2*s.count)*52;unfold left at hl;omega
 ·obtain⟨k,d,he⟩:=h.Gl;refine⟨k,by show k<=(s.cd++[_]).length;rw[List.length_append];omega,?_⟩;show _=s.ae;rw[<-he];unfold placeOf;show(match(s.cd++[bf s x])[k]? with|some x=>x.bj|none=>_)=_;rcases Nat.lt_or_ge k s.cd.length with a|a
  ·rw[List.getElem?_append_left a,List.getElem?_eq_getElem a]
  ·obtain rfl:k=s.cd.length:=by omega
   rw[List.getElem?_append_right (Nat.le_refl _),Nat.sub_self,List.getElem?_eq_none (Nat.le_refl s.cd.length)];rfl
theorem B9{s:S}(h:Ex s):Ex (flush s):=⟨pG h.aQ,h.low,h.high,h.room,⟨s.cd.length,Nat.le_refl _,sq (flush s)⟩,h.ep,h.pt⟩
end Go.Proofs.YtbpodmallknhfaaGreat.Wl
namespace Go.Proofs.YtbpodmallknhfaaGreat.Wl
open Go.Proofs.YtbpodmallknhfaaGreat
def kn(s:S):Kn:=⟨s.start,s.ae,s.bp,s.ai⟩
def waits(s:S):List Nat:=(bytes s).drop (s.ae-s.start)
theorem eb{s:S}(h:Good s):(waits s).length=s.stop-s.ae:=by
 have b:=ef h;have a:=h.low;unfold waits;rw[List.length_drop];omega
end Go.Proofs.YtbpodmallknhfaaGreat.Wl
