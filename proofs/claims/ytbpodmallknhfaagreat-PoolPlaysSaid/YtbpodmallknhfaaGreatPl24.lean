/- Parts of a proof. Conditions: as each row says. -/
import Derived.Test.YtbpodmallknhfaaGreatPl03
import Derived.Test.YtbpodmallknhfaaGreatPl13
import Derived.Test.YtbpodmallknhfaaGreatPl19
import Derived.Test.YtbpodmallknhfaaGreatPl07
import Derived.Test.YtbpodmallknhfaaGreatPl06
import Derived.Test.YtbpodmallknhfaaGreatPl09
import Derived.Test.YtbpodmallknhfaaGreatPl18
import Derived.Test.YtbpodmallknhfaaGreatPl16
import Derived.Test.YtbpodmallknhfaaGreatPl10
import Derived.Test.YtbpodmallknhfaaGreatPl14
import Derived.Deep.RegionWith
namespace Go.Proofs.YtbpodmallknhfaaGreat
open Go.RowKit
def D8(B n:Nat)(m:Value)(i:Nat)(v:Value)(_:World):Prop:=
 match i with
 |0=>v=.pointer (some ⟨B,0,none⟩)
 |1=>v=.int .u64 (n:Int)
 |3=>v=.pointer (some ⟨B,1,none⟩)
 |4=>v=m
 |_=>True
structure tX(base n:Nat)(l:List Nat)(W:World)(D:Nat->Bool)(xs:Nat->Value)(w:World):Prop where
 below:Below base W w
 size:base<=w.heap.size
 two:D 2=true->D 5=false->Own base w (xs 2) (aH.le 8 n)
 yi:D 5=true->Own base w (xs 5) (Pg.rest n l)
 Eu:D 6=true->Own base w (xs 6) (Pg.rest n l)
theorem xC{B n:Nat}{m:Value}(k:Nat)(v:Value)(w w':World)(_:True)(h:D8 B n m k v w):D8 B n m k v w':=h
theorem tX.quiet{base n:Nat}{l:List Nat}{W:World}{D:Nat->Bool}{xs:Nat->Value}{w:World}(h:tX base n l W D xs w)(k:Nat)(v:Value)(c:k≠2)(a:k≠5)(b:k≠6):tX base n l W (Ord.bB D k) (Ord.set xs k v) w:=by
 refine⟨h.below,h.size,?_,?_,?_⟩
 ·rw[bf _ (H4 c),bf _ (H4 a),cL _ _ (H4 c)];exact h.two
 ·rw[bf _ (H4 a),cL _ _ (H4 a)];exact h.yi
 ·rw[bf _ (H4 b),cL _ _ (H4 b)];exact h.Eu
theorem tX.Gi{base n:Nat}{l:List Nat}{W:World}{D:Nat->Bool}{xs:Nat->Value}{w w':World}{v:Value}(h:tX base n l W D xs w)(a:Below w.heap.size w w')(b:Own w.heap.size w' v (aH.le 8 n)):tX base n l W (Ord.bB D 2) (Ord.set xs 2 v) w':=by
 refine⟨h.below.trans (a.mono h.size),GR h.size a.size,?_,?_,?_⟩
 ·intro _ _;rw[gJ];exact b.from h.size
 ·rw[bf _ (by decide),cL _ _ (by decide)];exact fun d=>(h.yi d).below a
 ·rw[bf _ (by decide),cL _ _ (by decide)];exact fun c=>(h.Eu c).below a
theorem tX.Gh{base n:Nat}{l:List Nat}{W:World}{D:Nat->Bool}{xs:Nat->Value}{w w':World}{v:Value}(h:tX base n l W D xs w)(a:Below base w w')(c:Own base w' v (Pg.rest n l))(d:D 6=false):tX base n l W (Ord.bB D 5) (Ord.set xs 5 v) w':=by
 refine⟨h.below.trans a,GR h.size a.size,?_,?_,?_⟩
 ·intro _ b;rw[et]at b;cases b
 ·intro _;rw[gJ];exact c
 ·rw[bf _ (by decide),d];intro h;cases h
theorem tX.FI{base n:Nat}{l:List Nat}{W:World}{D:Nat->Bool}{xs:Nat->Value}{w:World}(h:tX base n l W D xs w)(a:D 5=true):tX base n l W (Ord.bB D 6) (Ord.set xs 6 (xs 5)) w:=by
 refine⟨h.below,h.size,?_,?_,?_⟩
 ·rw[bf _ (by decide),bf _ (by decide),cL _ _ (by decide)];exact h.two
 ·rw[bf _ (by decide),cL _ _ (by decide)];exact h.yi
 ·intro _;rw[gJ];exact h.yi a
theorem tX.first(base n:Nat)(l:List Nat)(W:World)(xs:Nat->Value)(hs:base<=W.heap.size):tX base n l W (fun _=>false) xs W.drew:=⟨(GF _ _).ij,hs,fun h=>(by cases h),fun h=>(by cases h),fun h=>(by cases h)⟩
theorem aJ.ic{w:World}{b off cap k:Nat}{l:List Nat}(h:aJ w (.slice (some ⟨b,off,none⟩) k cap) l)(n:Nat)(c:l.length=k)(a:n<=k:=by decide):aJ w (.slice (some ⟨b,off+n,none⟩) (k-n) (cap-n)) (l.drop n):=by
 subst c;exact h.drop n a
structure rX(w W:World)(B:Nat):Prop where
 eC:W.heap[B]?=some (.cells #[.int .u64 0,.slice none 0 0] 59 (0,0))
 low:B=w.heap.size
 below:Below w.heap.size w W
theorem rX.later{w W b:World}{B:Nat}(h:rX w W B)(a:Below W.heap.size W b):rX w b B:=
 ⟨by rw[a.block _ (GN h.eC)];exact h.eC,h.low,h.below.trans (a.mono h.below.size)⟩
theorem rX.grown{w W b:World}{B g:Nat}(h:rX w W B)(a:W.grownBy b (some g))(c:B<g):rX w b B:=
 ⟨by rw[a.block _ (GN h.eC) (by simp;omega)];exact h.eC,h.low,aZ h.below a h.below.size (by have:=h.low;omega)⟩
theorem rX.lt{w W:World}{B:Nat}(h:rX w W B):B<W.heap.size:=GN h.eC
theorem rX.done{w W:World}{B:Nat}(h:rX w W B)(x y:Value):
 ((W.setCell ⟨B,0,none⟩ x).setCell ⟨B,1,none⟩ y).heap[B]?=some (.cells #[x,y] 59 (0,0))/\W.grownBy ((W.setCell ⟨B,0,none⟩ x).setCell ⟨B,1,none⟩ y) (some B)/\Below w.heap.size w ((W.setCell ⟨B,0,none⟩ x).setCell ⟨B,1,none⟩ y):=by
 obtain⟨b,a⟩:=Dm (x:=x) (y:=y) h.eC;exact⟨b,a,aZ h.below a h.below.size (Nat.le_of_eq h.low.symm)⟩
structure EY:Prop where
 bytes:∀(n:Nat)(m:Value)(l:List Nat)(w:World),n<18446744073709551616->aJ w m l->
  Calls Tryz.prog 146 #[ed n m] w fun e w'=>∃u,e=.returned (.tuple #[u,.int .i64 ((if l.length=500 then 0 else 2:Nat):Int)])/\Own w.heap.size w' u (if l.length=500 then Pg.form n l else [])/\Below w.heap.size w w'
 opens:∀(m:Value)(b:List Nat)(w:World),aJ w m b->
  Calls Tryz.prog 104 #[m] w fun e w'=>∃u,e=.returned (.tuple #[ed (Pg.cG b) u,.int .i64 (Pg.cJ b:Nat)])/\Own w.heap.size w' u (Pg.cY b)/\Below w.heap.size w w'
 blank:∀w:World,Calls Tryz.prog 143 #[] w fun e w'=>∃v,e=.returned (ed 0 v)/\Own w.heap.size w' v (Pg.aY 500)/\Below w.heap.size w w'
set_option maxHeartbeats 1600000 in
set_option maxRecDepth 20000 in
theorem yC(n:Nat)(m:Value)(l:List Nat)(w:World)(y:aJ w m l):
 Calls Tryz.prog 146 #[ed n m] w fun e w'=>∃u,e=.returned (.tuple #[u,.int .i64 ((if l.length=500 then 0 else 2:Nat):Int)])/\Own w.heap.size w' u (if l.length=500 then Pg.form n l else [])/\Below w.heap.size w w':=by
 have i:Below w.heap.size w (w.alloc (.cells #[.int .u64 (n:Int),m] 59)):=(GF _ _).alloc (GH _) _;have M:=GD (y.below i);have c:=GD i;have a:(w.alloc (.cells #[.int .u64 (n:Int),m] 59)).heap[w.heap.size]?=some (.cells #[.int .u64 (n:Int),m] 59 (0,0)):=GM _ _;obtain⟨p,cap,rfl,-,-,-⟩:=y.form;have hlen:=y.len;clear y i;by_cases hl:l.length=500
 ·rw[GU hl,GU hl];have Z:=GD hl;rw[hl]at M c a;have v:=GD a;clear a;go_enter Tryz.func146,Tryz.ntmps146;go_upto_region 3 with(fail)
  obtain⟨W,T⟩:∃W,W=w.alloc (.cells #[.int .u64 (n:Int),.slice p 500 cap] 59):=⟨_,rfl⟩
  rw[<-T]at M c v⊢;have A:Hid (w.heap.size<W.heap.size):=GN v.out;have c0:=bj v.out;have c1:=bp v.out;have D0:=GD c0;have D1:=GD c1;clear T c0 c1;obtain⟨B,k⟩:∃B,B=w.heap.size:=⟨_,rfl⟩
  rw[<-k]at c v A D0 D1⊢;have I:=GD k;clear k hl;refine Ord.walk (D8 B n (.slice p 500 cap)) (tX W.heap.size n l W) (fun _ _=>True)
   (by kernel_rfl) (by kernel_rfl) ?fr ?hfr xC (fun xs=>tX.first _ _ _ _ _ (GH _)) ?he ?hend
  case hfr=>
   intro xs;simp only[Ord.fill,Act.put,GP,GX,GV];rfl
  case he=>
   iterate 7 (refine Ord.aa (fun D xs w2 X hC U hR b K d=>?_) ?_;rotate_left)
   rotate_left
   ·clear b;go_simp;exact d _ _ ⟨_,rfl,trivial,hR.quiet _ _ (by decide) (by decide) (by decide),rfl⟩
   ·have R:=Ord.ab _ b 0 (by decide);simp only[D8]at R;simp only[R]at d;clear b;have c0:=hR.below.cell (p:=⟨B,0,none⟩) A.out;rw[D0.out]at c0;go_simp;exact d _ _ ⟨_,rfl,trivial,hR.quiet _ _ (by decide) (by decide) (by decide),rfl⟩
   ·have Q:=Ord.ab _ b 1 (by decide);simp only[D8]at Q;simp only[Q]at d;clear b;go_simp;refine(fE (.slice none 0 0) [] n w2 (aO w2) (by decide)).mono ?_;rintro e w'⟨u,rfl,g,x⟩;rw[Hg]at g;exact d _ _ ⟨_,rfl,trivial,hR.Gi x g,trivial⟩
   ·clear b;go_simp;exact d _ _ ⟨_,rfl,trivial,hR.quiet _ _ (by decide) (by decide) (by decide),rfl⟩
   ·have P:=Ord.ab _ b 3 (by decide);simp only[D8]at P;simp only[P]at d;clear b;have c0:=hR.below.cell (p:=⟨B,1,none⟩) A.out;rw[D1.out]at c0;go_simp;exact d _ _ ⟨_,rfl,trivial,hR.quiet _ _ (by decide) (by decide) (by decide),rfl⟩
   ·have O:=Ord.ab _ b 4 (by decide);simp only[D8]at O;clear b;have z:D 6=false:=by
     cases h:D 6 with
     |false=>rfl
     |true=>have:=Ord.af hC 6 5 rfl h;rw[X]at this;cases this
    have Y:D 2=true:=U {on:=2,ground:=.data} (by simp) rfl;have g:=hR.two Y X;refine eu _ _ rfl W.heap.size (xs 2) (aH.le 8 n) rfl g (.slice p 500 cap) l (by rw[<-O];rfl) (M.out.below hR.below) (by rw[aH.al,Z.out];decide) hR.size ?_;intro u w' F C _;exact d _ _ ⟨_,rfl,trivial,hR.Gh C F z,trivial⟩
   ·clear b;have h5:D 5=true:=U {on:=5,ground:=.data} (by simp) rfl;go_simp;exact d _ _ ⟨_,rfl,trivial,hR.FI h5,trivial⟩
   exact Ord.ay
  case hend=>
   intro D xs w2 hR V;have z:=hR.Eu (V 6 (by decide)).1;have t:=GD z;have L:=GD hR.below;have o:=GD hR.size;clear hR V;generalize xs 6=x6 at*
   generalize xs 5=x5 at*
   generalize xs 4=x4 at*
   generalize xs 3=x3 at*
   generalize xs 2=x2 at*
   generalize xs 1=x1 at*
   generalize xs 0=x0 at*
   go_wp2_with fail
   clear z;refine(ln x6 _ _ t.out.aP).mono ?_;rintro e N⟨rfl,s⟩;obtain⟨S,E⟩:∃S,S=dK.more 0 (Pg.rest n l):=⟨_,rfl⟩
   rw[<-E];have G:=GD E;have f:=GD s;clear E s;go_wp2_with fail
   refine(da (.slice none 0 0) [] S N (aO N) (by decide)).mono ?_;rintro e w4⟨x7,rfl,g,x⟩;rw[Hg]at g;have q:=GD (f.out.trans (x.mono f.out.size));have HO:=GD (g.from (GR o.out f.out.size));clear g x f;dsimp only;iterate 4 go_step
   refine aA rfl (.tmp 17) (.tmp 18) rfl W.heap.size x7 _ rfl HO.out x6 _ rfl (t.out.aP.below q.out) (by rw[aH.al,Pg.fK,Z.out];decide) (GR o.out q.out.size) ?_;intro x8 w5 j r _;rw[G.out]at j;have H:=GD j;have J:=GD r;clear j r;go_wp2_with fail
   go_ret2
   have hs:B<=W.heap.size:=Hu A.out;rw[<-I.out];exact⟨_,rfl,H.out.from hs,c.out.trans (((L.out.trans (q.out.mono o.out)).trans J.out).mono hs)⟩
 ·rw[GQ hl,GQ hl];have hi:¬(l.length:Int)=500:=by omega
  have Y:((l.length:Int)!=500)=true:=by simp;omega
  clear a;go_enter Tryz.func146,Tryz.ntmps146;go_wp2_with fail
  go_ret2
  exact⟨_,rfl,cU _ _,c.out⟩
set_option maxHeartbeats 400000 in
set_option maxRecDepth 20000 in
theorem py(w:World):Calls Tryz.prog 143 #[] w fun e w'=>∃v,e=.returned (ed 0 v)/\Own w.heap.size w' v (Pg.aY 500)/\Below w.heap.size w w':=by
 obtain⟨W,g⟩:∃W,W=w.alloc (.cells #[.int .u64 0,.slice none 0 0] 59):=⟨_,rfl⟩
 have b:(Instr.makeSlice 57 (.int .i64 500) (.int .i64 500)).run Tryz.prog (w.alloc (.cells #[.int .u64 0,.slice none 0 0] 59))=.ok (.slice (some ⟨(w.alloc (.cells #[.int .u64 0,.slice none 0 0] 59)).heap.size,0,none⟩) 500 500) _:=fz 500 (by decide) _;have p:=GD (jM 500 (by decide) W);have j:W.heap[w.heap.size]?=some (.cells #[.int .u64 0,.slice none 0 0] 59 (0,0)):=by rw[g];exact GM _ _
 have o:Below w.heap.size w W:=by rw[g];exact(GF _ _).alloc (GH _) _
 have k:=GN j;rw[<-g]at b;obtain⟨W1,d⟩:∃W1,W1=W.alloc (.cells ((Pg.aY 500).map bv).toArray 5):=⟨_,rfl⟩
 have c:Below W.heap.size W W1:=by rw[d];exact(GF _ _).alloc (GH _) _
 have a:W1.heap[w.heap.size]?=some (.cells #[.int .u64 0,.slice none 0 0] 59 (0,0)):=by rw[c.block _ (GN j)];exact j
 rw[<-d]at b p;obtain⟨l,f⟩:=Dm (x:=.int .u64 0) (y:=.slice (some ⟨W.heap.size,0,none⟩) 500 500) a;have i:=bj l;have h:=bp l;have q:=GD f;have n:=GD i;have m:=GD h;clear l f i h;go_enter Tryz.func143,Tryz.ntmps143;go_wp2_with fail
 rw[<-g,b];have c0:=bj a;have c1:=bp a;have f0:=ee a 0;have f1:=ee a 1;clear d b j a g;go_wp2_with fail
 have i:=n.out;have h:=m.out;refine bodyPost_ret (v:=ed 0 (.slice (some ⟨W.heap.size,0,none⟩) 500 500)) (by simp[results,Tryz.results143,go_sem,i,h]) rfl ⟨_,rfl,?_,?_⟩
 ·exact(p.out.from (Hu k)).grown q.out (GL (by simp[Value.ownBlock];omega))
 ·exact aZ (o.trans (c.mono o.size)) q.out (by have:=c.size;omega) (GH _)
def tZ(Q g off cap N M:Nat)(r:Bool)(i:Nat)(v:Value)(_:World):Prop:=
 match i with
 |0=>v=.pointer (some ⟨Q,0,none⟩)
 |1=>v=.int .u32 (N:Int)
 |2=>v=.slice (some ⟨g,off,none⟩) 512 cap
 |3=>v=.slice (some ⟨g,off+4,none⟩) 508 (cap-4)
 |4=>v=.int .u32 (M:Int)
 |_=>v=.bool r
theorem qk{Q g off cap N M:Nat}{r:Bool}(k:Nat)(v:Value)(w w':World)(_:True)(h:tZ Q g off cap N M r k v w):tZ Q g off cap N M r k v w':=h
structure yW(w:World)(R lo Q g off cap:Nat)(b:List Nat)(D:Nat->Bool)(w':World):Prop where
 dH:rX w w' R
 aP:aJ w' (.slice (some ⟨g,off,none⟩) 512 cap) b
 r0:D 1=false->Rd 217 (fun i=>lo<=i/\i<Q) w' Q (b.take 12) 0
 r1:D 1=true->Rd 217 (fun i=>lo<=i/\i<Q) w' Q ((b.drop 4).take 8) 0
theorem rX.drew{w W:World}{B:Nat}(h:rX w W B):rX w W.drew B:=⟨h.eC,h.low,h.below.ij⟩
section
variable{w w' w2:World}{R lo Q g off cap:Nat}{b:List Nat}{D:Nat->Bool}
theorem yW.skip(h:yW w R lo Q g off cap b D w')(k:Nat)(a:(k !=1)=true):yW w R lo Q g off cap b (Ord.bB D k) w':=by
 have a:=(IZ ..).1 a;refine⟨h.dH,h.aP,?_,?_⟩
 ·rw[bf _ (H4 a)];exact h.r0
 ·rw[bf _ (H4 a)];exact h.r1
theorem yW.later(h:yW w R lo Q g off cap b D w')(c:Below w'.heap.size w' w2):yW w R lo Q g off cap b D w2:=⟨h.dH.later c,h.aP.below c,fun a=>(h.r0 a).below c,fun a=>(h.r1 a).below c⟩
theorem yW.one(h:yW w R lo Q g off cap b D w')(f:R<lo/\g<lo/\lo<=Q)(d:Rd 217 (fun i=>lo<=i/\i<Q) w2 Q ((b.drop 4).take 8) 0)(c:w'.grownBy w2 (some Q)):yW w R lo Q g off cap b (Ord.bB D 1) w2:=by
 refine⟨h.dH.grown c (by omega),h.aP.grown c (fun _ e=>?_),fun a=>?_,fun _=>d⟩
 ·simp only[Value.ownBlock,GO]at e;omega
 ·rw[et]at a;cases a
end
def CV(Q g off cap n:Nat)(i:Nat)(v:Value)(_:World):Prop:=
 match i with
 |0=>v=.pointer (some ⟨Q,0,none⟩)
 |1=>v=.int .u64 (n:Int)
 |2=>v=.slice (some ⟨g,off,none⟩) 512 cap
 |3=>v=.slice (some ⟨g,off+12,none⟩) 500 (cap-12)
 |7=>v=.int .i64 0
 |_=>True
theorem xU{Q g off cap n:Nat}(k:Nat)(v:Value)(w w':World)(_:True)(h:CV Q g off cap n k v w):CV Q g off cap n k v w':=h
structure rT(w:World)(R lo Q g off cap:Nat)(b:List Nat)(D:Nat->Bool)(xs:Nat->Value)(w':World):Prop where
 sz:lo<=w'.heap.size
 dH:D 6=false->rX w w' R
 aP:D 6=false->aJ w' (.slice (some ⟨g,off,none⟩) 512 cap) b
 rd:D 1=false->Rd 217 (fun i=>lo<=i/\i<Q) w' Q ((b.drop 4).take 8) 0
 a4:D 4=true->D 6=false->∃p c,xs 4=.slice p 500 c/\Own lo w' (xs 4) (b.drop 12)
 a5:D 5=true->xs 5=.agg #[.int .u64 (Pg.cG b:Int),xs 4]
 a6:D 6=true->∃u,w'.heap[R]?=some (.cells #[.int .u64 (Pg.cG b:Int),u] 59 (0,0))/\Own lo w' u (b.drop 12)/\(∃p c,u=.slice p 500 c)/\Below w.heap.size w w'
section
variable{w w' w2:World}{R lo Q g off cap:Nat}{b:List Nat}{D:Nat->Bool}{xs:Nat->Value}{u:Value}
theorem rT.first(xs:Nat->Value)(e:rX w w' R)(d:aJ w' (.slice (some ⟨g,off,none⟩) 512 cap) b)(c:Rd 217 (fun i=>lo<=i/\i<Q) w' Q ((b.drop 4).take 8) 0)(a:lo<=w'.heap.size):rT w R lo Q g off cap b (fun _=>false) xs w'.drew:=
 ⟨a,fun _=>e.drew,fun _=>d.below (dY _ _),fun _=>c.below (dY _ _),fun h=>(by cases h),fun h=>(by cases h),fun h=>(by cases h)⟩
theorem rT.skip(h:rT w R lo Q g off cap b D xs w')(k:Nat)(u:Value)(c:(k !=1&&k !=4&&k !=5&&k !=6)=true):rT w R lo Q g off cap b (Ord.bB D k) (Ord.set xs k u) w':=by
 simp only[Hs,IZ]at c;obtain⟨⟨⟨d,a⟩,n5⟩,n6⟩:=c;refine⟨h.sz,?_,?_,?_,?_,?_,?_⟩
 ·rw[bf _ (H4 n6)];exact h.dH
 ·rw[bf _ (H4 n6)];exact h.aP
 ·rw[bf _ (H4 d)];exact h.rd
 ·rw[bf _ (H4 n6),bf _ (H4 a),cL _ _ (H4 a)];exact h.a4
 ·rw[bf _ (H4 n5),cL _ _ (H4 a),cL _ _ (H4 n5)];exact h.a5
 ·rw[bf _ (H4 n6)];exact h.a6
theorem rT.one(h:rT w R lo Q g off cap b D xs w')(u:Value)(i:R<lo/\g<lo/\lo<=Q)(f:D 4=false)(d:D 6=false)(c:w'.grownBy w2 (some Q)):rT w R lo Q g off cap b (Ord.bB D 1) (Ord.set xs 1 u) w2:=by
 refine⟨GR h.sz c.size,?_,?_,?_,?_,?_,?_⟩
 ·rw[bf _ (by decide)];exact fun a=>(h.dH a).grown c (by omega)
 ·rw[bf _ (by decide)];exact fun a=>(h.aP a).grown c (fun _ e=>by simp only[Value.ownBlock,GO]at e;omega)
 ·rw[et];intro a;cases a
 ·rw[bf _ (by decide),f];intro a;cases a
 ·rw[bf _ (by decide),cL _ _ (by decide),cL _ _ (by decide)];exact h.a5
 ·rw[bf _ (by decide),d];intro a;cases a
theorem rT.four(h:rT w R lo Q g off cap b D xs w')(j:D 5=false)(i:D 6=false)(hl:(b.drop 12).length=500)(f:Own w'.heap.size w2 u (b.drop 12))(d:Below w'.heap.size w' w2):rT w R lo Q g off cap b (Ord.bB D 4) (Ord.set xs 4 u) w2:=by
 refine⟨GR h.sz d.size,?_,?_,?_,?_,?_,?_⟩
 ·rw[bf _ (by decide)];exact fun a=>(h.dH a).later d
 ·rw[bf _ (by decide)];exact fun a=>(h.aP a).below d
 ·rw[bf _ (by decide)];exact fun a=>(h.rd a).below d
 ·rw[gJ];intro _ _;obtain⟨p,c,e,-⟩:=f.aP.form;rw[hl]at e;exact⟨p,c,e,f.from h.sz⟩
 ·rw[bf _ (by decide),j];intro a;cases a
 ·rw[bf _ (by decide),i];intro a;cases a
theorem rT.yi(h:rT w R lo Q g off cap b D xs w')(hu:u=.agg #[.int .u64 (Pg.cG b:Int),xs 4]):rT w R lo Q g off cap b (Ord.bB D 5) (Ord.set xs 5 u) w':=by
 refine⟨h.sz,?_,?_,?_,?_,?_,?_⟩
 ·rw[bf _ (by decide)];exact h.dH
 ·rw[bf _ (by decide)];exact h.aP
 ·rw[bf _ (by decide)];exact h.rd
 ·rw[bf _ (by decide),bf _ (by decide),cL _ _ (by decide)];exact h.a4
 ·rw[gJ,cL _ _ (by decide)];exact fun _=>hu
 ·rw[bf _ (by decide)];exact h.a6
theorem rT.Eu(h:rT w R lo Q g off cap b D xs w')(l:R<lo/\g<lo/\lo<=Q)(j:D 4=true)(f:D 6=false):
 rT w R lo Q g off cap b (Ord.bB D 6) (Ord.set xs 6 u) ((w'.setCell ⟨R,0,none⟩ (.int .u64 (Pg.cG b:Int))).setCell ⟨R,1,none⟩ (xs 4)):=by
 obtain⟨d1,d2,d3⟩:=(h.dH f).done (.int .u64 (Pg.cG b:Int)) (xs 4);obtain⟨p,c,e,d⟩:=h.a4 j f;refine⟨GR h.sz d2.size,?_,?_,?_,?_,?_,?_⟩
 ·rw[et];intro a;cases a
 ·rw[et];intro a;cases a
 ·rw[bf _ (by decide)];exact fun a=>(h.rd a).grown d2 (fun m k=>by simp only[GO]at k;omega)
 ·rw[et];intro _ a;cases a
 ·rw[bf _ (by decide),cL _ _ (by decide),cL _ _ (by decide)];exact h.a5
 ·intro _;refine⟨xs 4,d1,d.grown d2 (GL fun i=>?_),⟨p,c,e⟩,d3⟩;have:=(d.own.lt R i).1;omega
end
set_option maxHeartbeats 1600000 in
set_option maxRecDepth 20000 in
theorem tb(m:Value)(b:List Nat)(w:World)(hB:aJ w m b):
 Calls Tryz.prog 104 #[m] w fun e w'=>∃u,e=.returned (.tuple #[ed (Pg.cG b) u,.int .i64 (Pg.cJ b:Nat)])/\Own w.heap.size w' u (Pg.cY b)/\Below w.heap.size w w':=by
 obtain⟨W,T⟩:∃W,W=w.alloc (.cells #[.int .u64 0,.slice none 0 0] 59):=⟨_,rfl⟩
 obtain⟨R,hR⟩:∃R,R=w.heap.size:=⟨_,rfl⟩
 have x:rX w W R:=⟨by rw[T,hR];exact GM _ _,hR,by rw[T];exact(GF _ _).alloc (GH _) _⟩
 have HB:=GD (hB.below x.below);have HO:=GD x;have HR:=GD hR;obtain⟨p,cap,rfl,P,-,hp⟩:=hB.form;have hlen:=hB.len;by_cases hl:b.length=512
 ·rw[hl]at HB⊢;have C:=GD hl;obtain⟨g,off,rfl,-⟩:=hp (by omega);clear hp hB x;have q:(Instr.makeSlice 57 (.int .i64 512) (.int .i64 512)).run Tryz.prog W=.ok (.slice (some ⟨W.heap.size,0,none⟩) 512 512) (W.alloc (.cells ((Pg.aY 512).map bv).toArray 5)):=fz 512 (by decide) W;have U:=jM 512 (by decide) W;obtain⟨W1,Z⟩:∃W1,W1=W.alloc (.cells ((Pg.aY 512).map bv).toArray 5):=⟨_,rfl⟩
  have Y:Below W.heap.size W W1:=by rw[Z];exact(GF _ _).alloc (GH _) _
  rw[<-Z]at q U;have I:=GD (HB.out.below Y);have z:=GD (HO.out.later Y);have heq:=aG _ _ _ _ W1 I.out U.aP;clear Z U Y;by_cases hz:b=Pg.aY 512
  ·subst hz;rw[GK rfl]at heq;rw[Pg.iy,Pg.mR,Pg.mS];have ah:=GD heq;clear heq;go_enter Tryz.func104,Tryz.ntmps104;go_wp2_with fail
   rw[<-T,<-HR.out,q];clear T q hR;go_wp2_with fail
   refine ah.out.mono ?_;rintro e w2⟨rfl,rfl⟩;go_wp2_with fail
   refine(py W1).mono ?_;rintro e w3⟨v,rfl,H,V⟩;obtain⟨p3,c3,rfl,-,-,-⟩:=H.aP.form;have HV:=GD H;have d:=GD (z.out.later V);have ak:=GD V;have aq:∀g3,(Value.slice p3 (Pg.aY 500).length c3).ownBlock=some g3->R<g3:=by
    intro g3 G;rcases H.form with⟨h1,h2⟩|⟨g4,c4,h1,h2,-⟩
    ·rw[h1]at G;cases G
    ·rw[h1]at G;simp only[Value.ownBlock,GO]at G;have:=z.out.lt;omega
   have au:=GD aq;clear H V aq;rw[Pg.bQ]at HV au⊢;have c0:=bj d.out.eC;have c1:=bp d.out.eC;have f0:=ee d.out.eC 0;have f1:=ee d.out.eC 1;obtain⟨d1,d2,d3⟩:=d.out.done (.int .u64 0) (.slice p3 500 c3);have k:=bj d1;have j:=bp d1;have D2:=GD d2;have D3:=GD d3;clear d1 d2 d3;go_wp2_with fail
   refine bodyPost_ret (v:=.tuple #[ed 0 (.slice p3 500 c3),.int .i64 0]) (by simp[results,Tryz.results104,go_sem,k,j]) rfl ⟨_,rfl,?_,D3.out⟩;refine(HV.out.from (by have:=z.out.lt;have:=HR.out;omega)).grown D2.out (GL fun h=>?_);exact absurd (au.out _ h) (Jc _)
  ·rw[GY hz]at heq;have ah:=GD heq;clear heq;go_enter Tryz.func104,Tryz.ntmps104;go_wp2_with fail
   rw[<-T,<-HR.out,q];clear T q hR;go_wp2_with fail
   refine ah.out.mono ?_;rintro e w2⟨rfl,rfl⟩;go_wp2_with fail
   have al:aJ W1 (.slice (some ⟨g,off,none⟩) 12 cap) (b.take 12):=by
    have h:=I.out;rw[<-C.out]at h;exact h.take 12 (by have:=C.out;omega)
   refine(kG _ (b.take 12) W1 al).mono ?_;rintro e w2⟨Q,rfl,ao,hQ,X⟩;have aC:=GD (z.out.later X);have aF:=GD (I.out.below X);have HQ:=GD hQ;have F:aH.rdNum 4 (b.take 12) 0=(aH.num (b.take 4),(b.drop 4).take 8,0):=by
    have:=C.out;unfold aH.rdNum;rw[GQ (by simp),GQ (by simp;omega),Jm,List.drop_take];rfl
   have HU:Hid (∀W2,Rd 217 (fun i=>W1.heap.size<=i/\i<Q) W2 Q (b.take 12) 0->Calls Tryz.prog 144 #[.pointer (some ⟨Q,0,none⟩)] W2 fun en w'=>en=.returned (.int .u32 ((aH.num (b.take 4):Nat):Int))/\Rd 217 (fun i=>W1.heap.size<=i/\i<Q) w' Q ((b.drop 4).take 8) 0/\W2.grownBy w' (some Q)):=fun W2 h=>by
    have s:=nm _ _ 0 _ _ h;rw[F]at s;exact s
   have o:Hid (R<W1.heap.size/\g<W1.heap.size/\W1.heap.size<=Q):=⟨z.out.lt,I.out.pr (by have:=C.out;omega) g rfl,hQ⟩
   have av:Hid (yW w R W1.heap.size Q g off cap b (fun _=>false) w2.drew):=⟨aC.out.drew,aF.out.below (dY _ _),fun _=>ao.below (dY _ _),fun h=>(by cases h)⟩
   have aw:Hid (¬cap=4):=by show¬_;have:=P.1;omega
   have ax:Hid (¬cap=12):=by show¬_;have:=P.1;omega
   have A:=GD (show Pg.cJ b=if aH.num (b.take 4)≠dK.more 0 (b.drop 4)then 14 else 0 by unfold Pg.cJ;rw[GQ (by have:=C.out;omega),GQ hz]);clear al ao hQ X F;generalize aH.num (b.take 4)=N at*
   obtain⟨M,ad⟩:∃M,M=dK.more 0 (b.drop 4):=⟨_,rfl⟩
   rw[<-ad]at A;have HM:=GD ad;clear ad;by_cases hs:N=M
   ·subst hs;have he:Pg.cJ b=0:=by rw[A.out,GQ (by simp)]
    have HN:=GD (show Pg.cG b=aH.num ((b.drop 4).take 8)from GU he);have ag:=GD (show Pg.cY b=b.drop 12 from GU he);have aI:=GD (Pg.rn he);have ai:=GD he;have HC:Hid (((N:Int)!=(N:Int))=false):=bne_self_eq_false _;have aj:Hid (((N:Int)==(N:Int))=true):=beq_self_eq_true _;clear he A;go_upto_region 6 with(fail)
    refine Ord.walk (tZ Q g off cap N N false) (fun D _ w'=>yW w R W1.heap.size Q g off cap b D w') (fun _ _=>True)
     (by kernel_rfl) (by kernel_rfl) ?fr1 ?hfr1 qk (fun xs=>av.out) ?he1 ?hend1
    case hfr1=>
     intro xs;simp only[Ord.fill,Act.put,GP,GX,GV];rfl
    case he1=>
     iterate 6 (refine Ord.aa (fun D xs w2 n hC hP hR c K a=>?_) ?_;rotate_left)
     rotate_left
     ·clear c;go_simp;exact a _ _ ⟨_,rfl,trivial,hR.skip _ (by decide),rfl⟩
     ·have k:=Ord.ab _ c 0 (by decide);simp only[tZ]at k;simp only[k]at a;clear c;go_simp;refine(HU.out w2 (hR.r0 n)).mono ?_;rintro e w'⟨rfl,hr,hg⟩;exact a _ _ ⟨_,rfl,trivial,hR.one o.out hr hg,rfl⟩
     ·clear c;go_simp;exact a _ _ ⟨_,rfl,trivial,hR.skip _ (by decide),rfl⟩
     ·have L:=Ord.ab _ c 2 (by decide);simp only[tZ]at L;simp only[L]at a;clear c;have ar:=aw.out;go_simp;exact a _ _ ⟨_,rfl,trivial,hR.skip _ (by decide),rfl⟩
     ·have J:=Ord.ab _ c 3 (by decide);simp only[tZ]at J;simp only[J]at a;clear c;go_simp;refine(ln _ _ _ (hR.aP.ic 4 C.out)).mono ?_;rintro e w'⟨rfl,hb⟩;rw[<-HM.out];exact a _ _ ⟨_,rfl,trivial,(hR.later hb).skip _ (by decide),rfl⟩
     ·have j:=Ord.ab _ c 1 (by decide);simp only[tZ]at j;have q4:=Ord.ab _ c 4 (by decide);simp only[tZ]at q4;simp only[j,q4]at a;clear c;have hc:=HC.out;have az:=aj.out;go_simp;all_goals exact a _ _ ⟨_,rfl,trivial,hR.skip _ (by decide),rfl⟩
     exact Ord.ay
    case hend1=>
     intro D xs w3 f y;have B:=(y 5 (by decide)).2;have r:=(y 1 (by decide)).1;simp only[tZ]at B;rw[B];have ae:=GD (f.r1 r);have d:=GD f.dH;have ak:=GD f.aP;clear B y f r;have aB:Hid (∀W2,Rd 217 (fun i=>W1.heap.size<=i/\i<Q) W2 Q ((b.drop 4).take 8) 0->Calls Tryz.prog 145 #[.pointer (some ⟨Q,0,none⟩)] W2 fun en w'=>en=.returned (.int .u64 ((Pg.cG b:Nat):Int))/\Rd 217 (fun i=>W1.heap.size<=i/\i<Q) w' Q (((b.drop 4).take 8).drop 8) 0/\W2.grownBy w' (some Q)):=fun W2 h=>by
      have s:=Cz _ _ 0 _ _ h;have F:aH.rdNum 8 ((b.drop 4).take 8) 0=(Pg.cG b,((b.drop 4).take 8).drop 8,0):=by
       have:=C.out;unfold aH.rdNum;rw[GQ (by simp),GQ (by simp;omega),HN.out,Jm];rfl
      rw[F]at s;exact s
     have aE:Hid ((b.drop 12).length=500):=by show _=_;have:=C.out;simp;omega
     have aA:Hid (W1.heap.size<=w3.heap.size):=by show _<=_;have h1:=ae.out.lt;have h2:=o.out;omega
     generalize xs 0=x0 at*
     generalize xs 1=x1 at*
     generalize xs 2=x2 at*
     generalize xs 3=x3 at*
     generalize xs 4=x4 at*
     go_upto_region 8 with(fail)
     refine Ord.walk (CV Q g off cap (Pg.cG b)) (rT w R W1.heap.size Q g off cap b) (fun _ _=>True)
      (by kernel_rfl) (by kernel_rfl) ?fr8 ?hfr8 xU (fun xs=>rT.first xs d.out ak.out ae.out aA.out) ?he8 ?hend8
     case hfr8=>
      intro xs;simp only[Ord.fill,Act.put,GP,GX,GV];rfl
     case he8=>
      iterate 8 (refine Ord.aa (fun D xs w2 n hC hP hR c K a=>?_) ?_;rotate_left)
      rotate_left
      ·clear c;go_simp;exact a _ _ ⟨_,rfl,trivial,hR.skip _ _ (by decide),rfl⟩
      ·have k:=Ord.ab _ c 0 (by decide);simp only[CV]at k;simp only[k]at a;clear c;have h6:D 6=false:=by
        cases h:D 6 with
        |false=>rfl
        |true=>have:=Ord.af hC 6 1 rfl h;rw[n]at this;cases this
       have h4:D 4=false:=by
        cases h:D 4 with
        |false=>rfl
        |true=>have:=Ord.af hC 4 1 rfl h;rw[n]at this;cases this
       go_simp;refine(aB.out w2 (hR.rd n)).mono ?_;rintro e w'⟨rfl,-,hg⟩;exact a _ _ ⟨_,rfl,trivial,hR.one _ o.out h4 h6 hg,rfl⟩
      ·clear c;go_simp;exact a _ _ ⟨_,rfl,trivial,hR.skip _ _ (by decide),rfl⟩
      ·have L:=Ord.ab _ c 2 (by decide);simp only[CV]at L;simp only[L]at a;clear c;have ar:=ax.out;go_simp;exact a _ _ ⟨_,rfl,trivial,hR.skip _ _ (by decide),rfl⟩
      ·have J:=Ord.ab _ c 3 (by decide);simp only[CV]at J;simp only[J]at a;clear c;have h6:D 6=false:=by
        cases h:D 6 with
        |false=>rfl
        |true=>have:=Ord.af hC 6 4 rfl h;rw[n]at this;cases this
       have h5:D 5=false:=by
        cases h:D 5 with
        |false=>rfl
        |true=>have:=Ord.af hC 5 4 rfl h;rw[n]at this;cases this
       go_simp;refine(mA _ (b.drop 12) _ ((hR.aP h6).ic 12 C.out)).mono ?_;rintro e w'⟨u,rfl,x,hb⟩;exact a _ _ ⟨_,rfl,trivial,hR.four h5 h6 aE.out x hb,trivial⟩
      ·have j:=Ord.ab _ c 1 (by decide);simp only[CV]at j;simp only[j]at a;clear c;have h6:D 6=false:=by
        cases h:D 6 with
        |false=>rfl
        |true=>have:=Ord.af hC 6 5 rfl h;rw[n]at this;cases this
       have h4:D 4=true:=hP {on:=4,ground:=.data} (by simp) rfl;obtain⟨p4,c4,e4,-⟩:=hR.a4 h4 h6;have he:=e4;simp only[e4]at a;go_simp;exact a _ _ ⟨_,rfl,trivial,hR.yi (by rw[he]),trivial⟩
      ·clear c;have h5:D 5=true:=hP {on:=5,ground:=.data} (by simp) rfl;have h4:D 4=true:=hP {on:=4,ground:=.chain} (by simp) rfl;obtain⟨p4,c4,e4,-⟩:=hR.a4 h4 n;have B:=hR.a5 h5;have E:=(hR.dH n).eC;have c0:=bj E;have c1:=bp E;have f0:=ee E 0;have f1:=ee E 1;have an:=hR.Eu (u:=undef) o.out h4 n;rw[e4]at B;rw[e4]at an;simp only[e4,B]at a;go_simp;exact a _ _ ⟨_,rfl,trivial,an,trivial⟩
      ·clear c;go_simp;exact a _ _ ⟨_,rfl,trivial,hR.skip _ _ (by decide),rfl⟩
      exact Ord.ay
     case hend8=>
      intro D2 l w4 f y;have e7:=(y 7 (by decide)).2;simp only[CV]at e7;rw[e7];obtain⟨u,t,O,⟨p5,c5,rfl⟩,S⟩:=f.a6 (y 6 (by decide)).1;have HV:=GD O;have D3:=GD S;have k:=bj t;have j:=bp t;clear e7 y f t O S;generalize l 0=y0 at*
      generalize l 1=y1 at*
      generalize l 2=y2 at*
      generalize l 3=y3 at*
      generalize l 4=y4 at*
      generalize l 5=y5 at*
      generalize l 6=y6 at*
      go_wp2_with fail
      refine bodyPost_ret (v:=.tuple #[ed (Pg.cG b) (.slice p5 500 c5),.int .i64 0]) (by simp[results,Tryz.results104,go_sem,k,j]) rfl ⟨_,by rw[ai.out];rfl,?_,D3.out⟩;rw[ag.out];exact HV.out.from (by have:=o.out;have:=HR.out;omega)
   ·have he:Pg.cJ b=14:=by rw[A.out,GU hs]
    have ai:=GD he;have aD:=GD (Pg.ql (b:=b) (by rw[he];decide));have ag:=GD (Pg.qn (b:=b) (by rw[he];decide));have HC:Hid (((N:Int)!=(M:Int))=true):=by show _=_;simp;omega
    have aj:Hid (((N:Int)==(M:Int))=false):=by show _=_;rw[G6];omega
    clear he A hs;go_upto_region 6 with(fail)
    refine Ord.walk (tZ Q g off cap N M true) (fun D _ w'=>yW w R W1.heap.size Q g off cap b D w') (fun _ _=>True)
     (by kernel_rfl) (by kernel_rfl) ?fr2 ?hfr2 qk (fun xs=>av.out) ?he2 ?hend2
    case hfr2=>
     intro xs;simp only[Ord.fill,Act.put,GP,GX,GV];rfl
    case he2=>
     iterate 6 (refine Ord.aa (fun D xs w2 n hC hP hR c K a=>?_) ?_;rotate_left)
     rotate_left
     ·clear c;go_simp;exact a _ _ ⟨_,rfl,trivial,hR.skip _ (by decide),rfl⟩
     ·have k:=Ord.ab _ c 0 (by decide);simp only[tZ]at k;simp only[k]at a;clear c;go_simp;refine(HU.out w2 (hR.r0 n)).mono ?_;rintro e w'⟨rfl,hr,hg⟩;exact a _ _ ⟨_,rfl,trivial,hR.one o.out hr hg,rfl⟩
     ·clear c;go_simp;exact a _ _ ⟨_,rfl,trivial,hR.skip _ (by decide),rfl⟩
     ·have L:=Ord.ab _ c 2 (by decide);simp only[tZ]at L;simp only[L]at a;clear c;have ar:=aw.out;go_simp;exact a _ _ ⟨_,rfl,trivial,hR.skip _ (by decide),rfl⟩
     ·have J:=Ord.ab _ c 3 (by decide);simp only[tZ]at J;simp only[J]at a;clear c;go_simp;refine(ln _ _ _ (hR.aP.ic 4 C.out)).mono ?_;rintro e w'⟨rfl,hb⟩;rw[<-HM.out];exact a _ _ ⟨_,rfl,trivial,(hR.later hb).skip _ (by decide),rfl⟩
     ·have j:=Ord.ab _ c 1 (by decide);simp only[tZ]at j;have q4:=Ord.ab _ c 4 (by decide);simp only[tZ]at q4;simp only[j,q4]at a;clear c;have hc:=HC.out;have az:=aj.out;go_simp;all_goals exact a _ _ ⟨_,rfl,trivial,hR.skip _ (by decide),rfl⟩
     exact Ord.ay
    case hend2=>
     intro D xs w3 f y;have B:=(y 5 (by decide)).2;have r:=(y 1 (by decide)).1;simp only[tZ]at B;rw[B];have ae:=GD (f.r1 r);have d:=GD f.dH;have ak:=GD f.aP;clear B y f r;have c0:=bj d.out.eC;have c1:=bp d.out.eC;have f0:=ee d.out.eC 0;have f1:=ee d.out.eC 1;obtain⟨d1,d2,d3⟩:=d.out.done (.int .u64 0) (.slice none 0 0);have k:=bj d1;have j:=bp d1;have D2:=GD d2;have D3:=GD d3;clear d1 d2 d3;go_wp2_with fail
     refine bodyPost_ret (v:=.tuple #[ed 0 (.slice none 0 0),.int .i64 14]) (by simp[results,Tryz.results104,go_sem,k,j]) rfl ⟨_,by rw[ai.out,aD.out];rfl,by rw[ag.out];exact cU _ _,D3.out⟩
 ·have he:Pg.cJ b=2:=by unfold Pg.cJ;rw[GU hl]
  have hi:¬(b.length:Int)=512:=by omega
  have h2:((b.length:Int)!=512)=true:=by simp;omega
  rw[he,Pg.ql (by rw[he];decide),Pg.qn (by rw[he];decide)];clear hp hB hR he hl;go_enter Tryz.func104,Tryz.ntmps104;go_upto_region 1 with(fail)
  rw[<-T,<-HR.out];have c0:=bj x.eC;have c1:=bp x.eC;have f0:=ee x.eC 0;have f1:=ee x.eC 1;obtain⟨d1,d2,d3⟩:=x.done (.int .u64 0) (.slice none 0 0);have k:=bj d1;have j:=bp d1;have D3:=GD d3;clear x d1 d2 d3 T;go_wp2_with fail
  refine bodyPost_ret (v:=.tuple #[ed 0 (.slice none 0 0),.int .i64 2]) (by simp[results,Tryz.results104,go_sem,k,j]) rfl ⟨_,rfl,cU _ _,D3.out⟩
theorem Aq:EY where
 bytes:=fun n m l w _ a=>yC n m l w a
 opens:=fun m b w a=>tb m b w a
 blank:=fun w=>py w
theorem xX{s base n:Int}(h0:0<=base)(b:0<=n)(d:base<=s-4):Pg.dV s base n=decide (n<=(s-4-base)/4):=by
 unfold Pg.dV;by_cases a:base<=s
 ·rw[Il (by omega)];by_cases h:n<=(s-4-base)/4
  ·rw[GK h];exact GK ⟨h0,b,a,by omega⟩
  ·rw[GY h];exact GY fun⟨_,_,_,c⟩=>h (by omega)
 ·omega
set_option maxHeartbeats 1600000 in
set_option maxRecDepth 20000 in
theorem qg{B i g:Nat}{d:Dk.ak}{w:World}(h:bc w B i g d)(base n:Int)(t:n<=9223372036854775807):
 Calls Tryz.prog 106 #[.pointer (some ⟨B,0,none⟩),.int .i64 base,.int .i64 n] w fun e w'=>(Pg.dV (Dk.size d) base n=true->e=.returned (.tuple #[.int .i64 (base+4*n),.int .i64 0]))/\(Pg.dV (Dk.size d) base n=false->e=.returned (.tuple #[.int .i64 0,.int .i64 2]))/\w'=w:=by
 have hs:=GD (iq h);have f:=h.own.one;have c:=h.own.size;clear h;obtain⟨s,a⟩:∃s,s=Dk.size d:=⟨_,rfl⟩
 rw[<-a]at hs f c⊢;clear a;have o:¬(s:Int)=0:=by omega
 have m:((s:Int)==0)=false:=by rw[G6];omega
 have hw:=GW ((s:Int)-4) (by omega);have x:=GD c;have H1:=GD f;by_cases k1:base<0
 ·have hl:=kS (s:=s) (base:=base) (n:=n) (fun h=>by omega);rw[hl];go_enter Tryz.func106,Tryz.ntmps106;go_wp2_with (go_at_call 66;refine hs.out.mono ?_;rintro e w'⟨rfl,rfl⟩)
  go_ret2
  exact⟨fun h=>(by cases h),fun _=>rfl,rfl⟩
 by_cases k2:n<0
 ·have hl:=kS (s:=s) (base:=base) (n:=n) (fun h=>by omega);rw[hl];go_enter Tryz.func106,Tryz.ntmps106;go_wp2_with (go_at_call 66;refine hs.out.mono ?_;rintro e w'⟨rfl,rfl⟩)
  go_ret2
  exact⟨fun h=>(by cases h),fun _=>rfl,rfl⟩
 by_cases q:(s:Int)-4<base
 ·have hl:=kS (s:=s) (base:=base) (n:=n) (fun⟨v,u,a3,a4⟩=>by
   rw[Il (by omega)]at a4;omega)
  rw[hl];go_enter Tryz.func106,Tryz.ntmps106;go_wp2_with (go_at_call 66;refine hs.out.mono ?_;rintro e w'⟨rfl,rfl⟩)
  go_ret2
  exact⟨fun h=>(by cases h),fun _=>rfl,rfl⟩
 have hl:=xX (s:=s) (base:=base) (n:=n) (by omega) (by omega) (by omega);have l:=GW ((s:Int)-4-base) (by omega);have r:wrap64 (((s:Int)-4-base).tdiv 4)=((s:Int)-4-base)/4:=by
  rw[Il (by omega)];unfold wrap64;omega
 rw[hl];by_cases b:((s:Int)-4-base)/4<n
 ·rw[GY (by omega)];have p:=GD b;clear hl;go_enter Tryz.func106,Tryz.ntmps106;go_wp2_with (go_at_call 66;refine hs.out.mono ?_;rintro e w'⟨rfl,rfl⟩)
  go_ret2
  exact⟨fun h=>(by cases h),fun _=>rfl,rfl⟩
 ·rw[GK (by omega)];have p:=GD b;have k:=GW (4*n) (by omega);have j:=GW (base+4*n) (by omega);clear hl;go_enter Tryz.func106,Tryz.ntmps106;go_wp2_with (go_at_call 66;refine hs.out.mono ?_;rintro e w'⟨rfl,rfl⟩)
  go_ret2
  exact⟨fun _=>rfl,fun h=>(by cases h),rfl⟩
end Go.Proofs.YtbpodmallknhfaaGreat
namespace Go.Proofs.YtbpodmallknhfaaGreat.Dk
structure Calm(n:Nat)(d:ak):Prop where
 own:Own d
 off:d.off=false
 bR:d.bR=0
 sz:size d=n
 bD:d.bD=n
theorem kZ{n:Nat}(b:1<=n)(a:n<=65536):Calm n (fresh n n):=⟨qj b a (GH _),rfl,rfl,by show(List.replicate n blank).length=n;rw[G9],rfl⟩
def sv(d:ak)(i:Nat):List Nat:=(d.waits.getD i none).getD (d.aL.getD i [])
def fX(b:List Nat):List (List Nat):=[b.take 128,(b.drop 128).take 128,(b.drop 256).take 128,(b.drop 384).take 128]
def jc:ak->Nat->List (List Nat)->ak×Nat
 |d,_,[]=>(d,0)
 |d,a,b::r=>if(Dk.write d (a:Int) b).2≠0 then Dk.write d (a:Int) b else jc (Dk.write d (a:Int) b).1 (a+1) r
def iw:ak->Nat->Nat->List Nat×Nat
 |_,_,0=>([],0)
 |d,a,k+1=>if(Dk.read d (a:Int)).2≠0 then([],(Dk.read d (a:Int)).2)else if(iw d (a+1) k).2≠0 then([],(iw d (a+1) k).2)else((Dk.read d (a:Int)).1++(iw d (a+1) k).1,0)
def FC:ak->Nat->List (List Nat)->ak
 |d,_,[]=>d
 |d,a,b::r=>FC (put d a b) (a+1) r
def pv(d:ak)(a:Nat):List Nat:=sv d a++(sv d (a+1)++(sv d (a+2)++sv d (a+3)))
theorem ir(b:List Nat):(fX b).length=4:=rfl
theorem xw{b:List Nat}(h:b.length=512):b.take 128++((b.drop 128).take 128++((b.drop 256).take 128++(b.drop 384).take 128))=b:=by
 have a:(b.drop 384).take 128=b.drop 384:=Hm (by simp;omega);have c:(b.drop 256).take 128++b.drop 384=b.drop 256:=by
  have:=IN 128 (b.drop 256);rwa[List.drop_drop]at this
 have d:(b.drop 128).take 128++b.drop 256=b.drop 128:=by
  have:=IN 128 (b.drop 128);rwa[List.drop_drop]at this
 rw[a,c,d,IN]
theorem nQ{b:List Nat}(h:b.length=512)(hs:∀x∈b,x<256):∀s∈fX b,gi s:=by
 intro s hm;simp only[fX,IX,IY,or_false]at hm;have c:∀n,n+128<=512->gi ((b.drop n).take 128):=fun n d=>⟨by simp;omega,fun x a=>hs x (Ht (Hl a))⟩
 rcases hm with rfl|rfl|rfl|rfl
 ·exact⟨by simp;omega,fun x a=>hs x (Hl a)⟩
 ·exact c 128 (by omega)
 ·exact c 256 (by omega)
 ·exact c 384 (by omega)
end Go.Proofs.YtbpodmallknhfaaGreat.Dk
namespace Go.Proofs.YtbpodmallknhfaaGreat.Pg
def place(base n:Int):Nat:=(base+4*n).toNat
def write(d:Dk.ak)(base n:Int)(k:Nat)(l:List Nat):Dk.ak×Nat:=
 if l.length≠500 then(d,2)else if dV (Dk.size d) base n=false then(d,2)else Dk.jc d (place base n) (Dk.fX (form k l))
def read(d:Dk.ak)(base n:Int):(Nat×List Nat)×Nat:=
 if dV (Dk.size d) base n=false then((0,[]),2)else if(Dk.iw d (place base n) 4).2≠0 then((0,[]),(Dk.iw d (place base n) 4).2)else
  ((cG (Dk.iw d (place base n) 4).1,cY (Dk.iw d (place base n) 4).1),cJ (Dk.iw d (place base n) 4).1)
theorem oH{s:Nat}{base n:Int}(h:dV s base n=true):place base n+4<=s:=by
 have h:=IJ h;obtain⟨d,c,b,a⟩:=h;rw[Il (by omega)]at a;unfold place;omega
theorem pV{d:Dk.ak}{base m:Int}{k:Nat}{l:List Nat}(h:l.length≠500\/dV (Dk.size d) base m=false):write d base m k l=(d,2):=by
 unfold write;by_cases a:l.length≠500
 ·rw[GU a]
 ·rw[GQ a,GU (h.resolve_left a)]
theorem zZ{d:Dk.ak}{base m:Int}(h:dV (Dk.size d) base m=false):read d base m=((0,[]),2):=GU h
end Go.Proofs.YtbpodmallknhfaaGreat.Pg
namespace Go.Proofs.YtbpodmallknhfaaGreat
open Go.RowKit
theorem aJ.Dn{w:World}{g cap:Nat}{l:List Nat}(h:aJ w (.slice (some ⟨g,0,none⟩) 512 cap) l)(hl:l.length=512)(i:Nat)(c:i<4):aJ w (.slice (some ⟨g,i*128,none⟩) 128 (cap-i*128)) ((l.drop (i*128)).take 128):=by
 have a:=h.ic (i*128) hl (by omega);rw[H8]at a;have b:(l.drop (i*128)).length=512-i*128:=by simp;omega
 rw[<-b]at a;exact a.take 128 (by rw[b];omega)
theorem Dk.BU(b:List Nat){i:Nat}(a:i<4):(Dk.fX b).drop i=(b.drop (i*128)).take 128::(Dk.fX b).drop (i+1):=by
 rcases i with _|_|_|_|i
 ·rfl
 ·rfl
 ·rfl
 ·rfl
 ·omega
theorem Dk.C3{d:Dk.ak}{a:Nat}{x:List Nat}{r:List (List Nat)}(h:(Dk.write d (a:Int) x).2=0):Dk.jc d a (x::r)=Dk.jc (Dk.write d (a:Int) x).1 (a+1) r:=by
 show(if(Dk.write d (a:Int) x).2≠0 then _ else _)=_;rw[GQ (by omega)]
theorem Dk.za{d:Dk.ak}{a:Nat}{x:List Nat}{r:List (List Nat)}(h:(Dk.write d (a:Int) x).2≠0):Dk.jc d a (x::r)=Dk.write d (a:Int) x:=by
 show(if(Dk.write d (a:Int) x).2≠0 then _ else _)=_;rw[GU h]
set_option maxHeartbeats 1600000 in
set_option maxRecDepth 20000 in
theorem sY{B M L:Nat}{d:Dk.ak}{w:World}(h:bc w B M L d)(base n:Int)(k:Nat)(m:Value)(l:List Nat)(hn:n<=9223372036854775807)(hk:k<18446744073709551616)(Z:aJ w m l):
 Calls Tryz.prog 105 #[.pointer (some ⟨B,0,none⟩),.int .i64 base,.int .i64 n,ed k m] w fun e w'=>e=.returned (.int .i64 ((Pg.write d base n k l).2:Nat))/\bc w' B M L (Pg.write d base n k l).1/\Touch (DS B M L) w w':=by
 obtain⟨W,C⟩:∃W,W=w.alloc (.cells #[.int .u64 (k:Int),m] 59):=⟨_,rfl⟩
 have y:Below w.heap.size w W:=by rw[C];exact(GF _ _).alloc (GH _) _
 have p:=GD y;have HH:=GD (h.below y);have ao:=GD h.lt;have t:=Aq.bytes k m l W hk (Z.below y);have s:W.heap[w.heap.size]?=some (.cells #[.int .u64 (k:Int),m] 59 (0,0)):=by rw[C];exact GM _ _
 have q0:=bj s;have q1:=bp s;by_cases hl:l.length=500
 ·rw[GU hl,GU hl]at t;have U:(Pg.form k l).length=512:=by rw[Pg.bP,hl]
  obtain⟨pm,cm,rfl,-,-,-⟩:=Z.form;have o:=GD t;have J:=GD U;have HL:=GD hl;have E:Hid (∀w1,Below W.heap.size W w1->_):=fun w1 hb=>qg (HH.out.below hb) base n hn;have P:=h.own.size;clear t U h Z s y;by_cases b:Pg.dV (Dk.size d) base n=true
  ·have af:=Pg.oH b;have R:base+4*n=((Pg.place base n:Nat):Int):=by
    have:=IJ b;unfold Pg.place;omega
   have N:Pg.write d base n k l=Dk.jc d (Pg.place base n) (Dk.fX (Pg.form k l)):=by
    unfold Pg.write;rw[GQ (by rw[hl];decide),GQ (by rw[b];decide)]
   rw[N];have I:=GD b;generalize Pg.place base n=a at*
   have HA:Hid (a+4<=65536):=by show _<=_;omega
   have al:=GD R;generalize Pg.form k l=f at*
   rw[hl]at C q1 o⊢;clear N b af R P hl;go_enter Tryz.func105,Tryz.ntmps105;go_upto_region 1 with(fail)
   rw[<-C];clear C;go_wp2_with fail
   refine o.out.mono ?_;rintro e w1⟨u,rfl,D,j⟩;obtain⟨g,c,hu,T,aa,aj,ar,-⟩:=gU D (by rw[J.out];decide);rw[J.out]at hu aj;subst hu;have A:=GD (HH.out.below j);have HG:Hid (W.heap.size<=g/\g<w1.heap.size):=⟨T,aa⟩
   have HO:=GD D.aP;have q:=GD j;clear D T aa j o;go_wp2_with fail
   refine(E.out w1 q.out).mono ?_;rintro e w2⟨H,-,rfl⟩;have H:=H I.out;rw[al.out]at H;subst H;clear E;go_wp2_with fail
   clear H;go_loopw [32] (fun i wr=>∃(K:Nat)(d1:Dk.ak),K<=4/\i=.int .i64 K/\bc wr B M L d1/\Touch (DS B M L) w2 wr/\Dk.jc d a (Dk.fX f)=Dk.jc d1 (a+K) ((Dk.fX f).drop K)) (fun i _=>4-(intOf i).toNat)
   case atStart=>exact⟨0,d,G7 _,rfl,A.out,.refl _ _,rfl⟩
   case round=>
    obtain⟨K,d1,hK,rfl,hP,hT,he⟩:=hrel;have HP:=GD hP;have HT:=GD hT;have HE:=GD he;clear hP hT he;by_cases hlt:K<4
    ·have HK:=GD hlt;have hi:(K:Int)<4:=by omega
     have ai:=GW ((K:Int)*128) (by omega);have S:=GW ((K:Int)+1) (by omega);have ah:=GW (((K:Int)+1)*128) (by omega);have ag:=GW ((a:Int)+(K:Int)) (by have:=HA.out;omega);have F:¬DS B M L g:=fun V=>by
      have H:=ao.out g V;have h2:=HG.out.1;have h3:=p.out.size;omega
     have hx:=(HT.out.aP HO.out (fun _ g' e V=>by
      simp only[Value.ownBlock,GO]at e;subst e;exact F V)).Dn J.out K hlt
     have O:=gF HP.out ((a+K:Nat):Int) _ _ hx (fun _ g' e V=>by
      simp only[Value.ownBlock,GO]at e;subst e;exact F V)
     have ab:=GD O;clear hx O F hK;go_wp2_with fail
     rw[show(K+1)*128-K*128=128 by omega,show(a:Int)+(K:Int)=((a+K:Nat):Int)by omega];refine ab.out.mono ?_;have Q:=Dk.BU f HK.out;have v:=Dk.C3 (d:=d1) (a:=a+K) (x:=(f.drop (K*128)).take 128) (r:=(Dk.fX f).drop (K+1));have hend:=Dk.za (d:=d1) (a:=a+K) (x:=(f.drop (K*128)).take 128) (r:=(Dk.fX f).drop (K+1));rw[<-Q,<-HE.out]at v hend;generalize Dk.write d1 ((a+K:Nat):Int) ((f.drop (K*128)).take 128)=dw at*
     obtain⟨d2,e2⟩:=dw;dsimp only at v hend⊢;rintro e w3⟨rfl,Y,X⟩;have ae:=GD Y;have ad:=GD (HT.out.trans X);clear Y X Q ai S ah ag ab;by_cases he:e2=0
     ·subst he;have an:=GD (v rfl);have S:=GW ((K:Int)+1) (by omega);clear v hend;go_wp2_with fail
      go_roundw
      case rel=>exact⟨K+1,d2,by omega,by go_num,ae.out,ad.out,an.out⟩
      case measure=>simp[intOf];omega
     ·have aq:=GD (hend he);have H:¬(e2:Int)=0:=by omega
      have h2:((e2:Int)!=0)=true:=by simp;omega
      clear v hend he;go_wp2_with fail
      go_ret;rw[aq.out];exact⟨rfl,ae.out,(Touch.ax (p.out.trans (q.out.mono p.out.size))).trans ad.out⟩
    ·obtain rfl:K=4:=by omega
     go_wp2_with fail
     go_ret;rw[HE.out];exact⟨rfl,HP.out,(Touch.ax (p.out.trans (q.out.mono p.out.size))).trans HT.out⟩
  ·have G:Pg.dV (Dk.size d) base n=false:=by cases h:Pg.dV (Dk.size d) base n<;>simp_all
   have I:=GD G;rw[Pg.pV (GL G)];rw[hl]at C q1 o⊢;clear b G P hl;go_enter Tryz.func105,Tryz.ntmps105;go_upto_region 1 with(fail)
   rw[<-C];clear C;go_wp2_with fail
   refine o.out.mono ?_;rintro e w1⟨u,rfl,D,j⟩;obtain⟨pu,cu,rfl,-,-,-⟩:=D.aP.form;have A:=GD (HH.out.below j);have q:=GD j;clear D j o;go_wp2_with fail
   refine(E.out w1 q.out).mono ?_;rintro e w2⟨-,h2,rfl⟩;have h2:=h2 I.out;subst h2;clear E;go_wp2_with fail
   go_ret;exact⟨rfl,A.out,.ax (p.out.trans (q.out.mono p.out.size))⟩
 ·rw[GQ hl,GQ hl]at t;rw[Pg.pV (GJ hl)];obtain⟨pm,cm,rfl,-,-,-⟩:=Z.form;have o:=GD t;clear t h Z s y hl;generalize(l.length:Int)=z at*
  go_enter Tryz.func105,Tryz.ntmps105;go_upto_region 1 with(fail)
  rw[<-C];clear C;go_wp2_with fail
  refine o.out.mono ?_;rintro e w1⟨u,rfl,D,j⟩;obtain⟨pu,cu,rfl,-,-,-⟩:=D.aP.form;have A:=GD (HH.out.below j);have q:=GD j;clear D j o;go_wp2_with fail
  go_ret;exact⟨rfl,A.out,.ax (p.out.trans (q.out.mono p.out.size))⟩
def Dk.Rest(d:Dk.ak)(a K:Nat)(acc:List Nat):Prop:=
 Dk.iw d a 4=if(Dk.iw d (a+K) (4-K)).2≠0 then([],(Dk.iw d (a+K) (4-K)).2)else(acc++(Dk.iw d (a+K) (4-K)).1,0)
theorem Dk.nX{d:Dk.ak}{a j:Nat}{x:List Nat}{e:Nat}(h:Dk.read d (a:Int)=(x,e)):
 Dk.iw d a (j+1)=if e≠0 then([],e)else if(Dk.iw d (a+1) j).2≠0 then([],(Dk.iw d (a+1) j).2)else(x++(Dk.iw d (a+1) j).1,0):=by
 show(if(Dk.read d (a:Int)).2≠0 then _ else _)=_;rw[h]
theorem Dk.B4{d:Dk.ak}{a:Nat}:∀k:Nat,(Dk.iw d a k).2≠0->(Dk.iw d a k).1=[]
 |0,h=>absurd rfl h
 |k+1,h=>by
  obtain⟨x,e,c⟩:∃x e,Dk.read d (a:Int)=(x,e):=⟨_,_,rfl⟩
  rw[Dk.nX c]at h⊢;by_cases he:e≠0
  ·rw[GU he]
  ·rw[GQ he]at h⊢;by_cases b:(Dk.iw d (a+1) k).2≠0
   ·rw[GU b]
   ·rw[GQ b]at h;exact absurd rfl h
theorem Dk.uS(d:Dk.ak)(a:Nat):Dk.Rest d a 0 []:=by
 show Dk.iw d a 4=if(Dk.iw d a 4).2≠0 then([],(Dk.iw d a 4).2)else([]++(Dk.iw d a 4).1,0)
 split
 ·next h=>rw[<-Dk.B4 4 h]
 ·next h=>
  have h:(Dk.iw d a 4).2=0:=by simpa using h
  rw[Hg,<-h]
theorem Dk.Rest.next{d:Dk.ak}{a K:Nat}{acc x:List Nat}(h:Dk.Rest d a K acc)(e:K<4)(c:Dk.read d ((a+K:Nat):Int)=(x,0)):Dk.Rest d a (K+1) (acc++x):=by
 unfold Dk.Rest at h⊢;rw[show 4-K=(4-(K+1))+1 by omega,Dk.nX c,GQ (show¬(0:Nat)≠0 by simp),show a+K+1=a+(K+1)by omega]at h;rw[h];generalize Dk.iw d (a+(K+1)) (4-(K+1))=r;by_cases b:r.2≠0
 ·rw[GU b,GU b,GU b]
 ·rw[GQ b,GQ b,GQ (by simp),G3]
theorem Dk.Rest.stop{d:Dk.ak}{a K:Nat}{acc x:List Nat}{e:Nat}(h:Dk.Rest d a K acc)(c:K<4)(he:e≠0)(b:Dk.read d ((a+K:Nat):Int)=(x,e)):Dk.iw d a 4=([],e):=by
 unfold Dk.Rest at h;rw[show 4-K=(4-(K+1))+1 by omega,Dk.nX b,GU he,GU he]at h;exact h
theorem Dk.Rest.last{d:Dk.ak}{a:Nat}{acc:List Nat}(h:Dk.Rest d a 4 acc):Dk.iw d a 4=(acc,0):=by
 have h:Dk.iw d a 4=(acc++[],0):=h;rw[Ip]at h;exact h
theorem Dk.Aa{d:Dk.ak}(h:Dk.Ok d)(a:Int):(Dk.read d a).1.length<=128:=by
 unfold Dk.read;split
 ·exact G7 _
 ·split
  ·exact G7 _
  ·next hb=>
   have c:a.toNat<Dk.size d:=by unfold Dk.bad at hb;omega
   cases hw:d.waits.getD a.toNat none with
   |some b=>
    have hm:some b∈d.waits:=by
     rw[GG,GS (by rw[h.w];exact c),IH]at hw;rw[<-hw];exact Ie _
    exact Nat.le_of_eq (h.w1 b hm).1
   |none=>
    have hm:d.aL.getD a.toNat []∈d.aL:=by
     rw[GG,GS c,IH];exact Ie _
    exact Nat.le_of_eq (h.l1 _ hm).1
set_option maxHeartbeats 1600000 in
set_option maxRecDepth 20000 in
theorem vl{B m1 m2:Nat}{d:Dk.ak}{w:World}(h:bc w B m1 m2 d)(base n:Int)(hn:n<=9223372036854775807):
 Calls Tryz.prog 75 #[.pointer (some ⟨B,0,none⟩),.int .i64 base,.int .i64 n] w fun e w'=>∃u,e=.returned (.tuple #[ed (Pg.read d base n).1.1 u,.int .i64 ((Pg.read d base n).2:Nat)])/\Own w.heap.size w' u (Pg.read d base n).1.2/\Below w.heap.size w w':=by
 obtain⟨W,L⟩:∃W,W=w.alloc (.cells #[.int .u64 0,.slice none 0 0] 59):=⟨_,rfl⟩
 obtain⟨R,hR⟩:∃R,R=w.heap.size:=⟨_,rfl⟩
 have hO:rX w W R:=⟨by rw[L,hR];exact GM _ _,hR,by rw[L];exact(GF _ _).alloc (GH _) _⟩
 have HP:=GD (h.below hO.below);have y:=GD hO;have HR:=GD hR;have t:=GD (qg HP.out base n hn);have D:=h.own.ok;have O:=h.own.size;by_cases b:Pg.dV (Dk.size d) base n=true
 ·have af:=Pg.oH b;have P:base+4*n=((Pg.place base n:Nat):Int):=by
   have:=IJ b;unfold Pg.place;omega
  have g:Pg.read d base n=if(Dk.iw d (Pg.place base n) 4).2≠0 then((0,[]),(Dk.iw d (Pg.place base n) 4).2)else((Pg.cG (Dk.iw d (Pg.place base n) 4).1,Pg.cY (Dk.iw d (Pg.place base n) 4).1),Pg.cJ (Dk.iw d (Pg.place base n) 4).1):=by
   unfold Pg.read;rw[GQ (by rw[b];decide)]
  rw[g];obtain⟨rr,f⟩:∃rr,rr=if(Dk.iw d (Pg.place base n) 4).2≠0 then(((0,[]),(Dk.iw d (Pg.place base n) 4).2):(Nat×List Nat)×Nat)else((Pg.cG (Dk.iw d (Pg.place base n) 4).1,Pg.cY (Dk.iw d (Pg.place base n) 4).1),Pg.cJ (Dk.iw d (Pg.place base n) 4).1):=⟨_,rfl⟩
  rw[<-f];have H:=GD f;have J:=GD b;have al:=GD D;generalize Pg.place base n=a at*
  have HA:Hid (a+4<=65536):=by show _<=_;omega
  have aj:=GD P;clear g f b af P O D h hO;go_enter Tryz.func75,Tryz.ntmps75;go_upto_region 1 with(fail)
  rw[<-L,<-HR.out];clear L hR;go_wp2_with fail
  refine t.out.mono ?_;rintro e w2⟨j,-,rfl⟩;have j:=j J.out;rw[aj.out]at j;subst j;clear t;go_wp2_with fail
  clear j;go_loopw [10,25] (fun v i wr=>∃(K:Nat)(acc:List Nat),K<=4/\i=.int .i64 K/\Own w2.heap.size wr v acc/\acc.length<=128*K/\Below w2.heap.size w2 wr/\Dk.Rest d a K acc) (fun _ i _=>4-(intOf i).toNat)
  case atStart=>exact⟨0,[],G7 _,rfl,cU _ _,G7 _,GF _ _,Dk.uS d a⟩
  case round=>
   obtain⟨K,acc,hK,rfl,hv,U,hb,l⟩:=hrel;have HV:=GD hv;have ae:=GD U;have p:=GD hb;have G:=GD l;obtain⟨pv,cv,rfl,-,-,-⟩:=hv.aP.form;clear hv U hb l;by_cases hlt:K<4
   ·have HK:=GD hlt;have hi:(K:Int)<4:=by omega
    have ag:=GW ((a:Int)+(K:Int)) (by have:=HA.out;omega);have g:=jI (HP.out.below p.out) ((a+K:Nat):Int);have hlen:=Dk.Aa al.out ((a+K:Nat):Int);have m:=fun x(hx:Dk.read d ((a+K:Nat):Int)=(x,0))=>G.out.next HK.out hx;have k:=fun x e(he:e≠0)(hx:Dk.read d ((a+K:Nat):Int)=(x,e))=>G.out.stop HK.out he hx;generalize Dk.read d ((a+K:Nat):Int)=rr at*
    obtain⟨x,X⟩:=rr;dsimp only at g hlen;have Z:=GD g;have C:=GD hlen;have I:=GD m;have F:=GD k;clear g hlen m k hK;go_wp2_with fail
    rw[show(a:Int)+(K:Int)=((a+K:Nat):Int)by omega];refine Z.out.mono ?_;rintro e w3⟨u,rfl,hM,o⟩;obtain⟨pu,cu,rfl,-,-,-⟩:=hM.aP.form;have HM:=GD hM;have A:=GD o;clear hM o Z ag;by_cases he:X=0
    ·subst he;have ai:=GD (I.out x rfl);have au:=GW ((K:Int)+1) (by omega);clear I F;go_upto_region 11 with(fail)
     iterate 7 go_step
     refine aA rfl (.tmp 40) (.tmp 41) rfl w2.heap.size _ acc rfl (HV.out.below A.out) _ x rfl HM.out.aP (by have j:=ae.out;have s:=C.out;have h3:=HK.out;omega) (GR p.out.size A.out.size) ?_;intro v' w4 V T _;have an:=GD V;have ar:=GD ((p.out.trans (A.out.mono p.out.size)).trans T);have aq:Hid ((acc++x).length<=128*(K+1)):=by show _<=_;have j:=ae.out;have s:=C.out;rw[GI];omega
     clear V T;go_wp2_with fail
     go_roundw
     case rel=>exact⟨K+1,acc++x,by omega,by go_num,an.out,aq.out,ar.out,ai.out⟩
     case measure=>simp[intOf];omega
    ·have ab:=GD (F.out x X he rfl);have ad:=GD he;have j:¬(X:Int)=0:=by omega
     have s:((X:Int)!=0)=true:=by simp;omega
     have c:=GD (y.out.later (p.out.trans (A.out.mono p.out.size)));clear I F he;have c0:=bj c.out.eC;have c1:=bp c.out.eC;have f0:=ee c.out.eC 0;have f1:=ee c.out.eC 1;obtain⟨d1,d2,d3⟩:=c.out.done (.int .u64 0) (.slice none 0 0);have N:=bj d1;have M:=bp d1;have D2:=GD d2;have D3:=GD d3;clear d1 d2 d3;go_wp2_with fail
     refine bodyPost_ret (v:=.tuple #[ed 0 (.slice none 0 0),.int .i64 (X:Int)]) (by simp[results,Tryz.results75,go_sem,N,M]) rfl ⟨_,by rw[H.out,ab.out,GU ad.out],by rw[H.out,ab.out,GU ad.out];exact cU _ _,D3.out⟩
   ·obtain rfl:K=4:=by omega
    have f:=H.out;rw[G.out.last,GQ (by simp)]at f;have Y:=GD f;clear f;have Q:=Aq.opens _ _ wr HV.out.aP;have aa:=GD Q;clear Q;go_wp2_with fail
    refine aa.out.mono ?_;rintro e w3⟨u,rfl,r,o⟩;obtain⟨pu,cu,hu,-,-,-⟩:=r.aP.form;have S:∀g3,u.ownBlock=some g3->R<g3:=by
     intro g3 q;rcases r.form with⟨j,s⟩|⟨g4,c4,j,s,-⟩
     ·rw[j]at q;cases q
     ·rw[j]at q;simp only[Value.ownBlock,GO]at q;have:=y.out.lt;have:=p.out.size;omega
    have ao:=GD S;have ah:=GD r;have c:=GD (y.out.later (p.out.trans (o.mono p.out.size)));have HZ:Hid (w.heap.size<=wr.heap.size):=by show _<=_;have j:=y.out.below.size;have s:=p.out.size;omega
    subst hu;generalize(Pg.cY acc).length=z at*
    clear r o S aa;have c0:=bj c.out.eC;have c1:=bp c.out.eC;have f0:=ee c.out.eC 0;have f1:=ee c.out.eC 1;obtain⟨d1,d2,d3⟩:=c.out.done (.int .u64 (Pg.cG acc:Int)) (.slice pu z cu);have N:=bj d1;have M:=bp d1;have D2:=GD d2;have D3:=GD d3;clear d1 d2 d3;go_wp2_with fail
    refine bodyPost_ret (v:=.tuple #[ed (Pg.cG acc) (.slice pu z cu),.int .i64 (Pg.cJ acc:Nat)]) (by simp[results,Tryz.results75,go_sem,N,M]) rfl ⟨_,by rw[Y.out],?_,D3.out⟩;rw[Y.out];refine(ah.out.from HZ.out).grown D2.out (GL fun h=>?_);exact absurd (ao.out _ h) (Jc _)
 ·have E:Pg.dV (Dk.size d) base n=false:=by cases h:Pg.dV (Dk.size d) base n<;>simp_all
  have J:=GD E;rw[Pg.zZ E];clear b E O D h hO;go_enter Tryz.func75,Tryz.ntmps75;go_upto_region 1 with(fail)
  rw[<-L,<-HR.out];clear L hR;go_wp2_with fail
  refine t.out.mono ?_;rintro e w2⟨-,s,rfl⟩;have s:=s J.out;subst s;clear t;have c0:=bj y.out.eC;have c1:=bp y.out.eC;have f0:=ee y.out.eC 0;have f1:=ee y.out.eC 1;obtain⟨d1,d2,d3⟩:=y.out.done (.int .u64 0) (.slice none 0 0);have N:=bj d1;have M:=bp d1;have D2:=GD d2;have D3:=GD d3;clear d1 d2 d3;go_wp2_with fail
  refine bodyPost_ret (v:=.tuple #[ed 0 (.slice none 0 0),.int .i64 2]) (by simp[results,Tryz.results75,go_sem,N,M]) rfl ⟨_,rfl,cU _ _,D3.out⟩
end Go.Proofs.YtbpodmallknhfaaGreat
namespace Go.Proofs.YtbpodmallknhfaaGreat.Wl
open Go.Proofs.YtbpodmallknhfaaGreat
def bytes(s:S):List Nat:=s.ik.flatMap Lr.form
def jT(s:S)(p:Nat):Nat:=(bytes s).getD (p-s.start) 0
theorem mT:∀{l:List Lr.R}{p q:Nat},chain p l q->p+(l.flatMap Lr.form).length=q
 | [],_,_,h=>h
 |x::l,p,q,h=>by
  have:=mT h.2;rw[Ha,GI];unfold size at this;omega
theorem gD{s:S}(h:Good s):s.start+(bytes s).length=s.stop:=mT h.chain
def FU(l:List Lr.R)(q k:Nat):Nat:=match l[k]? with
 |some x=>x.bl
 |none=>q
theorem vk(s:S)(k:Nat):placeOf s k=FU s.ik s.stop k:=rfl
theorem Cc(s:S):placeOf s s.ik.length=s.stop:=by
 rw[vk];unfold FU;rw[He (GH _)]
structure Kn where
 start:Nat
 ag:Nat
 dS:Nat
 an:Nat
def jN(a c:Nat)(k:Kn):List Nat:=((((aH.le 4 a++aH.le 4 c)++aH.le 8 k.start)++aH.le 8 k.ag)++aH.le 8 k.dS)++aH.le 4 k.an
def head(a c:Nat)(k:Kn):List Nat:=(aH.le 4 (dK.more 0 (jN a c k))++jN a c k)++List.replicate 88 0
theorem lO(a c:Nat)(k:Kn):(jN a c k).length=36:=by
 unfold jN;simp only[GI,aH.al]
theorem tr(a c:Nat)(k:Kn):(head a c k).length=128:=by
 unfold head;simp only[GI,aH.al,lO,G9]
theorem A4(a c:Nat)(k:Kn):∀x∈jN a c k,x<256:=
 Lr.cM (Lr.cM (Lr.cM (Lr.cM (Lr.cM (aH.cZ _ _) (aH.cZ _ _)) (aH.cZ _ _)) (aH.cZ _ _)) (aH.cZ _ _)) (aH.cZ _ _)
theorem lM(a c:Nat)(k:Kn):Dk.gi (head a c k):=
 ⟨tr a c k,Lr.cM (Lr.cM (aH.cZ _ _) (A4 a c k)) (fun x b=>by rw[Ik b];decide)⟩
structure Hf where
 round:Nat
 an:Nat
 fill:Nat
 log:List Nat
def eA(b:List Nat):Hf:=⟨aH.num (b.take 4),aH.num ((b.drop 4).take 4),aH.num ((b.drop 8).take 4),b.drop 12⟩
def tq(x:Hf):List Nat:=((aH.le 4 x.round++aH.le 4 x.an)++aH.le 4 x.fill)++x.log
def hf(b:List Nat)(k:Nat):List Nat:=(b.drop (64*k)).take 64
theorem qy{b:List Nat}(h:b.length=128){k:Nat}(a:k<2):(hf b k).length=64:=by
 unfold hf;rw[Hj,G5];omega
theorem oN(x:Hf):(tq x).length=12+x.log.length:=by
 unfold tq;simp only[GI,aH.al]
theorem oA{n:Nat}(h:n<4294967296):aH.num (aH.le 4 n)=n:=by
 rw[aH.rp,IP (Hh h (by decide))]
theorem A1{x:Hf}(c:x.round<4294967296)(b:x.an<4294967296)(a:x.fill<4294967296):eA (tq x)=x:=by
 have g:(tq x).take 4=aH.le 4 x.round:=by
  unfold tq;rw[G3,G3];exact Iu (aH.al 4 _)
 have f:(tq x).drop 4=aH.le 4 x.an++(aH.le 4 x.fill++x.log):=by
  unfold tq;rw[G3,G3];exact IF (aH.al 4 _)
 have e:(tq x).drop 8=aH.le 4 x.fill++x.log:=by
  unfold tq;rw[G3];exact IF (by rw[GI,aH.al,aH.al])
 have d:(tq x).drop 12=x.log:=by
  unfold tq;exact IF (by rw[GI,GI,aH.al,aH.al,aH.al])
 unfold eA;rw[g,f,e,d,Iu (aH.al 4 _),Iu (aH.al 4 _),oA c,oA b,oA a]
def aI(said ep a h:Nat)(x:Hf):Nat:=
 if x.round≠h/a then 0 else if x.an≠ep then min (min x.fill 52) (max (h*52) said-h*52)else min x.fill 52
structure rY(s:S)(said q:Nat)(x:Hf):Prop where
 ep:x.an<=s.an
 Ek:∀h,s.start/52<=h->h%(2*s.count)=q->0<aI said s.an (2*s.count) h x->h*52+aI said s.an (2*s.count) h x<=s.stop
 is:∀h i,s.start/52<=h->h%(2*s.count)=q->i<aI said s.an (2*s.count) h x->s.start<=h*52+i->x.log.getD i 0=jT s (h*52+i)
 lo:∀h,s.start/52<=h->h%(2*s.count)=q->min 52 (s.ag-h*52)<=aI said s.an (2*s.count) h x
theorem rY.ag{s:S}{said q:Nat}{x:Hf}(h:rY s said q x){f:Nat}(a:∀g,s.start/52<=g->g%(2*s.count)=q->min 52 (f-g*52)<=aI said s.an (2*s.count) g x):rY {s with ag:=f} said q x:=
 ⟨h.ep,h.Ek,h.is,a⟩
theorem vQ{s:S}(h:Good s)(x:Lr.R){p:Nat}(hp:p<s.stop)(hs:s.start<=p):jT (app s x) p=jT s p:=by
 have:=gD h;unfold jT;have e:bytes (app s x)=bytes s++Lr.form (aV s x):=by
  show(s.ik++[aV s x]).flatMap Lr.form=_;rw[Io,Ha,IC,Ip];rfl
 rw[e];show(bytes s++_).getD (p-s.start) 0=_;rw[GG,GG,Ig (by omega)]
theorem rY.app{s:S}{said q:Nat}{x:Hf}(h:rY s said q x)(e:Good s)(r:Lr.R):rY (app s r) said q x:=by
 refine⟨h.ep,fun g c b a=>?_,fun g i c b a d=>?_,h.lo⟩
 ·have:=h.Ek g c b a;show _<=s.stop+_;exact GR this (Nat.le_add_right _ _)
 ·have f:i<aI said s.an (2*s.count) g x:=a;have:=h.Ek g c b (by omega);rw[vQ e r (by omega) d];exact h.is g i c b a d
theorem wH{s:S}{said q h:Nat}{x:Hf}(A:s.start/52<=h)(z:h<s.start/52+2*s.count)(t:h%(2*s.count)=q)(p:x.round=h/(2*s.count))(he:x.an=s.an)(hf:x.fill=min 52 (s.stop-h*52))(r:h*52<s.stop)
 (o:∀i,i<x.fill->s.start<=h*52+i->x.log.getD i 0=jT s (h*52+i)) (f:s.stop<=(s.start/52+2*s.count)*52) (u:s.ag<=s.stop):rY s said q x:=by
 have w:0<2*s.count:=by omega
 have key:∀g,s.start/52<=g->g%(2*s.count)=q->g≠h->aI said s.an (2*s.count) g x=0/\s.stop<=g*52:=by
  intro g y l k;have n:=Nat.div_add_mod g (2*s.count);have m:=Nat.div_add_mod h (2*s.count);have j:g/(2*s.count)≠h/(2*s.count):=fun e=>k (by rw[<-n,<-m,e,l,t]);have hlt:h<g:=by
   rcases Hi h g with d|d
   ·exact d
   ·exfalso;have c:g/(2*s.count)<h/(2*s.count):=Nat.lt_of_le_of_ne (Nat.div_le_div_right d) j;have b:2*s.count*(g/(2*s.count)+1)<=2*s.count*(h/(2*s.count)):=Nat.mul_le_mul_left _ c;rw[Jl]at b;omega
  have c:h/(2*s.count)<g/(2*s.count):=Nat.lt_of_le_of_ne (Nat.div_le_div_right (Hu hlt)) (H4 j);have b:2*s.count*(h/(2*s.count)+1)<=2*s.count*(g/(2*s.count)):=Nat.mul_le_mul_left _ c;rw[Jl]at b;refine⟨?_,?_⟩
  ·unfold aI;rw[GU (by rw[p];exact H4 j)]
  ·refine GR f (Nat.mul_le_mul_right _ ?_);omega
 have a:aI said s.an (2*s.count) h x=x.fill:=by
  unfold aI;rw[GQ (by rw[p];simp),GQ (by rw[he];simp)];omega
 refine⟨by rw[he];exact GH _,fun g d c b=>?_,fun g i d c b v=>?_,fun g d c=>?_⟩
 ·by_cases e:g=h
  ·subst e;rw[a];omega
  ·rw[(key g d c e).1]at b;exact absurd b (Jc 0)
 ·by_cases e:g=h
  ·subst e;rw[a]at b;exact o i b v
  ·rw[(key g d c e).1]at b;exact absurd b (Ii _)
 ·by_cases e:g=h
  ·subst e;rw[a];omega
  ·have:=(key g d c e).2;omega
theorem yc{s:S}{said q:Nat}{x:Hf}(hf:x.fill=0)(he:x.an<=s.an)(b:s.ag<=s.start/52*52):rY s said q x:=by
 have a:∀g,aI said s.an (2*s.count) g x=0:=by
  intro g;unfold aI;rw[hf];split
  ·rfl
  split
  ·omega
  ·omega
 refine⟨he,fun g _ _ h=>?_,fun g i _ _ h _=>?_,fun g h _=>?_⟩
 ·rw[a]at h;exact absurd h (Jc 0)
 ·rw[a]at h;exact absurd h (Ii _)
 ·have:s.start/52*52<=g*52:=Nat.mul_le_mul_right _ h;omega
end Go.Proofs.YtbpodmallknhfaaGreat.Wl
namespace Go.Proofs.YtbpodmallknhfaaGreat.Wl
open Go.Proofs.YtbpodmallknhfaaGreat
structure Ex(s:S):Prop where
 aI:Good s
 low:16<=s.count
 high:s.count<=8192
 room:s.stop<=(s.start/52+2*s.count)*52
 FH:∃k,k<=s.ik.length/\placeOf s k=s.ag
 ep:s.an<4294967296
 pt:s.dS<18446744073709551616
def kH(d:Dk.ak)(i:Nat):List Nat:=(d.waits.getD i none).getD (d.aL.getD i [])
def half(s:S)(d:Dk.ak)(h:Nat):Hf:=eA (hf (kH d (s.at_+2+h%(2*s.count)/2)) (h%2))
def jv(s:S)(said j:Nat)(b:List Nat):Prop:=rY s said (2*j) (eA (hf b 0))/\rY s said (2*j+1) (eA (hf b 1))
theorem jv.hf{s:S}{said j:Nat}{b:List Nat}(h:jv s said j b){k:Nat}(a:k<2):rY s said (2*j+k) (eA (hf b k)):=by
 obtain rfl|rfl:k=0\/k=1:=by omega
 ·exact h.1
 ·exact h.2
structure Dv(s:S)(said:Nat)(d:Dk.ak):Prop where
 ok:Dk.Ok d
 fits:s.at_+s.count+2<=Dk.size d
 hl:∀i,i<2->d.aL.getD (s.at_+i) []=head s.at_ s.count ⟨s.start,said,s.dS,s.an⟩
 hw:∀i b,i<2->d.waits.getD (s.at_+i) none=some b->b=head s.at_ s.count ⟨s.start,said,s.dS,s.an⟩
 sl:∀j,j<s.count->jv s said j (d.aL.getD (s.at_+2+j) [])
 sw:∀j b,j<s.count->d.waits.getD (s.at_+2+j) none=some b->jv s said j b
theorem Dv.kH{s:S}{said:Nat}{d:Dk.ak}(h:Dv s said d){j:Nat}(a:j<s.count):jv s said j (kH d (s.at_+2+j)):=by
 unfold Wl.kH;cases hw:d.waits.getD (s.at_+2+j) none with
 |none=>exact h.sl j a
 |some b=>exact h.sw j b a hw
theorem Dv.FG{s:S}{said:Nat}{d:Dk.ak}(h:Dv s said d){i:Nat}(a:i<2):Wl.kH d (s.at_+i)=head s.at_ s.count ⟨s.start,said,s.dS,s.an⟩:=by
 unfold Wl.kH;cases hw:d.waits.getD (s.at_+i) none with
 |none=>exact h.hl i a
 |some b=>exact h.hw i b a hw
theorem nR{n h:Nat}:h%(2*n)=2*(h%(2*n)/2)+h%2:=by
 have a:h%(2*n)%2=h%2:=Nat.mod_mod_of_dvd h (Nat.dvd_mul_right 2 n);have:=Nat.div_add_mod (h%(2*n)) 2;omega
theorem kO{n h:Nat}(a:0<n):h%(2*n)/2<n:=by
 have:=Nat.mod_lt h (show 0<2*n by omega);omega
theorem Dv.half{s:S}{said:Nat}{d:Dk.ak}(h:Dv s said d)(b:0<s.count)(g:Nat):rY s said (g%(2*s.count)) (half s d g):=by
 have a:=(h.kH (kO (h:=g) b)).hf (k:=g%2) (by omega);rw[<-nR]at a;exact a
theorem rM{d:Dk.ak}(h:Dk.Ok d){i:Nat}(a:i<Dk.size d):Dk.gi (kH d i):=by
 unfold kH;cases hw:d.waits.getD i none with
 |none=>
  rw[Option.getD_none,GG,GS a,IH];exact h.l1 _ (Ie _)
 |some b=>
  rw[GG,GS (by rw[h.w];exact a),IH]at hw;exact h.w1 b (by rw[<-hw];exact Ie _)
theorem rE{a b:List Nat}(d:a.length=128)(c:b.length=128)(p:Nat){k:Nat}(f:k<2):hf (Dk.pick p a b) k=hf a k\/hf (Dk.pick p a b) k=hf b k:=by
 have mix:∀u v:List Nat,u.length=128->v.length=128->hf (u.take 64++v.drop 64) k=hf u k\/hf (u.take 64++v.drop 64) k=hf v k:=by
  intro u v hu e;have hl:(u.take 64).length=64:=by rw[Hj];omega
  obtain rfl|rfl:k=0\/k=1:=by omega
  ·refine GJ ?_;unfold hf;rw[Nat.mul_zero,I8,I8,Iu hl]
  ·refine GL ?_;unfold hf;rw[Iz,IF hl]
 unfold Dk.pick;split
 ·exact GJ rfl
 split
 ·exact GL rfl
 split
 ·exact(mix b a c d).symm
 ·exact mix a b d c
theorem jv.pick{s:S}{said j:Nat}{a b:List Nat}(f:jv s said j a)(d:jv s said j b)(c:a.length=128)(lb:b.length=128)(p:Nat):jv s said j (Dk.pick p a b):=by
 refine⟨?_,?_⟩
 ·rcases rE c lb p (k:=0) (by decide)with e|e
  ·rw[e];exact f.1
  ·rw[e];exact d.1
 ·rcases rE c lb p (k:=1) (by decide)with e|e
  ·rw[e];exact f.2
  ·rw[e];exact d.2
theorem j7(p:Nat)(a:List Nat):Dk.pick p a a=a:=by
 unfold Dk.pick;split
 ·rfl
 split
 ·rfl
 split
 ·exact IN 64 a
 ·exact IN 64 a
theorem qq{d:Dk.ak}(h:Dk.Ok d){i:Nat}(a:i<Dk.size d):(d.aL.getD i []).length=128:=by
 rw[GG,GS a,IH];exact(h.l1 _ (Ie _)).1
theorem xk{d:Dk.ak}(h:Dk.Ok d){i:Nat}{b:List Nat}(hw:d.waits.getD i none=some b):b.length=128:=by
 rw[GG]at hw;cases h1:d.waits[i]? with
 |none=>rw[h1]at hw;cases hw
 |some x=>
  rw[h1]at hw;obtain rfl:x=some b:=hw;exact(h.w1 b (List.mem_of_getElem? h1)).1
theorem gy(n i:Nat):(List.replicate n (none:Option (List Nat))).getD i none=none:=Dk.dx _ _ _
theorem Dv.aQ{s:S}{said:Nat}{d:Dk.ak}(h:Dv s said d)(a:List Nat):Dv s said (Dk.aQ d a):=by
 have hz:=Dk.rO h.ok a;refine⟨Dk.ox h.ok a,by rw[hz];exact h.fits,fun i e=>?_,fun i b e hw=>?_,fun j c=>?_,fun j b c hw=>?_⟩
 ·have:=h.fits;rw[Dk.jQ h.ok a (by omega)];cases hw:d.waits.getD (s.at_+i) none with
  |none=>exact h.hl i e
  |some b=>
   show Dk.pick _ _ _=_;rw[h.hl i e,h.hw i b e hw,j7]
 ·rw[show(Dk.aQ d a).waits=Dk.none_ d from rfl]at hw;unfold Dk.none_ at hw;rw[gy]at hw;cases hw
 ·have:=h.fits;rw[Dk.jQ h.ok a (by omega)];cases hw:d.waits.getD (s.at_+2+j) none with
  |none=>exact h.sl j c
  |some b=>exact(h.sl j c).pick (h.sw j b c hw) (qq h.ok (by omega)) (xk h.ok hw) _
 ·rw[show(Dk.aQ d a).waits=Dk.none_ d from rfl]at hw;unfold Dk.none_ at hw;rw[gy]at hw;cases hw
theorem Dv.last{s:S}{said:Nat}{d:Dk.ak}(h:Dv s said d):Dv s said (Dk.last d):=by
 have hz:=Dk.ch h.ok;have hf:=h.fits;refine⟨Dk.lE h.ok,by rw[hz];exact hf,fun i c=>?_,fun i b c hw=>?_,fun j a=>?_,fun j b a hw=>?_⟩
 ·rw[Dk.dX h.ok (by omega)];exact h.FG c
 ·rw[show(Dk.last d).waits=Dk.none_ d from rfl]at hw;unfold Dk.none_ at hw;rw[gy]at hw;cases hw
 ·rw[Dk.dX h.ok (by omega)];exact h.kH a
 ·rw[show(Dk.last d).waits=Dk.none_ d from rfl]at hw;unfold Dk.none_ at hw;rw[gy]at hw;cases hw
theorem Dv.same{s:S}{said:Nat}{d a:Dk.ak}(h:Dv s said d)(ok:Dk.Ok a)(hl:a.aL=d.aL)(hw:a.waits=d.waits):Dv s said a:=by
 refine⟨ok,?_,?_,?_,?_,?_⟩
 ·have:=h.fits;unfold Dk.size at*
  rw[hl];exact this
 ·rw[hl];exact h.hl
 ·rw[hw];exact h.hw
 ·rw[hl];exact h.sl
 ·rw[hw];exact h.sw
theorem Dv.bX{s:S}{said:Nat}{d:Dk.ak}(h:Dv s said d):Dv s said (Dk.bX d):=by
 obtain⟨b,a,-,-⟩:=Dk.eb d;exact h.same (Dk.lF h.ok) b a
theorem gG{d:Dk.ak}{i k:Nat}{b:List Nat}(a:i<d.waits.length):(Dk.put d i b).waits.getD k none=if i=k then some b else d.waits.getD k none:=by
 show(d.waits.set i (some b)).getD k none=_;by_cases e:i=k
 ·subst e;rw[GU rfl,Dk.dF a]
 ·rw[GQ e,Dk.getD_set_ne e]
theorem Dv.put{s:S}{said:Nat}{d:Dk.ak}(h:Dv s said d){j:Nat}{b:List Nat}(m:j<s.count)(l:Dk.gi b)(hs:jv s said j b):Dv s said (Dk.put d (s.at_+2+j) b):=by
 have hf:=h.fits;have f:s.at_+2+j<d.waits.length:=by rw[h.ok.w];omega
 refine⟨Dk.eU h.ok _ l,h.fits,h.hl,fun i c a hw=>?_,h.sl,fun k c g hw=>?_⟩
 ·rw[gG f,GQ (by omega)]at hw;exact h.hw i c a hw
 ·rw[gG f]at hw;by_cases e:j=k
  ·subst e;rw[GU rfl]at hw;cases hw;exact hs
  ·rw[GQ (by omega)]at hw;exact h.sw k c g hw
theorem rN{d:Dk.ak}{i k:Nat}{b:List Nat}(a:i<d.waits.length):kH (Dk.put d i b) k=if i=k then b else kH d k:=by
 unfold kH;rw[gG a];by_cases e:i=k
 ·rw[GU e,GU e];rfl
 ·rw[GQ e,GQ e];rfl
def told(d:Dk.ak)(a:Nat)(b:List Nat):Dk.ak:=Dk.last (Dk.put (Dk.put d a b) (a+1) b)
theorem BP{d:Dk.ak}(h:Dk.Ok d){a:Nat}{b:List Nat}(c:Dk.gi b):Dk.Ok (told d a b):=Dk.lE (Dk.eU (Dk.eU h _ c) _ c)
theorem pY{d:Dk.ak}(h:Dk.Ok d){a:Nat}{b:List Nat}(c:Dk.gi b):Dk.size (told d a b)=Dk.size d:=Dk.ch (Dk.eU (Dk.eU h _ c) _ c)
theorem nH(d:Dk.ak)(a i:Nat)(b:List Nat):(told d a b).waits.getD i none=none:=gy _ _
theorem nI{d:Dk.ak}(h:Dk.Ok d){a i:Nat}{b:List Nat}(c:Dk.gi b)(j:a+1<Dk.size d)(g:i<Dk.size d):(told d a b).aL.getD i []=if i=a\/i=a+1 then b else kH d i:=by
 have m:Dk.Ok (Dk.put (Dk.put d a b) (a+1) b):=Dk.eU (Dk.eU h _ c) _ c;have l:a<d.waits.length:=by rw[h.w];omega
 have k:a+1<(Dk.put d a b).waits.length:=by
  have:=(Dk.eU h a c).w;rw[this];exact j
 unfold told;rw[Dk.dX m g];show kH (Dk.put (Dk.put d a b) (a+1) b) i=_;rw[rN k,rN l];by_cases f:a+1=i
 ·rw[GU f,GU (GL f.symm)]
 ·rw[GQ f];by_cases e:a=i
  ·rw[GU e,GU (GJ e.symm)]
  ·rw[GQ e,GQ (by omega)]
theorem yB{n:Nat}{d:Dk.ak}(h:Calm n d)(ok:Dk.Ok d){a:Nat}{b:List Nat}(c:Dk.gi b):Calm n (told d a b):=⟨h.off,h.bR,by rw[pY ok c];exact h.sz,h.bD⟩
theorem Dv.app{s:S}{said:Nat}{d:Dk.ak}(h:Dv s said d)(c:Good s)(r:Lr.R):Dv (app s r) said d:=
 ⟨h.ok,h.fits,h.hl,h.hw,fun j a=>⟨(h.sl j a).1.app c r,(h.sl j a).2.app c r⟩,fun j b a hw=>⟨(h.sw j b a hw).1.app c r,(h.sw j b a hw).2.app c r⟩⟩
theorem Bg{d:Dk.ak}{a c:Nat}(ok:Dk.Ok d)(e:a+c+2<=Dk.size d)(hz:∀i,i<Dk.size d->kH d i=Dk.blank):Dv (fresh a c) 52 (told d a (head a c ⟨52,52,0,1⟩)):=by
 have f:=lM a c ⟨52,52,0,1⟩;have h0:∀k,k<2->∀q,rY (fresh a c) 52 q (eA (hf Dk.blank k)):=by
  intro k l q;refine yc ?_ ?_ (show 52<=52/52*52 by decide)
  ·obtain rfl|rfl:k=0\/k=1:=by omega
   ·decide
   ·decide
  ·obtain rfl|rfl:k=0\/k=1:=by omega
   ·show(eA (hf Dk.blank 0)).an<=1;decide
   ·show(eA (hf Dk.blank 1)).an<=1;decide
 refine⟨BP ok f,by rw[pY ok f];exact e,fun i h=>?_,fun i b h hw=>?_,fun j g=>?_,fun j b g hw=>?_⟩
 ·show(Wl.told d a _).aL.getD (a+i) []=_;rw[nI ok f (by omega) (by omega),GU (by omega)];rfl
 ·rw[nH]at hw;cases hw
 ·have g:j<c:=g;show jv _ _ _ ((Wl.told d a _).aL.getD (a+2+j) []);rw[nI ok f (by omega) (by omega),GQ (by omega),hz _ (by omega)];exact⟨h0 0 (by decide) _,h0 1 (by decide) _⟩
 ·rw[nH]at hw;cases hw
theorem Bc{a c:Nat}(d:16<=c)(b:c<=8192):Ex (fresh a c):=by
 refine⟨kW a c,d,b,?_,⟨0,G7 _,rfl⟩,(show 1<4294967296 by decide),(show 0<18446744073709551616 by decide)⟩;show 52<=(52/52+2*c)*52;omega
structure Ls(s:S)(said:Nat)(d:Dk.ak)(h:Nat)(acc:List Nat):Prop where
 low:s.start/52<=h
 high:h<=s.start/52+2*s.count
 len:acc.length=52*(h-s.start/52)
 is:∀i,i<acc.length->s.start<=s.start/52*52+i->acc.getD i 0=jT s (s.start/52*52+i)
 full:∀g,s.start/52<=g->g<h->aI said s.an (2*s.count) g (half s d g)=52
theorem fQ{a b:List Nat}(i:Nat):(a++b).getD i 0=if i<a.length then a.getD i 0 else b.getD (i-a.length) 0:=by
 rw[GG];by_cases h:i<a.length
 ·rw[GU h,Ig h,GG]
 ·rw[GQ h,Hy (by omega),GG]
theorem getD_take{a:List Nat}{n i:Nat}(h:i<n):(a.take n).getD i 0=a.getD i 0:=by
 rw[GG,Ij,GU h,GG]
theorem mr{a:List Nat}{n i:Nat}:(a.drop n).getD i 0=a.getD (n+i) 0:=by
 rw[GG,List.getElem?_drop,GG]
def Hd(d:Dk.ak)(s:S):Prop:=Ex s/\∃said,said<=s.stop/\Dv s said d
theorem Hd.aQ{d:Dk.ak}{s:S}(h:Hd d s)(a:List Nat):Hd (Dk.aQ d a) s:=by
 obtain⟨e,said,b,c⟩:=h;exact⟨e,said,b,c.aQ a⟩
theorem DW{s:S}(h:Ex s){x:Lr.R}(c:Lr.rU (aV s x))(b:Lr.Ok (aV s x))(hl:(size (aV s x):Int)<=left s):Ex (app s x):=by
 refine⟨A8 h.aI c b,h.low,h.high,?_,?_,h.ep,h.pt⟩
 ·show s.stop+size (aV s x)<=(s.start/52+2*s.count)*52;unfold left at hl;omega
 ·obtain⟨k,d,he⟩:=h.FH;refine⟨k,by show k<=(s.ik++[_]).length;rw[GI];omega,?_⟩;show _=s.ag;rw[<-he];unfold placeOf;show(match(s.ik++[aV s x])[k]? with|some x=>x.bl|none=>_)=_;rcases Hi k s.ik.length with a|a
  ·rw[Ig a,GS a]
  ·obtain rfl:k=s.ik.length:=by omega
   rw[Hy (GH _),Nat.sub_self,He (GH s.ik.length)];rfl
theorem Bd{s:S}(h:Ex s):Ex (flush s):=⟨vC h.aI,h.low,h.high,h.room,⟨s.ik.length,GH _,Cc (flush s)⟩,h.ep,h.pt⟩
end Go.Proofs.YtbpodmallknhfaaGreat.Wl
namespace Go.Proofs.YtbpodmallknhfaaGreat.Wl
open Go.Proofs.YtbpodmallknhfaaGreat
def kn(s:S):Kn:=⟨s.start,s.ag,s.dS,s.an⟩
def waits(s:S):List Nat:=(bytes s).drop (s.ag-s.start)
theorem eT{s:S}(h:Good s):(waits s).length=s.stop-s.ag:=by
 have b:=gD h;have a:=h.low;unfold waits;rw[G5];omega
end Go.Proofs.YtbpodmallknhfaaGreat.Wl
namespace Go.Proofs.YtbpodmallknhfaaGreat.Wl
open Go.Proofs.YtbpodmallknhfaaGreat
def l6(at_ count:Nat)(d a:Dk.ak):Prop:=∀i,(i<at_\/at_+count+2<=i)->d.waits.getD i none=none->a.waits.getD i none=none/\a.aL.getD i []=d.aL.getD i []
theorem l6.refl(a c:Nat)(d:Dk.ak):l6 a c d d:=fun _ _ h=>⟨h,rfl⟩
theorem l6.bX{a c:Nat}{d e:Dk.ak}(h:l6 a c d e):l6 a c d (Dk.bX e):=fun i b hw=>by
 obtain⟨g,f,-,-⟩:=Dk.eb e;rw[g,f];exact h i b hw
theorem getD_set_ne{α:Type}(l:List α){i j:Nat}(h:i≠j)(x z:α):(l.set i x).getD j z=l.getD j z:=by
 rw[GG,GG,Iw h]
theorem l6.put{a c:Nat}{d e:Dk.ak}(h:l6 a c d e){i:Nat}(k:a<=i/\i<a+c+2)(b:List Nat):l6 a c d (Dk.put e i b):=fun j g hw=>by
 have f:=h j g hw;refine⟨?_,f.2⟩;show(e.waits.set i (some b)).getD j none=none;rw[getD_set_ne _ (by omega)];exact f.1
theorem l6.last{a c:Nat}{d e:Dk.ak}(h:l6 a c d e)(f:Dk.Ok e):l6 a c d (Dk.last e):=fun j g hw=>by
 have b:=h j g hw;refine⟨?_,?_⟩
 ·show(Dk.none_ e).getD j none=none;unfold Dk.none_;exact Dk.dx _ _ _
 ·by_cases hl:j<Dk.size e
  ·rw[Dk.dX f hl,b.1];exact b.2
  ·rw[<-b.2];have k:(Dk.last e).aL.length<=j:=by have:=Dk.ch f;unfold Dk.size at this hl;omega
   have i:e.aL.length<=j:=by unfold Dk.size at hl;omega
   rw[GG,GG,He k,He i]
theorem l6.told{a c:Nat}{d:Dk.ak}{b:List Nat}(f:Dk.Ok d)(e:Dk.gi b):l6 a c d (told d a b):=
 (((l6.refl a c d).put (i:=a) ⟨GH _,by omega⟩ b).put (i:=a+1) ⟨by omega,by omega⟩ b).last (Dk.eU (Dk.eU f _ e) _ e)
end Go.Proofs.YtbpodmallknhfaaGreat.Wl
