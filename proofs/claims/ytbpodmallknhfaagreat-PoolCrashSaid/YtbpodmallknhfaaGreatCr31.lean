/- Parts of a proof. Conditions: as each row says. -/
import Derived.Test.YtbpodmallknhfaaGreatCr09
import Derived.Test.YtbpodmallknhfaaGreatCr29
import Derived.Test.YtbpodmallknhfaaGreatCr10
import Derived.Test.YtbpodmallknhfaaGreatCr14
import Derived.Test.YtbpodmallknhfaaGreatCr22
import Derived.Test.YtbpodmallknhfaaGreatCr28
import Derived.Test.YtbpodmallknhfaaGreatCr30
import Derived.Test.YtbpodmallknhfaaGreatCr21
import Derived.Test.YtbpodmallknhfaaGreatCr19
import Derived.StillTailTactics
namespace Go.Proofs.YtbpodmallknhfaaGreat
open Go.RowKit
structure Fl(P0 P1:World->Prop)(i:Nat)(D:Nat->Bool)(w:World):Prop where
 s0:D i=false->P0 w
 s1:D i=true->P1 w
section
variable{P0 P1:World->Prop}{i:Nat}{D:Nat->Bool}{w w':World}
theorem Fl.first(h:P0 w):Fl P0 P1 i (fun _=>false) w:=⟨fun _=>h,fun h=>Bool.noConfusion h⟩
theorem Fl.skip(h:Fl P0 P1 i D w)(k:Nat)(a:i≠k):Fl P0 P1 i (Ord.bP D k) w:=
 ⟨fun e=>h.s0 (by rw[<-e];exact(if_neg a).symm),fun e=>h.s1 (by rw[<-e];exact(if_neg a).symm)⟩
theorem Fl.bQ(_:Fl P0 P1 i D w)(k:Nat)(a:i≠k)(hd:D i=true)(hp:P1 w'):Fl P0 P1 i (Ord.bP D k) w':=
 ⟨(fun e=>by rw[show Ord.bP D k i=D i from if_neg a,hd]at e;cases e),fun _=>hp⟩
theorem Fl.flip(_:Fl P0 P1 i D w)(hp:P1 w'):Fl P0 P1 i (Ord.bP D i) w':=
 ⟨(fun e=>by rw[show Ord.bP D i i=true from if_pos rfl]at e;cases e),fun _=>hp⟩
theorem Fl.any{R:World->Prop}(h:Fl P0 P1 i D w)(f0:∀w,P0 w->R w)(f1:∀w,P1 w->R w):R w:=by
 cases hd:D i with
 |false=>exact f0 w (h.s0 hd)
 |true=>exact f1 w (h.s1 hd)
end
namespace Wl
theorem pU{n:Nat}{d:Dk.aq}(h:Calm n d)(ok:Dk.Ok d){i:Nat}(e:i<n){b:List Nat}(a:Dk.fI b):Dk.write d (i:Int) b=(Dk.put d i b,0)/\Calm n (Dk.put d i b)/\Dk.Ok (Dk.put d i b):=by
 have hu:Dk.used d<d.aW\/d.seen.getD i false=true:=by
  cases hs:d.seen.getD i false with
  |true=>exact Or.inr rfl
  |false=>
   refine Or.inl ?_;have c:=h.sz;have hl:i<d.seen.length:=by rw[ok.s];omega
   have g:=Dk.fE hl hs;have f:(d.seen.set i true).count true<=(d.seen.set i true).length:=List.count_le_length;rw[List.length_set,ok.s]at f;have:=h.aW;unfold Dk.used;omega
 exact⟨Dk.vo h.off h.bL (by rw[h.sz];exact e) a.1 hu,⟨h.off,h.bL,h.sz,h.aW⟩,Dk.eT ok i a⟩
def kR(d:Dk.aq)(a:Nat)(b:List Nat):Nat->Dk.aq
 |0=>d
 |1=>Dk.put d a b
 |_=>Dk.put (Dk.put d a b) (a+1) b
theorem vA{n K:Nat}{d:Dk.aq}{a:Nat}{b:List Nat}(f:K<2)(h:Calm n (kR d a b K))(ok:Dk.Ok (kR d a b K))(e:a+1<n)(c:Dk.fI b):
 Dk.write (kR d a b K) ((a+K:Nat):Int) b=(kR d a b (K+1),0)/\Calm n (kR d a b (K+1))/\Dk.Ok (kR d a b (K+1)):=by
 obtain rfl|rfl:K=0\/K=1:=by omega
 ·exact pU h ok (by omega) c
 ·exact pU h ok (by omega) c
end Wl
def vh(L B a K e c b d:Nat)(i:Nat)(v:Value)(_:World):Prop:=
 match i with
 |0=>v=.pointer (some ⟨L,0,none⟩)
 |1=>v=.pointer (some ⟨L,0,none⟩)
 |2=>v=.pointer (some ⟨L,0,none⟩)
 |3=>v=.pointer (some ⟨L,4,none⟩)
 |4=>v=.pointer (some ⟨B,0,none⟩)
 |5=>v=.pointer (some ⟨L,0,none⟩)
 |6=>v=.pointer (some ⟨L,0,none⟩)
 |7=>v=.pointer (some ⟨L,5,none⟩)
 |8=>v=.int .i64 (a:Int)
 |9=>v=.int .i64 (K:Int)
 |10=>v=.int .i64 (e:Int)
 |11=>v=.slice (some ⟨c,0,none⟩) b d
 |12=>v=.int .i64 0
 |13=>v=.int .i64 0
 |14=>v=.int .i64 0
 |_=>True
def Hj(B e b L a c:Nat)(k0:Wl.Kn)(pl f:Value)(w1:World)(d:Dk.aq)(w:World):Prop:=bh w B e b d/\aH w L k0 B a c pl f false/\Touch (ik B e b L) w1 w
set_option maxHeartbeats 6400000 in
set_option maxRecDepth 20000 in
theorem oi{w:World}{L B a c A z n:Nat}{k0:Wl.Kn}{pl y:Value}{d:Dk.aq}(h:aH w L k0 B a c pl y false)(M:bh w B A z d)(hC:Wl.Calm n d)(k:Wl.Kn)(aL:a+c+2<=n)(hc:c<=8192)(aQ:¬DS B A z L):
 Calls Tryz.prog 68 #[.pointer (some ⟨L,0,none⟩),FQ k] w fun e w'=>e=.returned (.int .i64 0)/\aH w' L k B a c pl y false/\bh w' B A z (Wl.told d a (Wl.head a c k))/\Touch (ik B A z L) w w':=by
 obtain⟨W,hW⟩:∃W,W=w.alloc (.cells (qE k) 120):=⟨_,rfl⟩
 have G:Below w.heap.size w W:=by rw[hW];exact aj _ _
 have g:W.heap[w.heap.size]?=some (.cells (qE k) 120 (0,0)):=by rw[hW];exact heap_alloc_last _ _
 obtain⟨Q,hQ⟩:∃Q,Q=w.heap.size:=⟨_,rfl⟩
 rw[<-hQ]at g;have p:=h.lt;have a6:=M.own.size;have hn:=hC.sz;have aY:=Lib.hid (h.below G);have bk:=Lib.hid (M.below G);have af:Hid (L<w.heap.size):=p;have ak:=Lib.hid M.lt;have s:=Lib.hid g;have ao:=Lib.hid G;have HQ:=Lib.hid hQ;have HC:=Lib.hid hC;have bx:=Lib.hid M.own.ok;have HA:Hid (a+1<n/\a<=65536):=by show _/\_;omega
 have N:=Lib.hid (Wl.gY a c k);have t:=Lib.hid aQ;have q0:=ah g 0 (v:=.int .u64 (k.start:Int)) rfl;have q1:=ah g 1 (v:=.int .u64 (k.ae:Int)) rfl;have q2:=ah g 2 (v:=.int .u64 (k.bp:Int)) rfl;have q3:=ah g 3 (v:=.int .u32 (k.ai:Int)) rfl;have q:=oj aY.out k (by omega) hc;have x:=Lib.hid q;clear G g p a6 hn h M hC aL hc aQ q;go_enter Tryz.func68,Tryz.ntmps68;go_upto_region 1 with(fail)
 rw[<-hW,<-hQ];clear hW hQ;go_wp2_with fail
 refine x.out.mono ?_;rintro e w1⟨u,rfl,hO,r⟩;generalize aG:Wl.head a c k=T at*
 have bs:=Lib.hid aG;obtain⟨gu,cu,hu,aJ,-⟩:=gT hO (by rw[N.out.1];decide);subst hu;have aX:=Lib.hid (aY.out.below r);have aW:=Lib.hid (bk.out.below r);have HO:=Lib.hid hO.bz;have bt:=Lib.hid (ao.out.trans (r.mono ao.out.size));have aZ:Hid (W.heap.size<=gu):=aJ;have bj:=Lib.hid ((r.block Q (lt_of_block s.out)).trans s.out);have aR:=Lib.hid ao.out.size;have bw:Hid (Q<W.heap.size):=lt_of_block s.out;clear hO r aJ x q0 q1 q2 q3 aG;go_wp2_with fail
 go_loopw [12] (fun i wr=>∃K:Nat,K<=2/\i=.int .i64 (K:Int)/\Wl.Calm n (Wl.kR d a T K)/\bh wr B A z (Wl.kR d a T K)/\aH wr L k0 B a c pl y false/\Touch (ik B A z L) w1 wr) (fun i _=>2-(intOf i).toNat)
 case atStart=>exact⟨0,Nat.zero_le _,rfl,HC.out,aW.out,aX.out,.refl _ _⟩
 case round=>
  obtain⟨K,f,rfl,aM,aC,aF,aB⟩:=hrel;have an:=Lib.hid aM;have ad:=Lib.hid aC;have ag:=Lib.hid aF;have J:=Lib.hid aB;clear aM aC aF aB;have F:¬ik B A z L gu:=by
   rintro(h|h)
   ·have I:=ak.out gu h;have h2:=aZ.out;have h3:=aR.out;omega
   ·have I:=af.out;have h2:=aZ.out;have h3:=aR.out;omega
  by_cases p:K<2
  ·have l:(K:Int)<2:=by omega
   have aD:=IntWalk.i64_in ((a:Int)+(K:Int)) (by have:=HA.out;omega);have bu:=IntWalk.i64_in ((K:Int)+1) (by omega);obtain⟨aK,aO⟩:∃n,n=a+K:=⟨_,rfl⟩
   have bo:Hid (IntKind.i64.wrap ((a:Int)+(K:Int))=(aK:Int)):=by show _=_;rw[aD];omega
   obtain⟨O,ay,a2⟩:=Wl.vA p an.out ad.out.own.ok HA.out.1 N.out;rw[<-aO]at O;have aN:=J.out.bz HO.out (fun _ g' e=>by
    simp only[Value.ownBlock,Option.some.injEq]at e;subst e;exact F)
   have bA:=Lib.hid aN;have bb:=Lib.hid O;have ba:=Lib.hid ay;have a1:=Lib.hid F;clear aN O ay a2 f F aO aD;go_upto_region 5 with(fail)
   refine Ord.walk (vh L B a K aK gu T.length cu) (fun D _ w'=>Fl (Hj B A z L a c k0 pl y w1 (Wl.kR d a T K)) (Hj B A z L a c k0 pl y w1 (Wl.kR d a T (K+1))) 12 D w') (fun _ _=>True)
    (by kernel_rfl) (by kernel_rfl) ?fr ?hfr (fun _ _ _ _ _ h=>h) (fun xs=>Fl.first ⟨ad.out.below ((Below.refl _ _).kH),ag.out.below ((Below.refl _ _).kH),J.out.drew⟩) ?he ?hend
   case hfr=>
    intro xs;simp only[Ord.fill,Act.put,List.setIfInBounds_toArray,List.set_cons_zero,List.set_cons_succ];rfl
   case he=>
    iterate 15 (refine Ord.aa (fun D xs w2 hD hC M hR b K' f=>?_) ?_;rotate_left)
    rotate_left
    ·clear b;go_simp;exact f _ _ ⟨_,rfl,trivial,hR.skip 0 (by decide),rfl⟩
    ·clear b;go_simp;exact f _ _ ⟨_,rfl,trivial,hR.skip 1 (by decide),rfl⟩
    ·have q1:=Ord.ab _ b 1 (by decide);simp only[vh]at q1;simp only[q1]at f;clear b;go_simp;exact f _ _ ⟨_,rfl,trivial,hR.skip 2 (by decide),rfl⟩
    ·have q2:=Ord.ab _ b 2 (by decide);simp only[vh]at q2;simp only[q2]at f;clear b;go_simp;exact f _ _ ⟨_,rfl,trivial,hR.skip 3 (by decide),rfl⟩
    ·have q3:=Ord.ab _ b 3 (by decide);simp only[vh]at q3;simp only[q3]at f;clear b;have cc:=hR.any (R:=fun w=>w.cell? ⟨L,4,none⟩=some (.pointer (some ⟨B,0,none⟩))) (fun w h=>h.2.1.cell 4 rfl) (fun w h=>h.2.1.cell 4 rfl);go_simp;exact f _ _ ⟨_,rfl,trivial,hR.skip 4 (by decide),rfl⟩
    ·clear b;go_simp;exact f _ _ ⟨_,rfl,trivial,hR.skip 5 (by decide),rfl⟩
    ·have q5:=Ord.ab _ b 5 (by decide);simp only[vh]at q5;simp only[q5]at f;clear b;go_simp;exact f _ _ ⟨_,rfl,trivial,hR.skip 6 (by decide),rfl⟩
    ·have q6:=Ord.ab _ b 6 (by decide);simp only[vh]at q6;simp only[q6]at f;clear b;go_simp;exact f _ _ ⟨_,rfl,trivial,hR.skip 7 (by decide),rfl⟩
    ·have q7:=Ord.ab _ b 7 (by decide);simp only[vh]at q7;simp only[q7]at f;clear b;have cc:=hR.any (R:=fun w=>w.cell? ⟨L,5,none⟩=some (.int .i64 (a:Int))) (fun w h=>h.2.1.cell 5 rfl) (fun w h=>h.2.1.cell 5 rfl);go_simp;exact f _ _ ⟨_,rfl,trivial,hR.skip 8 (by decide),rfl⟩
    ·clear b;go_simp;exact f _ _ ⟨_,rfl,trivial,hR.skip 9 (by decide),rfl⟩
    ·have q8:=Ord.ab _ b 8 (by decide);simp only[vh]at q8;have q9:=Ord.ab _ b 9 (by decide);simp only[vh]at q9;simp only[q8,q9]at f;clear b;go_simp;rw[bo.out];exact f _ _ ⟨_,rfl,trivial,hR.skip 10 (by decide),rfl⟩
    ·clear b;go_simp;exact f _ _ ⟨_,rfl,trivial,hR.skip 11 (by decide),rfl⟩
    ·have q4:=Ord.ab _ b 4 (by decide);simp only[vh]at q4;have aw:=Ord.ab _ b 10 (by decide);simp only[vh]at aw;have av:=Ord.ab _ b 11 (by decide);simp only[vh]at av;simp only[q4,aw,av]at f;clear b;have h0:=hR.s0 hD;have ax:=gD h0.1 (aK:Int) (.slice (some ⟨gu,0,none⟩) T.length cu) T (h0.2.2.bz HO.out (fun _ g' e=>by
      simp only[Value.ownBlock,Option.some.injEq]at e;subst e;exact a1.out)) (fun _ g' e hd=>by
      simp only[Value.ownBlock,Option.some.injEq]at e;subst e;exact a1.out (Or.inl hd))
     rw[bb.out]at ax;go_simp;refine ax.mono ?_;rintro e w'⟨rfl,a7,o⟩;exact f _ _ ⟨_,rfl,trivial,hR.flip ⟨a7,h0.2.1.al o t.out,h0.2.2.trans (o.mono fun i _ l=>Or.inl l)⟩,rfl⟩
    ·have q0:=Ord.ab _ b 0 (by decide);simp only[vh]at q0;have au:=Ord.ab _ b 12 (by decide);simp only[vh]at au;simp only[q0,au]at f;clear b;have I:=hR.s1 (M {on:=12,ground:=.data} (by simp) rfl);go_simp;refine(ko I.2.1).mono ?_;rintro e w'⟨rfl,a8,o⟩;exact f _ _ ⟨_,rfl,trivial,hR.bQ 13 (by decide) (M {on:=12,ground:=.data} (by simp) rfl) ⟨I.1.bQ o (fun i l e=>t.out (e▸l)),a8,I.2.2.trans (o.mono fun i _ l=>Or.inr l)⟩,rfl⟩
    ·have ar:=Ord.ab _ b 13 (by decide);simp only[vh]at ar;simp only[ar]at f;clear b;go_simp;exact f _ _ ⟨_,rfl,trivial,hR.skip 14 (by decide),rfl⟩
    exact Ord.az
   case hend=>
    intro D xs w9 hR m;have h9:=hR.s1 (m 12 (by decide)).1;have e0:=(m 0 (by decide)).2;have e1:=(m 1 (by decide)).2;have e2:=(m 2 (by decide)).2;have e3:=(m 3 (by decide)).2;have e4:=(m 4 (by decide)).2;have e5:=(m 5 (by decide)).2;have e6:=(m 6 (by decide)).2;have e7:=(m 7 (by decide)).2;have e8:=(m 8 (by decide)).2;have e9:=(m 9 (by decide)).2;have Z:=(m 10 (by decide)).2;have Y:=(m 11 (by decide)).2;have X:=(m 12 (by decide)).2;have V:=(m 13 (by decide)).2;have U:=(m 14 (by decide)).2;simp only[vh]at e0 e1 e2 e3 e4 e5 e6 e7 e8 e9 Z Y X V U;rw[e0,e1,e2,e3,e4,e5,e6,e7,e8,e9,Z,Y,X,V,U];clear m hR e0 e1 e2 e3 e4 e5 e6 e7 e8 e9 Z Y X V U;have bl:=Lib.hid h9.1;have bq:=Lib.hid h9.2.1;have bc:=Lib.hid h9.2.2;clear h9;go_wp2_with fail
    go_roundw
    case rel=>exact⟨K+1,by omega,by go_num,ba.out,bl.out,bq.out,bc.out⟩
    case measure=>simp[intOf];omega
  ·obtain rfl:K=2:=by omega
   have l:¬((2:Nat):Int)<2:=by decide
   have c4:=ag.out.cell 4 (v:=.pointer (some ⟨B,0,none⟩)) rfl;have P:=iR ad.out;rw[Dk.qM an.out.off an.out.bL]at P;have aU:=Lib.hid P;have bg:=Lib.hid (J.out.row bj.out (by
    rintro(h|h)
    ·have I:=ak.out _ h;have h2:=HQ.out;omega
    ·have I:=af.out;have h2:=HQ.out;omega))
   clear P p F;go_wp2_with fail
   refine aU.out.mono ?_;rintro e w2⟨rfl,aP,E⟩;have bn:=Lib.hid aP;have br:=Lib.hid (ag.out.al E t.out);have bf:=Lib.hid (J.out.trans (E.mono fun i _ l=>Or.inl l));have aV:=Lib.hid (E.row bg.out (fun h=>by have I:=ak.out _ h;have h2:=HQ.out;omega));clear aP E aU c4;go_wp2_with fail
   refine(ko br.out).mono ?_;rintro e w3⟨rfl,H,C⟩;have bm:=Lib.hid (bn.out.bQ C (fun i l e=>t.out (e▸l)));have bd:=Lib.hid (bf.out.trans (C.mono fun i _ l=>Or.inr l));have j:=C.row aV.out (fun h=>by have I:=af.out;have h2:=HQ.out;omega);have q0:=ah j 0 (v:=.int .u64 (k.start:Int)) rfl;have q1:=ah j 1 (v:=.int .u64 (k.ae:Int)) rfl;have q2:=ah j 2 (v:=.int .u64 (k.bp:Int)) rfl;have q3:=ah j 3 (v:=.int .u32 (k.ai:Int)) rfl;have f0:=aI H 0;have s0:aH (w3.setCell ⟨L,0,none⟩ (.int .u64 (k.start:Int))) L {k0 with start:=k.start} B a c pl y false:=aT (i:=0) H _;have f1:=aI s0 1;have s1:aH ((w3.setCell ⟨L,0,none⟩ (.int .u64 (k.start:Int))).setCell ⟨L,1,none⟩ (.int .u64 (k.ae:Int))) L {k0 with start:=k.start,ae:=k.ae} B a c pl y false:=aT (i:=1) s0 _;have f2:=aI s1 2;have s2:aH (((w3.setCell ⟨L,0,none⟩ (.int .u64 (k.start:Int))).setCell ⟨L,1,none⟩ (.int .u64 (k.ae:Int))).setCell ⟨L,2,none⟩ (.int .u64 (k.bp:Int))) L {k0 with start:=k.start,ae:=k.ae,bp:=k.bp} B a c pl y false:=aT (i:=2) s1 _;have f3:=aI s2 3;have s3:aH ((((w3.setCell ⟨L,0,none⟩ (.int .u64 (k.start:Int))).setCell ⟨L,1,none⟩ (.int .u64 (k.ae:Int))).setCell ⟨L,2,none⟩ (.int .u64 (k.bp:Int))).setCell ⟨L,3,none⟩ (.int .u32 (k.ai:Int))) L k B a c pl y false:=aT (i:=3) s2 _;have g0:=aH.cell H 0 (v:=.int .u64 (k0.start:Int)) rfl;have g1:=aH.cell s0 1 (v:=.int .u64 (k0.ae:Int)) rfl;have g2:=aH.cell s1 2 (v:=.int .u64 (k0.bp:Int)) rfl;have g3:=aH.cell s2 3 (v:=.int .u32 (k0.ai:Int)) rfl;have S3:=Lib.hid s3;have aA:Touch (·=L) w3 ((((w3.setCell ⟨L,0,none⟩ (.int .u64 (k.start:Int))).setCell ⟨L,1,none⟩ (.int .u64 (k.ae:Int))).setCell ⟨L,2,none⟩ (.int .u64 (k.bp:Int))).setCell ⟨L,3,none⟩ (.int .u32 (k.ai:Int))):=(((Touch.set (S:=(·=L)) L 0 _ rfl).trans (.set L 1 _ rfl)).trans (.set L 2 _ rfl)).trans (.set L 3 _ rfl);have aS:=Lib.hid aA;clear j s0 s1 s2 s3 H C aA;go_wp2_with fail
   go_ret;refine⟨rfl,S3.out,?_,((Touch.aE bt.out).trans bd.out).trans (aS.out.mono fun i _ l=>Or.inr l)⟩;rw[bs.out];exact bm.out.bQ aS.out (fun i l e=>t.out (e▸l))
def uS(B L g a W:Nat)(b:List Nat)(i:Nat)(v:Value)(w:World):Prop:=
 match i with
 |0=>v=.pointer (some ⟨L,0,none⟩)
 |1=>v=.pointer (some ⟨L,0,none⟩)
 |2=>v=.pointer (some ⟨L,4,none⟩)
 |3=>v=.pointer (some ⟨B,0,none⟩)
 |4=>v=.pointer (some ⟨L,0,none⟩)
 |5=>v=.int .u64 (g:Int)
 |6=>v=.int .i64 (a:Int)
 |7=>DV W w v b
 |8=>DV W w v b
 |9=>iJ W w v b
 |10=>v=.int .i64 0
 |11=>iJ W w v b
 |12=>v=.int .i64 0
 |_=>True
theorem zU(B L g a W:Nat)(b:List Nat)(i:Nat)(v:Value)(w w':World)(c:Below w.heap.size w w')(h:uS B L g a W b i v w):uS B L g a W b i v w':=by
 unfold uS at*
 split at h<;>first|exact h|exact h.below c|trivial
set_option maxHeartbeats 3200000 in
set_option maxRecDepth 20000 in
theorem vp{w:World}{L B a c m1 m2:Nat}{k0:Wl.Kn}{pl wa:Value}{dn:Bool}{d:Dk.aq}(h:aH w L k0 B a c pl wa dn)(hP:bh w B m1 m2 d)(ho:d.off=false)(o:1<=c)(m:c<=8192)(y:a+c+2<=Dk.size d)(hz:∀i,i<Dk.size d->Wl.iM d i=Dk.blank):
 Calls Tryz.prog 67 #[.pointer (some ⟨L,0,none⟩)] w fun e w'=>e=.returned (.int .i64 0)/\Below w.heap.size w w':=by
 have ar:=Lib.hid h;have ak:=Lib.hid hP;have al:=Lib.hid ho;have HC:Hid (1<=c/\c<=8192):=⟨o,m⟩
 have ae:=hP.own.size;have au:=Lib.hid y;have HA:Hid (a<=65536):=by show _<=_;omega
 have HZ:=Lib.hid hz;have S:=Et 128 (by decide) w;have C:=Eu 128 (by decide) w;have H:=aj w (.cells (af (Wl.bm 128)).toArray 5);obtain⟨z1,A⟩:∃z,z=w.alloc (.cells (af (Wl.bm 128)).toArray 5):=⟨_,rfl⟩
 obtain⟨G,hG⟩:∃g,g=w.heap.size:=⟨_,rfl⟩
 rw[<-A,<-hG,show((128:Nat):Int)=128 from rfl]at S;rw[<-A]at C H;have ad:=Lib.hid H;have V:=Lib.hid C;obtain⟨n2,E⟩:∃n,n=2*c:=⟨_,rfl⟩
 have l:=fun wr(hl:aH wr L k0 B a c pl wa dn)=>eR hl m;rw[<-E]at l;rw[<-hG]at V;have W:=Lib.hid l;have M:=Lib.hid E;have ay:=Lib.hid hG;clear h hP ho o m y hz ae C H A E l hG;go_enter Tryz.func67,Tryz.ntmps67;go_upto_region 2 with(fail)
 clear S;go_wp2_with fail
 go_loopw [4] (fun i wr=>∃j:Nat,j<=c/\i=.int .u64 ((2*j:Nat):Int)/\Below z1.heap.size z1 wr) (fun i _=>2*c+2-(intOf i).toNat)
 case atStart=>exact⟨0,Nat.zero_le _,rfl,Below.refl _ _⟩
 case round=>
  obtain⟨j,hj,rfl,t⟩:=hrel;have O:=Lib.hid (ad.out.trans (t.mono ad.out.size));have an:=Lib.hid (V.out.below t);have Z:=Lib.hid t;have x:=Lib.hid (ar.out.below O.out);have ai:=Lib.hid (ak.out.below O.out);have N:=Lib.hid (W.out wr x.out);have ao:Hid (L<wr.heap.size):=x.out.lt;have C4:=Lib.hid (x.out.cell 4 (v:=.pointer (some ⟨B,0,none⟩)) rfl);obtain⟨g,hg⟩:∃g,g=2*j:=⟨_,rfl⟩
  rw[<-hg];have Y:=Lib.hid hg;have HJ:=Lib.hid hj;clear t hj hg;by_cases F:g<n2
  ·have hi:(g:Int)<(n2:Int):=by omega
   have T:Hid (a+2+g%(2*c)/2<Dk.size d):=by
    have h1:=Wl.jo (n:=c) (h:=g) HC.out.1;have h2:=au.out;show _<_;omega
   have aw:Hid (Wl.iM d (a+2+g%(2*c)/2)=Dk.blank):=HZ.out _ T.out;have X:Hid (g<n2):=F;have h6:=IntWalk.u64_in ((g:Int)+2) (by have h1:=M.out;have h2:=HC.out;omega);clear F;go_upto_region 5 with(go_at_call 87;refine N.out.mono ?_;rintro e w'⟨rfl,rfl⟩)
   clear N;refine Ord.walk (uS B L g (a+2+g%(2*c)/2) wr.heap.size Dk.blank) (fun _ _ w'=>Below wr.heap.size wr w') (fun a b=>Below a.heap.size a b)
    (by kernel_rfl) (by kernel_rfl) ?fra ?hfra (fun i v w w' t h=>zU _ _ _ _ _ _ i v w w' t h) (fun xs=>(Below.refl _ _).kH) ?hea ?henda
   case hfra=>
    intro xs;simp only[Ord.fill,Act.put,List.setIfInBounds_toArray,List.set_cons_zero,List.set_cons_succ];rfl
   case hea=>
    iterate 13 (refine Ord.aa (fun D xs w2 hD hC hP hR f K k=>?_) ?_;rotate_left)
    rotate_left
    ·clear f;go_simp;exact k _ _ ⟨_,rfl,Below.refl _ _,hR,rfl⟩
    ·have q0:=Ord.ab _ f 0 (by decide);simp only[uS]at q0;simp only[q0]at k;clear f;go_simp;exact k _ _ ⟨_,rfl,Below.refl _ _,hR,rfl⟩
    ·have q1:=Ord.ab _ f 1 (by decide);simp only[uS]at q1;simp only[q1]at k;clear f;go_simp;exact k _ _ ⟨_,rfl,Below.refl _ _,hR,rfl⟩
    ·have q2:=Ord.ab _ f 2 (by decide);simp only[uS]at q2;simp only[q2]at k;clear f;have cc:=hR.cell (p:=⟨L,4,none⟩) ao.out;rw[C4.out]at cc;go_simp;exact k _ _ ⟨_,rfl,Below.refl _ _,hR,rfl⟩
    ·clear f;go_simp;exact k _ _ ⟨_,rfl,Below.refl _ _,hR,rfl⟩
    ·clear f;go_simp;exact k _ _ ⟨_,rfl,Below.refl _ _,hR,rfl⟩
    ·have q4:=Ord.ab _ f 4 (by decide);simp only[uS]at q4;have q5:=Ord.ab _ f 5 (by decide);simp only[uS]at q5;simp only[q4,q5]at k;clear f;go_simp;refine(gn (x.out.below hR) g HC.out.1 HC.out.2 HA.out).mono ?_;rintro e w'⟨rfl,q,rfl⟩;exact k _ _ ⟨_,rfl,below_drewN _ _ _,hR.trans (below_drewN _ _ _),rfl⟩
    ·have q3:=Ord.ab _ f 3 (by decide);simp only[uS]at q3;have q6:=Ord.ab _ f 6 (by decide);simp only[uS]at q6;simp only[q3,q6]at k;clear f;have R:=jl (ai.out.below hR) al.out T.out;rw[aw.out]at R;go_simp;refine R.mono ?_;rintro e w'⟨u,rfl,hM,t⟩;exact k _ _ ⟨_,rfl,t,hR.trans (t.mono hR.size),u,rfl,hM.from hR.size⟩
    ·have q7:=Ord.ab _ f 7 (by decide);simp only[uS]at q7;clear f;go_simp;exact k _ _ ⟨_,rfl,Below.refl _ _,hR,q7⟩
    ·have P:=Ord.ab _ f 8 (by decide);simp only[uS]at P;obtain⟨u8,e8,m8⟩:=P;clear f;rw[e8]at k⊢;go_simp;exact k _ _ ⟨_,rfl,Below.refl _ _,hR,m8⟩
    ·have P:=Ord.ab _ f 8 (by decide);simp only[uS]at P;obtain⟨u8,e8,m8⟩:=P;clear f;rw[e8]at k⊢;go_simp;exact k _ _ ⟨_,rfl,Below.refl _ _,hR,rfl⟩
    ·have q9:=Ord.ab _ f 9 (by decide);simp only[uS]at q9;clear f;go_simp;exact k _ _ ⟨_,rfl,Below.refl _ _,hR,q9⟩
    ·have Q:=Ord.ab _ f 10 (by decide);simp only[uS]at Q;simp only[Q]at k;clear f;go_simp;exact k _ _ ⟨_,rfl,Below.refl _ _,hR,rfl⟩
    exact Ord.az
   case henda=>
    intro D xs w9 hR s;have e0:=(s 0 (by decide)).2;have e1:=(s 1 (by decide)).2;have e2:=(s 2 (by decide)).2;have e3:=(s 3 (by decide)).2;have e4:=(s 4 (by decide)).2;have e5:=(s 5 (by decide)).2;have e6:=(s 6 (by decide)).2;have J:=(s 10 (by decide)).2;have I:=(s 12 (by decide)).2;have r:=(s 11 (by decide)).2;simp only[uS]at e0 e1 e2 e3 e4 e5 e6 J I r;rw[e0];rw[e1];rw[e2];rw[e3];rw[e4];rw[e5];rw[e6];rw[J];rw[I];clear e0 e1 e2 e3 e4 e5 e6 J I;clear s;generalize xs 7=x7 at*
    generalize xs 8=x8 at*
    generalize xs 9=x9 at*
    generalize xs 11=x11 at*
    have HM:=Lib.hid r;have U:=Lib.hid hR;clear hR r;obtain⟨gb,cap,hu,ah,ag,o,m⟩:=HM.out.some (by decide);rw[show Dk.blank.length=128 from by decide]at hu o;subst hu;have heq:=aG (.slice (some ⟨gb,0,none⟩) 128 cap) (.slice (some ⟨G,0,none⟩) 128 128) Dk.blank (Wl.bm 128) w9 HM.out.bz (an.out.below U.out).bz;rw[show decide (Dk.blank=Wl.bm 128)=true from decide_eq_true rfl]at heq;have av:=Lib.hid heq;have ax:=Lib.hid (Z.out.trans (U.out.mono Z.out.size));clear heq ah ag o m;go_wp2_with (go_at_call 99;refine av.out.mono ?_;rintro e w'⟨rfl,rfl⟩)
    go_roundw
    case rel=>exact⟨j+1,by have h1:=X.out;have h2:=Y.out;have h3:=M.out;omega,congrArg (Value.int .u64) (by have:=Y.out;omega),ax.out⟩
    case measure=>have h1:=X.out;have h2:=M.out;simp only[intOf];omega
  ·have hi:¬(g:Int)<(n2:Int):=by omega
   clear F;go_wp2_with (go_at_call 87;refine N.out.mono ?_;rintro e w'⟨rfl,rfl⟩)
   go_ret;exact⟨rfl,O.out⟩
set_option maxHeartbeats 3200000 in
set_option maxRecDepth 20000 in
theorem tm{w:World}{L B a c j g n:Nat}{k0:Wl.Kn}{pl q:Value}{d:Dk.aq}(h:aH w L k0 B a c pl q false)(r:bh w B j g d)(hC:Wl.Calm n d)(l:1<=c)(f:c<=8192)(b:a+c+2<=n)(hz:∀i,i<Dk.size d->Wl.iM d i=Dk.blank)(m:¬DS B j g L):
 Calls Tryz.prog 43 #[.pointer (some ⟨L,0,none⟩)] w fun e w'=>e=.returned (.int .i64 0)/\aH w' L ⟨52,52,0,1⟩ B a c pl q false/\bh w' B j g (Wl.told d a (Wl.head a c ⟨52,52,0,1⟩))/\Touch (ik B j g L) w w':=by
 have o:=Lib.hid (vp h r hC.off l f (by rw[hC.sz];exact b) hz);have t:=Lib.hid h;have s:=Lib.hid r;have A:=Lib.hid hC;have v:=Lib.hid b;have x:=Lib.hid f;have u:=Lib.hid m;clear h r hC l f b hz m;go_enter Tryz.func43,Tryz.ntmps43;go_wp2_with fail
 refine o.out.mono ?_;rintro e w1⟨rfl,p⟩;have k:Calls Tryz.prog 68 #[.pointer (some ⟨L,0,none⟩),.agg #[.int .u64 52,.int .u64 52,.int .u64 0,.int .u32 1]] w1 fun e w'=>e=.returned (.int .i64 0)/\aH w' L ⟨52,52,0,1⟩ B a c pl q false/\bh w' B j g (Wl.told d a (Wl.head a c ⟨52,52,0,1⟩))/\Touch (ik B j g L) w1 w':=
  oi (t.out.below p) (s.out.below p) A.out ⟨52,52,0,1⟩ v.out x.out u.out
 have y:=Lib.hid k;have C:=Lib.hid p;clear k p o;go_wp2_with fail
 refine y.out.mono ?_;rintro e w2⟨rfl,hl,hp,k⟩;have z:Hid (_/\_/\_):=⟨hl,hp,(Touch.aE C.out).trans k⟩
 clear hl hp k y;go_wp2_with fail
 go_ret;exact⟨rfl,z.out⟩
set_option maxHeartbeats 3200000 in
set_option maxRecDepth 20000 in
theorem vu{w:World}{B q p:Nat}{d:Dk.aq}(m:bh w B q p d){a c:Int}(l:qF a)(k:qF c)(n:¬Wl.Fits (Dk.size d) a c)(f:Value):
 Calls Tryz.prog 42 #[.pointer (some ⟨B,0,none⟩),.int .i64 a,.int .i64 c,f] w fun e w'=>e=.returned (.tuple #[.pointer none,.int .i64 2])/\w=w':=by
 have h:=(fJ m).mono (R':=fun e w'=>e=.returned (.int .i64 (Dk.size d:Nat))/\w=w') fun _ _⟨j,i⟩=>⟨j,i.symm⟩
 have j:=m.own.one;have i:=m.own.size;obtain⟨N,o⟩:∃N,N=Dk.size d:=⟨_,rfl⟩
 rw[<-o]at h j i n;have r:¬(N:Int)=0:=by omega
 have g:=Lib.hid h;unfold qF at l k;have b:c<16\/8192<c\/a<0\/(N:Int)-2-c<a:=by
  unfold Wl.Fits at n;omega
 clear m o h n;by_cases v:c<16
 ·clear l k b j i;go_enter Tryz.func42,Tryz.ntmps42;go_wp2_with (go_at_call 66;refine g.out.mono ?_;rintro e w'⟨rfl,rfl⟩)
  go_ret2
  exact⟨rfl,rfl⟩
 by_cases u:8192<c
 ·clear l k b j i;go_enter Tryz.func42,Tryz.ntmps42;go_wp2_with (go_at_call 66;refine g.out.mono ?_;rintro e w'⟨rfl,rfl⟩)
  go_ret2
  exact⟨rfl,rfl⟩
 by_cases t:a<0
 ·clear l k b j i;go_enter Tryz.func42,Tryz.ntmps42;go_wp2_with (go_at_call 66;refine g.out.mono ?_;rintro e w'⟨rfl,rfl⟩)
  go_ret2
  exact⟨rfl,rfl⟩
 ·have s:(N:Int)-2-c<a:=by omega
  have w1:=IntWalk.wrap64_in ((N:Int)-2) (by omega);have w2:=IntWalk.wrap64_in ((N:Int)-2-c) (by omega);clear l k b j i;go_enter Tryz.func42,Tryz.ntmps42;go_wp2_with (go_at_call 66;refine g.out.mono ?_;rintro e w'⟨rfl,rfl⟩)
  go_ret2
  exact⟨rfl,rfl⟩
set_option maxHeartbeats 3200000 in
set_option maxRecDepth 20000 in
theorem tk{w:World}{B t s a c:Nat}{d:Dk.aq}(g:bh w B t s d)(j:16<=c)(i:c<=8192)(r:a+c+2<=Dk.size d)(R:Nat->World->Prop)
 (hf:∀w1 L,Below w.heap.size w w1->w.heap.size<=L->aH w1 L ⟨0,0,0,0⟩ B a c (.slice none 0 0) (.slice none 0 0) false->Calls Tryz.prog 43 #[.pointer (some ⟨L,0,none⟩)] w1 fun e w'=>e=.returned (.int .i64 0)/\R L w'):
 Calls Tryz.prog 42 #[.pointer (some ⟨B,0,none⟩),.int .i64 (a:Int),.int .i64 (c:Int),.func (.func 43) #[] #[]] w fun e w'=>∃L,e=.returned (.tuple #[.pointer (some ⟨L,0,none⟩),.int .i64 0])/\R L w':=by
 have b:=(fJ g).mono (R':=fun e w'=>e=.returned (.int .i64 (Dk.size d:Nat))/\w=w') fun _ _⟨j,i⟩=>⟨j,i.symm⟩
 have q:=g.own.one;have p:=g.own.size;obtain⟨N,o⟩:∃N,N=Dk.size d:=⟨_,rfl⟩
 rw[<-o]at b r q p;have h:¬(N:Int)=0:=by omega
 have k:=Lib.hid b;have y:¬(c:Int)<16:=by omega
 have x:¬(8192:Int)<(c:Int):=by omega
 have v:¬(a:Int)<0:=by omega
 have u:¬(N:Int)-2-(c:Int)<(a:Int):=by omega
 have w1:=IntWalk.wrap64_in ((N:Int)-2) (by omega);have w2:=IntWalk.wrap64_in ((N:Int)-2-(c:Int)) (by omega);have A:=Lib.hid hf;clear g o b j i r q p hf;go_enter Tryz.func42,Tryz.ntmps42;go_upto_region 7 with(go_at_call 66;refine k.out.mono ?_;rintro e w'⟨rfl,rfl⟩)
 have n:=aj w (.cells (Ab ⟨0,0,0,0⟩ B a c (.slice none 0 0) (.slice none 0 0) false) 122);have hl:aH (w.alloc (.cells (Ab ⟨0,0,0,0⟩ B a c (.slice none 0 0) (.slice none 0 0) false) 122)) w.heap.size ⟨0,0,0,0⟩ B a c (.slice none 0 0) (.slice none 0 0) false:=heap_alloc_last _ _;have m:=A.out _ _ n (Nat.le_refl _) hl;have f:Hid (Calls Tryz.prog 43 #[.pointer (some ⟨w.heap.size,0,none⟩)] (w.alloc (.cells #[.int .u64 0,.int .u64 0,.int .u64 0,.int .u32 0,.pointer (some ⟨B,0,none⟩),.int .i64 (a:Int),.int .i64 (c:Int),.slice none 0 0,.slice none 0 0,.bool false] 122)) fun e w'=>e=.returned (.int .i64 0)/\R w.heap.size w'):=m;clear n hl m y x v u w1 w2 h;generalize(w.alloc (.cells #[.int .u64 0,.int .u64 0,.int .u64 0,.int .u32 0,.pointer (some ⟨B,0,none⟩),.int .i64 (a:Int),.int .i64 (c:Int),.slice none 0 0,.slice none 0 0,.bool false] 122))=W at*
 generalize w.heap.size=L at*
 go_wp2_with fail
 refine f.out.mono ?_;rintro e w3⟨rfl,l⟩;have z:=Lib.hid l;clear l f;go_wp2_with fail
 go_ret2
 exact⟨_,rfl,z.out⟩
theorem Wl.zF(n i:Nat)(a:i<n):Wl.iM (Dk.fresh n n) i=Dk.blank:=by
 unfold Wl.iM Dk.fresh;show((List.replicate n (none:Option (List Nat))).getD i none).getD ((List.replicate n Dk.blank).getD i [])=_;rw[Wl.gp];show(List.replicate n Dk.blank).getD i []=_;rw[List.getD_eq_getElem?_getD,List.getElem?_replicate,if_pos a];rfl
def Iq(U:Nat->Prop)(n B:Nat)(a c:Int)(w:World)(e:Ending)(w':World):Prop:=
 (Wl.Fits n a c->∃L d f b,e=.returned (.tuple #[.pointer (some ⟨L,0,none⟩),.int .i64 0])/\ij d f w' B L b (Wl.fresh a.toNat c.toNat)/\Wl.il a.toNat c.toNat (Dk.fresh n n) b/\Wl.Calm n b/\Touch U w w'/\br U d w/\(∀i,f i->w.heap.size<=i))/\
 (¬Wl.Fits n a c->e=.returned (.tuple #[.pointer none,.int .i64 2])/\∃d b,gB d w' B b/\Wl.Calm n b/\Touch U w w'/\br U d w)
set_option maxHeartbeats 3200000 in
set_option maxRecDepth 20000 in
theorem tg{U:Nat->Prop}{w:World}{B n:Nat}(a c:Int)(h:gB U w B (Dk.fresh n n))(hC:Wl.Calm n (Dk.fresh n n))(v:qF a)(u:qF c):
 Calls Tryz.prog 16 #[.pointer (some ⟨B,0,none⟩),.int .i64 a,.int .i64 c] w fun e w'=>Iq U n B a c w e w':=by
 have l:=Lib.hid h;obtain⟨o,m,j,rfl⟩:=h;have f:Dk.size (Dk.fresh n n)=n:=hC.sz;by_cases hf:Wl.Fits n a c
 case neg=>
  have hl:=vu j v u (by rw[f];exact hf) (.func (.func 43) #[] #[]);have t:=Lib.hid hl;have K:=Lib.hid hf;have D:=Lib.hid hC;clear j f hl hf v u hC;go_enter Tryz.func16,Tryz.ntmps16;go_wp2_with fail
  refine t.out.mono ?_;rintro e w1⟨rfl,rfl⟩;go_wp2_with fail
  go_ret2
  exact⟨fun h=>absurd h K.out,fun _=>⟨rfl,_,_,l.out,D.out,.refl _ _,fun i g=>Or.inl g⟩⟩
 case pos=>
  obtain⟨f1,f2,f3,f4⟩:=hf;obtain⟨A,rfl⟩:∃A:Nat,a=(A:Int):=⟨a.toNat,by omega⟩
  obtain⟨C,rfl⟩:∃C:Nat,c=(C:Int):=⟨c.toNat,by omega⟩
  have x:16<=C:=by omega
  have r:C<=8192:=by omega
  have q:A+C+2<=n:=by omega
  have hz:∀i,i<Dk.size (Dk.fresh n n)->Wl.iM (Dk.fresh n n) i=Dk.blank:=fun i g=>Wl.zF n i (by rw[<-f];exact g);have hl:=tk j (a:=A) (c:=C) x r (by rw[f];exact q)
   (fun L w'=>w.heap.size<=L/\aH w' L ⟨52,52,0,1⟩ B A C (.slice none 0 0) (.slice none 0 0) false/\bh w' B o m (Wl.told (Dk.fresh n n) A (Wl.head A C ⟨52,52,0,1⟩))/\Touch (ik B o m L) w w')
   (fun w1 L E k b=>(tm b (j.below E) hC (by omega) r q hz (fun hd=>by have:=j.lt L hd;omega)).mono fun e w'⟨I,H,G,F⟩=>⟨I,k,H,G,(Touch.aE E).trans F⟩)
  have t:=Lib.hid hl;have z:Hid (Wl.Fits n (A:Int) (C:Int)):=⟨f1,f2,f3,f4⟩
  have D:=Lib.hid hC;have s:=Lib.hid j;have y:Hid (16<=C/\C<=8192/\A+C+2<=Dk.size (Dk.fresh n n)):=⟨x,r,by rw[f];exact q⟩
  have J:=Lib.hid hz;clear j f hl v u hC f1 f2 f3 f4 x r q hz;go_enter Tryz.func16,Tryz.ntmps16;go_wp2_with fail
  refine t.out.mono ?_;rintro e w1⟨L,rfl,k,b,hp,p⟩;have M:Hid (_/\_/\_/\_):=⟨k,b,hp,p⟩
  clear k b hp p t;go_wp2_with fail
  go_ret2
  obtain⟨k,b,hp,p⟩:=M.out;refine⟨fun _=>⟨L,DS B o m,my L (.slice none 0 0) (.slice none 0 0),_,rfl,⟨o,m,.slice none 0 0,.slice none 0 0,⟨Wl.B8 y.out.1 y.out.2.1,b,A3 _ _,aM _ _,(fun h=>by cases h),(fun h=>by cases h),(fun i h=>by cases h)⟩,rfl,hp,rfl,fun i g d=>?_,52,Nat.le_refl _,Wl.Cb s.out.own.ok y.out.2.2 J.out⟩,Wl.il.told s.out.own.ok (Wl.gY _ _ _),Wl.rE D.out s.out.own.ok (Wl.gY _ _ _),p.mono fun i g hs=>?_,fun i g=>Or.inl g,fun i d=>?_⟩,fun h=>absurd z.out h⟩
  ·have N:=s.out.lt i g;rcases d with d|d|d
   ·omega
   ·cases d
   ·cases d
  ·rcases hs with hs|hs
   ·exact hs
   ·omega
  ·rcases d with d|d|d
   ·omega
   ·cases d
   ·cases d
theorem Wl.vU{s:Wl.S}(h:Wl.Good s){i:Nat}(a:i<s.cd.length):(Wl.places s).getD i 0=Wl.placeOf s i:=by
 rw[<-(Wl.lY h a).2];unfold Wl.places;rw[List.getD_eq_getElem?_getD,List.getElem?_map,List.getElem?_eq_getElem a];rfl
def xd(L a st ep:Nat)(i:Nat)(v:Value)(_:World):Prop:=
 match i with
 |0=>v=.pointer (some ⟨L,0,none⟩)
 |1=>v=.pointer (some ⟨L,0,none⟩)
 |2=>v=.pointer (some ⟨L,0,none⟩)
 |3=>v=.pointer (some ⟨L,0,none⟩)
 |4=>v=.int .u64 (st:Int)
 |5=>v=.pointer (some ⟨L,0,none⟩)
 |6=>v=.pointer (some ⟨L,0,none⟩)
 |7=>v=.pointer (some ⟨L,0,none⟩)
 |8=>v=.pointer (some ⟨L,3,none⟩)
 |9=>v=.int .u32 (ep:Int)
 |10=>v=.int .u32 ((ep:Int)+1)
 |11=>v=.pointer (some ⟨a,1,none⟩)
 |13=>v=.pointer (some ⟨a,3,none⟩)
 |_=>True
theorem Wl.Gf{s:Wl.S}{said:Nat}(a:Wl.Ex s)(h:said<=s.stop)(hs:s.stop<=1000000000000):Wl.FE ⟨s.start,said,s.bp,s.ai⟩:=by
 have c:=a.aQ.low;have b:=a.aQ.high;exact⟨by show s.start<_;omega,by show said<_;omega,a.pt,a.ep⟩
def Cv(v:Value):Nat:=match v with
 | .slice _ n _=>n+1
 |_=>0
def Ih(n B L c b:Nat)(d:Dk.aq)(s:Wl.S)(w:World)(e:Ending)(w':World):Prop:=∃k pl a,k<=s.cd.length/\s.ae<=Wl.placeOf s k/\e=.returned (.int .i64 0)/\aH w' L (Wl.kn (Wl.cut s k)) B s.at_ s.count pl (.slice none 0 0) false/\QO 0 w' pl (Wl.places (Wl.cut s k))/\(∀i,pl.ownBlock=some i->w.heap.size<=i)/\bh w' B c b a/\Wl.Dv (Wl.cut s k) (Wl.placeOf s k) a/\Wl.il s.at_ s.count d a/\Wl.Calm n a/\Touch (ik B c b L) w w'
set_option maxHeartbeats 6400000 in
set_option maxRecDepth 20000 in
theorem vy{w:World}{L B m1 m2 n said:Nat}{s:Wl.S}{k0:Wl.Kn}{d:Dk.aq}(h:aH w L k0 B s.at_ s.count (.slice none 0 0) (.slice none 0 0) false)(hP:bh w B m1 m2 d)(hC:Wl.Calm n d)(C:s.at_+s.count+2<=n)(hx:Wl.Ex s)(hD:Wl.Dv s said d)(bV:said<=s.stop)(cF:s.ai<=1000000)(hs:s.stop<=1000000000000)(cJ:¬DS B m1 m2 L):
 Calls Tryz.prog 61 #[.pointer (some ⟨L,0,none⟩)] w fun e w'=>Ih n B L m1 m2 d s w e w':=by
 have ao:=hC.sz;have cZ:=Lib.hid (tj h hP hC.off ⟨s.start,said,s.bp,s.ai⟩ (Wl.Gf hx bV hs) (by rw[ao];exact C) hx.high (hD.Gk (i:=0) (by decide)));have cG:Wl.Calm n (Dk.last d):=⟨hC.off,hC.bL,by rw[Dk.cf hP.own.ok];exact hC.sz,hC.aW⟩
 have HP:=Lib.hid hP;have dr:Hid (Wl.il s.at_ s.count d (Dk.last d)):=(Wl.il.refl _ _ _).last hP.own.ok;have HC:=Lib.hid hC;have HX:=Lib.hid hx;have HD:=Lib.hid hD.last;have dn:=Lib.hid bV;have dJ:=Lib.hid cF;have HS:=Lib.hid hs;have aX:=Lib.hid cJ;have dt:=Lib.hid C;have ch:=Lib.hid cG;have b8:Hid (L<w.heap.size):=h.lt;have dv:Hid (IntKind.u32.wrap ((s.ai:Int)+1)=(s.ai:Int)+1):=IntWalk.u32_in _ (by omega);clear h hP hC C hx hD bV cF hs cJ ao cG;go_enter Tryz.func61,Tryz.ntmps61;go_wp2_with fail
 refine cZ.out.mono ?_;rintro e w1⟨rfl,b1,bS⟩;have cA:=HP.out.bQ bS (fun i m e=>aX.out (e▸m));have bT:=iR cA;rw[Dk.qM HC.out.off HC.out.bL,show((0:Nat):Int)=0 from rfl]at bT;have cO:=Lib.hid bT;have ds:=Lib.hid b1;have dk:=Lib.hid bS;have c4:=b1.cell 4 (v:=.pointer (some ⟨B,0,none⟩)) rfl;clear b1 bS cA bT cZ;go_wp2_with fail
 refine cO.out.mono ?_;rintro e w2⟨rfl,cz,bP⟩;have cD:=ds.out.al bP aX.out;have cM:=Lib.hid (ko cD);have bu:=Lib.hid cz;have dj:=Lib.hid ((dk.out.mono (T:=ik B m1 m2 L) fun i _ m=>Or.inr m).trans (bP.mono fun i _ m=>Or.inl m));clear cz bP cD cO c4;go_wp2_with fail
 refine cM.out.mono ?_;rintro e w3⟨rfl,ar,an⟩;have bY:=bu.out.bQ an (fun i m e=>aX.out (e▸m));have cX:=Lib.hid (qn ar bY ch.out.off HX.out HD.out dn.out HS.out);have aY:=Lib.hid ar;have bt:=Lib.hid bY;have aO:=Lib.hid (dj.out.trans (an.mono (T:=ik B m1 m2 L) fun i _ m=>Or.inr m));clear ar an bY cM;go_wp2_with fail
 refine cX.out.mono ?_;rintro e w4⟨E,acc,bv,hend,rfl,M,cH,b5⟩;obtain⟨pb,cb,rfl⟩:=M.slice;have ag:=Lib.hid hend;have ak:=Lib.hid M;have a2:=Lib.hid cH;have ae:=Lib.hid (aY.out.below b5);have a8:=Lib.hid b5;have c0:=ae.out.cell 0 (v:=.int .u64 (s.start:Int)) rfl;have c1:=ae.out.cell 1 (v:=.int .u64 (said:Int)) rfl;have c2:=ae.out.cell 2 (v:=.int .u64 (s.bp:Int)) rfl;have c3:=ae.out.cell 3 (v:=.int .u32 (s.ai:Int)) rfl;clear hend M cH b5 cX;generalize aG:(Wl.bytes s).take (E-s.start)=b0 at*
 have dy:=Lib.hid aG;obtain⟨bn,b4⟩:∃n,n=b0.length:=⟨_,rfl⟩
 rw[<-b4]at ak a2⊢;have dx:=Lib.hid b4;clear aG b4;go_upto_region 11 with(fail)
 have F:=aj w4 (.cells (qE ⟨s.start,said,s.bp,s.ai⟩) 120);have bZ:(w4.alloc (.cells (qE ⟨s.start,said,s.bp,s.ai⟩) 120)).heap[w4.heap.size]?=some (.cells (qE ⟨s.start,said,s.bp,s.ai⟩) 120 (0,0)):=heap_alloc_last _ _;have aK:0<b0.length->∀g,(Value.slice pb bn cb).ownBlock=some g->w3.heap.size<=g/\g<w4.heap.size:=fun h0 g R=>⟨a2.out g R,ak.out.fS h0 g R⟩
 obtain⟨W,hW⟩:∃W,W=w4.alloc (.cells (qE ⟨s.start,said,s.bp,s.ai⟩) 120):=⟨_,rfl⟩
 obtain⟨u,O⟩:∃N,N=w4.heap.size:=⟨_,rfl⟩
 rw[<-hW,<-O]at bZ;rw[<-hW]at F;rw[<-O]at aK;have bx:=Lib.hid (ae.out.below F);have a1:=Lib.hid (ak.out.below F);have cj:=Lib.hid aK;have cW:=Lib.hid bZ;have aR:=Lib.hid O;have aU:Hid (L≠u):=fun e=>by have J:=ae.out.lt;omega
 have cK:=Lib.hid hW;show Code.wp _ _ _ _ (w4.alloc (.cells (qE ⟨s.start,said,s.bp,s.ai⟩) 120));rw[<-hW,<-O];clear F bZ aK c0 c1 c2 c3 hW O;refine Ord.walk (xd L u s.start s.ai) (fun D _ w'=>dR W u #[.int .u64 (s.start:Int),.int .u64 (said:Int),.int .u64 (s.bp:Int),.int .u32 (s.ai:Int)] 120 [(12,1,.int .u64 (s.start:Int)),(14,3,.int .u32 ((s.ai:Int)+1))] D w') (fun _ _=>True)
  (by kernel_rfl) (by kernel_rfl) ?fr ?hfr (fun _ _ _ _ _ h=>h) (fun xs=>dR.first cW.out) ?he ?hend
 case hfr=>
  intro xs;simp only[Ord.fill,Act.put,List.setIfInBounds_toArray,List.set_cons_zero,List.set_cons_succ];rfl
 case he=>
  iterate 15 (refine Ord.aa (fun D xs w2 hD hC hP hR f K l=>?_) ?_;rotate_left)
  rotate_left
  ·clear f;go_simp;exact l _ _ ⟨_,rfl,trivial,hR.skip rfl,rfl⟩
  ·have q0:=Ord.ab _ f 0 (by decide);simp only[xd]at q0;simp only[q0]at l;clear f;go_simp;exact l _ _ ⟨_,rfl,trivial,hR.skip rfl,rfl⟩
  ·have q1:=Ord.ab _ f 1 (by decide);simp only[xd]at q1;simp only[q1]at l;clear f;go_simp;exact l _ _ ⟨_,rfl,trivial,hR.skip rfl,rfl⟩
  ·have q2:=Ord.ab _ f 2 (by decide);simp only[xd]at q2;simp only[q2]at l;clear f;go_simp;exact l _ _ ⟨_,rfl,trivial,hR.skip rfl,rfl⟩
  ·have q3:=Ord.ab _ f 3 (by decide);simp only[xd]at q3;simp only[q3]at l;clear f;have hl:=dR.fF hR bx.out aU.out;have cc:=ah hl 0 (v:=.int .u64 (s.start:Int)) rfl;go_simp;exact l _ _ ⟨_,rfl,trivial,hR.skip rfl,rfl⟩
  ·clear f;go_simp;exact l _ _ ⟨_,rfl,trivial,hR.skip rfl,rfl⟩
  ·have q5:=Ord.ab _ f 5 (by decide);simp only[xd]at q5;simp only[q5]at l;clear f;go_simp;exact l _ _ ⟨_,rfl,trivial,hR.skip rfl,rfl⟩
  ·have q6:=Ord.ab _ f 6 (by decide);simp only[xd]at q6;simp only[q6]at l;clear f;go_simp;exact l _ _ ⟨_,rfl,trivial,hR.skip rfl,rfl⟩
  ·have q7:=Ord.ab _ f 7 (by decide);simp only[xd]at q7;simp only[q7]at l;clear f;go_simp;exact l _ _ ⟨_,rfl,trivial,hR.skip rfl,rfl⟩
  ·have q8:=Ord.ab _ f 8 (by decide);simp only[xd]at q8;simp only[q8]at l;clear f;have hl:=dR.fF hR bx.out aU.out;have cc:=ah hl 3 (v:=.int .u32 (s.ai:Int)) rfl;go_simp;exact l _ _ ⟨_,rfl,trivial,hR.skip rfl,rfl⟩
  ·have q9:=Ord.ab _ f 9 (by decide);simp only[xd]at q9;simp only[q9]at l;clear f;go_simp;rw[dv.out];exact l _ _ ⟨_,rfl,trivial,hR.skip rfl,rfl⟩
  ·clear f;go_simp;exact l _ _ ⟨_,rfl,trivial,hR.skip rfl,rfl⟩
  ·have cl:=Ord.ab _ f 11 (by decide);simp only[xd]at cl;have q4:=Ord.ab _ f 4 (by decide);simp only[xd]at q4;simp only[cl,q4]at l;clear f;obtain⟨uu,cu⟩:=hR.there 1 (show 1<4 by decide);have ff:=hR.free 1;go_simp;exact l _ _ ⟨undef,rfl,trivial,hR.put 12 1 _ (by rfl) (by simp) hD,trivial⟩
  ·clear f;go_simp;exact l _ _ ⟨_,rfl,trivial,hR.skip rfl,rfl⟩
  ·have ck:=Ord.ab _ f 13 (by decide);simp only[xd]at ck;have ay:=Ord.ab _ f 10 (by decide);simp only[xd]at ay;simp only[ck,ay]at l;clear f;obtain⟨uu,cu⟩:=hR.there 3 (show 3<4 by decide);have ff:=hR.free 3;go_simp;exact l _ _ ⟨undef,rfl,trivial,hR.put 14 3 _ (by rfl) (by simp) hD,trivial⟩
  exact Ord.az
 case hend=>
  intro D xs Z hR a;have r0:=(a 0 (by decide)).2;have r1:=(a 1 (by decide)).2;have r2:=(a 2 (by decide)).2;have r3:=(a 3 (by decide)).2;have r4:=(a 4 (by decide)).2;have r5:=(a 5 (by decide)).2;have r6:=(a 6 (by decide)).2;have r7:=(a 7 (by decide)).2;have r8:=(a 8 (by decide)).2;have r9:=(a 9 (by decide)).2;have bN:=(a 10 (by decide)).2;have bM:=(a 11 (by decide)).2;have bK:=(a 13 (by decide)).2;simp only[xd]at r0 r1 r2 r3 r4 r5 r6 r7 r8 r9 bN bM bK;have p:=hR.row;rw[kB _ (by intro s hs;simp only[List.mem_cons,List.not_mem_nil,or_false]at hs;rcases hs with rfl|rfl;exact(a 12 (by decide)).1;exact(a 14 (by decide)).1)]at p;simp only[Lay,if_true,List.setIfInBounds_toArray,List.set_cons_zero,List.set_cons_succ]at p;have cE:=hR.grown;simp only[r0,r1,r2,r3,r4,r5,r6,r7,r8,r9,bN,bM,bK];clear hR a r0 r1 r2 r3 r4 r5 r6 r7 r8 r9 bN bM bK;have ba:Touch (·=u) W Z:=.fM cE rfl;have b6:Z.heap[u]?=some (.cells (qE ⟨s.start,s.start,s.bp,s.ai+1⟩) 120 (0,0)):=by
   have e:((s.ai+1:Nat):Int)=(s.ai:Int)+1:=by omega
   show Z.heap[u]?=some (.cells #[.int .u64 (s.start:Int),.int .u64 (s.start:Int),.int .u64 (s.bp:Int),.int .u32 ((s.ai+1:Nat):Int)] 120 (0,0));rw[e];exact p
  have cC:aH Z L ⟨s.start,said,s.bp,s.ai⟩ B s.at_ s.count (.slice none 0 0) (.slice none 0 0) false:=ba.row bx.out aU.out;have bd:=cj.out;have bG:=ba.bz a1.out (fun h0 g R e=>by have:=cj.out h0 g R;omega);have cr:Touch (·=L) w3 Z:=(Touch.aE a8.out).trans (((Touch.aE (aj w4 _)).trans (cK.out▸ba)).mono fun i m e=>by have:=aR.out;omega);have bB:u<Z.heap.size:=lt_of_block b6;have bq:Hid (u<Z.heap.size/\Touch (·=L) w3 Z/\aV Z (.slice pb bn cb) b0/\aH Z L ⟨s.start,said,s.bp,s.ai⟩ B s.at_ s.count (.slice none 0 0) (.slice none 0 0) false):=⟨bB,cr,bG,cC⟩
  have cV:=Lib.hid b6;clear bB cr bG cC b6 p ba cE bd;have b9:Hid (Wl.Fd s E 0 b0/\u<Z.heap.size):=⟨by rw[<-dy.out];exact Wl.B6 HX.out (by have J:=ag.out.fl;have I:=HX.out.aQ.low;omega) ag.out.st ag.out.fl,bq.out.1⟩
  go_upto_region 12 with(fail)
  clear dx cK bx a1 cW ak ae a2 aY;go_loopw [5] (fun v wr=>∃(k:Nat)(b:List Nat)(pl:Value),Wl.Fd s E k b/\aV wr v b/\(0<b.length->∀g,v.ownBlock=some g->w3.heap.size<=g/\g<u)/\wr.heap[u]?=some (.cells (qE ⟨s.start,Wl.placeOf s k,s.bp,s.ai+1⟩) 120 (0,0))/\aH wr L ⟨s.start,said,s.bp,s.ai⟩ B s.at_ s.count pl (.slice none 0 0) false/\QO 0 wr pl ((Wl.places s).take k)/\(∀i,pl.ownBlock=some i->u<i)/\Touch (·=L) w3 wr) (fun v _=>Cv v)
  case atStart=>exact⟨0,b0,.slice none 0 0,b9.out.1,bq.out.2.2.1,cj.out,by rw[Wl.tT HX.out.aQ];exact cV.out,bq.out.2.2.2,A3 _ _,(fun i h=>by cases h),bq.out.2.1⟩
  case round=>
   obtain⟨k,b,pl,aD,M,bd,V,hl,ct,cw,ht⟩:=hrel;obtain⟨pv,cv,rfl⟩:=M.slice;have hlen:=aD.len HX.out;have dd:=Wl.oL HX.out;have bF:=Wl.lh HX.out.aQ aD.kl;have A:=tJ (.slice pv b.length cv) b wr M (by have:=aD.st;omega);have aw:=Lib.hid aD;have a1:=Lib.hid M;have a6:=Lib.hid bd;have cg:=Lib.hid V;have cY:=Lib.hid hl;have cR:=Lib.hid ct;have G:=Lib.hid cw;have HT:=Lib.hid ht;have dA:=Lib.hid bF;have af:Hid (u<wr.heap.size):=lt_of_block V;clear aD M bd V hl ct cw ht hlen dd bF;by_cases b2:∃hk:k<s.cd.length,Wl.placeOf s k+Wl.size s.cd[k]<=E
   case neg=>
    obtain⟨J,I⟩:=aw.out.halt HX.out (fun x hx=>by
     obtain⟨hk,rfl⟩:=List.getElem?_eq_some_iff.1 hx;exact Nat.lt_of_not_le fun h=>b2 ⟨hk,h⟩)
    rw[J]at A;dsimp only at A;rw[show((0:Nat):Int)=0 from rfl,show((4:Nat):Int)=4 from rfl]at A;generalize Lr.zero=x at A;have aP:=Lib.hid A;have du:=Lib.hid I;clear A J I b2;generalize b.length=bl at*
    go_wp2_with fail
    refine aP.out.mono ?_;rintro e w5⟨o,n',uu,c,t,rfl,hO,F⟩;obtain⟨p1,c1,p2,c2,p3,c3,p4,c4,p5,c5,rfl,rfl,rfl,rfl,rfl⟩:=ax hO.at;have a7:=Lib.hid F;clear hO F aP;dsimp only;iterate 16 go_step
    refine aS rfl (.tmp 8) (.tmp 54) rfl w5.heap.size rfl #[.int .i64 x.kind,.int .u64 (x.bj:Int),.int .u32 (x.ai:Int),.int .u64 (x.bs:Int),.int .u32 (x.aA:Int),.int .u16 (x.off:Int),.slice p1 x.old.length c1,.slice p2 x.new.length c2,.slice p3 x.bD.length c3,.int .u64 (x.prev:Int),.int .u64 (x.next:Int),.bool x.jE,.int .u64 (x.bf:Int),.slice p4 x.dm.length c4,.slice p5 x.bR.length c5] rfl _ (heap_alloc_last _ _) rfl rfl (by simp[Value.oneCell']) ?_;intro Y U aC;have y:Below wr.heap.size wr Y:=a7.out.trans ((aJ (aj w5 _) aC (aj w5 _).size (Nat.le_refl _)).mono a7.out.size);obtain⟨Q8,aM⟩:∃Q,Q=w5.heap.size:=⟨_,rfl⟩
    rw[<-aM]at U⊢;have bA:=Lib.hid y;have cQ:=Lib.hid U;have c6:=Lib.hid ((y.block _ af.out).trans cg.out);have bw:=Lib.hid (cY.out.below y);have br:=Lib.hid (cR.out.below y);have bo:=Lib.hid (HT.out.trans (Touch.aE y));clear U aC y aM;have dp:=Lib.hid (bt.out.bQ bo.out (fun i m e=>aX.out (e▸m)));have aN:=Lib.hid (oi bw.out dp.out ch.out ⟨s.start,Wl.placeOf s k,s.bp,s.ai+1⟩ dt.out HX.out.high aX.out);go_upto_region 17 with(fail)
    iterate 4 go_step
    refine wpList_load_row rfl 120 (.tmp 7) rfl u rfl _ _ _ _ c6.out Tryz.underlying120 rfl (by kernel_rfl) ?_;go_wp2_with fail
    refine aN.out.mono ?_;rintro e w7⟨rfl,bc,bb,aB⟩;have HE:Hid (_/\_/\_):=⟨bc,bb,aB⟩
    clear bc bb aB aN;go_wp2_with fail
    go_ret;obtain⟨bc,bb,aB⟩:=HE.out;have cx:=G.out;have dF:w3.heap.size<=u:=by have:=aR.out;have:=a8.out.size;omega
    refine⟨k,pl,_,aw.out.kl,du.out,rfl,bc,?_,fun i m=>?_,bb,ag.out.cut HD.out HX.out aw.out.kl aw.out.e,dr.out.trans (Wl.il.told bt.out.own.ok (Wl.gY _ _ _)),Wl.rE ch.out bt.out.own.ok (Wl.gY _ _ _),(aO.out.trans (bo.out.mono fun i _ m=>Or.inr m)).trans aB⟩
    ·have e:Wl.places (Wl.cut s k)=(Wl.places s).take k:=List.map_take;rw[e];refine br.out.al aB fun g R hp=>?_;have J:=cx g R;rcases hp with hp|hp
     ·have I:=bt.out.lt g hp;omega
     ·have I:=b8.out;have X:=aO.out.size;omega
    ·have J:=cx i m;have X:=aO.out.size;omega
   case pos=>
    obtain⟨hk,C⟩:=b2;obtain⟨dB,dG,cp,aF,-,bE⟩:=a1.out.form;simp only[Value.slice.injEq,true_and]at cp;obtain⟨rfl,rfl⟩:=cp;obtain⟨gb,off,rfl,-⟩:=bE (by
     have J:=(aw.out.go HX.out hk rfl C).2.2.2.2;have I:=Wl.size_pos s.cd[k];omega)
    have aZ:=Lib.hid aF;clear bE aF;obtain⟨J,I,X,h4,h5⟩:=aw.out.go HX.out hk rfl C;have cy:=Wl.vU HX.out.aQ hk;have bX:(Wl.places s).take (k+1)=(Wl.places s).take k++[Wl.placeOf s k]:=by
     rw[<-cy,List.take_succ_eq_append_getElem (by rw[Wl.kS];exact hk),List.getD_eq_getElem?_getD,List.getElem?_eq_getElem (by rw[Wl.kS];exact hk)];rfl
    rw[J]at A;dsimp only at A;rw[show((0:Nat):Int)=0 from rfl]at A;generalize s.cd[k]=x at*
    obtain⟨P,hP⟩:∃P,P=Wl.placeOf s k:=⟨_,rfl⟩
    obtain⟨sz,ao⟩:∃z,z=Wl.size x:=⟨_,rfl⟩
    rw[<-hP]at I X bX;rw[<-ao]at A X h4 h5;have bU:=Wl.size_pos x;rw[<-ao]at bU;have V:=cg.out;rw[<-hP]at V;have aP:=Lib.hid A;have dq:=Lib.hid bX;have di:=Lib.hid I;have dh:=Lib.hid X;have bm:=Lib.hid h4;have ad:=Lib.hid h5;have b7:=Lib.hid bU;have c7:=Lib.hid V;have dH:=Lib.hid hP;have dI:Hid (k<s.cd.length):=hk;clear A J I X h4 h5 C cy bX ao bU hk V hP;generalize aG:b.length=bl at*
    have H:=Lib.hid aG;clear aG;go_wp2_with fail
    refine aP.out.mono ?_;rintro e w5⟨o,n',uu,c,t,rfl,hO,F⟩;obtain⟨p1,c1,p2,c2,p3,c3,p4,c4,p5,c5,rfl,rfl,rfl,rfl,rfl⟩:=ax hO.at;have a7:=Lib.hid F;clear hO F aP;dsimp only;iterate 16 go_step
    refine aS rfl (.tmp 8) (.tmp 54) rfl w5.heap.size rfl #[.int .i64 x.kind,.int .u64 (x.bj:Int),.int .u32 (x.ai:Int),.int .u64 (x.bs:Int),.int .u32 (x.aA:Int),.int .u16 (x.off:Int),.slice p1 x.old.length c1,.slice p2 x.new.length c2,.slice p3 x.bD.length c3,.int .u64 (x.prev:Int),.int .u64 (x.next:Int),.bool x.jE,.int .u64 (x.bf:Int),.slice p4 x.dm.length c4,.slice p5 x.bR.length c5] rfl _ (heap_alloc_last _ _) rfl rfl (by simp[Value.oneCell']) ?_;intro Y U aC;have y:Below wr.heap.size wr Y:=a7.out.trans ((aJ (aj w5 _) aC (aj w5 _).size (Nat.le_refl _)).mono a7.out.size);obtain⟨Q8,aM⟩:∃Q,Q=w5.heap.size:=⟨_,rfl⟩
    rw[<-aM]at U⊢;have bA:=Lib.hid y;have cQ:=Lib.hid U;have c6:=Lib.hid ((y.block _ af.out).trans cg.out);have bw:=Lib.hid (cY.out.below y);have br:=Lib.hid (cR.out.below y);have bo:=Lib.hid (HT.out.trans (Touch.aE y));clear U aC y aM;have ca:=Lib.hid ((bA.out.block _ af.out).trans c7.out);have cU:Hid (pl.ownBlock≠some L):=fun h=>by have J:=G.out L h;have I:=b8.out;have X:=aO.out.size;have h4:=a8.out.size;have h5:=aR.out;omega
    have cT:Hid (¬(u=L\/pl.ownBlock=some u)):=fun h=>h.elim (fun h=>aU.out h.symm) fun h=>absurd (G.out u h) (Nat.lt_irrefl _);have cN:Hid (∀i,(i=L\/pl.ownBlock=some i)->i<Y.heap.size):=fun i m=>m.elim (fun h=>by rw[h];exact bw.out.lt) fun h=>br.out.lt i h;have u1:=(au cQ.out).2.1;rw[di.out]at u1;have d1:=ah ca.out 1 (v:=.int .u64 (P:Int)) rfl;have dg:((P:Int)!=(P:Int))=false:=by simp
    go_upto_region 14 with(fail)
    clear u1 d1 dg;refine Ord.walk (nT L u P Y.heap.size pl) (fun D xs w'=>jj Y L ⟨s.start,said,s.bp,s.ai⟩ B s.at_ s.count pl (.slice none 0 0) ((Wl.places s).take k) P D xs w') (Touch (fun i=>i=L\/pl.ownBlock=some i))
     (by kernel_rfl) (by kernel_rfl) ?fr2 ?hfr2 (fun i v w w' hb h=>qW cN.out i v w w' hb h) (fun xs=>jj.first br.out bw.out) ?he2 ?hend2
    case hfr2=>
     intro xs;simp only[Ord.fill,Act.put,List.setIfInBounds_toArray,List.set_cons_zero,List.set_cons_succ];rfl
    case he2=>
     iterate 12 (refine Ord.aa (fun D xs w2 hD hC hP hR f K l=>?_) ?_;rotate_left)
     rotate_left
     ·clear f;go_simp;exact l _ _ ⟨_,rfl,Touch.refl _ _,jj.skip hR 0 (by decide) (by decide) _ (Below.refl _ _),rfl⟩
     ·clear f;go_simp;exact l _ _ ⟨_,rfl,Touch.refl _ _,jj.skip hR 1 (by decide) (by decide) _ (Below.refl _ _),rfl⟩
     ·have q1:=Ord.ab _ f 1 (by decide);simp only[nT]at q1;simp only[q1]at l;clear f;go_simp;exact l _ _ ⟨_,rfl,Touch.refl _ _,jj.skip hR 2 (by decide) (by decide) _ (Below.refl _ _),rfl⟩
     ·have q2:=Ord.ab _ f 2 (by decide);simp only[nT]at q2;simp only[q2]at l;clear f;go_simp;exact l _ _ ⟨_,rfl,Touch.refl _ _,jj.skip hR 3 (by decide) (by decide) _ (Below.refl _ _),rfl⟩
     ·have q3:=Ord.ab _ f 3 (by decide);simp only[nT]at q3;simp only[q3]at l;clear f;have h8:D 8=false:=by
       cases hx:D 8 with
       |false=>rfl
       |true=>exact absurd (Ord.aL hC 8 4 rfl hx) (by rw[hD];decide)
      have av:D 11=false:=by
       cases hx:D 11 with
       |false=>rfl
       |true=>exact absurd (Ord.aL hC 11 8 rfl hx) (by rw[h8];decide)
      have cc:=jj.at_ hR av;have cc:=aH.cell cc 7 (v:=pl) rfl;go_simp;exact l _ _ ⟨_,rfl,Touch.refl _ _,jj.skip hR 4 (by decide) (by decide) _ (Below.refl _ _),rfl⟩
     ·clear f;go_simp;exact l _ _ ⟨_,rfl,Touch.refl _ _,jj.skip hR 5 (by decide) (by decide) _ (Below.refl _ _),rfl⟩
     ·have q5:=Ord.ab _ f 5 (by decide);simp only[nT]at q5;simp only[q5]at l;clear f;have cc:=hR.t.row ca.out cT.out;have cc:=ah cc 1 (v:=.int .u64 (P:Int)) rfl;go_simp;exact l _ _ ⟨_,rfl,Touch.refl _ _,jj.skip hR 6 (by decide) (by decide) _ (Below.refl _ _),rfl⟩
     ·have q6:=Ord.ab _ f 6 (by decide);simp only[nT]at q6;simp only[q6]at l;clear f;go_simp;exact l _ _ ⟨_,rfl,Touch.aE (aj _ _),jj.skip hR 7 (by decide) (by decide) _ (aj _ _),_,rfl,uf _ _ _,hR.t.size⟩
     ·have q4:=Ord.ab _ f 4 (by decide);simp only[nT]at q4;have q7:=Ord.ab _ f 7 (by decide);simp only[nT]at q7;obtain⟨gx,q7,de,-⟩:=q7;clear f;have av:D 11=false:=by
       cases hx:D 11 with
       |false=>rfl
       |true=>exact absurd (Ord.aL hC 11 8 rfl hx) (by rw[hD];decide)
      simp only[Region.wanted,if_true];refine lH (.tmp 70) (.tmp 73) rfl q4 (hR.q hD) P gx q7 de (Nat.le_trans (by rw[List.length_take];exact Nat.min_le_right _ _) (Nat.le_trans (Wl.oZ HX.out) (by decide))) (Nat.zero_le _) fun v' w' hq R bg=>?_;have ht:Touch (fun i=>pl.ownBlock=some i) w2 w':=Touch.E7 R fun g R=>R;exact l _ _ ⟨_,rfl,ht.mono (fun i _ m=>Or.inr m),jj.app hR hD av cU.out hq ht bg,trivial⟩
     ·have q0:=Ord.ab _ f 0 (by decide);simp only[nT]at q0;simp only[q0]at l;clear f;go_simp;exact l _ _ ⟨_,rfl,Touch.refl _ _,jj.skip hR 9 (by decide) (by decide) _ (Below.refl _ _),rfl⟩
     ·have q9:=Ord.ab _ f 9 (by decide);simp only[nT]at q9;simp only[q9]at l;clear f;go_simp;exact l _ _ ⟨_,rfl,Touch.refl _ _,jj.skip hR 10 (by decide) (by decide) _ (Below.refl _ _),rfl⟩
     ·have ay:=Ord.ab _ f 10 (by decide);simp only[nT]at ay;simp only[ay]at l;clear f;have h8:=hP {on:=8,ground:=.data} (by simp) rfl;obtain⟨p8,c8,e8⟩:=(hR.r h8).1.qu.slice;obtain⟨n8,cB⟩:∃n,n=((Wl.places s).take k++[P]).length:=⟨_,rfl⟩
      rw[<-cB]at e8;have bC:=jj.put hR h8 hD cU.out (cN.out L (Or.inl rfl)) undef;rw[e8]at bC;simp only[e8]at l⊢;clear e8 cB;have ff:=aI (hR.at_ hD) 7;have cc:=aH.cell (hR.at_ hD) 7 (v:=pl) rfl;go_simp;exact l _ _ ⟨undef,rfl,.set L 7 _ (Or.inl rfl),bC,trivial⟩
     exact Ord.az
    case hend2=>
     intro D xs Z2 hR a;have h8:=(a 8 (by decide)).1;have av:=(a 11 (by decide)).1;obtain⟨hq,bg⟩:=hR.r h8;have hl:=hR.ET av;have ht:=hR.t;clear hR a;have p:=ht.row ca.out cT.out;generalize xs 8=v8 at*
     have bO:∀i,v8.ownBlock=some i->u<i:=fun i m=>by
      rcases bg with X|⟨j,X,h4⟩
      ·exact G.out i (X▸m)
      ·rw[m]at X;have h5:=Option.some.inj X;have h6:=bA.out.size;have h7:=af.out;omega
     have hS:Touch (fun i=>i=L\/pl.ownBlock=some i) w3 Z2:=(bo.out.mono (T:=fun i=>i=L\/pl.ownBlock=some i) fun i _ m=>Or.inl m).trans ht;have cq:Touch (·=L) w3 Z2:=hS.mono fun i m h=>h.elim id fun h=>by have J:=G.out i h;have I:=aR.out;have X:=a8.out.size;omega
     have bI:aV Z2 (.slice (some ⟨gb,off,none⟩) bl cv) b:=ht.bz (a1.out.below bA.out) (fun h0 g R e=>by
      have J:=a6.out (by rw[<-H.out];exact h0) g R;rcases e with e|e
      ·have I:=b8.out;have X:=aO.out.size;omega
      ·have I:=G.out g e;omega)
     obtain⟨P2,bk⟩:∃P2,P2=Wl.placeOf s (k+1):=⟨_,rfl⟩
     have cn:=dh.out;rw[<-bk]at cn;have db:=bm.out.st;have cm:=bm.out.e;rw[<-bk]at cm;have dc:=HS.out;have f7:=aI p 1;have s7:(Z2.setCell ⟨u,1,none⟩ (.int .u64 (P2:Int))).heap[u]?=some (.cells (qE ⟨s.start,P2,s.bp,s.ai+1⟩) 120 (0,0)):=aT (i:=1) p _;have d1:=ah p 1 (v:=.int .u64 (P:Int)) rfl;have t7:Touch (·=u) Z2 (Z2.setCell ⟨u,1,none⟩ (.int .u64 (P2:Int))):=.set u 1 _ rfl;have bH:=t7.bz bI (fun h0 g R e=>by have J:=(a6.out (by rw[<-H.out];exact h0) g R).2;omega);have ar:=hl.al t7 aU.out;have bW:=hq.al t7 (fun i m e=>by have:=bO i m;omega);have an:Touch (·=L) w3 (Z2.setCell ⟨u,1,none⟩ (.int .u64 (P2:Int))):=((cq.mono (T:=fun i=>i=L\/i=u) fun i _ m=>Or.inl m).trans (t7.mono fun i _ m=>Or.inr m)).mono fun i m h=>h.elim id fun h=>by have I:=aR.out;have X:=a8.out.size;omega
     have cI:aV (Z2.setCell ⟨u,1,none⟩ (.int .u64 (P2:Int))) (.slice (some ⟨gb,off,none⟩) b.length cv) b:=by rw[H.out];exact bH
     have b3:=cI.drop sz (by rw[H.out];exact ad.out);rw[H.out]at b3;rw[<-dq.out]at bW;have dw:=Lib.hid b3;have aY:=Lib.hid ar;have cS:=Lib.hid bW;have bJ:=Lib.hid an;have cP:=Lib.hid s7;have cL:=Lib.hid bO;have bu:=Lib.hid bk;have dD:IntKind.u64.wrap (sz:Int)=(sz:Int):=IntWalk.u64_in _ (by omega);have dC:IntKind.u64.wrap ((P:Int)+(sz:Int))=(P2:Int):=by rw[IntWalk.u64_in _ (by omega)];omega
     have dE:(sz:Int)<=(bl:Int):=by have:=ad.out;omega
     have dz:sz<=bl:=ad.out;clear hS cq bI cn db cm dc s7 t7 bH ar bW an cI b3 hq hl ht bg p bO bk h8 av;by_cases df:cv=sz
     ·have c9:Hid (b.drop sz=[]):=List.drop_eq_nil_of_le (by rw[H.out];have:=aZ.out;omega);have da:bl=sz:=by have J:=aZ.out;have I:=ad.out;omega
      subst da;subst df;go_wp2_with fail
      go_roundw
      case rel=>exact⟨k+1,b.drop cv,v8,bm.out,by rw[c9.out];exact fR _ _ _ _ (by omega) (by have:=aZ.out;omega),(fun h0=>by rw[c9.out]at h0;exact absurd h0 (by decide)),by rw[<-bu.out];exact cP.out,aY.out,cS.out,cL.out,bJ.out⟩
      case measure=>have J:=b7.out;have I:=ad.out;simp only[Cv];omega
     ·go_wp2_with fail
      go_roundw
      case rel=>exact⟨k+1,b.drop sz,v8,bm.out,dw.out,(fun h0 g R=>a6.out (by have J:=b7.out;have I:=ad.out;omega) g R),by rw[<-bu.out];exact cP.out,aY.out,cS.out,cL.out,bJ.out⟩
      case measure=>have J:=b7.out;have I:=ad.out;simp only[Cv];omega
theorem Es{U V:Nat->Prop}{w:World}{B L:Nat}{d:Dk.aq}{s:Wl.S}(n:Int)(h:ij U V w B L d s):
 Calls Tryz.prog 28 #[.pointer (some ⟨B,0,none⟩),.int .i64 n] w fun e w'=>e=.returned (.int .i64 ((Dk.arm d n).2:Nat))/\∃l,ij l V w' B L (Dk.arm d n).1 s/\Touch U w w'/\br U l w:=by
 obtain⟨f,c,pl,m,p,rfl,o,rfl,k,said,a,hd⟩:=h;refine(xW o n).mono fun e w'⟨he,j,g⟩=>⟨he,DS B f c,⟨f,c,pl,m,p.bQ g (fun i b hd=>k i hd b),rfl,j,rfl,k,said,a,hd.same j.own.ok ?_ ?_⟩,g,fun i b=>Or.inl b⟩
 ·unfold Dk.arm;split<;>first|rfl|(split<;>rfl)
 ·unfold Dk.arm;split<;>first|rfl|(split<;>rfl)
set_option maxHeartbeats 3200000 in
set_option maxRecDepth 20000 in
theorem tl{w:World}{B t s a c:Nat}{d:Dk.aq}(g:bh w B t s d)(j:16<=c)(i:c<=8192)(r:a+c+2<=Dk.size d)(R:Nat->World->Prop)
 (hf:∀w1 L,Below w.heap.size w w1->w.heap.size<=L->aH w1 L ⟨0,0,0,0⟩ B a c (.slice none 0 0) (.slice none 0 0) false->Calls Tryz.prog 61 #[.pointer (some ⟨L,0,none⟩)] w1 fun e w'=>e=.returned (.int .i64 0)/\R L w'):
 Calls Tryz.prog 42 #[.pointer (some ⟨B,0,none⟩),.int .i64 (a:Int),.int .i64 (c:Int),.func (.func 61) #[] #[]] w fun e w'=>∃L,e=.returned (.tuple #[.pointer (some ⟨L,0,none⟩),.int .i64 0])/\R L w':=by
 have b:=(fJ g).mono (R':=fun e w'=>e=.returned (.int .i64 (Dk.size d:Nat))/\w=w') fun _ _⟨j,i⟩=>⟨j,i.symm⟩
 have q:=g.own.one;have p:=g.own.size;obtain⟨N,o⟩:∃N,N=Dk.size d:=⟨_,rfl⟩
 rw[<-o]at b r q p;have h:¬(N:Int)=0:=by omega
 have k:=Lib.hid b;have y:¬(c:Int)<16:=by omega
 have x:¬(8192:Int)<(c:Int):=by omega
 have v:¬(a:Int)<0:=by omega
 have u:¬(N:Int)-2-(c:Int)<(a:Int):=by omega
 have w1:=IntWalk.wrap64_in ((N:Int)-2) (by omega);have w2:=IntWalk.wrap64_in ((N:Int)-2-(c:Int)) (by omega);have A:=Lib.hid hf;clear g o b j i r q p hf;go_enter Tryz.func42,Tryz.ntmps42;go_upto_region 7 with(go_at_call 66;refine k.out.mono ?_;rintro e w'⟨rfl,rfl⟩)
 have n:=aj w (.cells (Ab ⟨0,0,0,0⟩ B a c (.slice none 0 0) (.slice none 0 0) false) 122);have hl:aH (w.alloc (.cells (Ab ⟨0,0,0,0⟩ B a c (.slice none 0 0) (.slice none 0 0) false) 122)) w.heap.size ⟨0,0,0,0⟩ B a c (.slice none 0 0) (.slice none 0 0) false:=heap_alloc_last _ _;have m:=A.out _ _ n (Nat.le_refl _) hl;have f:Hid (Calls Tryz.prog 61 #[.pointer (some ⟨w.heap.size,0,none⟩)] (w.alloc (.cells #[.int .u64 0,.int .u64 0,.int .u64 0,.int .u32 0,.pointer (some ⟨B,0,none⟩),.int .i64 (a:Int),.int .i64 (c:Int),.slice none 0 0,.slice none 0 0,.bool false] 122)) fun e w'=>e=.returned (.int .i64 0)/\R w.heap.size w'):=m;clear n hl m y x v u w1 w2 h;generalize(w.alloc (.cells #[.int .u64 0,.int .u64 0,.int .u64 0,.int .u32 0,.pointer (some ⟨B,0,none⟩),.int .i64 (a:Int),.int .i64 (c:Int),.slice none 0 0,.slice none 0 0,.bool false] 122))=W at*
 generalize w.heap.size=L at*
 go_wp2_with fail
 refine f.out.mono ?_;rintro e w3⟨rfl,l⟩;have z:=Lib.hid l;clear l f;go_wp2_with fail
 go_ret2
 exact⟨_,rfl,z.out⟩
theorem Wl.yk{s:Wl.S}(h:Wl.Good s){k:Nat}(a:k<=s.cd.length):Wl.waits (Wl.cut s k)=[]:=by
 refine List.eq_nil_of_length_eq_zero ?_;rw[Wl.eb (Wl.uD h a)];exact Nat.sub_self _
def Ic(n B c b:Nat)(d:Dk.aq)(s:Wl.S)(w:World)(L:Nat)(w':World):Prop:=w.heap.size<=L/\∃k pl a,k<=s.cd.length/\s.ae<=Wl.placeOf s k/\aH w' L (Wl.kn (Wl.cut s k)) B s.at_ s.count pl (.slice none 0 0) false/\QO 0 w' pl (Wl.places (Wl.cut s k))/\(∀i,pl.ownBlock=some i->w.heap.size<=i/\i≠L)/\bh w' B c b a/\Wl.Dv (Wl.cut s k) (Wl.placeOf s k) a/\Wl.il s.at_ s.count d a/\Wl.Calm n a/\Touch (ik B c b L) w w'
def Im(U:Nat->Prop)(n B:Nat)(d:Dk.aq)(s:Wl.S)(w:World)(e:Ending)(w':World):Prop:=
 ∃k L c b a,k<=s.cd.length/\s.ae<=Wl.placeOf s k/\e=.returned (.tuple #[.pointer (some ⟨L,0,none⟩),.int .i64 0])/\ij c b w' B L a (Wl.cut s k)/\Wl.il s.at_ s.count d a/\Wl.Calm n a/\Touch U w w'/\br U c w/\(∀i,b i->w.heap.size<=i)
set_option maxHeartbeats 3200000 in
set_option maxRecDepth 20000 in
theorem tf{U:Nat->Prop}{w:World}{B n:Nat}{d:Dk.aq}{s:Wl.S}(h:gB U w B d)(hC:Wl.Calm n d)(hf:Wl.Fits n s.at_ s.count)(R:Wl.Hd d s)(l:s.ai<=1000000)(hs:s.stop<=1000000000000):
 Calls Tryz.prog 33 #[.pointer (some ⟨B,0,none⟩),.int .i64 (s.at_:Int),.int .i64 (s.count:Int)] w fun e w'=>Im U n B d s w e w':=by
 obtain⟨v,u,q,rfl⟩:=h;obtain⟨o,said,p,O⟩:=R;have b:s.at_+s.count+2<=n:=by
  have:=hf.2.2.2;omega
 have hl:=tl q (a:=s.at_) (c:=s.count) o.low o.high (by rw[hC.sz];exact b) (Ic n B v u d s w)
  (fun w1 L y N g=>(vy g (q.below y) hC b o O p l hs (fun hd=>by have:=q.lt L hd;omega)).mono fun e w'⟨k,pl,I,t,F,T,E,D,r,C,A,x,z,m⟩=>
   ⟨T,N,k,pl,I,t,F,E,D,fun i j=>⟨Nat.le_trans y.size (r i j),fun e=>by have H:=r i j;have G:=g.lt;omega⟩,C,A,x,z,(Touch.aE y).trans m⟩)
 have Q:=Lib.hid hl;have W:=Lib.hid q;have P:=Lib.hid o;have J:=Lib.hid l;clear q o p O hl hf b hC l hs;go_enter Tryz.func33,Tryz.ntmps33;go_wp2_with fail
 refine Q.out.mono ?_;rintro e w1⟨L,rfl,K⟩;have V:=Lib.hid K;clear K Q;go_wp2_with fail
 go_ret2
 obtain⟨N,k,pl,I,t,F,E,D,r,C,A,x,z,m⟩:=V.out;have M:∀i,my L pl (.slice none 0 0) i->w.heap.size<=i:=fun i f=>by
  rcases f with f|f|f
  ·omega
  ·exact(r i f).1
  ·cases f
 refine⟨k,L,DS B v u,my L pl (.slice none 0 0),I,t,F,rfl,⟨v,u,pl,.slice none 0 0,⟨Wl.Fa P.out t J.out,E,D,?_,fun h=>(r L h).2 rfl,(fun h=>by cases h),fun i _ h=>by cases h⟩,rfl,C,rfl,fun i j f=>?_,Wl.placeOf s k,Nat.le_refl _,A⟩,x,z,m.mono fun i j hs=>?_,fun i j=>Or.inl j,M⟩
 ·rw[Wl.yk P.out.aQ t];exact aM _ _
 ·have H:=W.out.lt i j;have G:=M i f;omega
 ·rcases hs with hs|hs
  ·exact hs
  ·omega
end Go.Proofs.YtbpodmallknhfaaGreat
namespace Go.Proofs.YtbpodmallknhfaaGreat.Wl
open Go.Proofs.YtbpodmallknhfaaGreat
theorem AN{n g h:Nat}(e:g/2=h/2):g%(2*n)/2=h%(2*n)/2:=by
 rw[Nat.mod_mul_right_div_self,Nat.mod_mul_right_div_self,e]
def fO(s:S):Nat:=(s.stop-1)/52
structure nS(s:S)(g:Nat):Prop where
 low:s.ae/52<=g
 high:g<=fO s
theorem nS.facts{s:S}{g:Nat}(h:nS s g)(a:Ex s)(b:s.ae<s.stop):s.start/52<=g/\g<s.start/52+2*s.count/\g*52<s.stop/\s.ae<(g+1)*52:=by
 have j:=h.low;have d:=h.high;have i:=a.room;have c:=a.aQ.low;unfold fO at d;have f:s.start/52<=s.ae/52:=Nat.div_le_div_right c;refine⟨by omega,?_,by omega,by omega⟩;have e:(s.stop-1)/52<s.start/52+2*s.count:=by
  rw[Nat.div_lt_iff_lt_mul (by decide)];omega
 omega
theorem nS.ok{s:S}{g:Nat}(h:nS s g)(a:Ex s)(b:s.ae<s.stop)(hs:s.stop<=1000000000000):xg s.ae s.ai (2*s.count) (waits s) g:=by
 obtain⟨k,j,i,f⟩:=h.facts a b;have e:=eb a.aQ;have d:=a.low;refine⟨by unfold iB;omega,by unfold yw iB;omega,?_,a.ep⟩;have c:g/(2*s.count)<=g/32:=Nat.div_le_div_left (by omega) (by decide);omega
theorem Ea{s:S}{said g:Nat}{d:Dk.aq}(h:nS s g)(b:Ex s)(l:Dv s said d)(k:s.ae<s.stop)(_:s.stop<=1000000000000)(hl:(Wl.half s d g).log.length=52):
 qG s said (g%(2*s.count)) (nw s.ae s.ai (2*s.count) (waits s) (Wl.half s d g) g)/\qG (flush s) said (g%(2*s.count)) (nw s.ae s.ai (2*s.count) (waits s) (Wl.half s d g) g):=by
 obtain⟨e,n,m,t⟩:=h.facts b k;have r:=eb b.aQ;have a:(nw s.ae s.ai (2*s.count) (waits s) (Wl.half s d g) g).fill=min 52 (s.stop-g*52):=by
  show iB s.ae g+fD s.ae (waits s).length g=_;unfold fD yw iB;omega
 have c:∀i,i<(nw s.ae s.ai (2*s.count) (waits s) (Wl.half s d g) g).fill->s.start<=g*52+i->(nw s.ae s.ai (2*s.count) (waits s) (Wl.half s d g) g).log.getD i 0=dM s (g*52+i):=by
  intro i p hp;have j:i<iB s.ae g+fD s.ae (waits s).length g:=p;show(j7 _ _ _ _ _).log.getD i 0=_;rw[B5 hl (by unfold fD iB;omega) (by unfold fD;omega) j];have o:=(l.half (by have:=b.low;omega) g).lo g e rfl;by_cases f:i<iB s.ae g
  ·rw[if_pos f];unfold iB at f;exact(l.half (by have:=b.low;omega) g).is g i e rfl (by omega) hp
  ·rw[if_neg f];have q:=b.aQ.low;unfold waits dM;rw[kI];congr 1
   unfold yw iB at*
   omega
 exact⟨xH e n rfl rfl rfl a m c b.room b.aQ.high,xH (s:=flush s) e n rfl rfl rfl a m c b.room (Nat.le_refl _)⟩
structure Wr(s:S)(said:Nat)(d:Dk.aq)(h:Nat):Prop where
 dv:Dv s said d
 new:∀g,nS s g->g<h->qG (flush s) said (g%(2*s.count)) (Wl.half s d g)
theorem Ax{s:S}{said:Nat}{d:Dk.aq}(h:Dv s said d):Wr s said d (s.ae/52):=⟨h,fun g a b=>absurd a.low (by omega)⟩
theorem zq{s:S}{d a:Dk.aq}(hl:a.aP=d.aP)(hw:a.waits=d.waits)(g:Nat):Wl.half s a g=Wl.half s d g:=by
 unfold Wl.half iM;rw[hl,hw]
theorem Wr.cj{s:S}{said h:Nat}{d:Dk.aq}(H:Wr s said d h):Wr s said (Dk.cj d) h:=by
 obtain⟨e,c,-,-⟩:=Dk.ee d;exact⟨H.dv.cj,fun g b a=>by rw[zq e c];exact H.new g b a⟩
theorem Wr.put{s:S}{said h:Nat}{d:Dk.aq}{b:List Nat}(H:Wr s said d h)(o:Ex s)(i:s.ae<s.stop)(hs:s.stop<=1000000000000)(B:nS s h)
 (v:Sn s.ae s.ai (2*s.count) (waits s) (iM d (s.at_+2+h%(2*s.count)/2)) h (min (fO s) (h/2*2+1)+1) b):Wr s said (Dk.put d (s.at_+2+h%(2*s.count)/2) b) (h/2*2+2):=by
 have m:=H.dv;have K:=o.low;have z:=m.fits;have y:=jo (n:=s.count) (h:=h) (by omega);have hlen:∀g,(Wl.half s d g).log.length=52:=fun g=>pC (mo m.ok (by have:=jo (n:=s.count) (h:=g) (by omega);omega)).1 (by omega);have q:∀t,h<=t->t<min (fO s) (h/2*2+1)+1->nS s t:=fun t f a=>⟨Nat.le_trans B.low f,by omega⟩
 have c:∀t,h<=t->t<min (fO s) (h/2*2+1)+1->t%(2*s.count)/2=h%(2*s.count)/2:=fun t f a=>AN (by omega);have j:∀t,h<=t->t<min (fO s) (h/2*2+1)+1->dQ (hf b (t%2))=nw s.ae s.ai (2*s.count) (waits s) (Wl.half s d t) t:=by
  intro t f a;rw[v.new t f a];unfold Wl.half;rw[c t f a]
 have p:∀k,k<2->qG s said (2*(h%(2*s.count)/2)+k) (dQ (hf b k)):=by
  intro k p;by_cases hex:∃t,h<=t/\t<min (fO s) (h/2*2+1)+1/\t%2=k
  ·obtain⟨t,f,a,rfl⟩:=hex;rw[j t f a,<-c t f a,<-mG];exact(Ea (q t f a) o m i hs (hlen t)).1
  ·rw[v.old k p fun t f a e=>hex ⟨t,f,a,e⟩];exact(m.iM y).hf p
 have hw:s.at_+2+h%(2*s.count)/2<d.waits.length:=by rw[m.ok.w];omega
 refine⟨m.put y v.sec ⟨p 0 (by decide),p 1 (by decide)⟩,fun g u A=>?_⟩;have l:Wl.half s (Dk.put d (s.at_+2+h%(2*s.count)/2) b) g=if h%(2*s.count)/2=g%(2*s.count)/2 then dQ (hf b (g%2))else Wl.half s d g:=by
  unfold Wl.half;rw[sM hw];by_cases e:h%(2*s.count)/2=g%(2*s.count)/2
  ·rw[if_pos (by omega),if_pos e]
  ·rw[if_neg (by omega),if_neg e]
 rw[l];by_cases r:h<=g
 ·have a:g<min (fO s) (h/2*2+1)+1:=by have:=u.high;omega
  rw[if_pos (c g r a).symm,j g r a];exact(Ea u o m i hs (hlen g)).2
 ·by_cases e:h%(2*s.count)/2=g%(2*s.count)/2
  ·rw[if_pos e];have x:∀t,h<=t->t<min (fO s) (h/2*2+1)+1->t%2≠g%2:=by
    intro t f a J;have F:=c t f a;have I:t%(2*s.count)=g%(2*s.count):=by rw[mG (n:=s.count) (h:=t),mG (n:=s.count) (h:=g),F,e,J]
    obtain⟨f1,f2,-,-⟩:=(q t f a).facts o i;obtain⟨f3,f4,-,-⟩:=u.facts o i;have d1:=Nat.div_add_mod t (2*s.count);have d2:=Nat.div_add_mod g (2*s.count);have E:t/(2*s.count)≠g/(2*s.count):=fun G=>by rw[G,I]at d1;omega
    have D:g/(2*s.count)<t/(2*s.count):=Nat.lt_of_le_of_ne (Nat.div_le_div_right (by omega)) (Ne.symm E);have C:2*s.count*(g/(2*s.count)+1)<=2*s.count*(t/(2*s.count)):=Nat.mul_le_mul_left _ D;rw[Nat.mul_succ]at C;omega
   rw[v.old (g%2) (by omega) x];have:=H.new g u (by omega);unfold Wl.half at this;rw[<-e]at this;exact this
  ·rw[if_neg e];exact H.new g u (by omega)
theorem Wr.done{s:S}{said h:Nat}{d:Dk.aq}(H:Wr s said d h)(v:Ex s)(x:s.ae<s.stop)(y:fO s<h):Dv (flush s) said (Dk.last d):=by
 have f:=H.dv;have z:=v.low;have u:=f.fits;have m:=f.last;have r:∀j,j<s.count->∀k,k<2->qG (flush s) said (2*j+k) (dQ (hf (iM d (s.at_+2+j)) k)):=by
  intro j c k t;by_cases hex:∃g,nS s g/\g%(2*s.count)=2*j+k
  ·obtain⟨g,a,e⟩:=hex;have i:=H.new g a (by have:=a.high;omega);rw[e]at i;have q:=mG (n:=s.count) (h:=g);unfold Wl.half at i;rw[show g%(2*s.count)/2=j by omega,show g%2=k by omega]at i;exact i
  ·refine((f.iM c).hf t).ae fun g i q=>?_;have w:=((f.iM c).hf t).lo g i q;have l:¬nS s g:=fun a=>hex ⟨g,a,q⟩;have a:g<s.ae/52\/fO s<g:=by
    rcases Nat.lt_or_ge g (s.ae/52)with p|p
    ·exact Or.inl p
    ·rcases Nat.lt_or_ge (fO s) g with o|o
     ·exact Or.inr o
     ·exact absurd ⟨p,o⟩ l
   unfold fO at a;rcases a with a|a
   ·omega
   ·omega
 have hz:=Dk.cf f.ok;refine⟨m.ok,m.fits,m.hl,m.hw,fun j c=>?_,fun j b c hw=>?_⟩
 ·show ji _ _ _ ((Dk.last d).aP.getD (s.at_+2+j) []);rw[Dk.dY f.ok (by have c:j<s.count:=c;omega)];exact⟨r j c 0 (by decide),r j c 1 (by decide)⟩
 ·have hw:(Dk.none_ d).getD (s.at_+2+j) none=some b:=hw;unfold Dk.none_ at hw;rw[gp]at hw;cases hw
theorem dV{n:Nat}{d:Dk.aq}(h:aY n d)(f:d.off=false){i:Nat}(o:i<n){b:List Nat}(e:Dk.fI b):Dk.write d (i:Int) b=(Dk.cj (Dk.put d i b),if(Dk.cj (Dk.put d i b)).off then 6 else 0)/\aY n (Dk.cj (Dk.put d i b)):=by
 have a:=h.sz;have m:¬(d.off=true):=by rw[f];decide
 have l:¬(Dk.bad d (i:Int)\/b.length≠128):=by have:=e.1;unfold Dk.bad;omega
 have c:¬(d.seen.getD (i:Int).toNat false=false/\d.aW<=Dk.used d):=by
  rw[Int.toNat_natCast];rintro⟨c,k⟩;have hl:i<d.seen.length:=by rw[h.ok.s];omega
  have p:=Dk.fE hl c;have j:(d.seen.set i true).count true<=(d.seen.set i true).length:=List.count_le_length;rw[List.length_set,h.ok.s]at j;have:=h.aW;unfold Dk.used at k;omega
 refine⟨?_,?_⟩
 ·unfold Dk.write;rw[if_neg m,if_neg l,if_neg c,Int.toNat_natCast]
 ·have g:=Dk.ee (Dk.put d i b);exact⟨Dk.mb (Dk.eT h.ok i e),by rw[Dk.mV];exact a,by rw[g.2.2.2];exact h.aW⟩
theorem uM{n:Nat}{d:Dk.aq}(h:Calm n d)(i:Nat)(b:List Nat):Calm n (Dk.cj (Dk.put d i b)):=by
 rw[Dk.jd (d:=Dk.put d i b) h.bL];exact⟨h.off,h.bL,h.sz,h.aW⟩
theorem gH{n:Nat}{d:Dk.aq}(h:aY n d)(c:d.off=false):(Dk.sync d=(Dk.cj d,6)/\aY n (Dk.cj d)/\¬Calm n d)\/(Dk.sync d=(Dk.last (Dk.cj d),0)/\aY n (Dk.last (Dk.cj d))/\(Calm n d->Calm n (Dk.last (Dk.cj d)))):=by
 have e:=Dk.ee d;have b:aY n (Dk.cj d):=⟨Dk.mb h.ok,by rw[Dk.mV];exact h.sz,by rw[e.2.2.2];exact h.aW⟩
 unfold Dk.sync;rw[if_neg (by rw[c];decide)];cases hoff:(Dk.cj d).off with
 |true=>
  rw[if_pos rfl];refine Or.inl ⟨rfl,b,fun a=>?_⟩;rw[Dk.jd a.bL,c]at hoff;cases hoff
 |false=>
  rw[if_neg (by decide)];refine Or.inr ⟨rfl,⟨Dk.ma b.ok,by rw[Dk.cf b.ok];exact b.sz,b.aW⟩,fun a=>?_⟩;rw[Dk.jd a.bL];exact⟨a.off,a.bL,by rw[Dk.cf h.ok];exact a.sz,a.aW⟩
end Go.Proofs.YtbpodmallknhfaaGreat.Wl
namespace Go.Proofs.YtbpodmallknhfaaGreat.Rg
open Go.Proofs.YtbpodmallknhfaaGreat
def lv(d:Dk.aq)(i:Nat):List Nat:=d.aP.getD i []
def wv(d:Dk.aq)(i:Nat):Option (List Nat):=d.waits.getD i none
def QS(d:Dk.aq)(i:Nat):Prop:=∀x,wv d i=some x->x=lv d i
def ke(r:Dk.aq×Nat)(f:Dk.aq->Dk.aq×Nat):Dk.aq×Nat:=if r.2≠0 then r else f r.1
theorem et{r:Dk.aq×Nat}(f:Dk.aq->Dk.aq×Nat)(h:r.2=0):ke r f=f r.1:=if_neg (by omega)
theorem cF{r:Dk.aq×Nat}(f:Dk.aq->Dk.aq×Nat)(h:r.2≠0):ke r f=r:=if_pos h
def bV:Dk.aq->Nat->Nat->Dk.aq×Nat
 |d,_,0=>(d,0)
 |d,p,k+1=>if(Dk.read d (p:Int)).2≠0 then(d,(Dk.read d (p:Int)).2)else if(Dk.read d (p:Int)).1=Dk.blank then ke (Dk.write d (p:Int) Dk.blank) (fun e=>bV e (p+1) k)else bV d (p+1) k
def gR(b:List Nat):List (List Nat):=(List.range 5).map (part 128 b)
def sD(d:Dk.aq)(s:Nat)(nb:List Nat):Dk.aq×Nat:=ke (Dk.jk d s (gR nb)) Dk.sync
def dx(d:Dk.aq)(s p:Nat)(fm:List Nat):Dk.aq×Nat:=
 ke (Dk.jk d p (Dk.gh fm)) fun d=>ke (Dk.sync d) fun d=>ke (Dk.write d (s:Int) Dk.blank) Dk.sync
def dB(d:Dk.aq)(s p:Nat)(fm nb:List Nat):Dk.aq×Nat:=ke (bV d p 4) fun d=>ke (sD d s nb) fun d=>dx d s p fm
inductive Ro(A:Nat->Prop)(n:Nat):Dk.aq->Dk.aq->Prop
 |refl (d:Dk.aq):Ro A n d d
 |write {d e:Dk.aq} {i:Nat} {b:List Nat} (h:Ro A n d e) (f:A i) (a:i<n) (c:Dk.fI b):Ro A n d (Dk.write e (i:Int) b).1
 |sync {d e:Dk.aq} (h:Ro A n d e):Ro A n d (Dk.sync e).1
theorem Ro.trans{A:Nat->Prop}{n:Nat}{d e f:Dk.aq}(h:Ro A n d e)(k:Ro A n e f):Ro A n d f:=by
 induction k with
 |refl=>exact h
 |write _ hA hi hb ih=>exact ih.write hA hi hb
 |sync _ ih=>exact ih.sync
theorem iY{d:Dk.aq}{i:Int}{b:List Nat}(h:d.off=true):Dk.write d i b=(d,6):=by unfold Dk.write;rw[if_pos h]
theorem jU{d:Dk.aq}(h:d.off=true):Dk.sync d=(d,6):=by unfold Dk.sync;rw[if_pos h]
theorem Ro.bG{A:Nat->Prop}{n:Nat}{d e:Dk.aq}(h:Ro A n d e)(f:Wl.aY n d):Wl.aY n e:=by
 induction h with
 |refl=>exact f
 | @write e i b _ hA hi hb ih=>
  cases ho:e.off with
  |true=>rw[iY ho];exact ih
  |false=>rw[(Wl.dV ih ho hi hb).1];exact(Wl.dV ih ho hi hb).2
 | @sync e _ ih=>
  cases ho:e.off with
  |true=>rw[jU ho];exact ih
  |false=>
   rcases Wl.gH ih ho with⟨c,a,-⟩|⟨c,a,-⟩
   ·rw[c];exact a
   ·rw[c];exact a
structure Op(A:Nat->Prop)(n:Nat)(d:Dk.aq)(r:Dk.aq×Nat):Prop where
 ro:Ro A n d r.1
 calm:Wl.Calm n d->r.2=0/\Wl.Calm n r.1
 err:r.2=0\/r.2=6
 on:r.2=0->r.1.off=false
theorem iX{A:Nat->Prop}{n:Nat}{d:Dk.aq}(h:Wl.aY n d){i:Nat}(j:A i)(a:i<n){b:List Nat}(c:Dk.fI b):Op A n d (Dk.write d (i:Int) b):=by
 refine⟨(Ro.refl d).write j a c,fun f=>?_,?_,?_⟩
 ·rw[(Wl.dV h f.off a c).1];have g:=Wl.uM f i b;refine⟨?_,g⟩;show(if(Dk.cj (Dk.put d i b)).off then 6 else 0)=0;rw[g.off];rfl
 ·cases ho:d.off with
  |true=>rw[iY ho];exact Or.inr rfl
  |false=>
   rw[(Wl.dV h ho a c).1];show(if _ then 6 else 0)=0\/(if _ then 6 else 0)=6;split
   ·exact Or.inr rfl
   ·exact Or.inl rfl
 ·cases ho:d.off with
  |true=>rw[iY ho];intro e;cases e
  |false=>
   rw[(Wl.dV h ho a c).1];show(if(Dk.cj (Dk.put d i b)).off then 6 else 0)=0->_;cases hg:(Dk.cj (Dk.put d i b)).off with
   |true=>intro e;cases e
   |false=>exact fun _=>rfl
theorem jy{A:Nat->Prop}{n:Nat}{d:Dk.aq}(h:Wl.aY n d):Op A n d (Dk.sync d):=by
 refine⟨(Ro.refl d).sync,fun b=>?_,?_,?_⟩
 ·rcases Wl.gH h b.off with⟨-,-,e⟩|⟨a,-,c⟩
  ·exact absurd b e
  ·rw[a];exact⟨rfl,c b⟩
 ·cases ho:d.off with
  |true=>rw[jU ho];exact Or.inr rfl
  |false=>
   rcases Wl.gH h ho with⟨a,-,-⟩|⟨a,-,-⟩
   ·rw[a];exact Or.inr rfl
   ·rw[a];exact Or.inl rfl
 ·cases ho:d.off with
  |true=>rw[jU ho];intro e;cases e
  |false=>
   unfold Dk.sync;rw[if_neg (by rw[ho];decide)];cases hg:(Dk.cj d).off with
   |true=>rw[if_pos rfl];intro e;cases e
   |false=>rw[if_neg (by decide)];exact fun _=>hg
theorem Op.ke{A:Nat->Prop}{n:Nat}{d:Dk.aq}{r:Dk.aq×Nat}(h:Op A n d r){f:Dk.aq->Dk.aq×Nat}(hf:r.2=0->Op A n r.1 (f r.1)):Op A n d (Rg.ke r f):=by
 by_cases h0:r.2=0
 ·rw[et f h0];have k:=hf h0;exact⟨h.ro.trans k.ro,fun a=>k.calm (h.calm a).2,k.err,k.on⟩
 ·rw[cF f h0];exact h
theorem sy{A:Nat->Prop}{n:Nat}{d:Dk.aq}(h:d.off=false):Op A n d (d,0):=⟨.refl d,fun a=>⟨rfl,a⟩,Or.inl rfl,fun _=>h⟩
theorem xy{A:Nat->Prop}{n:Nat}{d:Dk.aq}(h:d.off=true):Op A n d (d,6):=⟨.refl d,(fun a=>by have:=a.off;rw[h]at this;cases this),Or.inr rfl,fun e=>by cases e⟩
theorem gF{n:Nat}{d:Dk.aq}(h:Wl.aY n d){i:Nat}(c:i<n):Dk.read d (i:Int)=if d.off then([],6)else(Dk.sv d i,0):=by
 have b:=h.sz;unfold Dk.read;by_cases a:d.off=true
 ·rw[if_pos a,if_pos a]
 ·rw[if_neg a,if_neg a,if_neg (by unfold Dk.bad;omega),Int.toNat_natCast];rfl
theorem nX{n:Nat}{d:Dk.aq}(h:Wl.aY n d)(a:d.off=false){i:Nat}(b:i<n):Dk.read d (i:Int)=(Dk.sv d i,0):=by rw[gF h b,a];rfl
theorem gP{d:Dk.aq}{i:Nat}(h:QS d i):Dk.sv d i=lv d i:=by
 unfold Dk.sv;cases hw:d.waits.getD i none with
 |none=>rfl
 |some x=>exact h x hw
theorem mC{n:Nat}{d:Dk.aq}(h:Wl.aY n d){i:Nat}(a:i<n){b:List Nat}(c:Dk.fI b):
 (∀k,lv (Dk.write d (i:Int) b).1 k=lv d k)/\(∀k,wv (Dk.write d (i:Int) b).1 k=wv d k\/(k=i/\wv (Dk.write d (i:Int) b).1 k=some b))/\
 ((Dk.write d (i:Int) b).2=0->∀k,wv (Dk.write d (i:Int) b).1 k=if k=i then some b else wv d k):=by
 cases ho:d.off with
 |true=>rw[iY ho];exact⟨fun _=>rfl,fun _=>Or.inl rfl,fun e=>by cases e⟩
 |false=>
  rw[(Wl.dV h ho a c).1];obtain⟨g,f,-,-⟩:=Dk.ee (Dk.put d i b);have hw:∀k,wv (Dk.cj (Dk.put d i b)) k=if k=i then some b else wv d k:=fun k=>by
   unfold wv;rw[f,Wl.gE (by rw[h.ok.w,h.sz];exact a)];by_cases e:i=k
   ·rw[if_pos e,if_pos e.symm]
   ·rw[if_neg e,if_neg (Ne.symm e)]
  refine⟨fun k=>by unfold lv;rw[g];rfl,fun k=>?_,fun _=>hw⟩;by_cases e:k=i
  ·exact Or.inr ⟨e,by rw[hw k,if_pos e]⟩
  ·exact Or.inl (by rw[hw k,if_neg e])
theorem lJ{n:Nat}{d:Dk.aq}(h:Wl.aY n d):
 ((Dk.sync d).2=0->∀k,k<n->lv (Dk.sync d).1 k=(wv d k).getD (lv d k)/\wv (Dk.sync d).1 k=none)/\
 ((Dk.sync d).2≠0->∀k,lv (Dk.sync d).1 k=lv d k/\wv (Dk.sync d).1 k=wv d k):=by
 cases ho:d.off with
 |true=>rw[jU ho];exact⟨(fun e=>by cases e),fun _ _=>⟨rfl,rfl⟩⟩
 |false=>
  obtain⟨b,a,-,-⟩:=Dk.ee d;rcases Wl.gH h ho with⟨e,-,-⟩|⟨e,-,-⟩
  ·rw[e];exact⟨(fun e=>by cases e),fun _ k=>⟨by unfold lv;rw[b],by unfold wv;rw[a]⟩⟩
  ·rw[e];refine⟨fun _ k c=>⟨?_,Wl.gp _ _⟩,fun e=>absurd rfl e⟩;show(Dk.last (Dk.cj d)).aP.getD k []=_;rw[Dk.dY (Dk.mb h.ok) (by rw[Dk.mV,h.sz];exact c),b,a];rfl
theorem kL{n:Nat}{d:Dk.aq}(h:Wl.aY n d)(a:List Nat){k:Nat}(b:k<n):
 wv (Dk.ay d a) k=none/\((wv d k=none->lv (Dk.ay d a) k=lv d k)/\∀x,wv d k=some x->∃p,lv (Dk.ay d a) k=Dk.pick p (lv d k) x):=by
 refine⟨Wl.gp _ _,?_⟩;have c:=Dk.eL h.ok a (i:=k) (by rw[h.sz];exact b);unfold lv wv;rw[c];refine⟨fun e=>by rw[e],fun x e=>⟨_,by rw[e]⟩⟩
theorem eK{n:Nat}{d:Dk.aq}(h:Wl.aY n d)(a:List Nat){k:Nat}(c:k<n)(b:QS d k):lv (Dk.ay d a) k=lv d k:=by
 obtain⟨-,g,f⟩:=kL h a c;cases hw:wv d k with
 |none=>exact g hw
 |some x=>
  obtain⟨p,e⟩:=f x hw;rw[e,b x hw,Wl.kv]
theorem kZ{n:Nat}{d:Dk.aq}(h:Wl.aY n d)(h0:(Dk.sync d).2=0){k:Nat}(b:k<n)(a:QS d k):lv (Dk.sync d).1 k=lv d k/\wv (Dk.sync d).1 k=none:=by
 obtain⟨e,c⟩:=(lJ h).1 h0 k b;refine⟨?_,c⟩;rw[e];cases hw:wv d k with
 |none=>rfl
 |some x=>exact a x hw
theorem mN{A:Nat->Prop}{n:Nat}:∀(L:List (List Nat)){d:Dk.aq}{p:Nat},Wl.aY n d->d.off=false->(∀s∈L,Dk.fI s)->p+L.length<=n->(∀j,j<L.length->A (p+j))->Op A n d (Dk.jk d p L)
 | [],d,p,_,ho,_,_,_=>sy ho
 |b::r,d,p,h,_,hs,hp,hA=>by
  simp only[List.length_cons]at hp;have a:Op A n d (Dk.write d (p:Int) b):=iX h (hA 0 (by simp)) (by omega) (hs b (List.mem_cons_self ..));have c:=a.ke (f:=fun e=>Dk.jk e (p+1) r) fun h0=>mN r (a.ro.bG h) (a.on h0) (fun s hm=>hs s (List.mem_cons_of_mem _ hm)) (by omega) fun j g=>by
   have:=hA (j+1) (by simp;omega);rw[show p+1+j=p+(j+1)by omega];exact this
  exact c
theorem rO{n:Nat}:∀(L:List (List Nat)){d:Dk.aq}{p:Nat},Wl.aY n d->(∀s∈L,Dk.fI s)->p+L.length<=n->
 (∀k,lv (Dk.jk d p L).1 k=lv d k)/\(∀k,wv (Dk.jk d p L).1 k=wv d k\/(p<=k/\k<p+L.length/\wv (Dk.jk d p L).1 k=some (L.getD (k-p) [])))/\
 ((Dk.jk d p L).2=0->∀k,wv (Dk.jk d p L).1 k=if p<=k/\k<p+L.length then some (L.getD (k-p) [])else wv d k)
 | [],d,p,_,_,_=>⟨fun _=>rfl,fun _=>Or.inl rfl,fun _ k=>by rw[if_neg (by simp)];rfl⟩
 |b::r,d,p,h,hs,hp=>by
  simp only[List.length_cons]at hp;have c:=hs b (List.mem_cons_self ..);obtain⟨w1,w2,w3⟩:=mC h (i:=p) (by omega) c;have m:=((Ro.refl d).write (A:=fun _=>True) (n:=n) (i:=p) trivial (by omega) c).bG h;show(∀k,lv (ke (Dk.write d (p:Int) b) fun e=>Dk.jk e (p+1) r).1 k=lv d k)/\(∀k,wv (ke (Dk.write d (p:Int) b) fun e=>Dk.jk e (p+1) r).1 k=wv d k\/(p<=k/\k<p+(b::r).length/\wv (ke (Dk.write d (p:Int) b) fun e=>Dk.jk e (p+1) r).1 k=some ((b::r).getD (k-p) [])))/\
   ((ke (Dk.write d (p:Int) b) fun e=>Dk.jk e (p+1) r).2=0->∀k,wv (ke (Dk.write d (p:Int) b) fun e=>Dk.jk e (p+1) r).1 k=if p<=k/\k<p+(b::r).length then some ((b::r).getD (k-p) [])else wv d k)
  by_cases h0:(Dk.write d (p:Int) b).2=0
  ·rw[et _ h0];obtain⟨r1,r2,l⟩:=rO r (p:=p+1) m (fun s hm=>hs s (List.mem_cons_of_mem _ hm)) (by omega);have hw:=w3 h0;refine⟨fun k=>(r1 k).trans (w1 k),fun k=>?_,fun e k=>?_⟩
   ·rcases r2 k with e|⟨j,g,o⟩
    ·rw[e,hw k];by_cases a:k=p
     ·refine Or.inr ⟨by omega,by simp;omega,?_⟩;rw[if_pos a,a,Nat.sub_self];rfl
     ·exact Or.inl (if_neg a)
    ·refine Or.inr ⟨by omega,by simp;omega,?_⟩;rw[o,show k-p=(k-(p+1))+1 by omega];rfl
   ·rw[l e k];by_cases f:p+1<=k/\k<p+1+r.length
    ·rw[if_pos f,if_pos (by simp;omega),show k-p=(k-(p+1))+1 by omega];rfl
    ·rw[if_neg f,hw k];by_cases a:k=p
     ·rw[if_pos a,if_pos (by simp;omega),a,Nat.sub_self];rfl
     ·rw[if_neg a,if_neg (by simp;omega)]
  ·rw[cF _ h0];refine⟨w1,fun k=>?_,fun e=>absurd e h0⟩;rcases w2 k with e|⟨j,g⟩
   ·exact Or.inl e
   ·refine Or.inr ⟨by omega,by simp;omega,?_⟩;rw[g,j,Nat.sub_self];rfl
theorem l8{A:Nat->Prop}{n:Nat}:∀(k:Nat){d:Dk.aq}{p:Nat},Wl.aY n d->0<k->p+k<=n->(∀j,j<k->A (p+j))->Op A n d (bV d p k)
 |0,_,_,_,h,_,_=>absurd h (Nat.lt_irrefl 0)
 |k+1,d,p,h,_,hp,hA=>by
  unfold bV;cases ho:d.off with
  |true=>
   rw[gF h (by omega),if_pos ho];exact xy ho
  |false=>
   rw[nX h ho (by omega)];dsimp only;rw[if_neg (show¬((0:Nat)≠0)by decide)];have a:∀{e:Dk.aq},Wl.aY n e->e.off=false->Op A n e (bV e (p+1) k):=fun{e}he b=>by
    rcases Nat.eq_zero_or_pos k with c|c
    ·subst c;exact sy b
    ·exact(l8 k he c (by omega) fun j g=>by
      have:=hA (j+1) (by omega);rw[show p+1+j=p+(j+1)by omega];exact this)
   split
   ·have f:Op A n d (Dk.write d (p:Int) Dk.blank):=iX h (hA 0 (by omega)) (by omega) Dk.cR;exact f.ke fun h0=>a (f.ro.bG h) (f.on h0)
   ·exact a h ho
theorem kM{n:Nat}:∀(k:Nat){d:Dk.aq}{p:Nat},Wl.aY n d->p+k<=n->(∀j,j<k->QS d (p+j))->
 (∀i,lv (bV d p k).1 i=lv d i)/\∀i,wv (bV d p k).1 i=wv d i\/(p<=i/\i<p+k/\wv (bV d p k).1 i=some (lv d i))
 |0,_,_,_,_,_=>⟨fun _=>rfl,fun _=>Or.inl rfl⟩
 |k+1,d,p,h,hp,hq=>by
  unfold bV;cases ho:d.off with
  |true=>
   rw[gF h (by omega),if_pos ho];exact⟨fun _=>rfl,fun _=>Or.inl rfl⟩
  |false=>
   rw[nX h ho (by omega)];dsimp only;rw[if_neg (show¬((0:Nat)≠0)by decide)];split
   ·next b=>
    have b:Dk.sv d p=Dk.blank:=b;have a:=hq 0 (by omega);rw[Nat.add_zero]at a;rw[gP a]at b;obtain⟨w1,w2,w3⟩:=mC h (i:=p) (by omega) Dk.cR;by_cases h0:(Dk.write d (p:Int) Dk.blank).2=0
    ·rw[et _ h0];have q:=((Ro.refl d).write (A:=fun _=>True) (n:=n) (i:=p) trivial (by omega) Dk.cR).bG h;have hw:=w3 h0;obtain⟨r1,r2⟩:=kM k (p:=p+1) q (by omega) fun j o x m=>by
      rw[hw,if_neg (by omega)]at m;rw[w1];exact hq (j+1) (by omega) x (by rw[<-m];congr 1;omega) |>.trans (by congr 1;omega)
     refine⟨fun i=>(r1 i).trans (w1 i),fun i=>?_⟩;rcases r2 i with e|⟨l,g,f⟩
     ·rw[e,hw i];by_cases c:i=p
      ·refine Or.inr ⟨by omega,by omega,?_⟩;rw[if_pos c,c,b]
      ·exact Or.inl (if_neg c)
     ·exact Or.inr ⟨by omega,by omega,by rw[f,w1]⟩
    ·rw[cF _ h0];refine⟨w1,fun i=>?_⟩;rcases w2 i with e|⟨l,g⟩
     ·exact Or.inl e
     ·exact Or.inr ⟨by omega,by omega,by rw[g,l,b]⟩
   ·obtain⟨r1,r2⟩:=kM k (p:=p+1) h (by omega) fun j o=>by
     have:=hq (j+1) (by omega);rw[show p+1+j=p+(j+1)by omega];exact this
    refine⟨r1,fun i=>?_⟩;rcases r2 i with e|⟨l,g,f⟩
    ·exact Or.inl e
    ·exact Or.inr ⟨by omega,by omega,f⟩
end Go.Proofs.YtbpodmallknhfaaGreat.Rg
