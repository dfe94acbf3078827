/- Parts of a proof. Conditions: as each row says. -/
import Derived.Test.YtbpodmallknhfaaGreatCr21
import Derived.Test.YtbpodmallknhfaaGreatCr24
import Derived.RangeFuncCalls
namespace Go.Proofs.YtbpodmallknhfaaGreat
open Go.RowKit Go.Shelf
attribute [local go_sem] Oper.semAt_some
theorem yS(a b:Nat)(c:a<256)(g:b<256):bits .or .i64 (a:Int) (256*(b:Int))=((a+256*b:Nat):Int):=by
 have f:(BitVec.ofInt 64 (a:Int)).toNat=a:=by
  rw[BitVec.ofInt_natCast,BitVec.toNat_ofNat];exact Nat.mod_eq_of_lt (by omega)
 have d:(BitVec.ofInt 64 (256*(b:Int))).toNat=256*b:=by
  rw[show(256*(b:Int))=((256*b:Nat):Int)by omega,BitVec.ofInt_natCast,BitVec.toNat_ofNat];exact Nat.mod_eq_of_lt (by omega)
 show IntKind.i64.wrap ((BitVec.ofInt 64 (a:Int)|||BitVec.ofInt 64 (256*(b:Int))).toNat:Int)=_;have e:a|||256*b=a+256*b:=by
  have:=Nat.two_pow_add_eq_or_of_lt (i:=8) (b:=a) c b;rw[Nat.or_comm,Nat.add_comm];exact this.symm
 rw[BitVec.toNat_or,f,d,e];exact IntWalk.i64_in _ (by omega)
def xb(S:Value)(g e d c a9 b a N:Nat)(i:Nat)(u:Value)(_:World):Prop:=
 match i with
 |0=>u=S
 |1=>u=.pointer (some ⟨g,e,none⟩)
 |2=>u=.int .u8 (a9:Int)
 |3=>u=S
 |4=>u=.pointer (some ⟨g,d,none⟩)
 |5=>u=.int .u8 (b:Int)
 |6=>u=.int .i64 (b:Int)
 |7=>u=S
 |8=>u=.pointer (some ⟨g,c,none⟩)
 |9=>u=.int .u8 (a:Int)
 |10=>u=.int .i64 (a:Int)
 |11=>u=.int .i64 ((256*a:Nat):Int)
 |12=>u=.int .i64 (N:Int)
 |_=>True
structure vg(W:World)(A a9 N:Nat)(D:Nat->Bool)(xs:Nat->Value)(w:World):Prop where
 below:Below A W w
 sz:A<=w.heap.size
 t0:D 13=true->∃B,xs 13=.pointer (some ⟨B,0,none⟩)/\A<=B/\∃v,Boxed w B 5 v/\(D 15=true->v=.int .u8 (a9:Int))
 n0:D 14=true->∃B,xs 14=.pointer (some ⟨B,0,none⟩)/\A<=B/\∃v,Boxed w B 3 v/\(D 16=true->v=.int .i64 (N:Int))
 GP:D 15=true->D 13=true
 GO:D 16=true->D 14=true
section
variable{W:World}{A a9 N:Nat}{D:Nat->Bool}{xs:Nat->Value}{w:World}
theorem vg.quiet(h:vg W A a9 N D xs w)(k:Nat)(u:Value)(g:(k !=13&&k !=14&&k !=15&&k !=16)=true):vg W A a9 N (Ord.bP D k) (Ord.set xs k u) w:=by
 simp only[Bool.and_eq_true,bne_iff_ne]at g;obtain⟨⟨⟨j,i⟩,m⟩,l⟩:=g;have d:Ord.bP D k 13=D 13:=if_neg (Ne.symm j);have c:Ord.bP D k 14=D 14:=if_neg (Ne.symm i);have b:Ord.bP D k 15=D 15:=if_neg (Ne.symm m);have a:Ord.bP D k 16=D 16:=if_neg (Ne.symm l);have f:Ord.set xs k u 13=xs 13:=if_neg (Ne.symm j);have e:Ord.set xs k u 14=xs 14:=if_neg (Ne.symm i);exact⟨h.below,h.sz,by rw[d,b,f];exact h.t0,by rw[c,a,e];exact h.n0,by rw[d,b];exact h.GP,by rw[c,a];exact h.GO⟩
theorem vg.Gt(h:vg W A a9 N D xs w)(f:D 13=false):vg W A a9 N (Ord.bP D 13) (Ord.set xs 13 (.pointer (some ⟨w.heap.size,0,none⟩))) (w.alloc (.cells #[.int .u8 0] 5)):=by
 have b:Ord.bP D 13 14=D 14:=if_neg (by decide);have d:Ord.bP D 13 15=D 15:=if_neg (by decide);have a:Ord.bP D 13 16=D 16:=if_neg (by decide);have c:Ord.set xs 13 (.pointer (some ⟨w.heap.size,0,none⟩)) 14=xs 14:=if_neg (by decide);have g:D 15≠true:=fun e=>by rw[h.GP e]at f;cases f
 refine⟨h.below.alloc h.sz _,by have:=h.sz;simp;omega,fun _=>⟨_,if_pos rfl,h.sz,_,Boxed.new _ _ _,fun e=>absurd (d▸e) g⟩,fun e=>?_,fun _=>if_pos rfl,by rw[b,a];exact h.GO⟩;rw[b]at e;obtain⟨B,l,k,v,j,i⟩:=h.n0 e;exact⟨B,by rw[c];exact l,k,v,j.alloc _,by rw[a];exact i⟩
theorem vg.Gs(h:vg W A a9 N D xs w)(f:D 14=false):vg W A a9 N (Ord.bP D 14) (Ord.set xs 14 (.pointer (some ⟨w.heap.size,0,none⟩))) (w.alloc (.cells #[.int .i64 0] 3)):=by
 have b:Ord.bP D 14 13=D 13:=if_neg (by decide);have a:Ord.bP D 14 15=D 15:=if_neg (by decide);have d:Ord.bP D 14 16=D 16:=if_neg (by decide);have c:Ord.set xs 14 (.pointer (some ⟨w.heap.size,0,none⟩)) 13=xs 13:=if_neg (by decide);have g:D 16≠true:=fun e=>by rw[h.GO e]at f;cases f
 refine⟨h.below.alloc h.sz _,by have:=h.sz;simp;omega,fun e=>?_,fun _=>⟨_,if_pos rfl,h.sz,_,Boxed.new _ _ _,fun e=>absurd (d▸e) g⟩,by rw[b,a];exact h.GP,fun _=>if_pos rfl⟩;rw[b]at e;obtain⟨B,l,k,v,j,i⟩:=h.t0 e;exact⟨B,by rw[c];exact l,k,v,j.alloc _,by rw[a];exact i⟩
theorem nK{B b:Nat}{t a:TypeId}{u v:Value}(h:Boxed w B t u)(k:Boxed w b a v)(c:t≠a):B≠b:=by
 intro e;subst e;have:=(show w.heap[B]?=_ from h).symm.trans (show w.heap[B]?=_ from k);simp only[Option.some.injEq,Obj.cells.injEq]at this;exact c this.2.1
theorem vg.F5(h:vg W A a9 N D xs w){B:Nat}{v:Value}(o:xs 13=.pointer (some ⟨B,0,none⟩))(a:A<=B)(l:Boxed w B 5 v)(i:D 13=true):vg W A a9 N (Ord.bP D 15) (Ord.set xs 15 undef) (w.setCell ⟨B,0,none⟩ (.int .u8 (a9:Int))):=by
 have j:Ord.bP D 15 13=D 13:=if_neg (by decide);have c:Ord.bP D 15 14=D 14:=if_neg (by decide);have b:Ord.bP D 15 16=D 16:=if_neg (by decide);have f:Ord.set xs 15 undef 13=xs 13:=if_neg (by decide);have d:Ord.set xs 15 undef 14=xs 14:=if_neg (by decide);have k:=grownBy_setCell' w B (.int .u8 (a9:Int));refine⟨h.below.setCell (p:=⟨B,0,none⟩) a _,Nat.le_trans h.sz k.size,fun _=>⟨B,by rw[f];exact o,a,_,l.set _,fun _=>rfl⟩,fun e=>?_,fun _=>by rw[j];exact i,by rw[c,b];exact h.GO⟩;rw[c]at e;obtain⟨t,s,r,n,m,q⟩:=h.n0 e;have g:=nK l m (by decide);exact⟨t,by rw[d];exact s,r,n,m.kept k (by intro e;simp only[Option.some.injEq]at e;exact g e.symm),by rw[b];exact q⟩
theorem vg.FZ(h:vg W A a9 N D xs w){B:Nat}{v:Value}(o:xs 14=.pointer (some ⟨B,0,none⟩))(a:A<=B)(l:Boxed w B 3 v)(i:D 14=true):vg W A a9 N (Ord.bP D 16) (Ord.set xs 16 undef) (w.setCell ⟨B,0,none⟩ (.int .i64 (N:Int))):=by
 have c:Ord.bP D 16 13=D 13:=if_neg (by decide);have j:Ord.bP D 16 14=D 14:=if_neg (by decide);have b:Ord.bP D 16 15=D 15:=if_neg (by decide);have f:Ord.set xs 16 undef 13=xs 13:=if_neg (by decide);have d:Ord.set xs 16 undef 14=xs 14:=if_neg (by decide);have k:=grownBy_setCell' w B (.int .i64 (N:Int));refine⟨h.below.setCell (p:=⟨B,0,none⟩) a _,Nat.le_trans h.sz k.size,fun e=>?_,fun _=>⟨B,by rw[d];exact o,a,_,l.set _,fun _=>rfl⟩,by rw[c,b];exact h.GP,fun _=>by rw[j];exact i⟩;rw[c]at e;obtain⟨t,s,r,n,m,q⟩:=h.t0 e;have g:=nK l m (by decide);exact⟨t,by rw[f];exact s,r,n,m.kept k (by intro e;simp only[Option.some.injEq]at e;exact g e.symm),by rw[b];exact q⟩
end
def Ef(P C:Value)(N a9:Nat)(L:List Nat)(i:Nat)(u:Value)(w:World):Prop:=
 match i with
 |0=>u=P
 |1=>u=C
 |2=>u=.int .i64 (N:Int)
 |3=>u=.int .u8 (a9:Int)
 |4=>aV w u (Rg.tag N a9)
 |5=>u=.bool (decide (L=Rg.tag N a9))
 |6=>u=.bool (!decide (L=Rg.tag N a9))
 |_=>True
theorem kU{β:Type}{S:Nat->Prop}{Z:Nat}{W2:World}(f:∀k,Z<=k->S k):OwnFrom Z (fun(_:β)W=>Touch S W2 W):=fun _ _ _ row hs a d=>by
 refine⟨a.os.trans hs.os,a.tape.trans hs.tape,a.output.trans hs.output,Nat.le_trans hs.size a.size,fun i c b=>?_⟩;rw[<-hs.block i c b];exact a.block i (Nat.lt_of_lt_of_le c hs.size) fun e=>b (f i (d i e.symm).1)
theorem iH{β:Type}{Z:Nat}(p:β->Prop):OwnFrom Z (fun(b:β)(_:World)=>p b):=fun _ _ _ _ hs _ _=>hs
theorem j1{β:Type}{Z k:Nat}{o:Obj}(c:k<Z):OwnFrom Z (fun(_:β)(W:World)=>W.heap[k]?=some o):=fun _ _ _ row hs b a=>
 (b.block k (Array.getElem?_eq_some_iff.1 hs).1 fun e=>by have:=(a k e.symm).1;omega).trans hs
def oK(s:List Nat)(pre:List Nat):List Nat:=pre.flatMap fun i=>(Rg.part 64 s (ie 10 i)).drop 12
def Hh(s:List Nat)(w:World)(e:Ending)(w':World):Prop:=∃(n k:Nat)(u:Value)(ok:Bool),e=.returned (.tuple #[.int .i64 (n:Int),fZ k u,.bool ok])/\(∃p l c,u=.slice p l c)/\Below w.heap.size w w'/\
 (ok=true->Rg.Told s/\Pg.cD (Rg.cut s)=0/\n=Rg.dU s/\k=Pg.cC (Rg.cut s)/\Own w.heap.size w' u (Pg.cZ (Rg.cut s)))/\(ok=false->¬(Rg.Told s/\Pg.cD (Rg.cut s)=0))
theorem oq(tmps:Array Value)(w:World)(f e d:Nat)(n a b c:Value)(h0:tmps.getD 2 undef=.pointer (some ⟨f,0,none⟩))(o:tmps.getD 3 undef=.pointer (some ⟨e,0,none⟩))(m:tmps.getD 4 undef=.pointer (some ⟨d,0,none⟩))
 (r0:w.heap[f]?=some (.cells #[n] 3 (0,0))) (r1:w.heap[e]?=some (.cells #[a,b] 59 (0,0))) (r2:w.heap[d]?=some (.cells #[c] 4 (0,0))):
 (results Tryz.f70 tmps).run Tryz.prog w=.ok (.tuple #[n,.agg #[a,b],c]) w:=by
 have l:Tryz.f70.results=#[.cell 2 3,.cell 3 59,.cell 4 4]:=rfl;have i:tmps[2]?.getD undef=.pointer (some ⟨f,0,none⟩):=by simpa using h0
 have h:tmps[3]?.getD undef=.pointer (some ⟨e,0,none⟩):=by simpa using o
 have g:tmps[4]?.getD undef=.pointer (some ⟨d,0,none⟩):=by simpa using m
 have c0:=ah r0 0 (v:=n) rfl;have c2:=ah r2 0 (v:=c) rfl;have l1:=run_loadVar_row (P:=Tryz.prog) w e 59 _ _ _ _ r1 Tryz.underlying59 rfl (by kernel_rfl);have k:(loadVar 3 ⟨f,0,none⟩).run Tryz.prog w=.ok n w:=by simp[loadVar,run_underlying Tryz.underlying3,c0]
 have j:(loadVar 4 ⟨d,0,none⟩).run Tryz.prog w=.ok c w:=by simp[loadVar,run_underlying Tryz.underlying4,c2]
 simp[results,l,i,h,g,asAddr,k,l1,j]
theorem AS{s:List Nat}(h:s.length=640):(Rg.rest s 10).length=520:=by
 have:∀m,m<=10->(Rg.rest s m).length=52*m:=fun m=>by
  induction m with
  |zero=>intro _;rfl
  |succ m a=>
   intro hm;rw[Rg.mL,List.length_append,a (by omega),List.length_drop,Rg.eG (by omega)];omega
 exact this 10 (Nat.le_refl _)
def Gu(N kN:Nat)(S:Value)(bE:Bool)(a:Nat)(i:Nat)(u:Value)(_:World):Prop:=
 match i with
 |0=>u=.int .i64 (N:Int)
 |1=>u=.agg #[.int .u64 (kN:Int),S]
 |2=>u=.int .i64 (a:Int)
 |3=>u=.bool bE
 |_=>True
structure xY(W:World)(A N kN:Nat)(S:Value)(bE:Bool)(D:Nat->Bool)(w:World):Prop where
 al:Touch (fun k=>A<=k/\k<A+3) W w
 r0:w.heap[A]?=some (.cells #[if D 4 then .int .i64 (N:Int)else .int .i64 0] 3 (0,0))
 r1:w.heap[A+1]?=some (.cells (if D 5 then#[.int .u64 (kN:Int),S]else#[.int .u64 0,.slice none 0 0]) 59 (0,0))
 r2:w.heap[A+2]?=some (.cells #[if D 6 then .bool bE else .bool false] 4 (0,0))
section
variable{W:World}{A N kN:Nat}{S:Value}{bE:Bool}{D:Nat->Bool}{w:World}
theorem xY.quiet(h:xY W A N kN S bE D w)(k:Nat)(a:(k !=4&&k !=5&&k !=6)=true):xY W A N kN S bE (Ord.bP D k) w:=by
 simp only[Bool.and_eq_true,bne_iff_ne]at a;have d:Ord.bP D k 4=D 4:=if_neg (Ne.symm a.1.1);have c:Ord.bP D k 5=D 5:=if_neg (Ne.symm a.1.2);have b:Ord.bP D k 6=D 6:=if_neg (Ne.symm a.2);exact⟨h.al,by rw[d];exact h.r0,by rw[c];exact h.r1,by rw[b];exact h.r2⟩
theorem xY.Hy(h:xY W A N kN S bE D w):xY W A N kN S bE (Ord.bP D 4) (w.setCell ⟨A,0,none⟩ (.int .i64 (N:Int))):=by
 have t:Touch (fun k=>k=A) w (w.setCell ⟨A,0,none⟩ (.int .i64 (N:Int))):=Touch.set A 0 _ rfl;exact⟨h.al.trans (t.mono fun k _ e=>by omega),aT (i:=0) h.r0 _,t.row h.r1 (by omega),t.row h.r2 (by omega)⟩
theorem xY.Hx(h:xY W A N kN S bE D w):xY W A N kN S bE (Ord.bP D 5) ((w.setCell ⟨A+1,0,none⟩ (.int .u64 (kN:Int))).setCell ⟨A+1,1,none⟩ S):=by
 have t:Touch (fun k=>k=A+1) w ((w.setCell ⟨A+1,0,none⟩ (.int .u64 (kN:Int))).setCell ⟨A+1,1,none⟩ S):=(Touch.set (S:=fun k=>k=A+1) (A+1) 0 _ rfl).trans (Touch.set (A+1) 1 _ rfl);refine⟨h.al.trans (t.mono fun k _ e=>by omega),t.row h.r0 (by omega),?_,t.row h.r2 (by omega)⟩;have b:Ord.bP D 5 5=true:=if_pos rfl;rw[b,if_pos rfl];have a:=h.r1;cases hd:D 5 with
 |true=>rw[hd,if_pos rfl]at a;exact aT (i:=1) (aT (i:=0) a (.int .u64 (kN:Int))) S
 |false=>rw[hd,if_neg (by decide)]at a;exact aT (i:=1) (aT (i:=0) a (.int .u64 (kN:Int))) S
theorem xY.Hv(h:xY W A N kN S bE D w):xY W A N kN S bE (Ord.bP D 6) (w.setCell ⟨A+2,0,none⟩ (.bool bE)):=by
 have t:Touch (fun k=>k=A+2) w (w.setCell ⟨A+2,0,none⟩ (.bool bE)):=Touch.set (A+2) 0 _ rfl;exact⟨h.al.trans (t.mono fun k _ e=>by omega),t.row h.r0 (by omega),t.row h.r1 (by omega),aT (i:=0) h.r2 _⟩
end
theorem qJ{w:World}{B:Nat}{c:Bool}{a b x y:Value}{T:TypeId}(h:w.heap[B]?=some (.cells (if c then#[a,b]else#[x,y]) T (0,0)))(i:Nat)(d:i<2):∃v,w.cell? ⟨B,i,none⟩=some v:=by
 cases c with
 |true=>
  rw[if_pos rfl]at h;obtain rfl|rfl:i=0\/i=1:=by omega
  ·exact⟨_,ah h 0 rfl⟩
  ·exact⟨_,ah h 1 rfl⟩
 |false=>
  rw[if_neg (by decide)]at h;obtain rfl|rfl:i=0\/i=1:=by omega
  ·exact⟨_,ah h 0 rfl⟩
  ·exact⟨_,ah h 1 rfl⟩
theorem kx{base:Nat}{S:Nat->Prop}{w w':World}{v:Value}{l:List Nat}(h:Own base w v l)(c:Touch S w w')(hs:∀k,base<=k->¬S k):Own base w' v l:=by
 refine⟨⟨h.own.1,?_⟩,h.small,h.len⟩;rcases h.own.2 with e|⟨g,cap,cur,b,a,d,r⟩
 ·exact Or.inl e
 ·exact Or.inr ⟨g,cap,cur,b,a,c.row d (hs g a),r⟩
theorem BI(n:Nat):((n:Int)==0)=decide (n=0):=by
 by_cases h:n=0
 ·rw[h];rfl
 ·have:((n:Int)==0)=false:=by rw[beq_eq_false_iff_ne];omega
  rw[this,decide_eq_false h]
theorem AQ(s:List Nat):∀pre:List Nat,(oK s pre).length<=52*pre.length
 | []=>Nat.le_refl _
 |y::q=>by
  have b:=AQ s q;have a:=Rg.su 64 s (ie 10 y);unfold oK at*
  rw[List.flatMap_cons,List.length_append,List.length_drop,List.length_cons];omega
theorem Touch.F7{S:Nat->Prop}{a b:World}(h:Touch S a b)(k:Nat)(c:k<a.heap.size)(d:¬S k):b.cell? ⟨k,0,none⟩=a.cell? ⟨k,0,none⟩:=by
 have:=h.block k c d;unfold World.cell?;rw[this]
def GQ(v P C:Value)(i:Nat)(u:Value)(_:World):Prop:=
 match i with
 |0=>u=v
 |1=>u=P
 |2=>u=C
 |_=>True
structure xZ(W:World)(H:Nat)(v:Value)(L Y:List Nat)(D:Nat->Bool)(xs:Nat->Value)(w:World):Prop where
 bQ:KeepsOthers W w
 al:Touch (fun k=>k=H\/H+3<=k) W w
 sz:H+3<=w.heap.size
 s0:D 3=false->Own (H+3) w v L/\Boxed w H 57 v
 s1:D 3=true->Own (H+3) w (xs 3) (L++Y)/\∃u,Boxed w H 57 u/\(D 4=true->u=xs 3)
section
variable{W:World}{H:Nat}{v:Value}{L Y:List Nat}{D:Nat->Bool}{xs:Nat->Value}{w:World}
theorem xZ.any(h:xZ W H v L Y (fun _=>false) (fun _=>undef) w)(xs:Nat->Value):xZ W H v L Y (fun _=>false) xs w:=⟨h.bQ,h.al,h.sz,h.s0,fun e=>by cases e⟩
theorem xZ.quiet(h:xZ W H v L Y D xs w)(k:Nat)(u:Value)(a:(k !=3&&k !=4)=true):xZ W H v L Y (Ord.bP D k) (Ord.set xs k u) w:=by
 simp only[Bool.and_eq_true,bne_iff_ne]at a;have b:Ord.bP D k 3=D 3:=if_neg (Ne.symm a.1);have d:Ord.bP D k 4=D 4:=if_neg (Ne.symm a.2);have c:Ord.set xs k u 3=xs 3:=if_neg (Ne.symm a.1);exact⟨h.bQ,h.al,h.sz,by rw[b];exact h.s0,by rw[b,d,c];exact h.s1⟩
theorem xZ.FX(h:xZ W H v L Y D xs w){l:List Oper}(hC:Ord.closed l D)(k:D 3=false)(d:Own (H+3) w v L)(b:Boxed w H 57 v){w3:World}{v3:Value}(c:Own (H+3) w3 v3 (L++Y))(a:w.grownBy w3 v.ownBlock)(m:Ord.waits l 4 3=true):xZ W H v L Y (Ord.bP D 3) (Ord.set xs 3 v3) w3:=by
 have d4:D 4=false:=by
  cases e:D 4 with
  |false=>rfl
  |true=>have:=Ord.aL hC 4 3 m e;rw[k]at this;cases this
 have o:Ord.bP D 3 3=true:=if_pos rfl;have n:Ord.bP D 3 4=D 4:=if_neg (by decide);have g:Ord.set xs 3 v3 3=v3:=if_pos rfl;refine⟨h.bQ.trans (iZ d a),h.al.trans ⟨a.os,a.tape,a.output,a.size,fun i j hs=>a.block i j fun e=>?_⟩,Nat.le_trans h.sz a.size,(fun e=>by rw[o]at e;cases e),fun _=>⟨by rw[g];exact c,v,b.kept a (b.not_row (by decide) d.own),fun e=>by rw[n,d4]at e;cases e⟩⟩;rcases Nat.lt_or_ge i (H+3)with f|f
 ·exact iV d e.symm f
 ·exact hs (Or.inr f)
theorem xZ.FW(h:xZ W H v L Y D xs w)(f:D 3=true)(b:Own (H+3) w (xs 3) (L++Y)){u:Value}(a:Boxed w H 57 u):xZ W H v L Y (Ord.bP D 4) (Ord.set xs 4 undef) (w.setCell ⟨H,0,none⟩ (xs 3)):=by
 have g:Ord.bP D 4 3=D 3:=if_neg (by decide);have c:Ord.set xs 4 undef 3=xs 3:=if_neg (by decide);have d:=grownBy_setCell' w H (xs 3);refine⟨h.bQ.trans (KeepsOthers.setCell _ _ _),h.al.trans (Touch.set H 0 _ (Or.inl rfl)),Nat.le_trans h.sz d.size,(fun e=>by rw[g,f]at e;cases e),fun _=>⟨?_,_,a.set _,fun _=>by rw[c]⟩⟩;rw[c];exact⟨b.own.kept d (.inr (a.not_row (by decide) b.own).symm),b.small,b.len⟩
end
set_option maxRecDepth 100000 in
set_option maxHeartbeats 2000000 in
theorem AB (g off cap : Nat) (s : List Nat) (w : World) (hb : aV w (.slice (some ⟨g, off, none⟩) 640 cap) s) (ai : s.length = 640) :
    CallsIn Fence.wide 5 Tryz.prog 70 #[.slice (some ⟨g, off, none⟩) 640 cap] w fun e w' => Hh s w e w' := by
  refine callsIn_of_wp_marks Tryz.func70 rfl trivial ?_ rfl
  simp only [Tryz.ntmps70, List.size_toArray, List.length_cons, List.length_nil, Nat.reduceAdd, Nat.reduceSub, Array.replicate_succ, Array.replicate_zero, List.push_toArray, List.append_toArray, List.nil_append, List.cons_append]
  have aF := hb.at_ ai 9 (by decide)
  have aK := hb.at_ ai 10 (by decide)
  have aH := hb.at_ ai 11 (by decide)
  have aZ := kA aF
  obtain ⟨A, f⟩ : ∃ A, A = w.heap.size + 3 := ⟨_, rfl⟩
  obtain ⟨W0, R⟩ : ∃ W0, W0 = ((w.alloc (.cells #[.int .i64 0] 3)).alloc (.cells #[.int .u64 0, .slice none 0 0] 59)).alloc (.cells #[.bool false] 4) := ⟨_, rfl⟩
  have ao : W0.heap.size = A := by rw [R, f]; simp
  have ax : W0.heap[w.heap.size]? = some (.cells #[.int .i64 0] 3 (0, 0)) := by
    rw [R]; exact ((Boxed.new w _ _).alloc _).alloc _
  have av : W0.heap[w.heap.size + 1]? = some (.cells #[.int .u64 0, .slice none 0 0] 59 (0, 0)) := by
    have h := heap_alloc_last (w.alloc (.cells #[.int .i64 0] 3)) (.cells #[.int .u64 0, .slice none 0 0] 59)
    rw [World.size_alloc] at h
    have hb := (Below.refl (w.heap.size + 2) ((w.alloc (.cells #[.int .i64 0] 3)).alloc (.cells #[.int .u64 0, .slice none 0 0] 59))).alloc (by simp) (.cells #[.bool false] 4)
    rw [R]
    exact (hb.block (w.heap.size + 1) (by omega)).trans h
  have ar : W0.heap[w.heap.size + 2]? = some (.cells #[.bool false] 4 (0, 0)) := by
    have h := Boxed.new ((w.alloc (.cells #[.int .i64 0] 3)).alloc (.cells #[.int .u64 0, .slice none 0 0] 59)) 4 (.bool false)
    rw [World.size_alloc, World.size_alloc] at h
    rw [R]; exact h
  have dc : Hid (_ ∧ _ ∧ _) := ⟨ax, av, ar⟩
  clear ax av ar
  have aS : Below w.heap.size w W0 := by
    rw [R]
    exact (((Below.refl _ w).alloc (Nat.le_refl _) _).alloc (by simp) _).alloc (by simp; omega) _
  have bE := (aS.cell (p := ⟨g, off + 9, none⟩) aZ).trans aF
  have aM := (aS.cell (p := ⟨g, off + 10, none⟩) aZ).trans aK
  have aJ := (aS.cell (p := ⟨g, off + 11, none⟩) aZ).trans aH
  have aD : g < A := by omega
  obtain ⟨o9, bt⟩ : ∃ o, o = off + 9 := ⟨_, rfl⟩
  obtain ⟨bp, aB⟩ : ∃ o, o = off + 10 := ⟨_, rfl⟩
  obtain ⟨bo, aA⟩ : ∃ o, o = off + 11 := ⟨_, rfl⟩
  obtain ⟨a9, a2⟩ : ∃ a, a = s.getD 9 0 := ⟨_, rfl⟩
  obtain ⟨J, ae⟩ : ∃ a, a = s.getD 10 0 := ⟨_, rfl⟩
  obtain ⟨E, ad⟩ : ∃ a, a = s.getD 11 0 := ⟨_, rfl⟩
  obtain ⟨N, hN⟩ : ∃ N, N = J + 256 * E := ⟨_, rfl⟩
  have l9 : a9 < 256 := by rw [a2]; exact hb.getD 9
  have br : J < 256 := by rw [ae]; exact hb.getD 10
  have bq : E < 256 := by rw [ad]; exact hb.getD 11
  rw [← bt, ← a2] at bE
  rw [← aB, ← ae] at aM
  rw [← aA, ← ad] at aJ
  have H9 := Lib.hid bt
  have dp := Lib.hid aB
  have dn := Lib.hid aA
  have cr := Lib.hid (IntWalk.i64_in (J : Int) (by omega))
  have cq := Lib.hid (IntWalk.i64_in (E : Int) (by omega))
  have da : Hid (Value.int .i64 (IntKind.i64.wrap ((E : Int) * 256)) = .int .i64 ((256 * E : Nat) : Int)) := by
    show _ = _
    rw [IntWalk.i64_in ((E : Int) * 256) (by omega), show (E : Int) * 256 = ((256 * E : Nat) : Int) by omega]
  have de : Hid (Value.int .i64 (bits .or .i64 (J : Int) (256 * (E : Int))) = .int .i64 (N : Int)) := by
    show _ = _
    rw [yS J E br bq, hN]
  have c9 : Hid (W0.heap.size = A) := ao
  have dA := Lib.hid R
  have HA := Lib.hid f
  have cB := Lib.hid a2
  have aX := Lib.hid ae
  have aW := Lib.hid ad
  have HN := Lib.hid hN
  have HL : Hid (a9 < 256 ∧ J < 256 ∧ E < 256) := ⟨l9, br, bq⟩
  have dk := Lib.hid aS
  have bX := Lib.hid hb
  have a8 := Lib.hid ai
  have cz : Hid (640 ≤ cap) := by
    obtain ⟨p, c, hv, r, -⟩ := hb.form
    simp only [Value.slice.injEq] at hv
    show _ ≤ _
    rw [hv.2.2, ← ai]; exact r.1
  clear bt aB aA a2 ae ad hN aF aK aH f aS hb ai
  gi_wp2
  rw [← R]
  clear R ao
  obtain ⟨b, bN⟩ : ∃ b, b = w.heap.size := ⟨_, rfl⟩
  rw [← bN]
  have M := Lib.hid bN
  clear bN aZ
  refine Ord.In.walk (fun _ => trivial) (xb (.slice (some ⟨g, off, none⟩) 640 cap) g o9 bp bo a9 J E N) (vg W0 A a9 N) (fun _ _ => True) (by kernel_rfl) (by kernel_rfl) ?fr ?hfr (fun k u w1 w2 _ h => h) ?hR ?he ?hend
  case hfr =>
    intro xs
    simp only [Ord.fill, Act.put, List.setIfInBounds_toArray, List.set_cons_zero, List.set_cons_succ]
    rfl
  case hR =>
    intro xs
    exact ⟨(Below.refl _ W0).drew, Nat.le_of_eq c9.out.symm, (fun e => by cases e), (fun e => by cases e), (fun e => by cases e), (fun e => by cases e)⟩
  case he =>
    iterate 17 (refine Ord.In.aa (fun D xs w2 hD hC hP hR f K' d => ?_) ?_; rotate_left)
    rotate_left
    ·
      clear f
      go_simp
      exact d _ _ ⟨_, rfl, trivial, hR.quiet 0 _ (by decide), rfl⟩
    ·
      have Z := Ord.ab _ f 0 (by decide)
      simp only [xb] at Z
      simp only [Z] at d ⊢
      clear f
      go_simp
      exact d _ _ ⟨_, rfl, trivial, hR.quiet 1 _ (by decide), by show _ = _; rw [H9.out]⟩
    ·
      have X := Ord.ab _ f 1 (by decide)
      simp only [xb] at X
      simp only [X] at d ⊢
      clear f
      have hc := (hR.below.cell (p := ⟨g, o9, none⟩) aD).trans bE
      go_simp
      exact d _ _ ⟨_, rfl, trivial, hR.quiet 2 _ (by decide), rfl⟩
    ·
      clear f
      go_simp
      exact d _ _ ⟨_, rfl, trivial, hR.quiet 3 _ (by decide), rfl⟩
    ·
      have q3 := Ord.ab _ f 3 (by decide)
      simp only [xb] at q3
      simp only [q3] at d ⊢
      clear f
      go_simp
      exact d _ _ ⟨_, rfl, trivial, hR.quiet 4 _ (by decide), by show _ = _; rw [dp.out]⟩
    ·
      have q4 := Ord.ab _ f 4 (by decide)
      simp only [xb] at q4
      simp only [q4] at d ⊢
      clear f
      have hc := (hR.below.cell (p := ⟨g, bp, none⟩) aD).trans aM
      go_simp
      exact d _ _ ⟨_, rfl, trivial, hR.quiet 5 _ (by decide), rfl⟩
    ·
      have q5 := Ord.ab _ f 5 (by decide)
      simp only [xb] at q5
      simp only [q5] at d ⊢
      clear f
      go_simp
      exact d _ _ ⟨_, rfl, trivial, hR.quiet 6 _ (by decide), by show _ = _; rw [cr.out]⟩
    ·
      clear f
      go_simp
      exact d _ _ ⟨_, rfl, trivial, hR.quiet 7 _ (by decide), rfl⟩
    ·
      have q7 := Ord.ab _ f 7 (by decide)
      simp only [xb] at q7
      simp only [q7] at d ⊢
      clear f
      go_simp
      exact d _ _ ⟨_, rfl, trivial, hR.quiet 8 _ (by decide), by show _ = _; rw [dn.out]⟩
    ·
      have q8 := Ord.ab _ f 8 (by decide)
      simp only [xb] at q8
      simp only [q8] at d ⊢
      clear f
      have hc := (hR.below.cell (p := ⟨g, bo, none⟩) aD).trans aJ
      go_simp
      exact d _ _ ⟨_, rfl, trivial, hR.quiet 9 _ (by decide), rfl⟩
    ·
      have q9 := Ord.ab _ f 9 (by decide)
      simp only [xb] at q9
      simp only [q9] at d ⊢
      clear f
      go_simp
      exact d _ _ ⟨_, rfl, trivial, hR.quiet 10 _ (by decide), by show _ = _; rw [cq.out]⟩
    ·
      have b1 := Ord.ab _ f 10 (by decide)
      simp only [xb] at b1
      simp only [b1] at d ⊢
      clear f
      go_simp
      exact d _ _ ⟨_, rfl, trivial, hR.quiet 11 _ (by decide), da.out⟩
    ·
      have q6 := Ord.ab _ f 6 (by decide)
      simp only [xb] at q6
      have b0 := Ord.ab _ f 11 (by decide)
      simp only [xb] at b0
      simp only [q6, b0] at d ⊢
      clear f
      go_simp
      exact d _ _ ⟨_, rfl, trivial, hR.quiet 12 _ (by decide), de.out⟩
    ·
      clear f
      go_simp
      exact d _ _ ⟨_, rfl, trivial, hR.Gt hD, trivial⟩
    ·
      clear f
      go_simp
      exact d _ _ ⟨_, rfl, trivial, hR.Gs hD, trivial⟩
    ·
      have V := Ord.ab _ f 2 (by decide)
      simp only [xb] at V
      simp only [V] at d ⊢
      clear f
      obtain ⟨B, O, bM, v, C, -⟩ := hR.t0 (hP { on := 13, ground := .data } (by simp) rfl)
      simp only [O] at d ⊢
      have hc := C.cell
      have hf := C.frozen
      go_simp
      exact d _ _ ⟨undef, rfl, trivial, hR.F5 O bM C (hP { on := 13, ground := .data } (by simp) rfl), trivial⟩
    ·
      have bZ := Ord.ab _ f 12 (by decide)
      simp only [xb] at bZ
      simp only [bZ] at d ⊢
      clear f
      obtain ⟨B, O, bM, v, C, -⟩ := hR.n0 (hP { on := 14, ground := .data } (by simp) rfl)
      simp only [O] at d ⊢
      have hc := C.cell
      have hf := C.frozen
      go_simp
      exact d _ _ ⟨undef, rfl, trivial, hR.FZ O bM C (hP { on := 14, ground := .data } (by simp) rfl), trivial⟩
    exact Ord.In.az
  case hend =>
    intro D xs w1 hR n
    obtain ⟨BT, cF, cm, vT, bG, cH⟩ := hR.t0 (n 13 (by decide)).1
    obtain rfl := cH (n 15 (by decide)).1
    obtain ⟨BN, cG, cn, vN, bH, cI⟩ := hR.n0 (n 14 (by decide)).1
    obtain rfl := cI (n 16 (by decide)).1
    have dj := Lib.hid hR.below
    have a7 := Lib.hid hR.sz
    rw [cF, cG]
    have e0 := (n 0 (by decide)).2
    have e1 := (n 1 (by decide)).2
    have e2 := (n 2 (by decide)).2
    have e3 := (n 3 (by decide)).2
    have e4 := (n 4 (by decide)).2
    have e5 := (n 5 (by decide)).2
    have e6 := (n 6 (by decide)).2
    have e7 := (n 7 (by decide)).2
    have e8 := (n 8 (by decide)).2
    have e9 := (n 9 (by decide)).2
    have bR := (n 10 (by decide)).2
    have bP := (n 11 (by decide)).2
    have bO := (n 12 (by decide)).2
    simp only [xb] at e0 e1 e2 e3 e4 e5 e6 e7 e8 e9 bR bP bO
    rw [e0, e1, e2, e3, e4, e5, e6, e7, e8, e9, bR, bP, bO]
    clear n hR e0 e1 e2 e3 e4 e5 e6 e7 e8 e9 bR bP bO bE aM aJ
    gi_wp2_with (refine ⟨trivial, ?_⟩; gi_at_call 102; refine (callsIn_wide.2 (nc _ 64 _ _ _ _ rfl (by decide))).mono ?_; rintro e w' ⟨rfl, rfl⟩)
    obtain ⟨H, hH⟩ : ∃ H, H = w1.heap.size := ⟨_, rfl⟩
    obtain ⟨W2, I⟩ : ∃ W2, W2 = (((w1.alloc (.cells #[.slice none 0 0] 57)).alloc (.cells #[.slice (some ⟨g, off, none⟩) 640 cap] 57)).alloc (.cells #[.int .i64 64] 3)) := ⟨_, rfl⟩
    rw [← I, ← hH]
    have ao : W2.heap.size = H + 3 := by rw [I, hH]; simp
    have bS : Boxed W2 H 57 (.slice none 0 0) := by rw [I, hH]; exact ((Boxed.new w1 _ _).alloc _).alloc _
    have bC : Boxed W2 (H + 1) 57 (.slice (some ⟨g, off, none⟩) 640 cap) := by
      have h := (Boxed.new (w1.alloc (.cells #[.slice none 0 0] 57)) 57 (.slice (some ⟨g, off, none⟩) 640 cap)).alloc (.cells #[.int .i64 64] 3)
      rw [World.size_alloc] at h
      rw [I, hH]; exact h
    have bK : Boxed W2 (H + 2) 3 (.int .i64 64) := by
      have h := Boxed.new ((w1.alloc (.cells #[.slice none 0 0] 57)).alloc (.cells #[.slice (some ⟨g, off, none⟩) 640 cap] 57)) 3 (.int .i64 64)
      rw [World.size_alloc, World.size_alloc] at h
      rw [I, hH]; exact h
    have cl : Boxed W2 BT 5 (.int .u8 (a9 : Int)) := by rw [I]; exact ((bG.alloc _).alloc _).alloc _
    have bj : Boxed W2 BN 3 (.int .i64 (N : Int)) := by rw [I]; exact ((bH.alloc _).alloc _).alloc _
    have b7 := bG.lt
    have b8 := bH.lt
    have aO : Below A W0 W2 := by
      rw [I]
      exact ((dj.out.alloc a7.out _).alloc (by have := a7.out; simp; omega) _).alloc (by have := a7.out; simp; omega) _
    have HH := Lib.hid hH
    have bk : A = b + 3 := by rw [HA.out, M.out]
    have ch : A ≤ H := by rw [HH.out]; exact a7.out
    obtain ⟨aw, au, aq⟩ := dc.out
    rw [← M.out] at aw au aq
    have ax := (aO.block b (by omega)).trans aw
    have av := (aO.block (b + 1) (by omega)).trans au
    have ar := (aO.block (b + 2) (by omega)).trans aq
    have m : Hid (W2.heap.size = H + 3) := ao
    have HX : Hid (_ ∧ _ ∧ _ ∧ _ ∧ _ ∧ _ ∧ _) := ⟨bk, ch, b7, b8, cm, cn, aD⟩
    have cb : Below b w W2 := by
      have r := dk.out
      rw [← M.out] at r
      exact r.trans (aO.mono (by omega))
    have bW := Lib.hid cb
    have bV : Hid (_ ∧ _ ∧ _) := ⟨bS, bC, bK⟩
    clear aw au aq bk ch b7 b8 cm cn aD cb hH ao I aO bG bH l9 br bq bS bC bK
    have ak : Hid (_ ∧ _ ∧ _) := ⟨ax, av, ar⟩
    clear ax av ar
    refine wpIn_rangeFunc_ownG (w := W2) (w0 := W2) rfl (by decide) (gf := 142) (lb := #[.pointer (some ⟨H + 1, 0, none⟩), .pointer (some ⟨H + 2, 0, none⟩)]) rfl trivial (enters_of Tryz.func142 (by kernel_rfl) rfl)
      (ka 4 (by decide) (H + 1) (H + 2) g off 640 cap 64 10 (by decide) (by decide) cz.out (by decide) W2 (by have := m.out; omega) (by have := m.out; omega) bV.out.2.1.cell bV.out.2.2.cell) (fun h k => h.trans k) (fun W l o o' hl _ _ _ => vk.put o' hl (by have := m.out; omega) (by have := m.out; omega)) (Below.refl _ _) (fun _ => rfl)
      (fun pre W => (∃ v, Boxed W H 57 v ∧ W.ownsRow (H + 3) 5 1 v (oK s pre).length (af (oK s pre)) ∧ True) ∧ Touch (fun k => k = H ∨ H + 3 ≤ k) W2 W ∧ (pre.length ≤ 10 ∧ ∀ i ∈ pre, (Rg.part 64 s (ie 10 i)).take 12 = Rg.tag N a9))
      (fun c _ W => c = Code.ret ∧ Touch (fun k => k = b ∨ k = b + 1 ∨ k = b + 2 ∨ k = H ∨ H + 3 ≤ k) W2 W ∧ W.heap[b]? = some (.cells #[.int .i64 0] 3 (0, 0)) ∧ W.heap[b + 1]? = some (.cells #[.int .u64 0, .slice none 0 0] 59 (0, 0)) ∧ W.heap[b + 2]? = some (.cells #[.bool false] 4 (0, 0)) ∧ ∃ i, i < 10 ∧ (Rg.part 64 s i).take 12 ≠ Rg.tag N a9)
      ?hI ?hIx ?h0
      (fun x => { tmps := #[.slice (some ⟨g, off, none⟩) 640 cap, undef, .pointer (some ⟨b, 0, none⟩), .pointer (some ⟨b + 1, 0, none⟩), .pointer (some ⟨b + 1 + 1, 0, none⟩), .pointer (some ⟨BT, 0, none⟩), .pointer (some ⟨BN, 0, none⟩), .pointer (some ⟨H, 0, none⟩), vf g off 640 64 (ie 10 x), undef, undef, .slice (some ⟨g, off, none⟩) 640 cap, .pointer (some ⟨g, o9, none⟩), .int .u8 (a9 : Int), .slice (some ⟨g, off, none⟩) 640 cap, .pointer (some ⟨g, bp, none⟩), .int .u8 (J : Int), .int .i64 (J : Int), .slice (some ⟨g, off, none⟩) 640 cap, .pointer (some ⟨g, bo, none⟩), .int .u8 (E : Int), .int .i64 (E : Int), .int .i64 ((256 * E : Nat) : Int), .int .i64 (N : Int), .slice (some ⟨g, off, none⟩) 640 cap, .func (.func 142) #[] #[.pointer (some ⟨H + 1, 0, none⟩), .pointer (some ⟨H + 2, 0, none⟩)], vf g off 640 64 (ie 10 x), undef, undef, undef, undef, undef, undef, undef, undef, undef, undef, undef, undef, undef, undef, undef, undef, undef, undef, undef, undef, undef, undef], defers := [] }) ?assign ?body ?done ?stop
    case hI => exact OwnFrom.and (Go.Own.from (holdsRow_own (H + 3) H 57 5 1 (fun pre : List Nat => (oK s pre).length) (fun pre => af (oK s pre)) (fun _ _ => True)) _) (OwnFrom.and (kU fun k F => Or.inr (by have := m.out; omega)) (iH _))
    case hIx => exact fun c => OwnFrom.and (iH _) (OwnFrom.and (kU fun k F => by have := m.out; omega) (OwnFrom.and (j1 (by have := m.out; have := HX.out; omega)) (OwnFrom.and (j1 (by have := m.out; have := HX.out; omega)) (OwnFrom.and (j1 (by have := m.out; have := HX.out; omega)) (iH _)))))
    case h0 => exact ⟨⟨_, bV.out.1, World.ownsRow_nil _ _ _ _, trivial⟩, Touch.refl _ _, Nat.zero_le _, fun i hi => by cases hi⟩
    case assign =>
      intro l x W K d
      gi_wp2
      exact d
    case body =>
      rintro l pre x W ⟨⟨v, hv, t, -⟩, hT, b4, P⟩ b5
      have ca : ie 10 x < 10 := pP (by decide) x
      obtain ⟨i, hi⟩ : ∃ i, i = ie 10 x := ⟨_, rfl⟩
      have hP : vf g off 640 64 i = .slice (some ⟨g, off + 64 * i, none⟩) 64 64 := by
        unfold vf An
        rw [Nat.min_eq_left (by omega)]
      rw [← hi] at ca ⊢
      have ck : Below w.heap.size w W := by
        have r := bW.out
        rw [M.out] at r
        refine ⟨hT.os.trans r.os, hT.tape.trans r.tape, hT.output.trans r.output, Nat.le_trans r.size hT.size, fun k F => ?_⟩
        rw [← r.block k F]
        refine hT.block k (Nat.lt_of_lt_of_le F r.size) ?_
        have := HX.out
        have := M.out
        rintro (h | h) <;> omega
      have ag := (bX.out.below ck).part a8.out 64 i (by rw [a8.out]; omega)
      rw [hP] at ag ⊢
      obtain ⟨oP, bs⟩ : ∃ o, o = off + 64 * i := ⟨_, rfl⟩
      rw [← bs] at ag ⊢
      obtain ⟨Y, hY⟩ : ∃ Y, Y = Rg.part 64 s i := ⟨_, rfl⟩
      rw [← hY] at ag
      have aj : Y.length = 64 := by rw [hY]; exact Rg.eG (by rw [a8.out]; omega)
      have bf : aV W (.slice (some ⟨g, oP, none⟩) 12 64) (Y.take 12) := by
        have T := ag
        rw [← aj] at T
        have h3 := T.take 12 (by omega)
        rw [aj] at h3
        exact h3
      have bd : aV W (.slice (some ⟨g, oP + 12, none⟩) 52 52) (Y.drop 12) := by
        have T := ag
        rw [← aj] at T
        have h3 := T.drop 12 (by omega)
        rw [aj] at h3
        exact h3
      have bB := ((show Boxed W BT 5 (.int .u8 (a9 : Int)) from by
        have := hT.block BT (by have := HX.out; have := m.out; have := HH.out; omega) (by have := HX.out; have := HH.out; rintro (h | h) <;> omega)
        exact this.trans cl)).cell
      have bD := ((show Boxed W BN 3 (.int .i64 (N : Int)) from by
        have := hT.block BN (by have := HX.out; have := m.out; have := HH.out; omega) (by have := HX.out; have := HH.out; rintro (h | h) <;> omega)
        exact this.trans bj)).cell
      have ba := fun w' : World => xt N a9 (by have := HL.out; have := HN.out; omega) HL.out.1 w'
      have ct := Lib.hid ba
      have HV := Lib.hid hv
      have cv := Lib.hid t
      have HT := Lib.hid hT
      have HI := Lib.hid hi
      have HY := Lib.hid hY
      have bT := Lib.hid aj
      have aU : Hid (_ ∧ _ ∧ _) := ⟨b4, P, b5⟩
      have cA := Lib.hid bd
      have dB := Lib.hid bs
      clear ba hv t hT hi hY aj b4 P b5 hP ag ck bd bs ca
      gi_wp2
      refine Ord.In.walk (fun _ => trivial) (Ef (.slice (some ⟨g, oP, none⟩) 64 64) (.slice (some ⟨g, oP, none⟩) 12 64) N a9 (Y.take 12)) (fun _ _ w' => Below W.heap.size W w') (fun w' bn => Below w'.heap.size w' bn) (by kernel_rfl) (by kernel_rfl) ?fr5 ?hfr5 ?hTT5 (fun xs => (Below.refl _ W).drew) ?he5 ?hend5
      case hfr5 =>
        intro xs
        simp only [Ord.fill, Act.put, List.setIfInBounds_toArray, List.set_cons_zero, List.set_cons_succ]
        rfl
      case hTT5 =>
        intro k u dr dq ht n
        rcases k with _ | _ | _ | _ | _ | _ | _ | k
        · exact n
        · exact n
        · exact n
        · exact n
        · exact aV.below n ht
        · exact n
        · exact n
        · trivial
      case he5 =>
        iterate 7 (refine Ord.In.aa (fun D xs w2 hD hC hP hR f K' d => ?_) ?_; rotate_left)
        rotate_left
        ·
          clear f
          go_simp
          exact d _ _ ⟨_, rfl, Below.refl _ _, hR, rfl⟩
        ·
          have Z := Ord.ab _ f 0 (by decide)
          simp only [Ef] at Z
          simp only [Z] at d ⊢
          clear f
          go_simp
          exact d _ _ ⟨_, rfl, Below.refl _ _, hR, rfl⟩
        ·
          clear f
          have hc := (hR.cell (p := ⟨BN, 0, none⟩) (kA bD)).trans bD
          go_simp
          exact d _ _ ⟨_, rfl, Below.refl _ _, hR, rfl⟩
        ·
          clear f
          have hc := (hR.cell (p := ⟨BT, 0, none⟩) (kA bB)).trans bB
          go_simp
          exact d _ _ ⟨_, rfl, Below.refl _ _, hR, rfl⟩
        ·
          have V := Ord.ab _ f 2 (by decide)
          simp only [Ef] at V
          have q3 := Ord.ab _ f 3 (by decide)
          simp only [Ef] at q3
          simp only [V, q3] at d ⊢
          clear f
          go_simp
          refine ⟨trivial, (CallsIn.inRound l (callsIn_wide.2 (ct.out w2))).mono ?_⟩
          rintro e w3 ⟨u, rfl, hO, bI⟩
          exact d _ _ ⟨u, rfl, bI, hR.trans (bI.mono hR.size), hO.bz⟩
        ·
          have X := Ord.ab _ f 1 (by decide)
          simp only [Ef] at X
          simp only [X] at d ⊢
          have dm := Lib.hid f
          clear f
          have q4 := Ord.ab _ dm.out 4 (by decide)
          simp only [Ef] at q4
          have he := aG _ (xs 4) _ _ w2 (bf.below hR) q4
          go_simp
          refine ⟨trivial, (CallsIn.inRound l (callsIn_wide.2 he)).mono ?_⟩
          rintro e w3 ⟨rfl, rfl⟩
          exact d _ _ ⟨_, rfl, Below.refl _ _, hR, rfl⟩
        ·
          have q5 := Ord.ab _ f 5 (by decide)
          simp only [Ef] at q5
          simp only [q5] at d ⊢
          clear f
          go_simp
          exact d _ _ ⟨_, rfl, Below.refl _ _, hR, rfl⟩
        exact Ord.In.az
      case hend5 =>
        intro D xs w9 hR n
        have e0 := (n 0 (by decide)).2
        have e1 := (n 1 (by decide)).2
        have e2 := (n 2 (by decide)).2
        have e3 := (n 3 (by decide)).2
        have e5 := (n 5 (by decide)).2
        have e6 := (n 6 (by decide)).2
        simp only [Ef] at e0 e1 e2 e3 e5 e6
        rw [e0, e1, e2, e3, e5, e6]
        generalize xs 4 = u4
        clear n e0 e1 e2 e3 e5 e6 bf bB bD
        by_cases hq : Y.take 12 = Rg.tag N a9
        · rw [decide_eq_true hq]
          have HQ := Lib.hid hq
          have HR := Lib.hid hR
          clear hq hR
          gi_wp2
          obtain ⟨L, hL⟩ : ∃ L, L = oK s pre := ⟨_, rfl⟩
          have t := cv.out
          rw [← hL] at t
          have aQ : ∀ z ∈ L, z < 256 := fun z hz => by
            rw [hL] at hz
            obtain ⟨i', -, T⟩ := List.mem_flatMap.1 hz
            exact Rg.jt bX.out.small _ z (List.mem_of_mem_drop T)
          have aR : L.length ≤ 640 := by
            rw [hL]
            have r := AQ s pre
            have T := aU.out.1
            omega
          have ay : Own (H + 3) W v L := ⟨t, aQ, by omega⟩
          have G := ay.below HR.out
          have b2 : Boxed w9 H 57 v := (HR.out.block H HV.out.lt).trans HV.out
          have cS : xZ W H v L (Y.drop 12) (fun _ => false) (fun _ => undef) w9.drew := ⟨⟨HR.out.size, fun k o F _ => (HR.out.block k (Array.getElem?_eq_some_iff.1 F).1).trans F⟩, (Touch.aE HR.out).drew, (by have r := HT.out.size; have T := HR.out.size; have h3 := m.out; show H + 3 ≤ w9.heap.size; omega), fun _ => ⟨G.below ((Below.refl _ w9).drew), b2⟩, fun e => by cases e⟩
          have dh := Lib.hid hL
          have dg : Hid (L.length ≤ 640) := aR
          clear t aQ aR ay G b2 hL
          refine Ord.In.walk (fun _ => trivial) (GQ v (.slice (some ⟨g, oP, none⟩) 64 64) (.slice (some ⟨g, oP + 12, none⟩) 52 52)) (xZ W H v L (Y.drop 12)) (fun _ _ => True) (by kernel_rfl) (by kernel_rfl) ?fr7 ?hfr7 (fun k u w' bn _ h => h) (fun xs => cS.any xs) ?he7 ?hend7
          case hfr7 =>
            intro xs
            simp only [Ord.fill, Act.put, List.setIfInBounds_toArray, List.set_cons_zero, List.set_cons_succ]
            rfl
          case he7 =>
            iterate 4 (refine Ord.In.aa (fun D xs w2 hD hC hP hR f K' d => ?_) ?_; rotate_left)
            rotate_left
            ·
              clear f
              have h5 : D 3 = false := by
                cases e : D 3 with
                | false => rfl
                | true => have := Ord.aL hC 3 0 (by kernel_rfl) e; rw [hD] at this; cases this
              have hc := (hR.s0 h5).2.cell
              go_simp
              exact d _ _ ⟨_, rfl, trivial, hR.quiet 0 _ (by decide), rfl⟩
            ·
              clear f
              go_simp
              exact d _ _ ⟨_, rfl, trivial, hR.quiet 1 _ (by decide), rfl⟩
            ·
              have X := Ord.ab _ f 1 (by decide)
              simp only [GQ] at X
              simp only [X] at d ⊢
              clear f
              go_simp
              exact d _ _ ⟨_, rfl, trivial, hR.quiet 2 _ (by decide), rfl⟩
            ·
              have Z := Ord.ab _ f 0 (by decide)
              simp only [GQ] at Z
              have V := Ord.ab _ f 2 (by decide)
              simp only [GQ] at V
              simp only [Z, V] at d ⊢
              clear f
              obtain ⟨hO, C⟩ := hR.s0 hD
              obtain ⟨v3, w3, b3, cT, bI, cR⟩ := jX 57 (H + 3) v L hO _ (Y.drop 12) (hR.al.bz cA.out (fun _ g' e => by
  simp only [Value.ownBlock, Option.some.injEq] at e
  subst e
  have := HX.out
  rintro (h | h) <;> omega)) (by rw [List.length_drop, bT.out]; decide) (by rw [List.length_drop, bT.out]; have := dg.out; omega) hR.sz
              refine (if_pos (by rfl)).mpr ?_
              refine jL (.tmp 35) (.tmp 37) _ _ rfl _ _ rfl rfl v3 w3 b3 ?_
              exact d _ _ ⟨v3, rfl, trivial, hR.FX hC hD hO C cT cR (by kernel_rfl), trivial⟩
            refine Ord.In.aa (fun D xs w2 hD hC hP hR f K' d => ?_) ?_
            ·
              clear f
              have h5 : D 3 = true := hP { on := 3, ground := .data } (by simp) rfl
              obtain ⟨hO, u, C, -⟩ := hR.s1 h5
              obtain ⟨g5, c5, e5, -, -⟩ := eH hO (by rw [List.length_append, List.length_drop, bT.out]; omega)
              simp only [e5] at d ⊢
              have dx := C.cell
              have du := C.frozen
              have b6 : (L ++ Y.drop 12).length = L.length + (Y.length - 12) := by simp
              rw [b6] at d
              go_simp
              refine d _ _ ⟨undef, rfl, trivial, ?_, trivial⟩
              rw [← b6, ← e5]
              exact hR.FW h5 hO C
            exact Ord.In.az
          case hend7 =>
            intro D xs w8 hR n
            obtain ⟨hO, u, C, hu⟩ := hR.s1 (n 3 (by decide)).1
            obtain rfl := hu (n 4 (by decide)).1
            clear n
            gi_wp2
            have cU : oK s (pre ++ [x]) = L ++ Y.drop 12 := by
              unfold oK
              rw [List.flatMap_append, dh.out, HY.out, HI.out]
              simp only [List.flatMap_cons, List.flatMap_nil, List.append_nil]
              rfl
            refine ⟨hR.bQ.from _, ⟨hR.al.F7 (H + 1) (by have := m.out; have := HT.out.size; omega) (by omega), hR.al.F7 (H + 2) (by have := m.out; have := HT.out.size; omega) (by omega)⟩, ⟨_, C, ?_⟩, HT.out.trans hR.al, ?_, fun j hj => ?_⟩
            · rw [cU]; exact hO.own
            · rw [List.length_append]; exact aU.out.2.2
            · rcases List.mem_append.1 hj with h | h
              · exact aU.out.2.1 j h
              · obtain rfl : j = x := by simpa using h
                rw [← HI.out, ← HY.out]; exact HQ.out
        · rw [decide_eq_false hq]
          have HQ := Lib.hid hq
          have HR := Lib.hid hR
          clear hq hR
          have F : ∀ k o, k < H → W2.heap[k]? = some o → w9.heap[k]? = some o := fun k o F ho => by
            have r : W.heap[k]? = some o := (HT.out.block k (by have := m.out; omega) (by rintro (h | h) <;> omega)).trans ho
            exact (HR.out.block k (Array.getElem?_eq_some_iff.1 r).1).trans r
          have cp : b + 2 < H := by have := HX.out; omega
          have bx := F b _ (by omega) ak.out.1
          have aC := F (b + 1) _ (by omega) ak.out.2.1
          have bw := F (b + 2) _ cp ak.out.2.2
          have c0 := ah bx 0 (v := .int .i64 0) rfl
          have c1 := ah aC 0 (v := .int .u64 0) rfl
          have c2 := ah aC 1 (v := .slice none 0 0) rfl
          have c3 := ah bw 0 (v := .bool false) rfl
          have f0 := aI bx 0
          have f1 := aI aC 0
          have f2 := aI aC 1
          have f3 := aI bw 0
          clear F
          gi_wp2
          have cL : (w9.setCell ⟨b, 0, none⟩ (.int .i64 0)).heap[b]? = some (.cells #[.int .i64 0] 3 (0, 0)) := aT (i := 0) bx _
          have t0 : Touch (fun k => k = b) w9 (w9.setCell ⟨b, 0, none⟩ (.int .i64 0)) := Touch.set b 0 _ rfl
          have k0 : KeepsOthers W w9 := ⟨HR.out.size, fun k o F _ => (HR.out.block k (Array.getElem?_eq_some_iff.1 F).1).trans F⟩
          have cE : KeepsOthers w9 (w9.setCell ⟨b, 0, none⟩ (.int .i64 0)) := KeepsOthers.setCell _ _ _
          have cY := t0.row aC (by omega)
          have cW := t0.row bw (by omega)
          generalize w9.setCell ⟨b, 0, none⟩ (.int .i64 0) = wa at *
          have cK : ((wa.setCell ⟨b + 1, 0, none⟩ (.int .u64 0)).setCell ⟨b + 1, 1, none⟩ (.slice none 0 0)).heap[b + 1]? = some (.cells #[.int .u64 0, .slice none 0 0] 59 (0, 0)) := aT (i := 1) (aT (i := 0) cY (.int .u64 0)) (.slice none 0 0)
          have t1 : Touch (fun k => k = b + 1) wa ((wa.setCell ⟨b + 1, 0, none⟩ (.int .u64 0)).setCell ⟨b + 1, 1, none⟩ (.slice none 0 0)) := (Touch.set (S := fun k => k = b + 1) (b + 1) 0 _ rfl).trans (Touch.set (b + 1) 1 _ rfl)
          have c6 := t1.row cL (by omega)
          have cV := t1.row cW (by omega)
          have k1 : KeepsOthers wa ((wa.setCell ⟨b + 1, 0, none⟩ (.int .u64 0)).setCell ⟨b + 1, 1, none⟩ (.slice none 0 0)) := (KeepsOthers.setCell _ _ _).trans (KeepsOthers.setCell _ _ _)
          generalize (wa.setCell ⟨b + 1, 0, none⟩ (.int .u64 0)).setCell ⟨b + 1, 1, none⟩ (.slice none 0 0) = wb at *
          have cJ : (wb.setCell ⟨b + 1 + 1, 0, none⟩ (.bool false)).heap[b + 2]? = some (.cells #[.bool false] 4 (0, 0)) := aT (i := 0) cV _
          have t2 : Touch (fun k => k = b + 2) wb (wb.setCell ⟨b + 1 + 1, 0, none⟩ (.bool false)) := Touch.set (b + 2) 0 _ rfl
          have c4 := t2.row c6 (by omega)
          have cX := t2.row cK (by omega)
          have k2 : KeepsOthers wb (wb.setCell ⟨b + 1 + 1, 0, none⟩ (.bool false)) := KeepsOthers.setCell _ _ _
          generalize wb.setCell ⟨b + 1 + 1, 0, none⟩ (.bool false) = wc at *
          refine ⟨?_, rfl, ?_, c4, cX, cJ, i, ?_, ?_⟩
          · exact (((k0.trans cE).trans k1).trans k2).from _
          · exact (((((HT.out.mono fun k _ h => by omega).trans (Touch.aE HR.out)).trans (t0.mono fun k _ h => Or.inl h)).trans (t1.mono fun k _ h => Or.inr (Or.inl h)))).trans (t2.mono fun k _ h => Or.inr (Or.inr (Or.inl h)))
          · rw [HI.out]; exact pP (by decide) x
          · rw [← HY.out]; exact HQ.out
    case done =>
      rintro D ys W hD rfl ⟨⟨v, hv, t, -⟩, hT, -, P⟩ d
      obtain ⟨L, hL⟩ : ∃ L, L = oK s (List.range 10) := ⟨_, rfl⟩
      rw [← hL] at t
      have bL : L = Rg.rest s 10 := by
        rw [hL]
        unfold oK Rg.rest
        have : ∀ q : List Nat, (∀ i ∈ q, i < 10) → (q.flatMap fun i => (Rg.part 64 s (ie 10 i)).drop 12) = q.flatMap fun i => (Rg.part 64 s i).drop 12 := fun q => by
          induction q with
          | nil => intro _; rfl
          | cons y q ih =>
            intro hq
            rw [List.flatMap_cons, List.flatMap_cons, pO (hq y (List.mem_cons_self ..)), ih fun i hi => hq i (List.mem_cons_of_mem _ hi)]
        exact this _ fun i hi => List.mem_range.1 hi
      have aR : L.length = 520 := by rw [bL]; exact AS a8.out
      have aQ : ∀ z ∈ L, z < 256 := fun z hz => by
        rw [hL] at hz
        obtain ⟨i', -, T⟩ := List.mem_flatMap.1 hz
        exact Rg.jt bX.out.small _ z (List.mem_of_mem_drop T)
      have G : Own (H + 3) W v L := ⟨t, aQ, by omega⟩
      have an : Rg.Told s := fun i hi => by
        have := P i (List.mem_range.2 hi)
        rw [pO hi] at this
        rw [this]
        have e1 : Rg.dU s = N := by unfold Rg.dU; rw [HN.out, aX.out, aW.out]
        have e2 : Rg.gO s = a9 := by unfold Rg.gO; rw [cB.out]
        rw [e1, e2]
      obtain ⟨g1, c1, rfl, dt, ds⟩ := eH G (by omega)
      have hc := hv.cell
      have cc : aV W (.slice (some ⟨g1, 0, none⟩) 512 c1) (Rg.cut s) := by
        have r := G.bz.take 512 (by omega)
        rw [bL] at r
        exact r
      have aN : 520 ≤ c1 := by
        obtain ⟨p, c, e, r, -⟩ := G.bz.form
        simp only [Value.slice.injEq] at e
        omega
      rw [aR] at hc
      have bU := Lib.hid an
      have HD := Lib.hid hD
      have HK := Lib.hid d
      have HT := Lib.hid hT
      clear aR bL hL aQ G an t P hv hD d hT
      gi_wp2_with (refine ⟨trivial, ?_⟩; gi_at_call 104; refine (callsIn_wide.2 (uc _ _ W cc)).mono ?_; rintro e w5 ⟨u, rfl, a6, cd⟩; obtain ⟨pu, cu, hu⟩ : (∃ pu cu, u = .slice pu (Pg.cZ (Rg.cut s)).length cu) := (let ⟨p, c, h, _⟩ := a6.bz.form; ⟨p, c, h⟩); subst hu; obtain ⟨kN, bu⟩ : (∃ kN, kN = Pg.cC (Rg.cut s)) := ⟨_, rfl⟩; obtain ⟨eE, bA⟩ : (∃ eE, eE = Pg.cD (Rg.cut s)) := ⟨_, rfl⟩; obtain ⟨lU, aY⟩ : (∃ lU, lU = (Pg.cZ (Rg.cut s)).length) := ⟨_, rfl⟩; rw [← bu, ← bA, ← aY]; rw [← aY] at a6; have di := Lib.hid bu; have cy := Lib.hid bA; have df := Lib.hid aY; have dd := Lib.hid a6; have bY := Lib.hid cd; clear bu bA aY a6 cd cc hc aN)
      obtain ⟨Q, hQ⟩ : ∃ Q, Q = w5.heap.size := ⟨_, rfl⟩
      obtain ⟨W6, aP⟩ : ∃ W6, W6 = w5.alloc (.cells #[.int .u64 (kN : Int), .slice pu lU cu] 59) := ⟨_, rfl⟩
      rw [← aP, ← hQ]
      have bJ : W6.heap[Q]? = some (.cells #[.int .u64 (kN : Int), .slice pu lU cu] 59 (0, 0)) := by rw [aP, hQ]; exact heap_alloc_last _ _
      have a1 : Below W.heap.size W W6 := by rw [aP]; exact bY.out.alloc bY.out.size _
      have cf : H + 3 ≤ W.heap.size := by have := HT.out.size; have := m.out; omega
      have O := HX.out
      have hold : ∀ k, k < H → W6.heap[k]? = W2.heap[k]? := fun k F => (a1.block k (by omega)).trans (HT.out.block k (by have := m.out; omega) (by rintro (h | h) <;> omega))
      have Z := (hold b (by omega)).trans ak.out.1
      have X := (hold (b + 1) (by omega)).trans ak.out.2.1
      have V := (hold (b + 2) (by omega)).trans ak.out.2.2
      have cN : W6.cell? ⟨BN, 0, none⟩ = some (.int .i64 (N : Int)) := ah ((hold BN (by have := HH.out; omega)).trans bj) 0 rfl
      have c8 := ah bJ 0 (v := .int .u64 (kN : Int)) rfl
      have c7 := ah bJ 1 (v := .slice pu lU cu) rfl
      have cg : b + 3 ≤ Q := by have := bY.out.size; omega
      have bh : b + 3 ≤ BN := by omega
      have bb : W6.heap[D]? = some (.deferred (some [])) := (a1.block D (Array.getElem?_eq_some_iff.1 HK.out).1).trans HK.out
      have bg : Own W.heap.size W6 (.slice pu lU cu) (Pg.cZ (Rg.cut s)) := by rw [aP]; exact dd.out.below ((Below.refl _ w5).alloc (Nat.le_refl _) _)
      have cj : b + 3 ≤ D := by have := HD.out; have := m.out; omega
      have bc : Below b w W6 := by
        have r := bW.out
        have T : Below b w W := ⟨HT.out.os.trans r.os, HT.out.tape.trans r.tape, HT.out.output.trans r.output, Nat.le_trans r.size HT.out.size, fun k F => (HT.out.block k (by have := m.out; omega) (by rintro (h | h) <;> omega)).trans (r.block k F)⟩
        exact T.trans (a1.mono (by omega))
      have db : Hid (xY W6 b N kN (.slice pu lU cu) (decide (eE = 0)) (fun _ => false) W6.drew) := ⟨(Touch.refl _ _).drew, Z, X, V⟩
      have bl := Lib.hid bb
      have cx := Lib.hid bg
      have bm := Lib.hid bc
      have U : Hid (_ ∧ _ ∧ _ ∧ _) := ⟨cg, bh, cj, cf⟩
      clear hQ aP bJ a1 cf O hold Z X V bb bg bc cg bh cj
      refine Ord.In.walk (fun _ => trivial) (Gu N kN (.slice pu lU cu) (decide (eE = 0)) eE) (fun D _ w' => xY W6 b N kN (.slice pu lU cu) (decide (eE = 0)) D w') (fun _ _ => True) (by kernel_rfl) (by kernel_rfl) ?fr9 ?hfr9 (fun k u w' bn _ h => h) (fun _ => db.out) ?he9 ?hend9
      case hfr9 =>
        intro xs
        simp only [Ord.fill, Act.put, List.setIfInBounds_toArray, List.set_cons_zero, List.set_cons_succ]
        rfl
      case he9 =>
        iterate 7 (refine Ord.In.aa (fun D xs w2 hD hC hP hR f K' d => ?_) ?_; rotate_left)
        rotate_left
        ·
          clear f
          have hc := hR.al.cell (p := ⟨BN, 0, none⟩) cN (by have := U.out; dsimp only; omega)
          go_simp
          exact d _ _ ⟨_, rfl, trivial, hR.quiet 0 (by decide), rfl⟩
        ·
          clear f
          have bF := hR.al.cell (p := ⟨Q, 0, none⟩) c8 (by have := U.out; dsimp only; omega)
          have aN := hR.al.cell (p := ⟨Q, 1, none⟩) c7 (by have := U.out; dsimp only; omega)
          go_simp
          exact d _ _ ⟨_, rfl, trivial, hR.quiet 1 (by decide), rfl⟩
        ·
          clear f
          go_simp
          exact d _ _ ⟨_, rfl, trivial, hR.quiet 2 (by decide), rfl⟩
        ·
          have V := Ord.ab _ f 2 (by decide)
          simp only [Gu] at V
          simp only [V] at d ⊢
          clear f
          go_simp
          exact d _ _ ⟨_, rfl, trivial, hR.quiet 3 (by decide), by show Value.bool _ = _; rw [BI]⟩
        ·
          have Z := Ord.ab _ f 0 (by decide)
          simp only [Gu] at Z
          simp only [Z] at d ⊢
          clear f
          have hc := ah hR.r0 0 rfl
          have hf := aI hR.r0 0
          go_simp
          exact d _ _ ⟨undef, rfl, trivial, hR.Hy, trivial⟩
        ·
          have X := Ord.ab _ f 1 (by decide)
          simp only [Gu] at X
          simp only [X] at d ⊢
          clear f
          have dw := aI hR.r1 0
          have dv := aI hR.r1 1
          have bF : ∃ v, w2.cell? ⟨b + 1, 0, none⟩ = some v := qJ hR.r1 0 (by decide)
          have aN : ∃ v, w2.cell? ⟨b + 1, 1, none⟩ = some v := qJ hR.r1 1 (by decide)
          obtain ⟨z0, bF⟩ := bF
          obtain ⟨z1, aN⟩ := aN
          go_simp
          exact d _ _ ⟨undef, rfl, trivial, hR.Hx, trivial⟩
        ·
          have q3 := Ord.ab _ f 3 (by decide)
          simp only [Gu] at q3
          simp only [q3] at d ⊢
          clear f
          have hc := ah hR.r2 0 rfl
          have hf := aI hR.r2 0
          go_simp
          exact d _ _ ⟨undef, rfl, trivial, hR.Hv, trivial⟩
        exact Ord.In.az
      case hend9 =>
        intro D' xs w8 hR n
        have e4 := (n 4 (by decide)).1
        have e5 := (n 5 (by decide)).1
        have e6 := (n 6 (by decide)).1
        have r0 := hR.r0
        have r1 := hR.r1
        have r2 := hR.r2
        rw [e4, if_pos rfl] at r0
        rw [e5, if_pos rfl] at r1
        rw [e6, if_pos rfl] at r2
        have b9 : w8.heap[D]? = some (.deferred (some [])) := (hR.al.block D (Array.getElem?_eq_some_iff.1 bl.out).1 (by have := U.out; omega)).trans bl.out
        have cw := Lib.hid hR.al
        clear n hR e4 e5 e6
        gi_wp2
        refine ⟨by simp, .inl ⟨_, _, rfl, run_takeDeferred b9, ?_⟩⟩
        have O : ∀ k, k < b + 3 → (w8.putObj D (.deferred none)).heap[k]? = w8.heap[k]? := fun k F => World.putObj_heap_other (by have := U.out; omega)
        refine ⟨_, oq _ _ b (b + 1) (b + 2) _ _ _ _ rfl rfl rfl ((O b (by omega)).trans r0) ((O (b + 1) (by omega)).trans r1) ((O (b + 2) (by omega)).trans r2), N, kN, .slice pu lU cu, decide (eE = 0), rfl, ⟨_, _, _, rfl⟩, ?_, fun e => ⟨bU.out, ?_, ?_, di.out, ?_⟩, fun e ht => ?_⟩
        · rw [← M.out]
          refine (bm.out.trans (cw.out.below (fun k F => F.1) (by have := bm.out.size; have := M.out; omega))).trans ⟨rfl, rfl, rfl, by simp [World.putObj], fun k F => O k (by omega)⟩
        · rw [← cy.out]; exact of_decide_eq_true e
        · unfold Rg.dU; rw [HN.out, aX.out, aW.out]
        · have r := cx.out
          refine ⟨ownsRow_putObj ?_ _ b9 rfl, r.small, r.len⟩
          have T := kx r cw.out fun k F => by have := U.out; have := HX.out; omega
          have h3 := T.from (base' := w.heap.size) (by have := U.out; have := M.out; have := HX.out; omega)
          have h4 := h3.own
          rw [df.out] at h4 ⊢
          exact h4
        · have := of_decide_eq_false e
          rw [cy.out] at this
          exact this ht.2
    case stop =>
      rintro D c pre W hD _ ⟨rfl, hT, cQ, cP, cO, i, hi, cM⟩ d
      gi_wp2
      refine ⟨by simp, .inl ⟨_, _, rfl, run_takeDeferred d, ?_⟩⟩
      have dy : H + 3 ≤ D := by have := m.out; omega
      have dz : b + 3 ≤ H := by have := HX.out; omega
      have O : ∀ k, k < H + 3 → (W.putObj D (.deferred none)).heap[k]? = W.heap[k]? := fun k F => World.putObj_heap_other (by omega)
      refine ⟨_, oq _ _ b (b + 1) (b + 2) _ _ _ _ rfl rfl rfl ((O b (by omega)).trans cQ) ((O (b + 1) (by omega)).trans cP) ((O (b + 2) (by omega)).trans cO), 0, 0, .slice none 0 0, false, rfl, ⟨_, _, _, rfl⟩, ?_, (fun e => by cases e), fun _ ht => ?_⟩
      · have r := bW.out
        have T : Below b w W := ⟨hT.os.trans r.os, hT.tape.trans r.tape, hT.output.trans r.output, Nat.le_trans r.size hT.size, fun k F => (hT.block k (by have := m.out; omega) (by omega)).trans (r.block k F)⟩
        rw [← M.out]
        exact T.trans ⟨rfl, rfl, rfl, by simp [World.putObj], fun k F => O k (by omega)⟩
      · refine cM ?_
        rw [ht.1 i hi]
        have e1 : Rg.dU s = N := by unfold Rg.dU; rw [HN.out, aX.out, aW.out]
        have e2 : Rg.gO s = a9 := by unfold Rg.gO; rw [cB.out]
        rw [e1, e2]
theorem yi(g off cap:Nat)(s:List Nat)(w:World)(b:aV w (.slice (some ⟨g,off,none⟩) 640 cap) s)(a:s.length=640):
 Calls Tryz.prog 70 #[.slice (some ⟨g,off,none⟩) 640 cap] w fun e w'=>Hh s w e w':=callsIn_wide.1 (AB g off cap s w b a)
end Go.Proofs.YtbpodmallknhfaaGreat
