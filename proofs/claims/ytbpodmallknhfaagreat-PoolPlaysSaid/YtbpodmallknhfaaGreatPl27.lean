/- Parts of a proof. Conditions: as each row says. -/
import Derived.Test.YtbpodmallknhfaaGreatPl24
import Derived.Test.YtbpodmallknhfaaGreatPl26
import Derived.RangeFuncCalls
namespace Go.Proofs.YtbpodmallknhfaaGreat
open Go.RowKit Go.Shelf
attribute [local go_sem] Oper.semAt_some
theorem xP(a b:Nat)(c:a<256)(g:b<256):bits .or .i64 (a:Int) (256*(b:Int))=((a+256*b:Nat):Int):=by
 have f:(BitVec.ofInt 64 (a:Int)).toNat=a:=by
  rw[BitVec.ofInt_natCast,BitVec.toNat_ofNat];exact IP (by omega)
 have d:(BitVec.ofInt 64 (256*(b:Int))).toNat=256*b:=by
  rw[show(256*(b:Int))=((256*b:Nat):Int)by omega,BitVec.ofInt_natCast,BitVec.toNat_ofNat];exact IP (by omega)
 show IntKind.i64.wrap ((BitVec.ofInt 64 (a:Int)|||BitVec.ofInt 64 (256*(b:Int))).toNat:Int)=_;have e:a|||256*b=a+256*b:=by
  have:=Nat.two_pow_add_eq_or_of_lt (i:=8) (b:=a) c b;rw[Nat.or_comm,Nat.add_comm];exact this.symm
 rw[BitVec.toNat_or,f,d,e];exact GW _ (by omega)
def vS(S:Value)(g e d c a9 b a N:Nat)(i:Nat)(u:Value)(_:World):Prop:=
 match i with
 |0=>u=S
 |1=>u=.pointer (some ⟨g,e,none⟩)
 |2=>u=.int .u8 (a9:Int)
 |3=>u=S
 |4=>u=.pointer (some ⟨g,d,none⟩)
 |5=>u=.int .u8 (b:Int)
 |6=>u=.int .i64 (b:Int)
 |7=>u=S
 |8=>u=.pointer (some ⟨g,c,none⟩)
 |9=>u=.int .u8 (a:Int)
 |10=>u=.int .i64 (a:Int)
 |11=>u=.int .i64 ((256*a:Nat):Int)
 |12=>u=.int .i64 (N:Int)
 |_=>True
structure tV(W:World)(A a9 N:Nat)(D:Nat->Bool)(xs:Nat->Value)(w:World):Prop where
 below:Below A W w
 sz:A<=w.heap.size
 t0:D 13=true->∃B,xs 13=.pointer (some ⟨B,0,none⟩)/\A<=B/\∃v,Boxed w B 5 v/\(D 15=true->v=.int .u8 (a9:Int))
 n0:D 14=true->∃B,xs 14=.pointer (some ⟨B,0,none⟩)/\A<=B/\∃v,Boxed w B 3 v/\(D 16=true->v=.int .i64 (N:Int))
 Fk:D 15=true->D 13=true
 Fj:D 16=true->D 14=true
section
variable{W:World}{A a9 N:Nat}{D:Nat->Bool}{xs:Nat->Value}{w:World}
theorem tV.quiet(h:tV W A a9 N D xs w)(k:Nat)(u:Value)(g:(k !=13&&k !=14&&k !=15&&k !=16)=true):tV W A a9 N (Ord.bB D k) (Ord.set xs k u) w:=by
 simp only[Hs,IZ]at g;obtain⟨⟨⟨j,i⟩,m⟩,l⟩:=g;have d:Ord.bB D k 13=D 13:=GQ (H4 j);have c:Ord.bB D k 14=D 14:=GQ (H4 i);have b:Ord.bB D k 15=D 15:=GQ (H4 m);have a:Ord.bB D k 16=D 16:=GQ (H4 l);have f:Ord.set xs k u 13=xs 13:=GQ (H4 j);have e:Ord.set xs k u 14=xs 14:=GQ (H4 i);exact⟨h.below,h.sz,by rw[d,b,f];exact h.t0,by rw[c,a,e];exact h.n0,by rw[d,b];exact h.Fk,by rw[c,a];exact h.Fj⟩
theorem tV.EU(h:tV W A a9 N D xs w)(f:D 13=false):tV W A a9 N (Ord.bB D 13) (Ord.set xs 13 (.pointer (some ⟨w.heap.size,0,none⟩))) (w.alloc (.cells #[.int .u8 0] 5)):=by
 have b:Ord.bB D 13 14=D 14:=GQ (by decide);have d:Ord.bB D 13 15=D 15:=GQ (by decide);have a:Ord.bB D 13 16=D 16:=GQ (by decide);have c:Ord.set xs 13 (.pointer (some ⟨w.heap.size,0,none⟩)) 14=xs 14:=GQ (by decide);have g:D 15≠true:=fun e=>by rw[h.Fk e]at f;cases f
 refine⟨h.below.alloc h.sz _,by have:=h.sz;simp;omega,fun _=>⟨_,GU rfl,h.sz,_,Boxed.new _ _ _,fun e=>absurd (d▸e) g⟩,fun e=>?_,fun _=>GU rfl,by rw[b,a];exact h.Fj⟩;rw[b]at e;obtain⟨B,l,k,v,j,i⟩:=h.n0 e;exact⟨B,by rw[c];exact l,k,v,j.alloc _,by rw[a];exact i⟩
theorem tV.ET(h:tV W A a9 N D xs w)(f:D 14=false):tV W A a9 N (Ord.bB D 14) (Ord.set xs 14 (.pointer (some ⟨w.heap.size,0,none⟩))) (w.alloc (.cells #[.int .i64 0] 3)):=by
 have b:Ord.bB D 14 13=D 13:=GQ (by decide);have a:Ord.bB D 14 15=D 15:=GQ (by decide);have d:Ord.bB D 14 16=D 16:=GQ (by decide);have c:Ord.set xs 14 (.pointer (some ⟨w.heap.size,0,none⟩)) 13=xs 13:=GQ (by decide);have g:D 16≠true:=fun e=>by rw[h.Fj e]at f;cases f
 refine⟨h.below.alloc h.sz _,by have:=h.sz;simp;omega,fun e=>?_,fun _=>⟨_,GU rfl,h.sz,_,Boxed.new _ _ _,fun e=>absurd (d▸e) g⟩,by rw[b,a];exact h.Fk,fun _=>GU rfl⟩;rw[b]at e;obtain⟨B,l,k,v,j,i⟩:=h.t0 e;exact⟨B,by rw[c];exact l,k,v,j.alloc _,by rw[a];exact i⟩
theorem mX{B b:Nat}{t a:TypeId}{u v:Value}(h:Boxed w B t u)(k:Boxed w b a v)(c:t≠a):B≠b:=by
 intro e;subst e;have:=(show w.heap[B]?=_ from h).symm.trans (show w.heap[B]?=_ from k);simp only[GO,Obj.cells.injEq]at this;exact c this.2.1
theorem tV.Ew(h:tV W A a9 N D xs w){B:Nat}{v:Value}(o:xs 13=.pointer (some ⟨B,0,none⟩))(a:A<=B)(l:Boxed w B 5 v)(i:D 13=true):tV W A a9 N (Ord.bB D 15) (Ord.set xs 15 undef) (w.setCell ⟨B,0,none⟩ (.int .u8 (a9:Int))):=by
 have j:Ord.bB D 15 13=D 13:=GQ (by decide);have c:Ord.bB D 15 14=D 14:=GQ (by decide);have b:Ord.bB D 15 16=D 16:=GQ (by decide);have f:Ord.set xs 15 undef 13=xs 13:=GQ (by decide);have d:Ord.set xs 15 undef 14=xs 14:=GQ (by decide);have k:=grownBy_setCell' w B (.int .u8 (a9:Int));refine⟨h.below.setCell (p:=⟨B,0,none⟩) a _,GR h.sz k.size,fun _=>⟨B,by rw[f];exact o,a,_,l.set _,fun _=>rfl⟩,fun e=>?_,fun _=>by rw[j];exact i,by rw[c,b];exact h.Fj⟩;rw[c]at e;obtain⟨t,s,r,n,m,q⟩:=h.n0 e;have g:=mX l m (by decide);exact⟨t,by rw[d];exact s,r,n,m.kept k (by intro e;simp only[GO]at e;exact g e.symm),by rw[b];exact q⟩
theorem tV.Ev(h:tV W A a9 N D xs w){B:Nat}{v:Value}(o:xs 14=.pointer (some ⟨B,0,none⟩))(a:A<=B)(l:Boxed w B 3 v)(i:D 14=true):tV W A a9 N (Ord.bB D 16) (Ord.set xs 16 undef) (w.setCell ⟨B,0,none⟩ (.int .i64 (N:Int))):=by
 have c:Ord.bB D 16 13=D 13:=GQ (by decide);have j:Ord.bB D 16 14=D 14:=GQ (by decide);have b:Ord.bB D 16 15=D 15:=GQ (by decide);have f:Ord.set xs 16 undef 13=xs 13:=GQ (by decide);have d:Ord.set xs 16 undef 14=xs 14:=GQ (by decide);have k:=grownBy_setCell' w B (.int .i64 (N:Int));refine⟨h.below.setCell (p:=⟨B,0,none⟩) a _,GR h.sz k.size,fun e=>?_,fun _=>⟨B,by rw[d];exact o,a,_,l.set _,fun _=>rfl⟩,by rw[c,b];exact h.Fk,fun _=>by rw[j];exact i⟩;rw[c]at e;obtain⟨t,s,r,n,m,q⟩:=h.t0 e;have g:=mX l m (by decide);exact⟨t,by rw[f];exact s,r,n,m.kept k (by intro e;simp only[GO]at e;exact g e.symm),by rw[b];exact q⟩
end
def CU(P C:Value)(N a9:Nat)(L:List Nat)(i:Nat)(u:Value)(w:World):Prop:=
 match i with
 |0=>u=P
 |1=>u=C
 |2=>u=.int .i64 (N:Int)
 |3=>u=.int .u8 (a9:Int)
 |4=>aJ w u (Rg.tag N a9)
 |5=>u=.bool (decide (L=Rg.tag N a9))
 |6=>u=.bool (!decide (L=Rg.tag N a9))
 |_=>True
theorem kE{β:Type}{S:Nat->Prop}{Z:Nat}{W2:World}(f:∀k,Z<=k->S k):OwnFrom Z (fun(_:β)W=>Touch S W2 W):=fun _ _ _ row hs a d=>by
 refine⟨a.os.trans hs.os,a.tape.trans hs.tape,a.output.trans hs.output,GR hs.size a.size,fun i c b=>?_⟩;rw[<-hs.block i c b];exact a.block i (Hh c hs.size) fun e=>b (f i (d i e.symm).1)
theorem iH{β:Type}{Z:Nat}(p:β->Prop):OwnFrom Z (fun(b:β)(_:World)=>p b):=fun _ _ _ _ hs _ _=>hs
theorem jL{β:Type}{Z k:Nat}{o:Obj}(c:k<Z):OwnFrom Z (fun(_:β)(W:World)=>W.heap[k]?=some o):=fun _ _ _ row hs b a=>
 (b.block k (Array.getElem?_eq_some_iff.1 hs).1 fun e=>by have:=(a k e.symm).1;omega).trans hs
def nT(s:List Nat)(pre:List Nat):List Nat:=pre.flatMap fun i=>(Rg.part 64 s (ie 10 i)).drop 12
def FW(s:List Nat)(w:World)(e:Ending)(w':World):Prop:=∃(n k:Nat)(u:Value)(ok:Bool),e=.returned (.tuple #[.int .i64 (n:Int),ed k u,.bool ok])/\(∃p l c,u=.slice p l c)/\Below w.heap.size w w'/\
 (ok=true->Rg.Told s/\Pg.cJ (Rg.cut s)=0/\n=Rg.ej s/\k=Pg.cG (Rg.cut s)/\Own w.heap.size w' u (Pg.cY (Rg.cut s)))/\(ok=false->¬(Rg.Told s/\Pg.cJ (Rg.cut s)=0))
theorem nD(tmps:Array Value)(w:World)(f e d:Nat)(n a b c:Value)(h0:tmps.getD 2 undef=.pointer (some ⟨f,0,none⟩))(o:tmps.getD 3 undef=.pointer (some ⟨e,0,none⟩))(m:tmps.getD 4 undef=.pointer (some ⟨d,0,none⟩))
 (r0:w.heap[f]?=some (.cells #[n] 3 (0,0))) (r1:w.heap[e]?=some (.cells #[a,b] 59 (0,0))) (r2:w.heap[d]?=some (.cells #[c] 4 (0,0))):
 (results Tryz.f70 tmps).run Tryz.prog w=.ok (.tuple #[n,.agg #[a,b],c]) w:=by
 have l:Tryz.f70.results=#[.cell 2 3,.cell 3 59,.cell 4 4]:=rfl;have i:tmps[2]?.getD undef=.pointer (some ⟨f,0,none⟩):=by simpa using h0
 have h:tmps[3]?.getD undef=.pointer (some ⟨e,0,none⟩):=by simpa using o
 have g:tmps[4]?.getD undef=.pointer (some ⟨d,0,none⟩):=by simpa using m
 have c0:=ah r0 0 (v:=n) rfl;have c2:=ah r2 0 (v:=c) rfl;have l1:=run_loadVar_row (P:=Tryz.prog) w e 59 _ _ _ _ r1 Tryz.underlying59 rfl (by kernel_rfl);have k:(loadVar 3 ⟨f,0,none⟩).run Tryz.prog w=.ok n w:=by simp[loadVar,run_underlying Tryz.underlying3,c0]
 have j:(loadVar 4 ⟨d,0,none⟩).run Tryz.prog w=.ok c w:=by simp[loadVar,run_underlying Tryz.underlying4,c2]
 simp[results,l,i,h,g,asAddr,k,l1,j]
theorem zY{s:List Nat}(h:s.length=640):(Rg.rest s 10).length=520:=by
 have:∀m,m<=10->(Rg.rest s m).length=52*m:=fun m=>by
  induction m with
  |zero=>intro _;rfl
  |succ m a=>
   intro hm;rw[Rg.mh,GI,a (by omega),G5,Rg.eI (by omega)];omega
 exact this 10 (GH _)
def EV(N kN:Nat)(S:Value)(bE:Bool)(a:Nat)(i:Nat)(u:Value)(_:World):Prop:=
 match i with
 |0=>u=.int .i64 (N:Int)
 |1=>u=.agg #[.int .u64 (kN:Int),S]
 |2=>u=.int .i64 (a:Int)
 |3=>u=.bool bE
 |_=>True
structure wY(W:World)(A N kN:Nat)(S:Value)(bE:Bool)(D:Nat->Bool)(w:World):Prop where
 aj:Touch (fun k=>A<=k/\k<A+3) W w
 r0:w.heap[A]?=some (.cells #[if D 4 then .int .i64 (N:Int)else .int .i64 0] 3 (0,0))
 r1:w.heap[A+1]?=some (.cells (if D 5 then#[.int .u64 (kN:Int),S]else#[.int .u64 0,.slice none 0 0]) 59 (0,0))
 r2:w.heap[A+2]?=some (.cells #[if D 6 then .bool bE else .bool false] 4 (0,0))
section
variable{W:World}{A N kN:Nat}{S:Value}{bE:Bool}{D:Nat->Bool}{w:World}
theorem wY.quiet(h:wY W A N kN S bE D w)(k:Nat)(a:(k !=4&&k !=5&&k !=6)=true):wY W A N kN S bE (Ord.bB D k) w:=by
 simp only[Hs,IZ]at a;have d:Ord.bB D k 4=D 4:=GQ (H4 a.1.1);have c:Ord.bB D k 5=D 5:=GQ (H4 a.1.2);have b:Ord.bB D k 6=D 6:=GQ (H4 a.2);exact⟨h.aj,by rw[d];exact h.r0,by rw[c];exact h.r1,by rw[b];exact h.r2⟩
theorem wY.Gf(h:wY W A N kN S bE D w):wY W A N kN S bE (Ord.bB D 4) (w.setCell ⟨A,0,none⟩ (.int .i64 (N:Int))):=by
 have t:Touch (fun k=>k=A) w (w.setCell ⟨A,0,none⟩ (.int .i64 (N:Int))):=Touch.set A 0 _ rfl;exact⟨h.aj.trans (t.mono fun k _ e=>by omega),aN (i:=0) h.r0 _,t.row h.r1 (by omega),t.row h.r2 (by omega)⟩
theorem wY.Ge(h:wY W A N kN S bE D w):wY W A N kN S bE (Ord.bB D 5) ((w.setCell ⟨A+1,0,none⟩ (.int .u64 (kN:Int))).setCell ⟨A+1,1,none⟩ S):=by
 have t:Touch (fun k=>k=A+1) w ((w.setCell ⟨A+1,0,none⟩ (.int .u64 (kN:Int))).setCell ⟨A+1,1,none⟩ S):=(Touch.set (S:=fun k=>k=A+1) (A+1) 0 _ rfl).trans (Touch.set (A+1) 1 _ rfl);refine⟨h.aj.trans (t.mono fun k _ e=>by omega),t.row h.r0 (by omega),?_,t.row h.r2 (by omega)⟩;have b:Ord.bB D 5 5=true:=GU rfl;rw[b,GU rfl];have a:=h.r1;cases hd:D 5 with
 |true=>rw[hd,GU rfl]at a;exact aN (i:=1) (aN (i:=0) a (.int .u64 (kN:Int))) S
 |false=>rw[hd,GQ (by decide)]at a;exact aN (i:=1) (aN (i:=0) a (.int .u64 (kN:Int))) S
theorem wY.Gd(h:wY W A N kN S bE D w):wY W A N kN S bE (Ord.bB D 6) (w.setCell ⟨A+2,0,none⟩ (.bool bE)):=by
 have t:Touch (fun k=>k=A+2) w (w.setCell ⟨A+2,0,none⟩ (.bool bE)):=Touch.set (A+2) 0 _ rfl;exact⟨h.aj.trans (t.mono fun k _ e=>by omega),t.row h.r0 (by omega),t.row h.r1 (by omega),aN (i:=0) h.r2 _⟩
end
theorem pX{w:World}{B:Nat}{c:Bool}{a b x y:Value}{T:TypeId}(h:w.heap[B]?=some (.cells (if c then#[a,b]else#[x,y]) T (0,0)))(i:Nat)(d:i<2):∃v,w.cell? ⟨B,i,none⟩=some v:=by
 cases c with
 |true=>
  rw[GU rfl]at h;obtain rfl|rfl:i=0\/i=1:=by omega
  ·exact⟨_,ah h 0 rfl⟩
  ·exact⟨_,ah h 1 rfl⟩
 |false=>
  rw[GQ (by decide)]at h;obtain rfl|rfl:i=0\/i=1:=by omega
  ·exact⟨_,ah h 0 rfl⟩
  ·exact⟨_,ah h 1 rfl⟩
theorem ka{base:Nat}{S:Nat->Prop}{w w':World}{v:Value}{l:List Nat}(h:Own base w v l)(c:Touch S w w')(hs:∀k,base<=k->¬S k):Own base w' v l:=by
 refine⟨⟨h.own.1,?_⟩,h.small,h.len⟩;rcases h.own.2 with e|⟨g,cap,cur,b,a,d,r⟩
 ·exact GJ e
 ·exact GL ⟨g,cap,cur,b,a,c.row d (hs g a),r⟩
theorem AW(n:Nat):((n:Int)==0)=decide (n=0):=by
 by_cases h:n=0
 ·rw[h];rfl
 ·have:((n:Int)==0)=false:=by rw[G6];omega
  rw[this,GY h]
theorem zW(s:List Nat):∀pre:List Nat,(nT s pre).length<=52*pre.length
 | []=>GH _
 |y::q=>by
  have b:=zW s q;have a:=Rg.rm 64 s (ie 10 y);unfold nT at*
  rw[Ha,GI,G5,G2];omega
theorem Touch.Ey{S:Nat->Prop}{a b:World}(h:Touch S a b)(k:Nat)(c:k<a.heap.size)(d:¬S k):b.cell? ⟨k,0,none⟩=a.cell? ⟨k,0,none⟩:=by
 have:=h.block k c d;unfold World.cell?;rw[this]
def Fm(v P C:Value)(i:Nat)(u:Value)(_:World):Prop:=
 match i with
 |0=>u=v
 |1=>u=P
 |2=>u=C
 |_=>True
structure wZ(W:World)(H:Nat)(v:Value)(L Y:List Nat)(D:Nat->Bool)(xs:Nat->Value)(w:World):Prop where
 bq:KeepsOthers W w
 aj:Touch (fun k=>k=H\/H+3<=k) W w
 sz:H+3<=w.heap.size
 s0:D 3=false->Own (H+3) w v L/\Boxed w H 57 v
 s1:D 3=true->Own (H+3) w (xs 3) (L++Y)/\∃u,Boxed w H 57 u/\(D 4=true->u=xs 3)
section
variable{W:World}{H:Nat}{v:Value}{L Y:List Nat}{D:Nat->Bool}{xs:Nat->Value}{w:World}
theorem wZ.any(h:wZ W H v L Y (fun _=>false) (fun _=>undef) w)(xs:Nat->Value):wZ W H v L Y (fun _=>false) xs w:=⟨h.bq,h.aj,h.sz,h.s0,fun e=>by cases e⟩
theorem wZ.quiet(h:wZ W H v L Y D xs w)(k:Nat)(u:Value)(a:(k !=3&&k !=4)=true):wZ W H v L Y (Ord.bB D k) (Ord.set xs k u) w:=by
 simp only[Hs,IZ]at a;have b:Ord.bB D k 3=D 3:=GQ (H4 a.1);have d:Ord.bB D k 4=D 4:=GQ (H4 a.2);have c:Ord.set xs k u 3=xs 3:=GQ (H4 a.1);exact⟨h.bq,h.aj,h.sz,by rw[b];exact h.s0,by rw[b,d,c];exact h.s1⟩
theorem wZ.Et(h:wZ W H v L Y D xs w){l:List Oper}(hC:Ord.closed l D)(m:D 3=false)(f:Own (H+3) w v L)(b:Boxed w H 57 v){c:World}{v3:Value}(d:Own (H+3) c v3 (L++Y))(a:w.grownBy c v.ownBlock)(n:Ord.waits l 4 3=true):wZ W H v L Y (Ord.bB D 3) (Ord.set xs 3 v3) c:=by
 have d4:D 4=false:=by
  cases e:D 4 with
  |false=>rfl
  |true=>have:=Ord.af hC 4 3 n e;rw[m]at this;cases this
 have p:Ord.bB D 3 3=true:=GU rfl;have o:Ord.bB D 3 4=D 4:=GQ (by decide);have j:Ord.set xs 3 v3 3=v3:=GU rfl;refine⟨h.bq.trans (iS f a),h.aj.trans ⟨a.os,a.tape,a.output,a.size,fun i k hs=>a.block i k fun e=>?_⟩,GR h.sz a.size,(fun e=>by rw[p]at e;cases e),fun _=>⟨by rw[j];exact d,v,b.kept a (b.not_row (by decide) f.own),fun e=>by rw[o,d4]at e;cases e⟩⟩;rcases Hi i (H+3)with g|g
 ·exact iP f e.symm g
 ·exact hs (GL g)
theorem wZ.Es(h:wZ W H v L Y D xs w)(f:D 3=true)(b:Own (H+3) w (xs 3) (L++Y)){u:Value}(a:Boxed w H 57 u):wZ W H v L Y (Ord.bB D 4) (Ord.set xs 4 undef) (w.setCell ⟨H,0,none⟩ (xs 3)):=by
 have g:Ord.bB D 4 3=D 3:=GQ (by decide);have c:Ord.set xs 4 undef 3=xs 3:=GQ (by decide);have d:=grownBy_setCell' w H (xs 3);refine⟨h.bq.trans (KeepsOthers.setCell _ _ _),h.aj.trans (Touch.set H 0 _ (GJ rfl)),GR h.sz d.size,(fun e=>by rw[g,f]at e;cases e),fun _=>⟨?_,_,a.set _,fun _=>by rw[c]⟩⟩;rw[c];exact⟨b.own.kept d (.inr (a.not_row (by decide) b.own).symm),b.small,b.len⟩
end
set_option maxRecDepth 100000 in
set_option maxHeartbeats 2000000 in
theorem zh (g off cap : Nat) (s : List Nat) (w : World) (hb : aJ w (.slice (some ⟨g, off, none⟩) 640 cap) s) (ak : s.length = 640) :
    CallsIn Fence.wide 5 Tryz.prog 70 #[.slice (some ⟨g, off, none⟩) 640 cap] w fun e w' => FW s w e w' := by
  refine callsIn_of_wp_marks Tryz.func70 rfl trivial ?_ rfl
  simp only [Tryz.ntmps70, Ir, G2, Hz, Nat.reduceAdd, Nat.reduceSub, IT, IS, I3, IW, Hg, Iy]
  have aI := hb.at_ ak 9 (by decide)
  have aM := hb.at_ ak 10 (by decide)
  have aK := hb.at_ ak 11 (by decide)
  have a1 := kf aI
  obtain ⟨A, f⟩ : ∃ A, A = w.heap.size + 3 := ⟨_, rfl⟩
  obtain ⟨W0, R⟩ : ∃ W0, W0 = ((w.alloc (.cells #[.int .i64 0] 3)).alloc (.cells #[.int .u64 0, .slice none 0 0] 59)).alloc (.cells #[.bool false] 4) := ⟨_, rfl⟩
  have aq : W0.heap.size = A := by rw [R, f]; simp
  have aA : W0.heap[w.heap.size]? = some (.cells #[.int .i64 0] 3 (0, 0)) := by
    rw [R]; exact ((Boxed.new w _ _).alloc _).alloc _
  have aw : W0.heap[w.heap.size + 1]? = some (.cells #[.int .u64 0, .slice none 0 0] 59 (0, 0)) := by
    have h := GM (w.alloc (.cells #[.int .i64 0] 3)) (.cells #[.int .u64 0, .slice none 0 0] 59)
    rw [World.size_alloc] at h
    have hb := (GF (w.heap.size + 2) ((w.alloc (.cells #[.int .i64 0] 3)).alloc (.cells #[.int .u64 0, .slice none 0 0] 59))).alloc (by simp) (.cells #[.bool false] 4)
    rw [R]
    exact (hb.block (w.heap.size + 1) (by omega)).trans h
  have au : W0.heap[w.heap.size + 2]? = some (.cells #[.bool false] 4 (0, 0)) := by
    have h := Boxed.new ((w.alloc (.cells #[.int .i64 0] 3)).alloc (.cells #[.int .u64 0, .slice none 0 0] 59)) 4 (.bool false)
    rw [World.size_alloc, World.size_alloc] at h
    rw [R]; exact h
  have db : Hid (_ ∧ _ ∧ _) := ⟨aA, aw, au⟩
  clear aA aw au
  have aV : Below w.heap.size w W0 := by
    rw [R]
    exact (((GF _ w).alloc (GH _) _).alloc (by simp) _).alloc (by simp; omega) _
  have bF := (aV.cell (p := ⟨g, off + 9, none⟩) a1).trans aI
  have aO := (aV.cell (p := ⟨g, off + 10, none⟩) a1).trans aM
  have aL := (aV.cell (p := ⟨g, off + 11, none⟩) a1).trans aK
  have aH : g < A := by omega
  obtain ⟨o9, bw⟩ : ∃ o, o = off + 9 := ⟨_, rfl⟩
  obtain ⟨br, aE⟩ : ∃ o, o = off + 10 := ⟨_, rfl⟩
  obtain ⟨bp, aD⟩ : ∃ o, o = off + 11 := ⟨_, rfl⟩
  obtain ⟨a9, a6⟩ : ∃ a, a = s.getD 9 0 := ⟨_, rfl⟩
  obtain ⟨J, ae⟩ : ∃ a, a = s.getD 10 0 := ⟨_, rfl⟩
  obtain ⟨E, ad⟩ : ∃ a, a = s.getD 11 0 := ⟨_, rfl⟩
  obtain ⟨N, hN⟩ : ∃ N, N = J + 256 * E := ⟨_, rfl⟩
  have l9 : a9 < 256 := by rw [a6]; exact hb.getD 9
  have bt : J < 256 := by rw [ae]; exact hb.getD 10
  have bs : E < 256 := by rw [ad]; exact hb.getD 11
  rw [← bw, ← a6] at bF
  rw [← aE, ← ae] at aO
  rw [← aD, ← ad] at aL
  have H9 := GD bw
  have dn := GD aE
  have dm := GD aD
  have cq := GD (GW (J : Int) (by omega))
  have cp := GD (GW (E : Int) (by omega))
  have c9 : Hid (Value.int .i64 (IntKind.i64.wrap ((E : Int) * 256)) = .int .i64 ((256 * E : Nat) : Int)) := by
    show _ = _
    rw [GW ((E : Int) * 256) (by omega), show (E : Int) * 256 = ((256 * E : Nat) : Int) by omega]
  have dd : Hid (Value.int .i64 (bits .or .i64 (J : Int) (256 * (E : Int))) = .int .i64 (N : Int)) := by
    show _ = _
    rw [xP J E bt bs, hN]
  have c8 : Hid (W0.heap.size = A) := aq
  have dz := GD R
  have HA := GD f
  have cA := GD a6
  have aY := GD ae
  have aX := GD ad
  have HN := GD hN
  have HL : Hid (a9 < 256 ∧ J < 256 ∧ E < 256) := ⟨l9, bt, bs⟩
  have dj := GD aV
  have bX := GD hb
  have ba := GD ak
  have cy : Hid (640 ≤ cap) := by
    obtain ⟨p, c, hv, r, -⟩ := hb.form
    simp only [Hc] at hv
    show _ ≤ _
    rw [hv.2.2, ← ak]; exact r.1
  clear bw aE aD a6 ae ad hN aI aM aK f aV hb ak
  gi_wp2
  rw [← R]
  clear R aq
  obtain ⟨b, bO⟩ : ∃ b, b = w.heap.size := ⟨_, rfl⟩
  rw [← bO]
  have M := GD bO
  clear bO a1
  refine Ord.In.walk (fun _ => trivial) (vS (.slice (some ⟨g, off, none⟩) 640 cap) g o9 br bp a9 J E N) (tV W0 A a9 N) (fun _ _ => True) (by kernel_rfl) (by kernel_rfl) ?fr ?hfr (fun k u w1 w2 _ h => h) ?hR ?he ?hend
  case hfr =>
    intro xs
    simp only [Ord.fill, Act.put, GP, GX, GV]
    rfl
  case hR =>
    intro xs
    exact ⟨(GF _ W0).drew, Nat.le_of_eq c8.out.symm, (fun e => by cases e), (fun e => by cases e), (fun e => by cases e), (fun e => by cases e)⟩
  case he =>
    iterate 17 (refine Ord.In.aa (fun D xs w2 hD hC hP hR f K' d => ?_) ?_; rotate_left)
    rotate_left
    ·
      clear f
      go_simp
      exact d _ _ ⟨_, rfl, trivial, hR.quiet 0 _ (by decide), rfl⟩
    ·
      have Z := Ord.ab _ f 0 (by decide)
      simp only [vS] at Z
      simp only [Z] at d ⊢
      clear f
      go_simp
      exact d _ _ ⟨_, rfl, trivial, hR.quiet 1 _ (by decide), by show _ = _; rw [H9.out]⟩
    ·
      have X := Ord.ab _ f 1 (by decide)
      simp only [vS] at X
      simp only [X] at d ⊢
      clear f
      have hc := (hR.below.cell (p := ⟨g, o9, none⟩) aH).trans bF
      go_simp
      exact d _ _ ⟨_, rfl, trivial, hR.quiet 2 _ (by decide), rfl⟩
    ·
      clear f
      go_simp
      exact d _ _ ⟨_, rfl, trivial, hR.quiet 3 _ (by decide), rfl⟩
    ·
      have q3 := Ord.ab _ f 3 (by decide)
      simp only [vS] at q3
      simp only [q3] at d ⊢
      clear f
      go_simp
      exact d _ _ ⟨_, rfl, trivial, hR.quiet 4 _ (by decide), by show _ = _; rw [dn.out]⟩
    ·
      have q4 := Ord.ab _ f 4 (by decide)
      simp only [vS] at q4
      simp only [q4] at d ⊢
      clear f
      have hc := (hR.below.cell (p := ⟨g, br, none⟩) aH).trans aO
      go_simp
      exact d _ _ ⟨_, rfl, trivial, hR.quiet 5 _ (by decide), rfl⟩
    ·
      have q5 := Ord.ab _ f 5 (by decide)
      simp only [vS] at q5
      simp only [q5] at d ⊢
      clear f
      go_simp
      exact d _ _ ⟨_, rfl, trivial, hR.quiet 6 _ (by decide), by show _ = _; rw [cq.out]⟩
    ·
      clear f
      go_simp
      exact d _ _ ⟨_, rfl, trivial, hR.quiet 7 _ (by decide), rfl⟩
    ·
      have q7 := Ord.ab _ f 7 (by decide)
      simp only [vS] at q7
      simp only [q7] at d ⊢
      clear f
      go_simp
      exact d _ _ ⟨_, rfl, trivial, hR.quiet 8 _ (by decide), by show _ = _; rw [dm.out]⟩
    ·
      have q8 := Ord.ab _ f 8 (by decide)
      simp only [vS] at q8
      simp only [q8] at d ⊢
      clear f
      have hc := (hR.below.cell (p := ⟨g, bp, none⟩) aH).trans aL
      go_simp
      exact d _ _ ⟨_, rfl, trivial, hR.quiet 9 _ (by decide), rfl⟩
    ·
      have q9 := Ord.ab _ f 9 (by decide)
      simp only [vS] at q9
      simp only [q9] at d ⊢
      clear f
      go_simp
      exact d _ _ ⟨_, rfl, trivial, hR.quiet 10 _ (by decide), by show _ = _; rw [cp.out]⟩
    ·
      have b1 := Ord.ab _ f 10 (by decide)
      simp only [vS] at b1
      simp only [b1] at d ⊢
      clear f
      go_simp
      exact d _ _ ⟨_, rfl, trivial, hR.quiet 11 _ (by decide), c9.out⟩
    ·
      have q6 := Ord.ab _ f 6 (by decide)
      simp only [vS] at q6
      have b0 := Ord.ab _ f 11 (by decide)
      simp only [vS] at b0
      simp only [q6, b0] at d ⊢
      clear f
      go_simp
      exact d _ _ ⟨_, rfl, trivial, hR.quiet 12 _ (by decide), dd.out⟩
    ·
      clear f
      go_simp
      exact d _ _ ⟨_, rfl, trivial, hR.EU hD, trivial⟩
    ·
      clear f
      go_simp
      exact d _ _ ⟨_, rfl, trivial, hR.ET hD, trivial⟩
    ·
      have V := Ord.ab _ f 2 (by decide)
      simp only [vS] at V
      simp only [V] at d ⊢
      clear f
      obtain ⟨B, O, bN, v, C, -⟩ := hR.t0 (hP { on := 13, ground := .data } (by simp) rfl)
      simp only [O] at d ⊢
      have hc := C.cell
      have hf := C.frozen
      go_simp
      exact d _ _ ⟨undef, rfl, trivial, hR.Ew O bN C (hP { on := 13, ground := .data } (by simp) rfl), trivial⟩
    ·
      have bZ := Ord.ab _ f 12 (by decide)
      simp only [vS] at bZ
      simp only [bZ] at d ⊢
      clear f
      obtain ⟨B, O, bN, v, C, -⟩ := hR.n0 (hP { on := 14, ground := .data } (by simp) rfl)
      simp only [O] at d ⊢
      have hc := C.cell
      have hf := C.frozen
      go_simp
      exact d _ _ ⟨undef, rfl, trivial, hR.Ev O bN C (hP { on := 14, ground := .data } (by simp) rfl), trivial⟩
    exact Ord.In.ay
  case hend =>
    intro D xs w1 hR n
    obtain ⟨BT, cC, cl, vT, bH, cE⟩ := hR.t0 (n 13 (by decide)).1
    obtain rfl := cE (n 15 (by decide)).1
    obtain ⟨BN, cD, cm, vN, bI, cF⟩ := hR.n0 (n 14 (by decide)).1
    obtain rfl := cF (n 16 (by decide)).1
    have di := GD hR.below
    have a8 := GD hR.sz
    rw [cC, cD]
    have e0 := (n 0 (by decide)).2
    have e1 := (n 1 (by decide)).2
    have e2 := (n 2 (by decide)).2
    have e3 := (n 3 (by decide)).2
    have e4 := (n 4 (by decide)).2
    have e5 := (n 5 (by decide)).2
    have e6 := (n 6 (by decide)).2
    have e7 := (n 7 (by decide)).2
    have e8 := (n 8 (by decide)).2
    have e9 := (n 9 (by decide)).2
    have bR := (n 10 (by decide)).2
    have bQ := (n 11 (by decide)).2
    have bP := (n 12 (by decide)).2
    simp only [vS] at e0 e1 e2 e3 e4 e5 e6 e7 e8 e9 bR bQ bP
    rw [e0, e1, e2, e3, e4, e5, e6, e7, e8, e9, bR, bQ, bP]
    clear n hR e0 e1 e2 e3 e4 e5 e6 e7 e8 e9 bR bQ bP bF aO aL
    gi_wp2_with (refine ⟨trivial, ?_⟩; gi_at_call 102; refine (callsIn_wide.2 (mC _ 64 _ _ _ _ rfl (by decide))).mono ?_; rintro e w' ⟨rfl, rfl⟩)
    obtain ⟨H, hH⟩ : ∃ H, H = w1.heap.size := ⟨_, rfl⟩
    obtain ⟨W2, I⟩ : ∃ W2, W2 = (((w1.alloc (.cells #[.slice none 0 0] 57)).alloc (.cells #[.slice (some ⟨g, off, none⟩) 640 cap] 57)).alloc (.cells #[.int .i64 64] 3)) := ⟨_, rfl⟩
    rw [← I, ← hH]
    have aq : W2.heap.size = H + 3 := by rw [I, hH]; simp
    have bS : Boxed W2 H 57 (.slice none 0 0) := by rw [I, hH]; exact ((Boxed.new w1 _ _).alloc _).alloc _
    have bC : Boxed W2 (H + 1) 57 (.slice (some ⟨g, off, none⟩) 640 cap) := by
      have h := (Boxed.new (w1.alloc (.cells #[.slice none 0 0] 57)) 57 (.slice (some ⟨g, off, none⟩) 640 cap)).alloc (.cells #[.int .i64 64] 3)
      rw [World.size_alloc] at h
      rw [I, hH]; exact h
    have bK : Boxed W2 (H + 2) 3 (.int .i64 64) := by
      have h := Boxed.new ((w1.alloc (.cells #[.slice none 0 0] 57)).alloc (.cells #[.slice (some ⟨g, off, none⟩) 640 cap] 57)) 3 (.int .i64 64)
      rw [World.size_alloc, World.size_alloc] at h
      rw [I, hH]; exact h
    have ck : Boxed W2 BT 5 (.int .u8 (a9 : Int)) := by rw [I]; exact ((bH.alloc _).alloc _).alloc _
    have bk : Boxed W2 BN 3 (.int .i64 (N : Int)) := by rw [I]; exact ((bI.alloc _).alloc _).alloc _
    have b6 := bH.lt
    have b7 := bI.lt
    have aR : Below A W0 W2 := by
      rw [I]
      exact ((di.out.alloc a8.out _).alloc (by have := a8.out; simp; omega) _).alloc (by have := a8.out; simp; omega) _
    have HH := GD hH
    have bl : A = b + 3 := by rw [HA.out, M.out]
    have cg : A ≤ H := by rw [HH.out]; exact a8.out
    obtain ⟨az, av, ar⟩ := db.out
    rw [← M.out] at az av ar
    have aA := (aR.block b (by omega)).trans az
    have aw := (aR.block (b + 1) (by omega)).trans av
    have au := (aR.block (b + 2) (by omega)).trans ar
    have m : Hid (W2.heap.size = H + 3) := aq
    have HX : Hid (_ ∧ _ ∧ _ ∧ _ ∧ _ ∧ _ ∧ _) := ⟨bl, cg, b6, b7, cl, cm, aH⟩
    have ca : Below b w W2 := by
      have r := dj.out
      rw [← M.out] at r
      exact r.trans (aR.mono (by omega))
    have bW := GD ca
    have bV : Hid (_ ∧ _ ∧ _) := ⟨bS, bC, bK⟩
    clear az av ar bl cg b6 b7 cl cm aH ca hH aq I aR bH bI l9 bt bs bS bC bK
    have an : Hid (_ ∧ _ ∧ _) := ⟨aA, aw, au⟩
    clear aA aw au
    refine wpIn_rangeFunc_ownG (w := W2) (w0 := W2) rfl (by decide) (gf := 142) (lb := #[.pointer (some ⟨H + 1, 0, none⟩), .pointer (some ⟨H + 2, 0, none⟩)]) rfl trivial (enters_of Tryz.func142 (by kernel_rfl) rfl)
      (jS 4 (by decide) (H + 1) (H + 2) g off 640 cap 64 10 (by decide) (by decide) cy.out (by decide) W2 (by have := m.out; omega) (by have := m.out; omega) bV.out.2.1.cell bV.out.2.2.cell) (fun h k => h.trans k) (fun W l o o' hl _ _ _ => ua.put o' hl (by have := m.out; omega) (by have := m.out; omega)) (GF _ _) (fun _ => rfl)
      (fun pre W => (∃ v, Boxed W H 57 v ∧ W.ownsRow (H + 3) 5 1 v (nT s pre).length (ai (nT s pre)) ∧ True) ∧ Touch (fun k => k = H ∨ H + 3 ≤ k) W2 W ∧ (pre.length ≤ 10 ∧ ∀ i ∈ pre, (Rg.part 64 s (ie 10 i)).take 12 = Rg.tag N a9))
      (fun c _ W => c = Code.ret ∧ Touch (fun k => k = b ∨ k = b + 1 ∨ k = b + 2 ∨ k = H ∨ H + 3 ≤ k) W2 W ∧ W.heap[b]? = some (.cells #[.int .i64 0] 3 (0, 0)) ∧ W.heap[b + 1]? = some (.cells #[.int .u64 0, .slice none 0 0] 59 (0, 0)) ∧ W.heap[b + 2]? = some (.cells #[.bool false] 4 (0, 0)) ∧ ∃ i, i < 10 ∧ (Rg.part 64 s i).take 12 ≠ Rg.tag N a9)
      ?hI ?hIx ?h0
      (fun x => { tmps := #[.slice (some ⟨g, off, none⟩) 640 cap, undef, .pointer (some ⟨b, 0, none⟩), .pointer (some ⟨b + 1, 0, none⟩), .pointer (some ⟨b + 1 + 1, 0, none⟩), .pointer (some ⟨BT, 0, none⟩), .pointer (some ⟨BN, 0, none⟩), .pointer (some ⟨H, 0, none⟩), tT g off 640 64 (ie 10 x), undef, undef, .slice (some ⟨g, off, none⟩) 640 cap, .pointer (some ⟨g, o9, none⟩), .int .u8 (a9 : Int), .slice (some ⟨g, off, none⟩) 640 cap, .pointer (some ⟨g, br, none⟩), .int .u8 (J : Int), .int .i64 (J : Int), .slice (some ⟨g, off, none⟩) 640 cap, .pointer (some ⟨g, bp, none⟩), .int .u8 (E : Int), .int .i64 (E : Int), .int .i64 ((256 * E : Nat) : Int), .int .i64 (N : Int), .slice (some ⟨g, off, none⟩) 640 cap, .func (.func 142) #[] #[.pointer (some ⟨H + 1, 0, none⟩), .pointer (some ⟨H + 2, 0, none⟩)], tT g off 640 64 (ie 10 x), undef, undef, undef, undef, undef, undef, undef, undef, undef, undef, undef, undef, undef, undef, undef, undef, undef, undef, undef, undef, undef, undef], defers := [] }) ?assign ?body ?done ?stop
    case hI => exact OwnFrom.and (Go.Own.from (holdsRow_own (H + 3) H 57 5 1 (fun pre : List Nat => (nT s pre).length) (fun pre => ai (nT s pre)) (fun _ _ => True)) _) (OwnFrom.and (kE fun k F => GL (by have := m.out; omega)) (iH _))
    case hIx => exact fun c => OwnFrom.and (iH _) (OwnFrom.and (kE fun k F => by have := m.out; omega) (OwnFrom.and (jL (by have := m.out; have := HX.out; omega)) (OwnFrom.and (jL (by have := m.out; have := HX.out; omega)) (OwnFrom.and (jL (by have := m.out; have := HX.out; omega)) (iH _)))))
    case h0 => exact ⟨⟨_, bV.out.1, World.ownsRow_nil _ _ _ _, trivial⟩, Touch.refl _ _, G7 _, fun i hi => by cases hi⟩
    case assign =>
      intro l x W K d
      gi_wp2
      exact d
    case body =>
      rintro l pre x W ⟨⟨v, hv, t, -⟩, hT, b4, P⟩ hlt
      have b9 : ie 10 x < 10 := pc (by decide) x
      obtain ⟨i, hi⟩ : ∃ i, i = ie 10 x := ⟨_, rfl⟩
      have hP : tT g off 640 64 i = .slice (some ⟨g, off + 64 * i, none⟩) 64 64 := by
        unfold tT yU
        rw [Nat.min_eq_left (by omega)]
      rw [← hi] at b9 ⊢
      have cj : Below w.heap.size w W := by
        have r := bW.out
        rw [M.out] at r
        refine ⟨hT.os.trans r.os, hT.tape.trans r.tape, hT.output.trans r.output, GR r.size hT.size, fun k F => ?_⟩
        rw [← r.block k F]
        refine hT.block k (Hh F r.size) ?_
        have := HX.out
        have := M.out
        rintro (h | h) <;> omega
      have ag := (bX.out.below cj).part ba.out 64 i (by rw [ba.out]; omega)
      rw [hP] at ag ⊢
      obtain ⟨oP, bu⟩ : ∃ o, o = off + 64 * i := ⟨_, rfl⟩
      rw [← bu] at ag ⊢
      obtain ⟨Y, hY⟩ : ∃ Y, Y = Rg.part 64 s i := ⟨_, rfl⟩
      rw [← hY] at ag
      have al : Y.length = 64 := by rw [hY]; exact Rg.eI (by rw [ba.out]; omega)
      have bg : aJ W (.slice (some ⟨g, oP, none⟩) 12 64) (Y.take 12) := by
        have T := ag
        rw [← al] at T
        have h3 := T.take 12 (by omega)
        rw [al] at h3
        exact h3
      have bf : aJ W (.slice (some ⟨g, oP + 12, none⟩) 52 52) (Y.drop 12) := by
        have T := ag
        rw [← al] at T
        have h3 := T.drop 12 (by omega)
        rw [al] at h3
        exact h3
      have bD := ((show Boxed W BT 5 (.int .u8 (a9 : Int)) from by
        have := hT.block BT (by have := HX.out; have := m.out; have := HH.out; omega) (by have := HX.out; have := HH.out; rintro (h | h) <;> omega)
        exact this.trans ck)).cell
      have bE := ((show Boxed W BN 3 (.int .i64 (N : Int)) from by
        have := hT.block BN (by have := HX.out; have := m.out; have := HH.out; omega) (by have := HX.out; have := HH.out; rintro (h | h) <;> omega)
        exact this.trans bk)).cell
      have bb := fun w' : World => wk N a9 (by have := HL.out; have := HN.out; omega) HL.out.1 w'
      have cr := GD bb
      have HV := GD hv
      have ct := GD t
      have HT := GD hT
      have HI := GD hi
      have HY := GD hY
      have bT := GD al
      have aW : Hid (_ ∧ _ ∧ _) := ⟨b4, P, hlt⟩
      have cz := GD bf
      have dA := GD bu
      clear bb hv t hT hi hY al b4 P hlt hP ag cj bf bu b9
      gi_wp2
      refine Ord.In.walk (fun _ => trivial) (CU (.slice (some ⟨g, oP, none⟩) 64 64) (.slice (some ⟨g, oP, none⟩) 12 64) N a9 (Y.take 12)) (fun _ _ w' => Below W.heap.size W w') (fun w' bo => Below w'.heap.size w' bo) (by kernel_rfl) (by kernel_rfl) ?fr5 ?hfr5 ?hTT5 (fun xs => (GF _ W).drew) ?he5 ?hend5
      case hfr5 =>
        intro xs
        simp only [Ord.fill, Act.put, GP, GX, GV]
        rfl
      case hTT5 =>
        intro k u dq dp ht n
        rcases k with _ | _ | _ | _ | _ | _ | _ | k
        · exact n
        · exact n
        · exact n
        · exact n
        · exact aJ.below n ht
        · exact n
        · exact n
        · trivial
      case he5 =>
        iterate 7 (refine Ord.In.aa (fun D xs w2 hD hC hP hR f K' d => ?_) ?_; rotate_left)
        rotate_left
        ·
          clear f
          go_simp
          exact d _ _ ⟨_, rfl, GF _ _, hR, rfl⟩
        ·
          have Z := Ord.ab _ f 0 (by decide)
          simp only [CU] at Z
          simp only [Z] at d ⊢
          clear f
          go_simp
          exact d _ _ ⟨_, rfl, GF _ _, hR, rfl⟩
        ·
          clear f
          have hc := (hR.cell (p := ⟨BN, 0, none⟩) (kf bE)).trans bE
          go_simp
          exact d _ _ ⟨_, rfl, GF _ _, hR, rfl⟩
        ·
          clear f
          have hc := (hR.cell (p := ⟨BT, 0, none⟩) (kf bD)).trans bD
          go_simp
          exact d _ _ ⟨_, rfl, GF _ _, hR, rfl⟩
        ·
          have V := Ord.ab _ f 2 (by decide)
          simp only [CU] at V
          have q3 := Ord.ab _ f 3 (by decide)
          simp only [CU] at q3
          simp only [V, q3] at d ⊢
          clear f
          go_simp
          refine ⟨trivial, (CallsIn.inRound l (callsIn_wide.2 (cr.out w2))).mono ?_⟩
          rintro e w3 ⟨u, rfl, hO, bJ⟩
          exact d _ _ ⟨u, rfl, bJ, hR.trans (bJ.mono hR.size), hO.aP⟩
        ·
          have X := Ord.ab _ f 1 (by decide)
          simp only [CU] at X
          simp only [X] at d ⊢
          have dk := GD f
          clear f
          have q4 := Ord.ab _ dk.out 4 (by decide)
          simp only [CU] at q4
          have he := aG _ (xs 4) _ _ w2 (bg.below hR) q4
          go_simp
          refine ⟨trivial, (CallsIn.inRound l (callsIn_wide.2 he)).mono ?_⟩
          rintro e w3 ⟨rfl, rfl⟩
          exact d _ _ ⟨_, rfl, GF _ _, hR, rfl⟩
        ·
          have q5 := Ord.ab _ f 5 (by decide)
          simp only [CU] at q5
          simp only [q5] at d ⊢
          clear f
          go_simp
          exact d _ _ ⟨_, rfl, GF _ _, hR, rfl⟩
        exact Ord.In.ay
      case hend5 =>
        intro D xs w9 hR n
        have e0 := (n 0 (by decide)).2
        have e1 := (n 1 (by decide)).2
        have e2 := (n 2 (by decide)).2
        have e3 := (n 3 (by decide)).2
        have e5 := (n 5 (by decide)).2
        have e6 := (n 6 (by decide)).2
        simp only [CU] at e0 e1 e2 e3 e5 e6
        rw [e0, e1, e2, e3, e5, e6]
        generalize xs 4 = u4
        clear n e0 e1 e2 e3 e5 e6 bg bD bE
        by_cases hq : Y.take 12 = Rg.tag N a9
        · rw [GK hq]
          have HQ := GD hq
          have HR := GD hR
          clear hq hR
          gi_wp2
          obtain ⟨L, hL⟩ : ∃ L, L = nT s pre := ⟨_, rfl⟩
          have t := ct.out
          rw [← hL] at t
          have aT : ∀ z ∈ L, z < 256 := fun z hz => by
            rw [hL] at hz
            obtain ⟨i', -, T⟩ := List.mem_flatMap.1 hz
            exact Rg.j8 bX.out.small _ z (Ht T)
          have aU : L.length ≤ 640 := by
            rw [hL]
            have r := zW s pre
            have T := aW.out.1
            omega
          have aB : Own (H + 3) W v L := ⟨t, aT, by omega⟩
          have G := aB.below HR.out
          have b2 : Boxed w9 H 57 v := (HR.out.block H HV.out.lt).trans HV.out
          have cR : wZ W H v L (Y.drop 12) (fun _ => false) (fun _ => undef) w9.drew := ⟨⟨HR.out.size, fun k o F _ => (HR.out.block k (Array.getElem?_eq_some_iff.1 F).1).trans F⟩, (Touch.ax HR.out).drew, (by have r := HT.out.size; have T := HR.out.size; have h3 := m.out; show H + 3 ≤ w9.heap.size; omega), fun _ => ⟨G.below ((GF _ w9).drew), b2⟩, fun e => by cases e⟩
          have dg := GD hL
          have df : Hid (L.length ≤ 640) := aU
          clear t aT aU aB G b2 hL
          refine Ord.In.walk (fun _ => trivial) (Fm v (.slice (some ⟨g, oP, none⟩) 64 64) (.slice (some ⟨g, oP + 12, none⟩) 52 52)) (wZ W H v L (Y.drop 12)) (fun _ _ => True) (by kernel_rfl) (by kernel_rfl) ?fr7 ?hfr7 (fun k u w' bo _ h => h) (fun xs => cR.any xs) ?he7 ?hend7
          case hfr7 =>
            intro xs
            simp only [Ord.fill, Act.put, GP, GX, GV]
            rfl
          case he7 =>
            iterate 4 (refine Ord.In.aa (fun D xs w2 hD hC hP hR f K' d => ?_) ?_; rotate_left)
            rotate_left
            ·
              clear f
              have h5 : D 3 = false := by
                cases e : D 3 with
                | false => rfl
                | true => have := Ord.af hC 3 0 (by kernel_rfl) e; rw [hD] at this; cases this
              have hc := (hR.s0 h5).2.cell
              go_simp
              exact d _ _ ⟨_, rfl, trivial, hR.quiet 0 _ (by decide), rfl⟩
            ·
              clear f
              go_simp
              exact d _ _ ⟨_, rfl, trivial, hR.quiet 1 _ (by decide), rfl⟩
            ·
              have X := Ord.ab _ f 1 (by decide)
              simp only [Fm] at X
              simp only [X] at d ⊢
              clear f
              go_simp
              exact d _ _ ⟨_, rfl, trivial, hR.quiet 2 _ (by decide), rfl⟩
            ·
              have Z := Ord.ab _ f 0 (by decide)
              simp only [Fm] at Z
              have V := Ord.ab _ f 2 (by decide)
              simp only [Fm] at V
              simp only [Z, V] at d ⊢
              clear f
              obtain ⟨hO, C⟩ := hR.s0 hD
              obtain ⟨v3, w3, b3, cS, bJ, cQ⟩ := jH 57 (H + 3) v L hO _ (Y.drop 12) (hR.aj.aP cz.out (fun _ g' e => by
  simp only [Value.ownBlock, GO] at e
  subst e
  have := HX.out
  rintro (h | h) <;> omega)) (by rw [G5, bT.out]; decide) (by rw [G5, bT.out]; have := df.out; omega) hR.sz
              refine (GU (by rfl)).mpr ?_
              refine fW (.tmp 35) (.tmp 37) _ _ rfl _ _ rfl rfl v3 w3 b3 ?_
              exact d _ _ ⟨v3, rfl, trivial, hR.Et hC hD hO C cS cQ (by kernel_rfl), trivial⟩
            refine Ord.In.aa (fun D xs w2 hD hC hP hR f K' d => ?_) ?_
            ·
              clear f
              have h5 : D 3 = true := hP { on := 3, ground := .data } (by simp) rfl
              obtain ⟨hO, u, C, -⟩ := hR.s1 h5
              obtain ⟨g5, c5, e5, -, -⟩ := eJ hO (by rw [GI, G5, bT.out]; omega)
              simp only [e5] at d ⊢
              have dw := C.cell
              have dt := C.frozen
              have b5 : (L ++ Y.drop 12).length = L.length + (Y.length - 12) := by simp
              rw [b5] at d
              go_simp
              refine d _ _ ⟨undef, rfl, trivial, ?_, trivial⟩
              rw [← b5, ← e5]
              exact hR.Es h5 hO C
            exact Ord.In.ay
          case hend7 =>
            intro D xs w8 hR n
            obtain ⟨hO, u, C, hu⟩ := hR.s1 (n 3 (by decide)).1
            obtain rfl := hu (n 4 (by decide)).1
            clear n
            gi_wp2
            have cT : nT s (pre ++ [x]) = L ++ Y.drop 12 := by
              unfold nT
              rw [Io, dg.out, HY.out, HI.out]
              simp only [Ha, IC, Ip]
              rfl
            refine ⟨hR.bq.from _, ⟨hR.aj.Ey (H + 1) (by have := m.out; have := HT.out.size; omega) (by omega), hR.aj.Ey (H + 2) (by have := m.out; have := HT.out.size; omega) (by omega)⟩, ⟨_, C, ?_⟩, HT.out.trans hR.aj, ?_, fun j hj => ?_⟩
            · rw [cT]; exact hO.own
            · rw [GI]; exact aW.out.2.2
            · rcases List.mem_append.1 hj with h | h
              · exact aW.out.2.1 j h
              · obtain rfl : j = x := by simpa using h
                rw [← HI.out, ← HY.out]; exact HQ.out
        · rw [GY hq]
          have HQ := GD hq
          have HR := GD hR
          clear hq hR
          have F : ∀ k o, k < H → W2.heap[k]? = some o → w9.heap[k]? = some o := fun k o F ho => by
            have r : W.heap[k]? = some o := (HT.out.block k (by have := m.out; omega) (by rintro (h | h) <;> omega)).trans ho
            exact (HR.out.block k (Array.getElem?_eq_some_iff.1 r).1).trans r
          have cn : b + 2 < H := by have := HX.out; omega
          have bA := F b _ (by omega) an.out.1
          have aF := F (b + 1) _ (by omega) an.out.2.1
          have bz := F (b + 2) _ cn an.out.2.2
          have c0 := ah bA 0 (v := .int .i64 0) rfl
          have c1 := ah aF 0 (v := .int .u64 0) rfl
          have c2 := ah aF 1 (v := .slice none 0 0) rfl
          have c3 := ah bz 0 (v := .bool false) rfl
          have f0 := aC bA 0
          have f1 := aC aF 0
          have f2 := aC aF 1
          have f3 := aC bz 0
          clear F
          gi_wp2
          have cK : (w9.setCell ⟨b, 0, none⟩ (.int .i64 0)).heap[b]? = some (.cells #[.int .i64 0] 3 (0, 0)) := aN (i := 0) bA _
          have t0 : Touch (fun k => k = b) w9 (w9.setCell ⟨b, 0, none⟩ (.int .i64 0)) := Touch.set b 0 _ rfl
          have k0 : KeepsOthers W w9 := ⟨HR.out.size, fun k o F _ => (HR.out.block k (Array.getElem?_eq_some_iff.1 F).1).trans F⟩
          have cB : KeepsOthers w9 (w9.setCell ⟨b, 0, none⟩ (.int .i64 0)) := KeepsOthers.setCell _ _ _
          have cX := t0.row aF (by omega)
          have cV := t0.row bz (by omega)
          generalize w9.setCell ⟨b, 0, none⟩ (.int .i64 0) = wa at *
          have cI : ((wa.setCell ⟨b + 1, 0, none⟩ (.int .u64 0)).setCell ⟨b + 1, 1, none⟩ (.slice none 0 0)).heap[b + 1]? = some (.cells #[.int .u64 0, .slice none 0 0] 59 (0, 0)) := aN (i := 1) (aN (i := 0) cX (.int .u64 0)) (.slice none 0 0)
          have t1 : Touch (fun k => k = b + 1) wa ((wa.setCell ⟨b + 1, 0, none⟩ (.int .u64 0)).setCell ⟨b + 1, 1, none⟩ (.slice none 0 0)) := (Touch.set (S := fun k => k = b + 1) (b + 1) 0 _ rfl).trans (Touch.set (b + 1) 1 _ rfl)
          have c4 := t1.row cK (by omega)
          have cU := t1.row cV (by omega)
          have k1 : KeepsOthers wa ((wa.setCell ⟨b + 1, 0, none⟩ (.int .u64 0)).setCell ⟨b + 1, 1, none⟩ (.slice none 0 0)) := (KeepsOthers.setCell _ _ _).trans (KeepsOthers.setCell _ _ _)
          generalize (wa.setCell ⟨b + 1, 0, none⟩ (.int .u64 0)).setCell ⟨b + 1, 1, none⟩ (.slice none 0 0) = wb at *
          have cH : (wb.setCell ⟨b + 1 + 1, 0, none⟩ (.bool false)).heap[b + 2]? = some (.cells #[.bool false] 4 (0, 0)) := aN (i := 0) cU _
          have t2 : Touch (fun k => k = b + 2) wb (wb.setCell ⟨b + 1 + 1, 0, none⟩ (.bool false)) := Touch.set (b + 2) 0 _ rfl
          have cZ := t2.row c4 (by omega)
          have cW := t2.row cI (by omega)
          have k2 : KeepsOthers wb (wb.setCell ⟨b + 1 + 1, 0, none⟩ (.bool false)) := KeepsOthers.setCell _ _ _
          generalize wb.setCell ⟨b + 1 + 1, 0, none⟩ (.bool false) = wc at *
          refine ⟨?_, rfl, ?_, cZ, cW, cH, i, ?_, ?_⟩
          · exact (((k0.trans cB).trans k1).trans k2).from _
          · exact (((((HT.out.mono fun k _ h => by omega).trans (Touch.ax HR.out)).trans (t0.mono fun k _ h => GJ h)).trans (t1.mono fun k _ h => GL (GJ h)))).trans (t2.mono fun k _ h => GL (GL (GJ h)))
          · rw [HI.out]; exact pc (by decide) x
          · rw [← HY.out]; exact HQ.out
    case done =>
      rintro D ys W hD rfl ⟨⟨v, hv, t, -⟩, hT, -, P⟩ d
      obtain ⟨L, hL⟩ : ∃ L, L = nT s (List.range 10) := ⟨_, rfl⟩
      rw [← hL] at t
      have bM : L = Rg.rest s 10 := by
        rw [hL]
        unfold nT Rg.rest
        have : ∀ q : List Nat, (∀ i ∈ q, i < 10) → (q.flatMap fun i => (Rg.part 64 s (ie 10 i)).drop 12) = q.flatMap fun i => (Rg.part 64 s i).drop 12 := fun q => by
          induction q with
          | nil => intro _; rfl
          | cons y q ih =>
            intro hq
            rw [Ha, Ha, o8 (hq y (Hr ..)), ih fun i hi => hq i (Hx _ hi)]
        exact this _ fun i hi => List.mem_range.1 hi
      have aU : L.length = 520 := by rw [bM]; exact zY ba.out
      have aT : ∀ z ∈ L, z < 256 := fun z hz => by
        rw [hL] at hz
        obtain ⟨i', -, T⟩ := List.mem_flatMap.1 hz
        exact Rg.j8 bX.out.small _ z (Ht T)
      have G : Own (H + 3) W v L := ⟨t, aT, by omega⟩
      have ao : Rg.Told s := fun i hi => by
        have := P i (List.mem_range.2 hi)
        rw [o8 hi] at this
        rw [this]
        have e1 : Rg.ej s = N := by unfold Rg.ej; rw [HN.out, aY.out, aX.out]
        have e2 : Rg.gP s = a9 := by unfold Rg.gP; rw [cA.out]
        rw [e1, e2]
      obtain ⟨g1, c1, rfl, ds, dr⟩ := eJ G (by omega)
      have hc := hv.cell
      have cb : aJ W (.slice (some ⟨g1, 0, none⟩) 512 c1) (Rg.cut s) := by
        have r := G.aP.take 512 (by omega)
        rw [bM] at r
        exact r
      have aQ : 520 ≤ c1 := by
        obtain ⟨p, c, e, r, -⟩ := G.aP.form
        simp only [Hc] at e
        omega
      rw [aU] at hc
      have bU := GD ao
      have HD := GD hD
      have HK := GD d
      have HT := GD hT
      clear aU bM hL aT G ao t P hv hD d hT
      gi_wp2_with (refine ⟨trivial, ?_⟩; gi_at_call 104; refine (callsIn_wide.2 (tb _ _ W cb)).mono ?_; rintro e w5 ⟨u, rfl, a7, cc⟩; obtain ⟨pu, cu, hu⟩ : (∃ pu cu, u = .slice pu (Pg.cY (Rg.cut s)).length cu) := (let ⟨p, c, h, _⟩ := a7.aP.form; ⟨p, c, h⟩); subst hu; obtain ⟨kN, bx⟩ : (∃ kN, kN = Pg.cG (Rg.cut s)) := ⟨_, rfl⟩; obtain ⟨eE, bB⟩ : (∃ eE, eE = Pg.cJ (Rg.cut s)) := ⟨_, rfl⟩; obtain ⟨lU, aZ⟩ : (∃ lU, lU = (Pg.cY (Rg.cut s)).length) := ⟨_, rfl⟩; rw [← bx, ← bB, ← aZ]; rw [← aZ] at a7; have dh := GD bx; have cx := GD bB; have de := GD aZ; have dc := GD a7; have bY := GD cc; clear bx bB aZ a7 cc cb hc aQ)
      obtain ⟨Q, hQ⟩ : ∃ Q, Q = w5.heap.size := ⟨_, rfl⟩
      obtain ⟨W6, aS⟩ : ∃ W6, W6 = w5.alloc (.cells #[.int .u64 (kN : Int), .slice pu lU cu] 59) := ⟨_, rfl⟩
      rw [← aS, ← hQ]
      have bL : W6.heap[Q]? = some (.cells #[.int .u64 (kN : Int), .slice pu lU cu] 59 (0, 0)) := by rw [aS, hQ]; exact GM _ _
      have a2 : Below W.heap.size W W6 := by rw [aS]; exact bY.out.alloc bY.out.size _
      have cd : H + 3 ≤ W.heap.size := by have := HT.out.size; have := m.out; omega
      have O := HX.out
      have hold : ∀ k, k < H → W6.heap[k]? = W2.heap[k]? := fun k F => (a2.block k (by omega)).trans (HT.out.block k (by have := m.out; omega) (by rintro (h | h) <;> omega))
      have Z := (hold b (by omega)).trans an.out.1
      have X := (hold (b + 1) (by omega)).trans an.out.2.1
      have V := (hold (b + 2) (by omega)).trans an.out.2.2
      have cN : W6.cell? ⟨BN, 0, none⟩ = some (.int .i64 (N : Int)) := ah ((hold BN (by have := HH.out; omega)).trans bk) 0 rfl
      have c7 := ah bL 0 (v := .int .u64 (kN : Int)) rfl
      have c6 := ah bL 1 (v := .slice pu lU cu) rfl
      have cf : b + 3 ≤ Q := by have := bY.out.size; omega
      have bj : b + 3 ≤ BN := by omega
      have bc : W6.heap[D]? = some (.deferred (some [])) := (a2.block D (Array.getElem?_eq_some_iff.1 HK.out).1).trans HK.out
      have bh : Own W.heap.size W6 (.slice pu lU cu) (Pg.cY (Rg.cut s)) := by rw [aS]; exact dc.out.below ((GF _ w5).alloc (GH _) _)
      have ch : b + 3 ≤ D := by have := HD.out; have := m.out; omega
      have bd : Below b w W6 := by
        have r := bW.out
        have T : Below b w W := ⟨HT.out.os.trans r.os, HT.out.tape.trans r.tape, HT.out.output.trans r.output, GR r.size HT.out.size, fun k F => (HT.out.block k (by have := m.out; omega) (by rintro (h | h) <;> omega)).trans (r.block k F)⟩
        exact T.trans (a2.mono (by omega))
      have da : Hid (wY W6 b N kN (.slice pu lU cu) (decide (eE = 0)) (fun _ => false) W6.drew) := ⟨(Touch.refl _ _).drew, Z, X, V⟩
      have bm := GD bc
      have cw := GD bh
      have bn := GD bd
      have U : Hid (_ ∧ _ ∧ _ ∧ _) := ⟨cf, bj, ch, cd⟩
      clear hQ aS bL a2 cd O hold Z X V bc bh bd cf bj ch
      refine Ord.In.walk (fun _ => trivial) (EV N kN (.slice pu lU cu) (decide (eE = 0)) eE) (fun D _ w' => wY W6 b N kN (.slice pu lU cu) (decide (eE = 0)) D w') (fun _ _ => True) (by kernel_rfl) (by kernel_rfl) ?fr9 ?hfr9 (fun k u w' bo _ h => h) (fun _ => da.out) ?he9 ?hend9
      case hfr9 =>
        intro xs
        simp only [Ord.fill, Act.put, GP, GX, GV]
        rfl
      case he9 =>
        iterate 7 (refine Ord.In.aa (fun D xs w2 hD hC hP hR f K' d => ?_) ?_; rotate_left)
        rotate_left
        ·
          clear f
          have hc := hR.aj.cell (p := ⟨BN, 0, none⟩) cN (by have := U.out; dsimp only; omega)
          go_simp
          exact d _ _ ⟨_, rfl, trivial, hR.quiet 0 (by decide), rfl⟩
        ·
          clear f
          have bG := hR.aj.cell (p := ⟨Q, 0, none⟩) c7 (by have := U.out; dsimp only; omega)
          have aQ := hR.aj.cell (p := ⟨Q, 1, none⟩) c6 (by have := U.out; dsimp only; omega)
          go_simp
          exact d _ _ ⟨_, rfl, trivial, hR.quiet 1 (by decide), rfl⟩
        ·
          clear f
          go_simp
          exact d _ _ ⟨_, rfl, trivial, hR.quiet 2 (by decide), rfl⟩
        ·
          have V := Ord.ab _ f 2 (by decide)
          simp only [EV] at V
          simp only [V] at d ⊢
          clear f
          go_simp
          exact d _ _ ⟨_, rfl, trivial, hR.quiet 3 (by decide), by show Value.bool _ = _; rw [AW]⟩
        ·
          have Z := Ord.ab _ f 0 (by decide)
          simp only [EV] at Z
          simp only [Z] at d ⊢
          clear f
          have hc := ah hR.r0 0 rfl
          have hf := aC hR.r0 0
          go_simp
          exact d _ _ ⟨undef, rfl, trivial, hR.Gf, trivial⟩
        ·
          have X := Ord.ab _ f 1 (by decide)
          simp only [EV] at X
          simp only [X] at d ⊢
          clear f
          have dv := aC hR.r1 0
          have du := aC hR.r1 1
          have bG : ∃ v, w2.cell? ⟨b + 1, 0, none⟩ = some v := pX hR.r1 0 (by decide)
          have aQ : ∃ v, w2.cell? ⟨b + 1, 1, none⟩ = some v := pX hR.r1 1 (by decide)
          obtain ⟨z0, bG⟩ := bG
          obtain ⟨z1, aQ⟩ := aQ
          go_simp
          exact d _ _ ⟨undef, rfl, trivial, hR.Ge, trivial⟩
        ·
          have q3 := Ord.ab _ f 3 (by decide)
          simp only [EV] at q3
          simp only [q3] at d ⊢
          clear f
          have hc := ah hR.r2 0 rfl
          have hf := aC hR.r2 0
          go_simp
          exact d _ _ ⟨undef, rfl, trivial, hR.Gd, trivial⟩
        exact Ord.In.ay
      case hend9 =>
        intro D' xs w8 hR n
        have e4 := (n 4 (by decide)).1
        have e5 := (n 5 (by decide)).1
        have e6 := (n 6 (by decide)).1
        have r0 := hR.r0
        have r1 := hR.r1
        have r2 := hR.r2
        rw [e4, GU rfl] at r0
        rw [e5, GU rfl] at r1
        rw [e6, GU rfl] at r2
        have b8 : w8.heap[D]? = some (.deferred (some [])) := (hR.aj.block D (Array.getElem?_eq_some_iff.1 bm.out).1 (by have := U.out; omega)).trans bm.out
        have cv := GD hR.aj
        clear n hR e4 e5 e6
        gi_wp2
        refine ⟨by simp, .inl ⟨_, _, rfl, run_takeDeferred b8, ?_⟩⟩
        have O : ∀ k, k < b + 3 → (w8.putObj D (.deferred none)).heap[k]? = w8.heap[k]? := fun k F => World.putObj_heap_other (by have := U.out; omega)
        refine ⟨_, nD _ _ b (b + 1) (b + 2) _ _ _ _ rfl rfl rfl ((O b (by omega)).trans r0) ((O (b + 1) (by omega)).trans r1) ((O (b + 2) (by omega)).trans r2), N, kN, .slice pu lU cu, decide (eE = 0), rfl, ⟨_, _, _, rfl⟩, ?_, fun e => ⟨bU.out, ?_, ?_, dh.out, ?_⟩, fun e ht => ?_⟩
        · rw [← M.out]
          refine (bn.out.trans (cv.out.below (fun k F => F.1) (by have := bn.out.size; have := M.out; omega))).trans ⟨rfl, rfl, rfl, by simp [World.putObj], fun k F => O k (by omega)⟩
        · rw [← cx.out]; exact IJ e
        · unfold Rg.ej; rw [HN.out, aY.out, aX.out]
        · have r := cw.out
          refine ⟨ownsRow_putObj ?_ _ b8 rfl, r.small, r.len⟩
          have T := ka r cv.out fun k F => by have := U.out; have := HX.out; omega
          have h3 := T.from (base' := w.heap.size) (by have := U.out; have := M.out; have := HX.out; omega)
          have h4 := h3.own
          rw [de.out] at h4 ⊢
          exact h4
        · have := of_decide_eq_false e
          rw [cx.out] at this
          exact this ht.2
    case stop =>
      rintro D c pre W hD _ ⟨rfl, hT, cP, cO, cM, i, hi, cL⟩ d
      gi_wp2
      refine ⟨by simp, .inl ⟨_, _, rfl, run_takeDeferred d, ?_⟩⟩
      have dx : H + 3 ≤ D := by have := m.out; omega
      have dy : b + 3 ≤ H := by have := HX.out; omega
      have O : ∀ k, k < H + 3 → (W.putObj D (.deferred none)).heap[k]? = W.heap[k]? := fun k F => World.putObj_heap_other (by omega)
      refine ⟨_, nD _ _ b (b + 1) (b + 2) _ _ _ _ rfl rfl rfl ((O b (by omega)).trans cP) ((O (b + 1) (by omega)).trans cO) ((O (b + 2) (by omega)).trans cM), 0, 0, .slice none 0 0, false, rfl, ⟨_, _, _, rfl⟩, ?_, (fun e => by cases e), fun _ ht => ?_⟩
      · have r := bW.out
        have T : Below b w W := ⟨hT.os.trans r.os, hT.tape.trans r.tape, hT.output.trans r.output, GR r.size hT.size, fun k F => (hT.block k (by have := m.out; omega) (by omega)).trans (r.block k F)⟩
        rw [← M.out]
        exact T.trans ⟨rfl, rfl, rfl, by simp [World.putObj], fun k F => O k (by omega)⟩
      · refine cL ?_
        rw [ht.1 i hi]
        have e1 : Rg.ej s = N := by unfold Rg.ej; rw [HN.out, aY.out, aX.out]
        have e2 : Rg.gP s = a9 := by unfold Rg.gP; rw [cA.out]
        rw [e1, e2]
theorem xj(g off cap:Nat)(s:List Nat)(w:World)(b:aJ w (.slice (some ⟨g,off,none⟩) 640 cap) s)(a:s.length=640):
 Calls Tryz.prog 70 #[.slice (some ⟨g,off,none⟩) 640 cap] w fun e w'=>FW s w e w':=callsIn_wide.1 (zh g off cap s w b a)
end Go.Proofs.YtbpodmallknhfaaGreat
