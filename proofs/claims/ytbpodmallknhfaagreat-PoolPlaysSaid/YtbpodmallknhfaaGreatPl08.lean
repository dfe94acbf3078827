/- Parts of a proof. Conditions: as each row says. -/
import Derived.Test.YtbpodmallknhfaaGreatPl03
import Derived.Deep.SlicePairs
import Derived.Lib.SmallJoins
import Derived.ProofKit
import Derived.OpenShut
import Derived.SizedLaws
namespace Go.Proofs.YtbpodmallknhfaaGreat
open Go.ChangeShapes Go.WideShapes Go.ChangeAt Go.RowKit Go.Deep Go.Joins
structure PopV where
 kind:Int
 n:Int
 fill:Int
 bare:Bool
instance :Inhabited PopV:=⟨⟨0,0,0,false⟩⟩
structure By(W:World)(b o:Nat)(x:PopV):Prop where
 c0:W.cell? ⟨b,o,none⟩=some (.int .i64 x.kind)
 c1:W.cell? ⟨b,o+1,none⟩=some (.int .i64 x.n)
 c2:W.cell? ⟨b,o+2,none⟩=some (.int .i64 x.fill)
 c3:W.cell? ⟨b,o+3,none⟩=some (.bool x.bare)
 k0:Ints.rS x.kind
 k1:Ints.rS x.n
 k2:Ints.rS x.fill
theorem mQ{α:Type} [Inhabited α]{P:Nat->α->Prop}:∀(n:Nat),(∀i,i<n->∃x,P i x)->∃l:List α,l.length=n/\∀i,i<n->P i (l.getD i default)
 |0,_=>⟨[],rfl,fun i h=>absurd h (Ii i)⟩
 |n+1,h=>by
  obtain⟨l,a,e⟩:=mQ n fun i c=>h i (by omega);obtain⟨x,b⟩:=h n (Nat.lt_succ_self n);refine⟨l++[x],by simp[a],fun i c=>?_⟩;by_cases d:i<n
  ·have:=e i d;rw[GG,Ig (by omega),<-GG];exact this
  ·obtain rfl:i=n:=by omega
   rw[GG,Hy (by omega)];simpa[a]using b
set_option maxRecDepth 20000 in
theorem Az{H:Type}{enc:TypeId×Value->H}{W:World}{base n:Nat}{spare:Nat->Bool}{held:Bool}{b o:Nat}{cs:List Value}{y:DataW H×List MemPlace}
 (s:W.cells? base ⟨b,o,none⟩ 4=some cs) (r:DataW.trod enc Tryz.prog W base spare held n 32 cs=some y):∃x:PopV,By W b o x:=by
 obtain⟨_,hlen,a⟩:=World.cells?_some s;obtain⟨xs,k,B,q,_,c,hf⟩:=DataW.trod_struct Tryz.underlying32 r;match xs,c,cs,hlen with
 | [A,z,w,v],_,[v0,v1,v2,v3],_=>
  have g:=hf 0 _ rfl;have f:=hf 1 _ rfl;have e:=hf 2 _ rfl;have d:=hf 3 _ rfl;have p:Tryz.prog.cellsOf 3=1:=by kernel_rfl
  have m:Tryz.prog.cellsOf 4=1:=by kernel_rfl
  simp[p,m]at g f e d;have l:=a 0 (by omega);have j:=a 1 (by omega);have i:=a 2 (by omega);have h:=a 3 (by omega);simp[add_plain]at l j i h;obtain⟨a0,f0,-,w0⟩:=DataW.trod_int (k:=.i64) Tryz.underlying3 g;obtain⟨u,f1,-,w1⟩:=DataW.trod_int (k:=.i64) Tryz.underlying3 f;obtain⟨t,f2,-,w2⟩:=DataW.trod_int (k:=.i64) Tryz.underlying3 e;obtain⟨a3,f3,-⟩:=DataW.trod_bool Tryz.underlying4 d;simp only[List.cons.injEq,Jj]at f0 f1 f2 f3;subst f0 f1 f2 f3;exact⟨⟨a0,u,t,a3⟩,⟨l,j,i,h,w0,w1,w2⟩⟩
structure Bx(W:World)(v:Value)(l:List PopV):Prop where
 form:∃p cap,v=.slice p l.length cap/\(l.length<=cap/\cap<=9223372036854775807)/\(p=none->cap=0)/\(0<l.length->∃b off,p=some ⟨b,off,none⟩/\∀i,i<l.length->By W b (off+i*4) (l.getD i default))
set_option maxRecDepth 20000 in
theorem xQ{H:Type}{enc:TypeId×Value->H}{W:World}{base:Nat}{spare:Nat->Bool}{held:Bool}{a:Option Addr}{len cap:Nat}{d:DataW H}{s:List MemPlace}
 (h:DataW.Trod enc Tryz.prog W base spare held 22 (.slice a len cap) d s):∃l:List PopV,Bx W (.slice a len cap) l:=by
 obtain⟨fuel,hf⟩:=h;have ce:Tryz.prog.cellsOf 32=4:=by kernel_rfl
 rcases open_slice Tryz.underlying22 hf with⟨f,_⟩|⟨x,l,c,m,n,D,A,f,_,hl,hm,p,z,r⟩
 ·simp[Value.cells]at f;obtain⟨rfl,rfl,rfl⟩:=f;exact⟨[],⟨none,0,rfl,by decide,fun _=>rfl,fun h=>absurd h (by decide)⟩⟩
 ·simp[Value.cells]at f;obtain⟨rfl,rfl,rfl⟩:=f;have t:len<=m:=by rw[p];split<;>omega
  obtain⟨b,off,spot⟩:=x;rcases IB len with h0|h0
  ·subst h0;exact⟨[],⟨_,cap,rfl,⟨hl,by unfold maxLen at hm;exact hm⟩,fun h=>(by simp at h),fun h=>absurd h (by decide)⟩⟩
  have g:spot=none:=by
   obtain⟨o,k,_⟩:=r 0 (by omega);rw[ce]at k;obtain⟨_,hlen,j⟩:=World.cells?_some k;have e:=j 0 (by omega);rw[GS (show 0<o.length by omega)]at e;have w:=World.cell?_spot e;simpa[Addr.add]using w
  subst g;obtain⟨L,u,q⟩:=mQ (α:=PopV) (P:=fun i x=>By W b (off+i*4) x) len (fun i y=>by
   obtain⟨o,k,v⟩:=r i (by omega);rw[ce,add_plain]at k;exact Az k v)
  subst u;exact⟨L,⟨_,cap,rfl,⟨hl,by unfold maxLen at hm;exact hm⟩,fun h=>(by simp at h),fun _=>⟨b,off,rfl,q⟩⟩⟩
end Go.Proofs.YtbpodmallknhfaaGreat
