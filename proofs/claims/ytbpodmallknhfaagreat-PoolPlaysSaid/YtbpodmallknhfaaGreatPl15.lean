/- Parts of a proof. Conditions: as each row says. -/
import Derived.Test.YtbpodmallknhfaaGreatPl03
import Derived.RangeFuncBox
import Derived.RangeFuncWrites
import Derived.RangeFuncLeaves
import Derived.Shelf.Abstract
import Derived.WalkKit
import Derived.OwnWalkIn
import Derived.TacticsInMore
import Derived.LoopNIn
import Derived.LoopIn
import Derived.Maps.AppendAt
import Derived.IntWalk
import Derived.Sort.QuietIn
namespace Go.Proofs.YtbpodmallknhfaaGreat
open Go.RowKit Go.Shelf
attribute [local go_sem] Oper.semAt_some
def ie(m x:Nat):Nat:=if x<m then x else 0
def yU(len K x:Nat):Nat:=min K (len-K*x)
def tT(b off len K x:Nat):Value:=.slice (some ⟨b,off+K*x,none⟩) (yU len K x) (yU len K x)
theorem pc{m:Nat}(h:0<m)(x:Nat):ie m x<m:=by unfold ie;split<;>omega
theorem o8{m x:Nat}(h:x<m):ie m x=x:=GU h
def ua(b c:Nat)(W a:World):Prop:=a.cell? ⟨b,0,none⟩=W.cell? ⟨b,0,none⟩/\a.cell? ⟨c,0,none⟩=W.cell? ⟨c,0,none⟩
theorem ua.refl(a b:Nat)(W:World):ua a b W W:=⟨rfl,rfl⟩
theorem ua.trans{a b:Nat}{A B C:World}(h:ua a b A B)(k:ua a b B C):ua a b A C:=⟨k.1.trans h.1,k.2.trans h.2⟩
theorem ua.put{b c a:Nat}{W:World}{l:Nat}(d:Obj)(hl:a<=l)(h:b<a)(g:c<a):ua b c W (W.putObj l d):=by
 have e:∀B,B≠l->(W.putObj l d).heap[B]?=W.heap[B]?:=fun B f=>World.putObj_heap_other f;constructor
 ·unfold World.cell?;rw[e b (by omega)]
 ·unfold World.cell?;rw[e c (by omega)]
set_option maxRecDepth 100000 in
set_option maxHeartbeats 2000000 in
theorem yA(F:Fence)(n:Nat)(h7:F.fn 142)(B:F.round=none)(hn:1<=n)(l t u b off len cap K m:Nat)(hK:1<=K/\K<=1000)(hlen:len<=100000)(af:len<=cap)(hm:len<=K*m/\K*m<len+K)
 (J Jx:List Nat->World->Prop)
 (hY:∀pre x W,J pre W->pre.length<m->YieldAt F (n-1) Tryz.prog l #[tT b off len K (ie m x)] W fun e z=>
  (e=.returned (.bool true)/\J (pre++[x]) z/\ua t u W z)\/(e=.returned (.bool false)/\Jx (pre++[x]) z))
 (W:World) (aa:W.cell? ⟨t,0,none⟩=some (.slice (some ⟨b,off,none⟩) len cap)) (O:W.cell? ⟨u,0,none⟩=some (.int .i64 (K:Int))) (h0:J [] W) (N:∀pre w,J pre w->J pre w.drew):
 CallsIn F n Tryz.prog 142 #[.func (.yield l) #[] #[],.pointer (some ⟨t,0,none⟩),.pointer (some ⟨u,0,none⟩)] W fun e z=>(∃v,e=.returned v)/\
  ((∃ys,ys=List.range m/\J ys z)\/(∃pre,(∃k,k<=m/\pre=List.range k)/\Jx pre z)):=by
 refine callsIn_of_wp Tryz.func142 rfl h7 ?_ B;simp only[Tryz.ntmps142,Ir,G2,Hz,Nat.reduceAdd,Nat.reduceSub,IT,IS,I3,IW,Hg,Iy];gi_wp2
 gi_loopw [4] (fun i wr=>∃k:Nat,k<=m/\i=.int .i64 ((K*k:Nat):Int)/\J (List.range k) wr/\ua t u W wr)
  (fun i _=>len+K-(intOf i).toNat)
 case atStart=>exact⟨0,G7 _,rfl,h0,ua.refl _ _ _⟩
 case round=>
  obtain⟨k,hk,rfl,r,d⟩:=hrel;have I:wr.cell? ⟨t,0,none⟩=some (.slice (some ⟨b,off,none⟩) len cap):=d.1.trans aa;have X:wr.cell? ⟨u,0,none⟩=some (.int .i64 (K:Int)):=d.2.trans O;by_cases hlt:k<m
  ·have p:K*k+K<=K*m:=by
    have:=Nat.mul_le_mul_left K (show k+1<=m from hlt);rw[Jl]at this;exact this
   obtain⟨q,y⟩:∃q,q=K*k:=⟨_,rfl⟩
   obtain⟨E,Z⟩:∃E,E=yU len K k:=⟨_,rfl⟩
   have f:E=min K (len-q):=by rw[Z,y];rfl
   have g:q+K<=K*m:=by rw[y];exact p
   have V:(K:Int)*(k:Int)=(q:Int):=by rw[y];simp
   have ag:q<len:=by omega
   have c:(q:Int)<(len:Int):=by omega
   have a:min (K:Int) ((len:Int)-(q:Int))=(E:Int):=by rw[f];omega
   rw[show((K*k:Nat):Int)=(q:Int)by rw[y]];have T:¬(q:Int)<0:=by omega
   have S:(q:Int)<=(len:Int):=by omega
   have R:q<=len:=by omega
   have o:q+E<=len:=by rw[f];omega
   have j:=GW ((q:Int)+(E:Int)) (by omega);have h:=GW ((q:Int)+(K:Int)) (by omega);have HG:Hid (_/\_/\_/\_/\_/\_/\_/\_/\_):=⟨c,a,T,S,R,o,j,h,g⟩
   have ah:=GD p;have Q:=GD y;have ab:=GD Z;have s:=GD f;clear c a T S R o j h g p V y Z f;gi_wp2
   obtain⟨c,a,T,S,R,o,j,h,-⟩:=HG.out;refine wpIn_region_quiet_lit B (by kernel_rfl) (by kernel_rfl) ?_;repeat (gi_big_quiet_step (fail))
   refine wpQuietIn_nil ?_;rintro wq⟨A,rfl⟩;have G:(if len-q<K then((len-q:Nat):Int)else(K:Int))=(E:Int):=by
    have:=s.out;split<;>omega
   rw[G];have M:∀i:Nat,J (List.range k) (wr.drewN i):=fun i=>by
    induction i with
    |zero=>exact r
    |succ i ih=>exact N _ _ ih
   obtain⟨fn,tmps,assign,body,U,hR⟩:=hY _ k (wr.drewN A) (M A) (by simp;exact hlt);rw[o8 hlt]at U;unfold tT at U;rw[<-ab.out,<-Q.out]at U;have H:(wr.drewN A).cell? ⟨t,0,none⟩=some (.slice (some ⟨b,off,none⟩) len cap):=I;have g4:q<=q+E:=by omega
   have g5:(q:Int)<=(q:Int)+(E:Int):=by omega
   have g6:(q:Int)+(E:Int)<=(cap:Int):=by omega
   have g7:q+E<=cap:=by omega
   have g8:¬E=0:=by have:=s.out;omega
   have g9:¬q+E=q:=by omega
   have C:ua t u W (wr.drewN A):=d;have P:=GD C;clear M r I X d C G T S R c a HG N h0 s;generalize wr.drewN A=w2 at*
   gi_wp2
   refine hR.mono ?_;rintro e W3(⟨rfl,Y,D⟩|⟨rfl,L⟩)
   ·have ae:W3.cell? ⟨u,0,none⟩=some (.int .i64 (K:Int)):=(P.out.trans D).2.trans O;clear H;gi_wp2
    go_roundw
    case rel=>exact⟨k+1,by omega,by rw[show K*(k+1)=q+K by rw[Q.out,Jl]];simp,by rw[IV];exact Y,P.out.trans D⟩
    case measure=>simp[intOf];omega
   ·gi_wp2
    refine bodyPost_ret (results_none rfl _ _ _) rfl ?_;exact⟨⟨_,rfl⟩,.inr ⟨_,⟨k+1,by omega,(IV).symm⟩,L⟩⟩
  ·obtain rfl:k=m:=by omega
   have ad:¬K*k<len:=by omega
   gi_wp2
   go_end0
   exact⟨⟨_,rfl⟩,.inl ⟨_,rfl,r⟩⟩
end Go.Proofs.YtbpodmallknhfaaGreat
