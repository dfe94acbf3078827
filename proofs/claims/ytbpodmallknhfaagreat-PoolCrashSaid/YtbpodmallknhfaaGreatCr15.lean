/- Parts of a proof. Conditions: as each row says. -/
import Derived.Test.YtbpodmallknhfaaGreatCr03
import Derived.RangeFuncBox
import Derived.RangeFuncWrites
import Derived.RangeFuncLeaves
import Derived.Shelf.Abstract
import Derived.WalkKit
import Derived.OwnWalkIn
import Derived.TacticsInMore
import Derived.LoopNIn
import Derived.LoopIn
import Derived.Maps.AppendAt
import Derived.IntWalk
import Derived.Sort.QuietIn
namespace Go.Proofs.YtbpodmallknhfaaGreat
open Go.RowKit Go.Shelf
attribute [local go_sem] Oper.semAt_some
def ie(m x:Nat):Nat:=if x<m then x else 0
def An(len K x:Nat):Nat:=min K (len-K*x)
def vf(b off len K x:Nat):Value:=.slice (some ⟨b,off+K*x,none⟩) (An len K x) (An len K x)
theorem pP{m:Nat}(h:0<m)(x:Nat):ie m x<m:=by unfold ie;split<;>omega
theorem pO{m x:Nat}(h:x<m):ie m x=x:=if_pos h
def vk(b c:Nat)(W a:World):Prop:=a.cell? ⟨b,0,none⟩=W.cell? ⟨b,0,none⟩/\a.cell? ⟨c,0,none⟩=W.cell? ⟨c,0,none⟩
theorem vk.refl(a b:Nat)(W:World):vk a b W W:=⟨rfl,rfl⟩
theorem vk.trans{a b:Nat}{A B C:World}(h:vk a b A B)(k:vk a b B C):vk a b A C:=⟨k.1.trans h.1,k.2.trans h.2⟩
theorem vk.put{b c a:Nat}{W:World}{l:Nat}(d:Obj)(hl:a<=l)(h:b<a)(g:c<a):vk b c W (W.putObj l d):=by
 have e:∀B,B≠l->(W.putObj l d).heap[B]?=W.heap[B]?:=fun B f=>World.putObj_heap_other f;constructor
 ·unfold World.cell?;rw[e b (by omega)]
 ·unfold World.cell?;rw[e c (by omega)]
set_option maxRecDepth 100000 in
set_option maxHeartbeats 2000000 in
theorem zQ(F:Fence)(n:Nat)(h7:F.fn 142)(C:F.round=none)(hn:1<=n)(l u y b off len cap K m:Nat)(hK:1<=K/\K<=1000)(hlen:len<=100000)(af:len<=cap)(hm:len<=K*m/\K*m<len+K)
 (J Jx:List Nat->World->Prop)
 (hY:∀pre x W,J pre W->pre.length<m->YieldAt F (n-1) Tryz.prog l #[vf b off len K (ie m x)] W fun e A=>
  (e=.returned (.bool true)/\J (pre++[x]) A/\vk u y W A)\/(e=.returned (.bool false)/\Jx (pre++[x]) A))
 (W:World) (aa:W.cell? ⟨u,0,none⟩=some (.slice (some ⟨b,off,none⟩) len cap)) (P:W.cell? ⟨y,0,none⟩=some (.int .i64 (K:Int))) (h0:J [] W) (O:∀pre w,J pre w->J pre w.drew):
 CallsIn F n Tryz.prog 142 #[.func (.yield l) #[] #[],.pointer (some ⟨u,0,none⟩),.pointer (some ⟨y,0,none⟩)] W fun e A=>(∃v,e=.returned v)/\
  ((∃ys,ys=List.range m/\J ys A)\/(∃pre,(∃k,k<=m/\pre=List.range k)/\Jx pre A)):=by
 refine callsIn_of_wp Tryz.func142 rfl h7 ?_ C;simp only[Tryz.ntmps142,List.size_toArray,List.length_cons,List.length_nil,Nat.reduceAdd,Nat.reduceSub,Array.replicate_succ,Array.replicate_zero,List.push_toArray,List.append_toArray,List.nil_append,List.cons_append];gi_wp2
 gi_loopw [4] (fun i wr=>∃k:Nat,k<=m/\i=.int .i64 ((K*k:Nat):Int)/\J (List.range k) wr/\vk u y W wr)
  (fun i _=>len+K-(intOf i).toNat)
 case atStart=>exact⟨0,Nat.zero_le _,rfl,h0,vk.refl _ _ _⟩
 case round=>
  obtain⟨k,hk,rfl,s,d⟩:=hrel;have L:wr.cell? ⟨u,0,none⟩=some (.slice (some ⟨b,off,none⟩) len cap):=d.1.trans aa;have Y:wr.cell? ⟨y,0,none⟩=some (.int .i64 (K:Int)):=d.2.trans P;by_cases p:k<m
  ·have r:K*k+K<=K*m:=by
    have:=Nat.mul_le_mul_left K (show k+1<=m from p);rw[Nat.mul_succ]at this;exact this
   obtain⟨q,z⟩:∃q,q=K*k:=⟨_,rfl⟩
   obtain⟨E,hE⟩:∃E,E=An len K k:=⟨_,rfl⟩
   have f:E=min K (len-q):=by rw[hE,z];rfl
   have g:q+K<=K*m:=by rw[z];exact r
   have X:(K:Int)*(k:Int)=(q:Int):=by rw[z];simp
   have ag:q<len:=by omega
   have c:(q:Int)<(len:Int):=by omega
   have a:min (K:Int) ((len:Int)-(q:Int))=(E:Int):=by rw[f];omega
   rw[show((K*k:Nat):Int)=(q:Int)by rw[z]];have U:¬(q:Int)<0:=by omega
   have T:(q:Int)<=(len:Int):=by omega
   have S:q<=len:=by omega
   have o:q+E<=len:=by rw[f];omega
   have j:=IntWalk.i64_in ((q:Int)+(E:Int)) (by omega);have h:=IntWalk.i64_in ((q:Int)+(K:Int)) (by omega);have HG:Hid (_/\_/\_/\_/\_/\_/\_/\_/\_):=⟨c,a,U,T,S,o,j,h,g⟩
   have ah:=Lib.hid r;have R:=Lib.hid z;have ab:=Lib.hid hE;have t:=Lib.hid f;clear c a U T S o j h g r X z hE f;gi_wp2
   obtain⟨c,a,U,T,S,o,j,h,-⟩:=HG.out;refine wpIn_region_quiet_lit C (by kernel_rfl) (by kernel_rfl) ?_;repeat (gi_big_quiet_step (fail))
   refine wpQuietIn_nil ?_;rintro wq⟨B,rfl⟩;have H:(if len-q<K then((len-q:Nat):Int)else(K:Int))=(E:Int):=by
    have:=t.out;split<;>omega
   rw[H];have N:∀i:Nat,J (List.range k) (wr.drewN i):=fun i=>by
    induction i with
    |zero=>exact s
    |succ i ih=>exact O _ _ ih
   obtain⟨fn,tmps,assign,body,V,hR⟩:=hY _ k (wr.drewN B) (N B) (by simp;exact p);rw[pO p]at V;unfold vf at V;rw[<-ab.out,<-R.out]at V;have I:(wr.drewN B).cell? ⟨u,0,none⟩=some (.slice (some ⟨b,off,none⟩) len cap):=L;have g4:q<=q+E:=by omega
   have g5:(q:Int)<=(q:Int)+(E:Int):=by omega
   have g6:(q:Int)+(E:Int)<=(cap:Int):=by omega
   have g7:q+E<=cap:=by omega
   have g8:¬E=0:=by have:=t.out;omega
   have g9:¬q+E=q:=by omega
   have D:vk u y W (wr.drewN B):=d;have Q:=Lib.hid D;clear N s L Y d D H U T S c a HG O h0 t;generalize wr.drewN B=w2 at*
   gi_wp2
   refine hR.mono ?_;rintro e W3(⟨rfl,Z,G⟩|⟨rfl,M⟩)
   ·have ae:W3.cell? ⟨y,0,none⟩=some (.int .i64 (K:Int)):=(Q.out.trans G).2.trans P;clear I;gi_wp2
    go_roundw
    case rel=>exact⟨k+1,by omega,by rw[show K*(k+1)=q+K by rw[R.out,Nat.mul_succ]];simp,by rw[List.range_succ];exact Z,Q.out.trans G⟩
    case measure=>simp[intOf];omega
   ·gi_wp2
    refine bodyPost_ret (results_none rfl _ _ _) rfl ?_;exact⟨⟨_,rfl⟩,.inr ⟨_,⟨k+1,by omega,(List.range_succ).symm⟩,M⟩⟩
  ·obtain rfl:k=m:=by omega
   have ad:¬K*k<len:=by omega
   gi_wp2
   go_end0
   exact⟨⟨_,rfl⟩,.inl ⟨_,rfl,s⟩⟩
end Go.Proofs.YtbpodmallknhfaaGreat
