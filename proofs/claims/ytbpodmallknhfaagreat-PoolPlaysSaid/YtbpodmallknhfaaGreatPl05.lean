/- Parts of a proof. Conditions: as each row says. -/
import Derived.Test.YtbpodmallknhfaaGreatPl03
import Derived.Maps.AppendAt
import Derived.Laws.OwnMore
import Derived.Lib.AppendZerosOnto
namespace Go.Proofs.YtbpodmallknhfaaGreat
open Go.RowKit
theorem qO{w:World}{o:Oper}{a:Act}{K:Act->World->Prop}{Q:Exit->Act->World->Prop}(s x:Operand)
 (M:o.op=.call {callee:=.builtin .append,args:=#[s,x],argTypes:=#[57,57]})
 (base:Nat) (v:Value) (l1:List Nat) (hs:a.eval s=v) (d:Own base w v l1)
 (J:Value) (e:List Nat) (L:a.eval x=J) (O:aJ w J e) (hlen:l1.length+e.length<=140737488355328) (l:base<=w.heap.size)
 (h:∀m w',Own base w' m (l1++e)->Below base w w'->w.grownBy w' v.ownBlock->(m.ownBlock=v.ownBlock\/m.ownBlock=some w.heap.size)->K (a.put o.dst m) w'):o.wp Tryz.prog a w K Q:=by
 obtain⟨i0,N,C,B,A⟩:=info_parts iT;have E:∀x∈l1++e,x<256:=by
  intro y q;rcases List.mem_append.1 q with q|q
  ·exact d.small y q
  ·exact O.small y q
 have U:ai l1++ai e=ai (l1++e):=by simp[ai]
 obtain⟨p,cap,rfl,_,S,hp⟩:=O.form;cases p with
 |none=>
  obtain rfl:=S rfl;have F:e.length=0:=by
   rcases IB e.length with h0|h0
   ·exact h0
   ·obtain⟨b,off,he,_⟩:=hp h0;simp at he
  obtain rfl:e=[]:=Hk F;have r:=run_append_owned_none (P:=Tryz.prog) (w:=w) base 57 o.type 5 i0 1 Tryz.underlying57 N v l1.length (ai l1) d.own;have D:a.eval x=.slice none 0 0:=L;have n:=h v w (by simpa using d) (GF _ _) (de _ _) (GJ rfl);unfold Oper.wp;simp[execOp,M,resolve,invoke,builtin,hs,D,r,Result.andThen];exact n
 |some ad=>
  obtain⟨m,w',R,f,i,-,H⟩:=run_append_own_at (P:=Tryz.prog) w base 57 o.type 5 i0 (.int .u8 0) 1 1 Tryz.underlying57 N C B A rfl (by decide) v l1.length (ai l1) d.own ad e.length cap (ai e) (by simp[ai]) (fun j u G=>by
   have t:j<e.length:=by
    rcases Hi j e.length with I|I
    ·exact I
    ·rw[He (by simpa[ai]using I)]at G;simp at G
   obtain⟨b,off,he,T⟩:=hp (by omega);obtain rfl:=GZ he;have z:(⟨b,off,none⟩:Addr).add j=⟨b,off+j,none⟩:=by unfold Addr.add;split<;>simp_all
   rw[z,T j t,<-G];simp[ai,GS t]) (fun u hu=>by
   simp only[ai,I2]at hu;obtain⟨y,_,rfl⟩:=hu;rfl) (by unfold maxLen;omega) (by omega) l
  rw[U,<-GI]at f;have n:=h m w' ⟨f,E,by simp;omega⟩ ((GF _ _).grown i l (fun k n=>by
   rcases d.own.2 with⟨rfl,_⟩|⟨g,c,cur,rfl,V,_⟩
   ·simp[Value.ownBlock]at n
   ·simp only[Value.ownBlock,GO]at n;omega)) i H
  unfold Oper.wp;simp[execOp,M,resolve,invoke,builtin,hs,L,R,Result.andThen];exact n
theorem wh(k:Nat):(Builtin.zeroCells (Value.int .u8 0).cells k).toList=ai (List.replicate k 0):=by
 have e:Builtin.zeroCells (Value.int .u8 0).cells k=madeCells #[Value.int .u8 0] (k*1):=rfl;unfold ai;rw[List.map_replicate,e,toList_madeCells_one,Iz];rfl
theorem iu{w:World}{base:Nat}{v:Value}{l:List Nat}(H:Own base w v l)(h0:0<l.length)(k:Nat)(Q:l.length+k<=1000000)(c:base<=w.heap.size)(ty:TypeId):
 ∃I w',(Builtin.append_ #[57,3] ty #[v,.int .i64 (k:Int)]).run Tryz.prog w=.ok I w'/\Own base w' I (l++List.replicate k 0)/\Below base w w'/\w.grownBy w' v.ownBlock:=by
 obtain⟨i0,A,o,d,f⟩:=info_parts iT;have r:∀x∈l++List.replicate k 0,x<256:=by
  intro y p;rcases List.mem_append.1 p with p|p
  ·exact H.small y p
  ·rw[(List.mem_replicate.1 p).2];decide
 have b:(l++List.replicate k 0).length=l.length+k:=by simp
 have hw:IntKind.i64.wrap (k:Int)=k:=by rw[IntKind.wrap_i64];omega
 have t:¬((k:Int)<0):=by omega
 have B:¬(281474976710656<(k:Int)*(i0.bytes:Int)):=by rw[f];omega
 rcases H.own.2 with⟨_,e⟩|⟨g,cap,cur,C,K,J,R,O,N,L⟩
 ·omega
 ·subst C;rw[Iz]at N L;by_cases a:l.length+k<=cap
  ·refine⟨.slice (some ⟨g,0,none⟩) (l.length+k) cap,w.setRow g (cur.toList.take l.length++ai (List.replicate k 0)++cur.toList.drop (l.length+(ai (List.replicate k 0)).length)).toArray,?_,⟨?_,r,by rw[b];omega⟩,?_,?_⟩
   ·have h:=run_storeCells_at Tryz.prog g l.length 5 (ai (List.replicate k 0)) 0 cur w J (by rw[aE,G9];omega) (fun v C=>by
     simp only[ai,I2]at C;obtain⟨y,_,rfl⟩:=C;rfl)
    simp only[Ia]at h;by_cases z:k=0
    ·subst z;have E:IntKind.i64.wrap 0=0:=by rw[IntKind.wrap_i64];rfl
     have q:(storeCells ⟨g,l.length,none⟩ []).run Tryz.prog w=.ok () (w.setRow g cur):=by simpa[ai]using h
     rw[Ia]at a;simp[Builtin.append_,run_underlying Tryz.underlying57,run_underlying Tryz.underlying3,sizeOf,typeInfo,A,d,asInt,asIntOf,E,a,Addr.add_lit,q,ai]
    ·have D:=wh k;simp[Builtin.append_,run_underlying Tryz.underlying57,run_underlying Tryz.underlying3,sizeOf,typeInfo,zeroValue,A,o,d,asInt,asIntOf,hw,t,B,z,a,Addr.add_lit,D,h]
   ·refine⟨by rw[aE,Iz],GL ⟨g,cap,_,by rw[b],K,setRow_heap w g cur _ 5 _ J,by rw[b];exact a,O,?_,?_⟩⟩
    ·simp only[Ir,GI,Hj,G5,Array.length_toList,aE,G9];omega
    ·rw[L,b,Iz];have e:ai (l++List.replicate k 0)=ai l++ai (List.replicate k 0):=by simp[ai]
     rw[e];exact Iu (by rw[GI,aE,aE,G9])
   ·exact(GF _ _).grown ⟨rfl,rfl,rfl,by simp[World.setRow],fun n _ s=>setRow_other w g n _ (fun e=>s (by rw[e]))⟩ c (fun i A=>by cases A;exact K)
   ·exact⟨rfl,rfl,rfl,by simp[World.setRow],fun n _ s=>setRow_other w g n _ (fun e=>s (by rw[e];rfl))⟩
  ·have hold:(Builtin.firstCells i0.size l.length (.slice (some ⟨g,0,none⟩) l.length cap)).run Tryz.prog w.drew=.ok (ai l).toArray w.drew:=by
    have:=run_firstCells_some (P:=Tryz.prog) w.drew i0.size l.length ⟨g,0,none⟩ l.length cap (ai l) (by rw[aE,d];omega) (fun j u M=>H.own.cells (g:=g) rfl j u M);exact this
   have s:=Lib.run_append_grow_zeros (P:=Tryz.prog) w 57 3 ty 5 i0 (.int .u8 0) .i64 .i64 Tryz.underlying57 Tryz.underlying3 A o (some ⟨g,0,none⟩) l.length cap (ai l) hold k (by omega) (by rw[d];decide) (by omega) (by omega) (by rw[f];omega) (growslice_fits (by omega) (by rw[f];omega));refine⟨_,_,s,⟨?_,r,by rw[b];omega⟩,?_,?_⟩
   ·have F:=grownCap_ge w (l.length+k) cap 5;have G:grownCap w (l.length+k) cap 5<=maxLen:=grownCap_le_maxLen w (l.length+k) cap 5 (by unfold maxLen;omega);refine⟨by rw[aE,Iz],GL ⟨w.heap.size,_,_,by rw[b],c,heap_alloc_new w.drew _,by rw[b];exact F,G,?_,?_⟩⟩
    ·simp only[Array.size_append,Ir,size_zeroCells,aE];show l.length+k*1+_*1=_;omega
    ·simp only[Array.toList_append,wh,G3,b,Iz];have e:ai (l++List.replicate k 0)=ai l++ai (List.replicate k 0):=by simp[ai]
     rw[e,<-G3];exact Iu (by rw[GI,aE,aE,G9])
   ·exact⟨rfl,rfl,rfl,by simp,fun n m=>heap_alloc_old w.drew _ (Hh m c)⟩
   ·exact⟨rfl,rfl,rfl,by simp,fun n m _=>heap_alloc_old w.drew _ m⟩
theorem me{w:World}{base:Nat}{v:Value}{l:List Nat}(d:Own base w v l)(h0:0<l.length)(k:Nat)(c:l.length+k<=1000000)(a:base<=w.heap.size)(ty:TypeId):
 ∃b w',(Builtin.append_ #[57,3] ty #[v,.int .i64 (k:Int)]).run Tryz.prog w=.ok b w'/\Own base w' b (l++List.replicate k 0)/\Below base w w':=by
 obtain⟨b,w',g,f,e,-⟩:=iu d h0 k c a ty;exact⟨b,w',g,f,e⟩
end Go.Proofs.YtbpodmallknhfaaGreat
