/- Parts of a proof. Conditions: as each row says. -/
import Derived.Test.YtbpodmallknhfaaGreatRows
import Derived.WalkKit
import Derived.WalkSpells
import Derived.WalkLawsBesides
import Derived.Lib.Hide
import Derived.Deep.WholeRow
import Derived.Laws.AppendOwnNone
import Derived.Laws.MakeOwn
import Derived.OneCell
import Derived.OwnWalk
import Derived.Deep.DeepCutAuto
import Derived.Laws.BitsAllLaws
import Derived.Lib.SlBytesConst
import Derived.ProofKit
import Derived.SizedLaws
import Derived.OpenShut
import Derived.Below
import Derived.Orders
import Derived.Tactics
import Derived.KernelRfl
import Derived.Laws.Tables
import Derived.Laws.Rows
namespace Go.Proofs.YtbpodmallknhfaaGreat
open Go.RowKit
theorem lO{k:IntKind}{a b:Int}(h:a=b):Ending.returned (.int k a)=.returned (.int k b):=by rw[h]
structure aV(w:World)(v:Value)(l:List Nat):Prop where
 form:∃p cap,v=.slice p l.length cap/\(l.length<=cap/\cap<=9223372036854775807)/\(p=none->cap=0)/\(0<l.length->∃b off,p=some ⟨b,off,none⟩/\∀i,i<l.length->w.cell? ⟨b,off+i,none⟩=some (.int .u8 (l.getD i 0:Nat)))
 small:∀x∈l,x<256
 len:l.length<=140737488355328
theorem aV.getD{w:World}{v:Value}{l:List Nat}(h:aV w v l)(i:Nat):l.getD i 0<256:=by
 rcases Nat.lt_or_ge i l.length with a|a
 ·have:=h.small (l.getD i 0) (by rw[List.getD_eq_getElem?_getD,List.getElem?_eq_getElem a];simp);exact this
 ·rw[List.getD_eq_getElem?_getD,List.getElem?_eq_none a];decide
theorem aV.below{w w':World}{v:Value}{l:List Nat}(h:aV w v l)(k:Below w.heap.size w w'):aV w' v l:=by
 obtain⟨p,cap,d,e,f,hp⟩:=h.form;refine⟨⟨p,cap,d,e,f,fun h0=>?_⟩,h.small,h.len⟩;obtain⟨b,off,c,j⟩:=hp h0;refine⟨b,off,c,fun i g=>?_⟩;have a:=j i g;rw[k.cell (p:=⟨b,off+i,none⟩) (block_lt_of_cell a)];exact a
theorem aV.take{w:World}{p:Option Addr}{cap:Nat}{l:List Nat}(h:aV w (.slice p l.length cap) l)(n:Nat)(k:n<=l.length):aV w (.slice p n cap) (l.take n):=by
 obtain⟨j,d,c,f,hz,hp⟩:=h.form;simp only[Value.slice.injEq]at c;obtain⟨rfl,-,rfl⟩:=c;have hl:(l.take n).length=n:=by simp;omega
 refine⟨⟨p,cap,by rw[hl],⟨by omega,f.2⟩,hz,fun h0=>?_⟩,fun x e=>h.small x (List.mem_of_mem_take e),by have:=h.len;omega⟩;obtain⟨b,off,a,g⟩:=hp (by omega);refine⟨b,off,a,fun i m=>?_⟩;rw[g i (by omega)];have:(l.take n).getD i 0=l.getD i 0:=by
  simp only[List.getD_eq_getElem?_getD];rw[List.getElem?_take,if_pos (by omega)]
 rw[this]
theorem aV.ui{w:World}{v:Value}{l:List Nat}(h:aV w v l)(k:Nat):∀x∈l.take k,x<256:=fun x a=>h.small x (List.mem_of_mem_take a)
theorem cT(l:List Nat)(k:Nat)(h:k<l.length):l.take (k+1)=l.take k++[l.getD k 0]:=by
 rw[List.take_succ_eq_append_getElem h,List.getD_eq_getElem?_getD,List.getElem?_eq_getElem h];rfl
theorem ja:(Tryz.prog.info? 5).map (fun i=>(i.zero,i.size,i.bytes))=some (some (.int .u8 0),1,1):=by kernel_rfl
def af(l:List Nat):List Value:=l.map fun x:Nat=>Value.int .u8 (x:Int)
theorem aF(l:List Nat):(af l).length=l.length:=by simp[af]
theorem lk{w:World}{base g cap n:Nat}{l:List Nat}(h:w.ownsRow base 5 1 (.slice (some ⟨g,0,none⟩) n cap) n (af l)):
 base<=g/\n<=cap/\cap<=maxLen/\l.length=n/\∀i,i<l.length->w.cell? ⟨g,i,none⟩=some (.int .u8 (l.getD i 0:Nat)):=by
 obtain⟨q,c⟩:=h;rcases c with⟨c,_⟩|⟨s,e,cur,d,k,j,p,o,r,m⟩
 ·simp at c
 ·simp only[Value.slice.injEq,Option.some.injEq,Addr.mk.injEq]at d;obtain⟨⟨rfl,-,-⟩,-,rfl⟩:=d;have b:l.length=n:=by simpa[af]using q
  refine⟨k,p,o,b,fun i f=>?_⟩;rw[cell_of_row _ g i cur 5 (0,0) j];have a:(cur.toList.take (n*1))[i]?=(af l)[i]?:=by rw[m]
  rw[List.getElem?_take,if_pos (by omega)]at a;rw[<-Array.getElem?_toList,a];simp[af,List.getElem?_eq_getElem f]
theorem ni{w:World}{base:Nat}{v:Value}{l:List Nat}(h:w.ownsRow base 5 1 v l.length (af l))(hs:∀x∈l,x<256)(hl:l.length<=140737488355328):aV w v l:=by
 rcases h.2 with⟨a,h0⟩|⟨g,cap,cur,a,_⟩
 ·subst a;exact⟨⟨none,0,by rw[h0],by omega,fun _=>rfl,fun h=>absurd h (by omega)⟩,hs,hl⟩
 ·subst a;obtain⟨_,e,b,_,d⟩:=lk h;refine⟨⟨some ⟨g,0,none⟩,cap,rfl,⟨e,by unfold maxLen at b;exact b⟩,fun h=>by simp at h,fun _=>⟨g,0,rfl,fun i c=>?_⟩⟩,hs,hl⟩;rw[Nat.zero_add];exact d i c
theorem eM(w:World)(l:List Nat)(cap:Nat)(a:l.length<=cap/\cap<=9223372036854775807)(t:TypeId)(fr:Nat×Nat)(hs:∀x∈l,x<256)(hl:l.length<=140737488355328):
 aV (w.alloc (.cells (l.map fun x:Nat=>Value.int .u8 (x:Int)).toArray t fr)) (.slice (some ⟨w.heap.size,0,none⟩) l.length cap) l:=by
 refine⟨⟨_,cap,rfl,a,(fun h=>by simp at h),fun _=>⟨w.heap.size,0,rfl,fun i b=>?_⟩⟩,hs,hl⟩;rw[cell_of_row _ w.heap.size (0+i) _ t fr (heap_alloc_last _ _)];simp[List.getElem?_eq_getElem b]
theorem fi{w:World}{v:Value}{l:List Nat}(d:aV w v l):
 (convert 57 9 v).run Tryz.prog w=.ok (.string (strOfNums (l.map fun x:Nat=>(x:Int)))) w:=by
 obtain⟨p,cap,rfl,_,f,hp⟩:=d.form;rcases Nat.eq_zero_or_pos l.length with h0|h0
 ·obtain rfl:l=[]:=List.eq_nil_of_length_eq_zero h0;cases p with
  |none=>exact run_convert_bytes_nil w 57 5 Tryz.underlying57 Tryz.underlying5 _ _ _ Tryz.underlying9
  |some ad=>
   have h:=run_convert_bytes_string (P:=Tryz.prog) w 57 9 5 (some ad) 0 cap Tryz.underlying57 Tryz.underlying5 Tryz.underlying9;have e:=run_bytesToString (P:=Tryz.prog) w ad 0 cap [] (by rfl);rw[e]at h;exact h
 ·obtain⟨b,off,rfl,c⟩:=hp h0;refine run_convert_bytes_arg w 57 5 Tryz.underlying57 Tryz.underlying5 b off l.length cap (l.map fun x:Nat=>(x:Int)) (by simp) (fun i a=>?_) _ Tryz.underlying9;rw[c i a];simp[List.getElem?_eq_getElem a]
theorem bW(w:World)(row:Option Nat):w.grownBy w row:=⟨rfl,rfl,rfl,Nat.le_refl _,fun _ _ _=>rfl⟩
theorem ak{a b c:World}{row:Option Nat}(h:a.grownBy b row)(k:b.grownBy c row):a.grownBy c row:=
 ⟨k.os.trans h.os,k.tape.trans h.tape,k.output.trans h.output,Nat.le_trans h.size k.size,fun i e d=>(k.block i (Nat.lt_of_lt_of_le e h.size) d).trans (h.block i e d)⟩
theorem aR{a b:World}(h:Below a.heap.size a b)(row:Option Nat):a.grownBy b row:=⟨h.os,h.tape,h.output,h.size,fun k c _=>h.block k c⟩
theorem an(w:World)(B o:Nat)(u:Value):w.grownBy (w.setCell ⟨B,o,none⟩ u) (some B):=
 ⟨rfl,rfl,rfl,by simp[World.setCell],fun k _ a=>Below.heap_setCell _ _ _ _ (fun e=>a (by rw[e]))⟩
theorem dF(w:World)(row:Option Nat):w.grownBy w.drew row:=⟨rfl,rfl,rfl,Nat.le_refl _,fun _ _ _=>rfl⟩
theorem aJ{d B:Nat}{a b c:World}(h:Below d a b)(k:b.grownBy c (some B))(h0:d<=b.heap.size)(f:d<=B):Below d a c:=
 h.grown k h0 (fun i e=>by cases e;exact f)
theorem aV.grown{w w':World}{v:Value}{l:List Nat}{row:Option Nat}(h:aV w v l)(j:w.grownBy w' row)(c:0<l.length->v.ownBlock≠row):aV w' v l:=by
 obtain⟨p,cap,d,e,f,hp⟩:=h.form;refine⟨⟨p,cap,d,e,f,fun h0=>?_⟩,h.small,h.len⟩;obtain⟨b,off,a,k⟩:=hp h0;refine⟨b,off,a,fun i g=>?_⟩;refine j.cell (k i g) ?_;have:=c h0;rw[d,a]at this;exact this
theorem aV.drop{w:World}{b off cap:Nat}{l:List Nat}(h:aV w (.slice (some ⟨b,off,none⟩) l.length cap) l)(n:Nat)(m:n<=l.length):aV w (.slice (some ⟨b,off+n,none⟩) (l.length-n) (cap-n)) (l.drop n):=by
 obtain⟨j,e,d,k,hz,hp⟩:=h.form;simp only[Value.slice.injEq]at d;obtain⟨rfl,-,rfl⟩:=d;have hl:(l.drop n).length=l.length-n:=by simp
 refine⟨⟨_,_,by rw[hl],⟨by omega,by omega⟩,(fun h=>by simp at h),fun h0=>?_⟩,fun x f=>h.small x (List.mem_of_mem_drop f),by have:=h.len;omega⟩;obtain⟨p,c,a,g⟩:=hp (by omega);simp only[Option.some.injEq,Addr.mk.injEq]at a;obtain⟨rfl,rfl,-⟩:=a;refine⟨b,off+n,rfl,fun i o=>?_⟩;rw[show off+n+i=off+(n+i)by omega,g (n+i) (by omega)];simp[List.getD_eq_getElem?_getD]
theorem fR(w:World)(a:Addr)(n cap:Nat)(h:n=0)(b:cap<=9223372036854775807):aV w (.slice (some a) n cap) []:=by
 subst h;exact⟨⟨_,_,rfl,⟨Nat.zero_le _,b⟩,(fun h=>by simp at h),fun h=>absurd h (by simp)⟩,by simp,by simp⟩
def Row(w:World)(g n:Nat):Prop:=∃cur:Array Value,w.heap[g]?=some (.cells cur 5 (0,0))/\n<=cur.size/\∀i,i<n->∃b:Nat,b<256/\cur[i]?=some (.int .u8 (b:Int))
theorem Row.lt{w:World}{g n:Nat}(h:Row w g n):g<w.heap.size:=by
 obtain⟨cur,a,_⟩:=h;exact lt_of_block a
theorem mJ{w:World}{base g cap n:Nat}{l:List Nat}(h:w.ownsRow base 5 1 (.slice (some ⟨g,0,none⟩) n cap) n (af l))(hs:∀x∈l,x<256):Row w g n:=by
 obtain⟨k,b⟩:=h;rcases b with⟨b,_⟩|⟨s,d,cur,c,o,f,r,q,p,j⟩
 ·simp at b
 ·simp only[Value.slice.injEq,Option.some.injEq,Addr.mk.injEq]at c;obtain⟨⟨rfl,-,-⟩,-,rfl⟩:=c;have e:l.length=n:=by simpa[af]using k
  refine⟨cur,f,by omega,fun i m=>?_⟩;have a:(cur.toList.take (n*1))[i]?=(af l)[i]?:=by rw[j]
  rw[List.getElem?_take,if_pos (by omega)]at a;refine⟨l[i]'(by omega),hs _ (List.getElem_mem _),?_⟩;rw[<-Array.getElem?_toList,a];simp[af,List.getElem?_eq_getElem (show i<l.length by omega)]
structure Own(base:Nat)(w:World)(v:Value)(l:List Nat):Prop where
 own:w.ownsRow base 5 1 v l.length (af l)
 small:∀x∈l,x<256
 len:l.length<=140737488355328
theorem Own.bz{base:Nat}{w:World}{v:Value}{l:List Nat}(h:Own base w v l):aV w v l:=ni h.own h.small h.len
theorem Own.form{base:Nat}{w:World}{v:Value}{l:List Nat}(h:Own base w v l):(v=.slice none 0 0/\l=[])\/∃g cap,v=.slice (some ⟨g,0,none⟩) l.length cap/\base<=g/\l.length<=cap/\cap<=maxLen/\Row w g l.length:=by
 rcases h.own.2 with⟨a,h0⟩|⟨g,cap,cur,a,b,e,d,c,i,f⟩
 ·exact Or.inl ⟨a,List.eq_nil_of_length_eq_zero h0⟩
 ·subst a;exact Or.inr ⟨g,cap,rfl,b,d,c,mJ h.own h.small⟩
theorem Own.grown{base:Nat}{w w':World}{v:Value}{l:List Nat}{row:Option Nat}(h:Own base w v l)(b:w.grownBy w' row)(a:v.ownBlock=none\/v.ownBlock≠row):Own base w' v l:=⟨h.own.kept b a,h.small,h.len⟩
theorem Own.below{base:Nat}{w w':World}{v:Value}{l:List Nat}(h:Own base w v l)(a:Below w.heap.size w w'):Own base w' v l:=
 h.grown (row:=none) (aR a none) (by cases b:v.ownBlock<;>simp)
theorem Own.from{base base':Nat}{w:World}{v:Value}{l:List Nat}(h:Own base w v l)(c:base'<=base):Own base' w v l:=by
 refine⟨⟨h.own.1,?_⟩,h.small,h.len⟩;rcases h.own.2 with d|⟨g,cap,cur,a,b,r⟩
 ·exact Or.inl d
 ·exact Or.inr ⟨g,cap,cur,a,Nat.le_trans c b,r⟩
theorem aM(base:Nat)(w:World):Own base w (.slice none 0 0) []:=⟨⟨rfl,Or.inl ⟨rfl,rfl⟩⟩,by simp,by decide⟩
theorem aB{w:World}{ops:Array Oper}{rest:List Oper}{o:Oper}{a:Act}{Q:Exit->Act->World->Prop}(q:o.guard=none)(s x:Operand)
 (I:o.op=.call {callee:=.builtin .append,args:=#[s,x],argTypes:=#[57,57]})
 (base:Nat) (v:Value) (l1:List Nat) (hs:a.eval s=v) (d:Own base w v l1)
 (G:Value) (e:List Nat) (H:a.eval x=G) (L:aV w G e) (hlen:l1.length+e.length<=140737488355328) (l:base<=w.heap.size)
 (h:∀t w',Own base w' t (l1++e)->Below base w w'->w.grownBy w' v.ownBlock->wpList Tryz.prog ops Q rest (a.put o.dst t) w'):wpList Tryz.prog ops Q (o::rest) a w:=by
 obtain⟨i0,K,B,A,z⟩:=info_parts ja;have C:∀x∈l1++e,x<256:=by
  intro y m;rcases List.mem_append.1 m with m|m
  ·exact d.small y m
  ·exact L.small y m
 have O:af l1++af e=af (l1++e):=by simp[af]
 obtain⟨p,cap,rfl,_,M,hp⟩:=L.form;cases p with
 |none=>
  obtain rfl:=M rfl;have D:e.length=0:=by
   rcases Nat.eq_zero_or_pos e.length with h0|h0
   ·exact h0
   ·obtain⟨b,off,he,_⟩:=hp h0;simp at he
  obtain rfl:e=[]:=List.eq_nil_of_length_eq_zero D;refine wpList_append_own_none q s x 57 I base 5 i0 1 Tryz.underlying57 K v l1.length (af l1) hs d.own H ?_;refine h v w ?_ (Below.refl _ _) (bW _ _);simpa using d
 |some ad=>
  refine wpList_append_own w q s x 57 I base 5 i0 (.int .u8 0) 1 1 Tryz.underlying57 K B A z rfl (by decide) v l1.length (af l1) hs d.own ad e.length cap (af e) H (by simp[af]) ?_ ?_ (by unfold maxLen;omega) (by omega) l ?_
  ·intro j u E;have n:j<e.length:=by
    rcases Nat.lt_or_ge j e.length with F|F
    ·exact F
    ·rw[List.getElem?_eq_none (by simpa[af]using F)]at E;simp at E
   obtain⟨b,off,he,N⟩:=hp (by omega);obtain rfl:=Option.some.inj he;have r:(⟨b,off,none⟩:Addr).add j=⟨b,off+j,none⟩:=by unfold Addr.add;split<;>simp_all
   rw[r,N j n,<-E];simp[af,List.getElem?_eq_getElem n]
  ·intro u hu;simp only[af,List.mem_map]at hu;obtain⟨y,_,rfl⟩:=hu;rfl
  ·intro t w' f i _;rw[O,<-List.length_append]at f;refine h t w' ⟨f,C,by simp;omega⟩ ((Below.refl _ _).grown i l ?_) i;intro k J;rcases d.own.2 with⟨rfl,_⟩|⟨g,c,cur,rfl,P,_⟩
   ·simp[Value.ownBlock]at J
   ·simp only[Value.ownBlock,Option.some.injEq]at J;omega
theorem ky(w:World)(base cap:Nat)(cs:Array Value)(a:base<=w.heap.size)(hm:cap<=maxLen)(hs:cs.size=cap*1):Own base (w.alloc (.cells cs 5)) (.slice (some ⟨w.heap.size,0,none⟩) 0 cap) []:=
 ⟨World.ownsRow_made w cs cap a hm hs,by simp,by decide⟩
theorem jK{w:World}{ops:Array Oper}{rest:List Oper}{o:Oper}{a:Act}{Q:Exit->Act->World->Prop}(j:o.guard=none)(x c:Operand)
 (i:o.op=Op.makeSlice 57 x c) (base:Nat) (kl m:IntKind) (C:Int) (n:Nat) (hl:a.eval x=.int kl 0) (s:a.eval c=.int m C) (hC:C=(n:Int)) (t:n<=140737488355328) (b:base<=w.heap.size)
 (h:∀l w',Own base w' l []->Below base w w'->wpList Tryz.prog ops Q rest (a.put o.dst l) w'):wpList Tryz.prog ops Q (o::rest) a w:=by
 obtain⟨i0,q,g,f,e⟩:=info_parts ja;refine wpList_make_own w j x c 57 i base 5 i0 (.int .u8 0) 1 Tryz.underlying57 q g f kl m C n hl s hC (by rw[e];omega) (by unfold maxLen;omega) b ?_;intro w' d r;exact h _ w' ⟨d,by simp,by decide⟩ ((Below.refl _ _).grown r b (fun k p=>by cases p))
theorem bY{w:World}{ops:Array Oper}{rest:List Oper}{o:Oper}{a:Act}{Q:Exit->Act->World->Prop}{z:Int}(i:o.guard=none)(s x:Operand)
 (m:o.op=.call {callee:=.builtin .append,args:=#[s,x],argTypes:=#[57,57]})
 (base:Nat) (v:Value) (l:List Nat) (hs:a.eval s=v) (d:Own base w v l)
 (k:a.eval x=.slice (some ⟨w.heap.size,0,none⟩) 1 1) (b:Nat) (hz:z=(b:Int)) (n:b<256) (hlen:l.length+1<=140737488355328) (c:base<=w.heap.size)
 (h:∀f w',Own base w' f (l++[b])->Below base w w'->wpList Tryz.prog ops Q rest (a.put o.dst f) w'):wpList Tryz.prog ops Q (o::rest) a (w.alloc (.cells #[.int .u8 z] 5)):=by
 subst hz;have e:Below base w (w.alloc (.cells #[.int .u8 (b:Int)] 5)):=(Below.refl _ _).alloc c _;refine aB i s x m base v l hs (d.below ((Below.refl _ _).alloc (Nat.le_refl _) _)) _ [b] k (eM w [b] 1 (by simp) 5 (0,0) (by simpa using n) (by simp)) (by simpa using hlen) (Nat.le_trans c e.size) ?_
 ·intro f w' g j _;exact h f w' g (e.trans j)
end Go.Proofs.YtbpodmallknhfaaGreat
namespace Go.Proofs.YtbpodmallknhfaaGreat
open Go.ChangeShapes Go.WideShapes Go.ChangeAt Go.RowKit
theorem wO:Tryz.prog.cellsOf 5=1:=by kernel_rfl
theorem wT:Tryz.prog.bytesOf 5=1:=by kernel_rfl
theorem yY{n:Int}(h:(Lit.int .u8 n).wf=true):∃m:Nat,m<256/\n=(m:Int):=by
 have b:IntKind.u8.min=0:=rfl;have a:IntKind.u8.max=255:=rfl;simp only[Lit.wf,Bool.and_eq_true,decide_eq_true_eq]at h;exact⟨n.toNat,by omega,by omega⟩
theorem ua{H:Type}{enc:TypeId×Value->H}{W:World}{base:Nat}{spare:Nat->Bool}{held:Bool}{a:Option Addr}{len cap:Nat}{d:DataW H}{u:List MemPlace}
 (h:DataW.Trod enc Tryz.prog W base spare held 57 (.slice a len cap) d u):
 ∃l:List Nat,(l.length<=140737488355328->aV W (.slice a len cap) l)/\(l=[]\/∃elems rest,d=.slice elems rest/\l.length<=elems.length):=by
 obtain⟨fuel,hf⟩:=h;rcases open_ints Tryz.underlying57 Tryz.underlying5 wO hf with⟨e,_⟩|⟨x,l,c,zs,e,_,hl,hm,hz,w,f,q⟩
 ·simp[Value.cells]at e;obtain⟨rfl,rfl,rfl⟩:=e;exact⟨[],fun _=>⟨⟨none,0,rfl,by decide,fun _=>rfl,fun h=>absurd h (by decide)⟩,by simp,by decide⟩,Or.inl rfl⟩
 ·simp[Value.cells]at e;obtain⟨rfl,rfl,rfl⟩:=e;have hlen:len<=zs.length:=by rw[hz];split<;>omega
  have g:∀i,i<len->(((zs.take len).map Int.toNat).getD i 0:Nat)=zs.getD i 0/\((zs.take len).map Int.toNat).getD i 0<256:=by
   intro i o;have k:i<zs.length:=by omega
   obtain⟨m,s,r⟩:=yY (q zs[i] (List.getElem_mem k));have C:((zs.take len).map Int.toNat).getD i 0=zs[i].toNat:=by
    simp[o,List.getElem?_eq_getElem k]
   have B:zs.getD i 0=zs[i]:=by simp[List.getElem?_eq_getElem k]
   rw[C,B,r];exact⟨by simp,by simpa using s⟩
  have n:((zs.take len).map Int.toNat).length=len:=by simp;omega
  refine⟨(zs.take len).map Int.toNat,fun A=>⟨⟨some x,cap,by rw[n],⟨by omega,by unfold maxLen at hm;exact hm⟩,fun h=>by simp at h,fun h0=>?_⟩,?_,A⟩,Or.inr ⟨_,_,(Prod.mk.inj w).1,by simp[lits]⟩⟩
  ·rw[n]at h0⊢;obtain⟨b,off,spot⟩:=x;have j:spot=none:=by
    have z:=f 0 (by omega);simpa[Addr.add]using World.cell?_spot z
   subst j;refine⟨b,off,rfl,fun i o=>?_⟩;have p:(⟨b,off,none⟩:Addr).add i=⟨b,off+i,none⟩:=by unfold Addr.add;split<;>simp_all
   rw[<-p,f i (by omega),(g i o).1]
  ·intro y v;obtain⟨i,o,rfl⟩:=List.getElem_of_mem v;have t:=(g i (by omega)).2;rw[List.getD_eq_getElem?_getD,List.getElem?_eq_getElem o]at t;exact t
theorem qS{H:Type}{P:Program}(f:P=Tryz.prog){b:List TypeId}{c:List (DataW H)}(a:(DataW.weightsEach P b c).all (·<=reachBytes)=true){j:Nat}{d:DataW H}{l:List Nat}
 (e:b[j]?=some 57) (hd:c[j]?=some d) (h:l=[]\/∃elems rest,d=.slice elems rest/\l.length<=elems.length):l.length<=140737488351232:=by
 subst f;rcases h with rfl|⟨elems,rest,rfl,hl⟩
 ·decide
 ·have:=sized_slice a e hd Tryz.underlying57;rw[wT]at this;have g:reachBytes=140737488351232:=rfl;omega
end Go.Proofs.YtbpodmallknhfaaGreat
namespace Go.Proofs.YtbpodmallknhfaaGreat
open Go.RowKit
theorem gT{base:Nat}{w:World}{v:Value}{l:List Nat}(h:Own base w v l)(h0:0<l.length):∃g cap,v=.slice (some ⟨g,0,none⟩) l.length cap/\base<=g/\g<w.heap.size/\l.length<=cap/\cap<=9223372036854775807/\Row w g l.length:=by
 rcases h.form with⟨_,d⟩|⟨g,cap,c,f,e,b,a⟩
 ·rw[d]at h0;simp at h0
 ·exact⟨g,cap,c,f,a.lt,e,by unfold maxLen at b;exact b,a⟩
theorem aV.fS{w:World}{v:Value}{l:List Nat}(h:aV w v l)(h0:0<l.length):∀b,v.ownBlock=some b->b<w.heap.size:=by
 intro b a;obtain⟨p,cap,c,_,_,hp⟩:=h.form;obtain⟨e,off,rfl,d⟩:=hp h0;rw[c]at a;simp only[Value.ownBlock,Option.some.injEq]at a;subst a;exact block_lt_of_cell (d 0 h0)
theorem ew{w:World}{o:Oper}{a:Act}{K:Act->World->Prop}{Q:Exit->Act->World->Prop}(s x:Operand)
 (L:o.op=.call {callee:=.builtin .append,args:=#[s,x],argTypes:=#[57,57]})
 (base:Nat) (v:Value) (l1:List Nat) (hs:a.eval s=v) (d:Own base w v l1)
 (I:Value) (e:List Nat) (J:a.eval x=I) (N:aV w I e) (hlen:l1.length+e.length<=140737488355328) (l:base<=w.heap.size)
 (h:∀t w',Own base w' t (l1++e)->Below base w w'->w.grownBy w' v.ownBlock->K (a.put o.dst t) w'):o.wp Tryz.prog a w K Q:=by
 obtain⟨i0,M,C,B,A⟩:=info_parts ja;have E:∀x∈l1++e,x<256:=by
  intro y m;rcases List.mem_append.1 m with m|m
  ·exact d.small y m
  ·exact N.small y m
 have S:af l1++af e=af (l1++e):=by simp[af]
 obtain⟨p,cap,rfl,_,O,hp⟩:=N.form;cases p with
 |none=>
  obtain rfl:=O rfl;have F:e.length=0:=by
   rcases Nat.eq_zero_or_pos e.length with h0|h0
   ·exact h0
   ·obtain⟨b,off,he,_⟩:=hp h0;simp at he
  obtain rfl:e=[]:=List.eq_nil_of_length_eq_zero F;have n:=run_append_owned_none (P:=Tryz.prog) (w:=w) base 57 o.type 5 i0 1 Tryz.underlying57 M v l1.length (af l1) d.own;have D:a.eval x=.slice none 0 0:=J;have z:=h v w (by simpa using d) (Below.refl _ _) (bW _ _);unfold Oper.wp;simp[execOp,L,resolve,invoke,builtin,hs,D,n,Result.andThen];exact z
 |some ad=>
  refine wp_append_own w s x 57 L base 5 i0 (.int .u8 0) 1 1 Tryz.underlying57 M C B A rfl (by decide) v l1.length (af l1) hs d.own ad e.length cap (af e) J (by simp[af]) ?_ ?_ (by unfold maxLen;omega) (by omega) l ?_
  ·intro j u G;have q:j<e.length:=by
    rcases Nat.lt_or_ge j e.length with H|H
    ·exact H
    ·rw[List.getElem?_eq_none (by simpa[af]using H)]at G;simp at G
   obtain⟨b,off,he,R⟩:=hp (by omega);obtain rfl:=Option.some.inj he;have r:(⟨b,off,none⟩:Addr).add j=⟨b,off+j,none⟩:=by unfold Addr.add;split<;>simp_all
   rw[r,R j q,<-G];simp[af,List.getElem?_eq_getElem q]
  ·intro u hu;simp only[af,List.mem_map]at hu;obtain⟨y,_,rfl⟩:=hu;rfl
  ·intro t w' f i _;rw[S,<-List.length_append]at f;refine h t w' ⟨f,E,by simp;omega⟩ ((Below.refl _ _).grown i l ?_) i;intro k z;rcases d.own.2 with⟨rfl,_⟩|⟨g,c,cur,rfl,T,_⟩
   ·simp[Value.ownBlock]at z
   ·simp only[Value.ownBlock,Option.some.injEq]at z;omega
end Go.Proofs.YtbpodmallknhfaaGreat
namespace Go.Proofs.YtbpodmallknhfaaGreat.Ord
variable{P:Program}
def fill:List Oper->(Nat->Value)->Nat->Act->Act
 | [],_,_,a=>a
 |o::r,xs,k,a=>fill r xs (k+1) (a.put o.dst (xs k))
theorem put_comm(a:Act){d b:Option Tmp}{u v:Value}(h:∀x,d=some x->b≠some x):(a.put d u).put b v=(a.put b v).put d u:=by
 cases d with
 |none=>rfl
 |some x=>
  cases b with
  |none=>rfl
  |some y=>
   have c:x≠y:=fun e=>h x rfl (by rw[e]);show Act.mk _ _=Act.mk _ _;simp only[Act.put];rw[Array.setIfInBounds_comm _ _ c]
theorem Dd(a:Act)(d:Option Tmp)(u v:Value):(a.put d u).put d v=a.put d v:=by
 cases d with
 |none=>rfl
 |some x=>simp[Act.put]
theorem uH{d:Option Tmp}{v:Value}:∀(l:List Oper)(xs:Nat->Value)(k:Nat)(a:Act),(∀o∈l,∀x,o.dst=some x->d≠some x)->(fill l xs k a).put d v=fill l xs k (a.put d v)
 | [],_,_,_,_=>rfl
 |o::r,xs,k,a,h=>by
  rw[fill,fill,uH r xs (k+1) _ (fun c b=>h c (List.mem_cons_of_mem _ b)),put_comm a (h o (List.mem_cons_self ..))]
theorem pM:∀(l:List Oper)(xs b:Nat->Value)(k:Nat)(a:Act),(∀j,k<=j->xs j=b j)->fill l xs k a=fill l b k a
 | [],_,_,_,_,_=>rfl
 |o::r,xs,b,k,a,h=>by
  rw[fill,fill,h k (Nat.le_refl _),pM r xs b (k+1) _ (fun j c=>h j (by omega))]
def apart:List Oper->Bool
 | []=>true
 |o::r=>(match o.dst with|none=>true|some x=>r.all fun a=>a.dst !=some x)&&apart r
def set(xs:Nat->Value)(i:Nat)(v:Value):Nat->Value:=fun j=>if j=i then v else xs j
theorem pL:∀(l:List Oper)(xs:Nat->Value)(k i:Nat)(a:Act)(o:Oper)(v:Value),apart l=true->l[i]?=some o->(fill l xs k a).put o.dst v=fill l (set xs (k+i) v) k a
 | [],_,_,_,_,_,_,_,h=>by simp at h
 |f::r,xs,k,i,a,o,v,hap,h=>by
  simp only[apart,Bool.and_eq_true]at hap;cases i with
  |zero=>
   obtain rfl:f=o:=by simpa using h
   rw[fill,uH r xs (k+1) _ ?_,Dd,fill,pM r xs (set xs (k+0) v) (k+1) _ (fun j q=>by unfold set;rw[if_neg (by omega)])]
   ·congr 1
    unfold set;rw[if_pos (by omega)]
   ·intro e b x g hd;have d:=hap.1;rw[hd]at d;have c:=List.all_eq_true.1 d e b;rw[g]at c;simp at c
  |succ i=>
   have m:r[i]?=some o:=by simpa using h
   rw[fill,pL r xs (k+1) i _ o v hap.2 m,fill];have p:set xs (k+(i+1)) v=set xs (k+1+i) v:=by rw[show k+(i+1)=k+1+i by omega]
   have n:set xs (k+(i+1)) v k=xs k:=by unfold set;rw[if_neg (by omega)]
   rw[n,p]
theorem A5(a:Act)(d:Tmp):a.put (some d) (a.tmps.getD d undef)=a:=by
 obtain⟨t,b⟩:=a;show Act.mk _ _=Act.mk _ _;congr 1
 apply Array.ext_getElem?;intro i;show(t.setIfInBounds d (t.getD d undef))[i]?=t[i]?;by_cases h:d=i
 ·subst h;rcases Nat.lt_or_ge d t.size with hd|hd
  ·rw[Array.getElem?_setIfInBounds_self_of_lt hd];simp[hd]
  ·rw[Array.setIfInBounds,dif_neg (by omega)]
 ·rw[Array.getElem?_setIfInBounds_ne h]
def first(a:Act)(o:Option Oper):Value:=match o.bind (·.dst)with|some d=>a.tmps.getD d undef|none=>undef
theorem lz:∀(l:List Oper)(xs:Nat->Value)(k:Nat)(a:Act),(∀j,xs (k+j)=first a l[j]?)->fill l xs k a=a
 | [],_,_,_,_=>rfl
 |o::r,xs,k,a,h=>by
  have h0:a.put o.dst (xs k)=a:=by
   have:=h 0;rw[Nat.add_zero]at this;rw[this];cases hd:o.dst with
   |none=>rfl
   |some d=>simp only[first,List.getElem?_cons_zero,Option.bind_some,hd];exact A5 a d
  rw[fill,h0];refine lz r xs (k+1) a fun j=>?_;have:=h (j+1);rw[show k+1+j=k+(j+1)by omega,this];simp[first]
def back:List Oper->Nat->Bool
 | [],_=>true
 |o::r,k=>(o.after.toList.all fun e=> !Region.binds .any e||decide (e.on<k))&&back r (k+1)
theorem nj:∀(l:List Oper)(k i:Nat)(o:Oper),back l k=true->l[i]?=some o->∀e∈o.after,Region.binds .any e=true->e.on<k+i
 | [],_,_,_,_,h=>by simp at h
 |b::r,k,i,o,hb,h=>by
  simp only[back,Bool.and_eq_true]at hb;cases i with
  |zero=>
   obtain rfl:b=o:=by simpa using h
   intro e he a;have:=List.all_eq_true.1 hb.1 e (by simpa using he);rw[a]at this;simpa using this
  |succ i=>
   intro e he a;have:=nj r (k+1) i o hb.2 (by simpa using h) e he a;omega
def ahead(F:Nat->Value->World->Prop)(xs:Nat->Value)(w:World):List Edge->Prop
 | []=>True
 |e::es=>F e.on (xs e.on) w/\ahead F xs w es
theorem pZ{F:Nat->Value->World->Prop}{xs:Nat->Value}{w:World}:∀(es:List Edge),(∀e∈es,F e.on (xs e.on) w)->ahead F xs w es
 | [],_=>trivial
 |e::es,h=>⟨h e (List.mem_cons_self ..),pZ es fun b a=>h b (List.mem_cons_of_mem _ a)⟩
def one(P:Program)(ops:Array Oper)(Q:Exit->Act->World->Prop)(o:Oper)(K:Act->World->Prop)(a:Act)(w:World):Prop:=
 if Region.wanted o (yielded ops a.tmps)then o.wp P a w K Q\/(o.asks P a w/\LetsOut Q)else K (a.put o.dst undef) w
def bP(D:Nat->Bool)(k:Nat):Nat->Bool:=fun j=>if j=k then true else D j
def closed(l:List Oper)(D:Nat->Bool):Prop:=∀j o,l[j]?=some o->D j=true->∀e∈o.after,Region.binds .any e=true->D e.on=true
def waits(l:List Oper)(j i:Nat):Bool:=match l[j]? with|some o=>o.after.toList.any fun e=>e.on==i&&Region.binds .any e|none=>false
theorem aL{l:List Oper}{D:Nat->Bool}(h:closed l D)(j i:Nat)(hw:waits l j i=true)(b:D j=true):D i=true:=by
 unfold waits at hw;split at hw
 ·next o ho=>
  obtain⟨e,he,a⟩:=List.any_eq_true.1 hw;simp only[Bool.and_eq_true,beq_iff_eq]at a;rw[<-a.1];exact h j o ho b e (by simpa using he) a.2
 ·cases hw
def each(P:Program)(ops:Array Oper)(Q:Exit->Act->World->Prop)(a:List Oper)(a0:Act)(F:Nat->Value->World->Prop)(R:(Nat->Bool)->(Nat->Value)->World->Prop)(T:World->World->Prop):Nat->List Oper->Prop
 |_,[]=>True
 |k,o::r=>(∀D xs w,D k=false->closed a D->(∀e∈o.after,Region.binds .any e=true->D e.on=true)->R D xs w->ahead F xs w (o.after.toList.filter fun e=>Region.binds .any e)->one P ops Q o (fun b w'=>∃v,b=(fill a xs 0 a0).put o.dst v/\T w w'/\R (bP D k) (set xs k v) w'/\F k v w') (fill a xs 0 a0) w)/\each P ops Q a a0 F R T (k+1) r
theorem jg{ops:Array Oper}{Q:Exit->Act->World->Prop}{a:List Oper}{a0:Act}{F:Nat->Value->World->Prop}{R:(Nat->Bool)->(Nat->Value)->World->Prop}{T:World->World->Prop}:
 ∀(l:List Oper)(k i:Nat)(o:Oper),each P ops Q a a0 F R T k l->l[i]?=some o->∀D xs w,D (k+i)=false->closed a D->(∀e∈o.after,Region.binds .any e=true->D e.on=true)->R D xs w->ahead F xs w (o.after.toList.filter fun e=>Region.binds .any e)->
  one P ops Q o (fun c w'=>∃v,c=(fill a xs 0 a0).put o.dst v/\T w w'/\R (bP D (k+i)) (set xs (k+i) v) w'/\F (k+i) v w') (fill a xs 0 a0) w
 | [],_,_,_,_,h=>by simp at h
 |b::r,k,i,o,he,h=>by
  cases i with
  |zero=>
   obtain rfl:b=o:=by simpa using h
   exact he.1
  |succ i=>
   have:=jg r (k+1) i o he.2 (by simpa using h);rwa[show k+1+i=k+(i+1)by omega]at this
theorem fT{l:List Oper}{Q:Exit->Act->World->Prop}{a0:Act}{F:Nat->Value->World->Prop}{R:(Nat->Bool)->(Nat->Value)->World->Prop}{T:World->World->Prop}(hb:back l 0=true)(C:apart l=true)
 (hT:∀k v w w',T w w'->F k v w->F k v w') (he:each P l.toArray Q l a0 F R T 0 l)
 (hend:∀D xs w,R D xs w->(∀k,k<l.length->D k=true/\F k (xs k) w)->Q .normal (fill l xs 0 a0) w):
 ∀(fuel:Nat)(a:Array Bool)(xs:Nat->Value)(w:World),a.size=l.length->a.toList.count false=fuel->closed l (fun k=>a.getD k false)->R (fun k=>a.getD k false) xs w->(∀k,a.getD k false=true->F k (xs k) w)->
  wpAny P .any l.toArray Q fuel a (fill l xs 0 a0) w
 |0,a,xs,w,hsz,hc,hC,hR,hF=>by
  have b:∀k,k<l.length->a.getD k false=true:=by
   intro k x;cases h:a.getD k false with
   |true=>rfl
   |false=>
    have c:k<a.size:=by omega
    have:a[k]=false:=by simpa[c]using h
    have hm:false∈a.toList:=by rw[<-this];simp
    exact absurd hc (by have:=List.count_pos_iff.2 hm;omega)
  refine⟨?_,hend _ xs w hR fun k x=>⟨b k x,hF k (b k x)⟩⟩;refine List.eq_nil_iff_forall_not_mem.2 fun i M=>?_;obtain⟨f,o,u,-⟩:=mem_ready.1 M;have A:i<l.length:=by simpa using(Array.getElem?_eq_some_iff.1 u).1
  have:=b i A;have W:a.getD i true=true:=by
   have c:i<a.size:=by omega
   simpa[c]using this
  rw[W]at f;cases f
 |fuel+1,a,xs,w,hsz,hc,hC,hR,hF=>by
  refine⟨fun h0=>?_,fun i M=>?_⟩
  ·exfalso;have hm:false∈a.toList:=List.count_pos_iff.1 (by omega);obtain⟨j,E,K⟩:=List.getElem_of_mem hm;have hex:∃n,n<l.length/\a.getD n true=false/\∀m,m<n->a.getD m false=true:=by
    have hP:∀n,(n<l.length/\a.getD n true=false)->∃n,n<l.length/\a.getD n true=false/\∀m,m<n->a.getD m false=true:=by
     intro n;induction n using Nat.strongRecOn with
     |_ n ih=>
      intro⟨p,s⟩;by_cases b:∀m,m<n->a.getD m false=true
      ·exact⟨n,p,s,b⟩
      ·simp only[Classical.not_forall]at b;obtain⟨m,J,I⟩:=b;have c:m<a.size:=by omega
       refine ih m J ⟨by omega,?_⟩;simpa[c]using I
    refine hP j ⟨by simpa[hsz]using E,?_⟩;have c:j<a.size:=by simpa using E
    simpa[c]using K
   obtain⟨n,p,s,H⟩:=hex;have u:l.toArray[n]?=some l[n]:=by simp[p]
   have Y:n∈Region.ready .any l.toArray a:=mem_ready.2 ⟨s,_,u,fun e t O=>H _ (by have:=nj l 0 n _ hb (by simp[p]) e t O;omega)⟩;rw[h0]at Y;cases Y
  ·obtain⟨f,o,u,b⟩:=mem_ready.1 M;have g:l[i]?=some o:=by simpa using u
   have A:i<l.length:=by
    rcases Nat.lt_or_ge i l.length with h|h
    ·exact h
    ·rw[List.getElem?_eq_none h]at g;cases g
   have q:a.getD i false=false:=by
    have c:i<a.size:=by omega
    simpa[c]using f
   have y:=jg l 0 i o he g (fun k=>a.getD k false) xs w (by rw[Nat.zero_add];exact q) hC b hR (pZ _ fun e t=>by obtain⟨h1,W⟩:=List.mem_filter.1 t;exact hF _ (b e (by simpa using h1) W));have G:wpOp P l.toArray Q i (fun a' w'=>∃v,a'=(fill l xs 0 a0).put o.dst v/\T w w'/\R (bP (fun k=>a.getD k false) (0+i)) (set xs (0+i) v) w'/\F (0+i) v w') (fill l xs 0 a0) w:=by
    unfold wpOp;simp only[u];exact y
   refine wpOp_mono (fun a' w' h=>?_) G;obtain⟨v,rfl,S,U,V⟩:=h;rw[pL l xs 0 i a0 o v C g];refine fT hb C hT he hend fuel (a.setIfInBounds i true) (set xs (0+i) v) w' (by simpa using hsz) ?_ ?_ ?_ fun k x=>?_
   ·have c:i<a.size:=by omega
    have q:a[i]=false:=by simpa[c]using f
    have N:(a.toList.set i true).count false+1=a.toList.count false:=by
     have hm:false∈a.toList:=by rw[<-q];simp
     have:=List.count_pos_iff.2 hm;rw[List.count_set (by simpa using c),if_pos (by simp[q]),if_neg (by decide)];omega
    have Z:(a.setIfInBounds i true).toList.count false+1=a.toList.count false:=by
     rw[Array.toList_setIfInBounds];exact N
    rw[hc]at Z;exact Nat.succ.inj Z
   ·intro j X z E e he r;by_cases B:i=j
    ·subst B;obtain rfl:o=X:=Option.some.inj (g.symm.trans z);exact getD_set_true (b e he r)
    ·have L:a.getD j false=true:=by rw[<-getD_set_ne (i:=i) (j:=j) false B];exact E
     exact getD_set_true (hC j X z L e he r)
   ·have hD:(fun k=>(a.setIfInBounds i true).getD k false)=bP (fun k=>a.getD k false) (0+i):=by
     funext k
     unfold bP;have c:i<a.size:=by omega
     by_cases d:k=0+i
     ·rw[if_pos d,d,Nat.zero_add];simp[c]
     ·rw[if_neg d,getD_set_ne (i:=i) (j:=k) false (by omega)]
    rw[hD];exact U
   ·unfold set;by_cases d:k=0+i
    ·rw[if_pos d,d];exact V
    ·rw[if_neg d];exact hT k _ w w' S (hF k (by rw[getD_set_ne (i:=i) (j:=k) false (by omega)]at x;exact x))
theorem regionF{id:Nat}{l:List Oper}{Q:Exit->Act->World->Prop}{a:Act}{w:World}(F:Nat->Value->World->Prop)(R:(Nat->Bool)->(Nat->Value)->World->Prop)(T:World->World->Prop)
 (hm:P.follows .mixedOrders=true) (d:(back l 0&&apart l)=true) (hT:∀k v w w',T w w'->F k v w->F k v w') (hR:R (fun _=>false) (fun k=>first a l[k]?) {w with drawn:=w.drawn+1})
 (he:each P l.toArray Q l a F R T 0 l) (hend:∀D xs w,R D xs w->(∀k,k<l.length->D k=true/\F k (xs k) w)->Q .normal (fill l xs 0 a) w):(Code.region id l.toArray true).wp P Q a w:=by
 rw[Bool.and_eq_true]at d;refine wp_region_any hm ?_;have hf:=lz l (fun k=>first a l[k]?) 0 a (fun j=>by rw[Nat.zero_add]);have:=fT d.1 d.2 hT he hend l.toArray.size (Array.replicate l.toArray.size false) (fun k=>first a l[k]?) {w with drawn:=w.drawn+1} (by simp) (by simp) (fun j o _ c=>by simp[Array.getElem?_replicate]at c;split at c<;>simp at c) (by
  have e:(fun k=>(Array.replicate l.toArray.size false).getD k false)=fun _=>false:=by
   funext k
   simp only[Array.getD_eq_getD_getElem?,Array.getElem?_replicate];split<;>rfl
  rw[e];exact hR) (fun k b=>by simp[Array.getElem?_replicate]at b;split at b<;>simp at b)
 rwa[hf]at this
theorem region{id:Nat}{l:List Oper}{Q:Exit->Act->World->Prop}{a:Act}{w:World}(F:Nat->Value->World->Prop)(R:(Nat->Bool)->(Nat->Value)->World->Prop)(T:World->World->Prop)
 (hm:P.follows .mixedOrders=true) (b:(back l 0&&apart l)=true) (hT:∀k v w w',T w w'->F k v w->F k v w') (hR:∀xs,R (fun _=>false) xs {w with drawn:=w.drawn+1})
 (he:each P l.toArray Q l a F R T 0 l) (hend:∀D xs w,R D xs w->(∀k,k<l.length->D k=true/\F k (xs k) w)->Q .normal (fill l xs 0 a) w):(Code.region id l.toArray true).wp P Q a w:=
 regionF F R T hm b hT (hR _) he hend
def ib(P:Program)(ops:Array Oper)(Q:Exit->Act->World->Prop)(a:List Oper)(fr:(Nat->Value)->Act)(F:Nat->Value->World->Prop)(R:(Nat->Bool)->(Nat->Value)->World->Prop)(T:World->World->Prop):Nat->List Oper->Prop
 |_,[]=>True
 |k,o::r=>(∀D xs w,D k=false->closed a D->(∀e∈o.after,Region.binds .any e=true->D e.on=true)->R D xs w->ahead F xs w (o.after.toList.filter fun e=>Region.binds .any e)->∀K:Act->World->Prop,(∀b w',(∃v,b=(fr xs).put o.dst v/\T w w'/\R (bP D k) (set xs k v) w'/\F k v w')->K b w')->
  if Region.wanted o (yielded ops (fr xs).tmps)then o.wp P (fr xs) w K Q else K ((fr xs).put o.dst undef) w)/\ib P ops Q a fr F R T (k+1) r
theorem jC{ops:Array Oper}{Q:Exit->Act->World->Prop}{b:List Oper}{a0:Act}{fr:(Nat->Value)->Act}{F:Nat->Value->World->Prop}{R:(Nat->Bool)->(Nat->Value)->World->Prop}{T:World->World->Prop}(hfr:∀xs,fill b xs 0 a0=fr xs):
 ∀(k:Nat)(l:List Oper),ib P ops Q b fr F R T k l->each P ops Q b a0 F R T k l
 |_,[],_=>trivial
 |k,o::r,h=>⟨fun D xs w d hC c hR e=>by
  rw[hfr xs];have a:=h.1 D xs w d hC c hR e _ fun _ _ h=>h;unfold one;split
  ·next hw=>rw[if_pos hw]at a;exact Or.inl a
  ·next hw=>rw[if_neg hw]at a;exact a,jC hfr (k+1) r h.2⟩
theorem az{ops:Array Oper}{Q:Exit->Act->World->Prop}{a:List Oper}{fr:(Nat->Value)->Act}{F:Nat->Value->World->Prop}{R:(Nat->Bool)->(Nat->Value)->World->Prop}{T:World->World->Prop}{k:Nat}:ib P ops Q a fr F R T k []:=trivial
theorem aa{ops:Array Oper}{Q:Exit->Act->World->Prop}{a:List Oper}{fr:(Nat->Value)->Act}{F:Nat->Value->World->Prop}{R:(Nat->Bool)->(Nat->Value)->World->Prop}{T:World->World->Prop}{k:Nat}{o:Oper}{r:List Oper}
 (h:∀D xs w,D k=false->closed a D->(∀e∈o.after,Region.binds .any e=true->D e.on=true)->R D xs w->ahead F xs w (o.after.toList.filter fun e=>Region.binds .any e)->∀K:Act->World->Prop,(∀b w',(∃v,b=(fr xs).put o.dst v/\T w w'/\R (bP D k) (set xs k v) w'/\F k v w')->K b w')->
  if Region.wanted o (yielded ops (fr xs).tmps)then o.wp P (fr xs) w K Q else K ((fr xs).put o.dst undef) w)
 (c:ib P ops Q a fr F R T (k+1) r):ib P ops Q a fr F R T k (o::r):=⟨h,c⟩
theorem walk{id:Nat}{l:List Oper}{Q:Exit->Act->World->Prop}{a:Act}{w:World}(F:Nat->Value->World->Prop)(R:(Nat->Bool)->(Nat->Value)->World->Prop)(T:World->World->Prop)
 (hm:P.follows .mixedOrders=true) (b:(back l 0&&apart l)=true) (fr:(Nat->Value)->Act) (hfr:∀xs,fill l xs 0 a=fr xs) (hT:∀k v w w',T w w'->F k v w->F k v w') (hR:∀xs,R (fun _=>false) xs w.drew)
 (he:ib P l.toArray Q l fr F R T 0 l) (hend:∀D xs w,R D xs w->(∀k,k<l.length->D k=true/\F k (xs k) w)->Q .normal (fr xs) w):(Code.region id l.toArray true).wp P Q a w:=
 region F R T hm b hT hR (jC hfr 0 l he) fun D xs w d c=>by rw[hfr xs];exact hend D xs w d c
theorem AD{id:Nat}{l:List Oper}{Q:Exit->Act->World->Prop}{a:Act}{w:World}(F:Nat->Value->World->Prop)(R:(Nat->Bool)->(Nat->Value)->World->Prop)(T:World->World->Prop)
 (hm:P.follows .mixedOrders=true) (b:(back l 0&&apart l)=true) (fr:(Nat->Value)->Act) (hfr:∀xs,fill l xs 0 a=fr xs) (hT:∀k v w w',T w w'->F k v w->F k v w') (hR:∀xs,(∀k,xs k=first a l[k]?)->R (fun _=>false) xs w.drew)
 (he:ib P l.toArray Q l fr F R T 0 l) (hend:∀D xs w,R D xs w->(∀k,k<l.length->D k=true/\F k (xs k) w)->Q .normal (fr xs) w):(Code.region id l.toArray true).wp P Q a w:=
 regionF F R T hm b hT (hR _ fun _=>rfl) (jC hfr 0 l he) fun D xs w d c=>by rw[hfr xs];exact hend D xs w d c
theorem ab{F:Nat->Value->World->Prop}{xs:Nat->Value}{w:World}:∀(es:List Edge),ahead F xs w es->∀j,(es.any fun e=>e.on==j)=true->F j (xs j) w
 | [],_,_,h=>by simp at h
 |e::es,ha,j,h=>by
  simp only[List.any_cons,Bool.or_eq_true,beq_iff_eq]at h;rcases h with h|h
  ·subst h;exact ha.1
  ·exact ab es ha.2 j h
end Go.Proofs.YtbpodmallknhfaaGreat.Ord
namespace Go.Proofs.YtbpodmallknhfaaGreat
open Go.RowKit
structure Touch(S:Nat->Prop)(a b:World):Prop where
 os:b.os=a.os
 tape:b.tape=a.tape
 output:b.output=a.output
 size:a.heap.size<=b.heap.size
 block:∀i,i<a.heap.size->¬S i->b.heap[i]?=a.heap[i]?
theorem Touch.refl(S:Nat->Prop)(a:World):Touch S a a:=⟨rfl,rfl,rfl,Nat.le_refl _,fun _ _ _=>rfl⟩
theorem Touch.trans{S:Nat->Prop}{a b c:World}(h:Touch S a b)(k:Touch S b c):Touch S a c:=
 ⟨k.os.trans h.os,k.tape.trans h.tape,k.output.trans h.output,Nat.le_trans h.size k.size,fun i d hs=>(k.block i (Nat.lt_of_lt_of_le d h.size) hs).trans (h.block i d hs)⟩
theorem Touch.mono{S T:Nat->Prop}{a b:World}(h:Touch S a b)(hs:∀i,i<a.heap.size->S i->T i):Touch T a b:=
 ⟨h.os,h.tape,h.output,h.size,fun i c d=>h.block i c fun e=>d (hs i c e)⟩
theorem Touch.dC{S:Nat->Prop}{base:Nat}{a b:World}(h:Below base a b)(hs:∀i,i<a.heap.size->base<=i->S i):Touch S a b:=
 ⟨h.os,h.tape,h.output,h.size,fun i e d=>h.block i (by
  rcases Nat.lt_or_ge i base with c|c
  ·exact c
  ·exact absurd (hs i e c) d)⟩
theorem Touch.aE{S:Nat->Prop}{a b:World}(h:Below a.heap.size a b):Touch S a b:=.dC h fun i d c=>absurd c (by omega)
theorem Touch.fM{S:Nat->Prop}{g:Nat}{a b:World}(h:a.grownBy b (some g))(hs:S g):Touch S a b:=
 ⟨h.os,h.tape,h.output,h.size,fun i d c=>h.block i d fun e=>c (by rw[Option.some.inj e];exact hs)⟩
theorem Touch.set{S:Nat->Prop}{a:World}(g o:Nat)(u:Value)(hs:S g):Touch S a (a.setCell ⟨g,o,none⟩ u):=.fM (an a g o u) hs
theorem Touch.drew{S:Nat->Prop}{a b:World}(h:Touch S a b):Touch S a b.drew:=⟨h.os,h.tape,h.output,h.size,h.block⟩
theorem Touch.drewN{S:Nat->Prop}{a b:World}(h:Touch S a b)(n:Nat):Touch S a (b.drewN n):=⟨h.os,h.tape,h.output,h.size,h.block⟩
theorem Touch.below{S:Nat->Prop}{base:Nat}{a b:World}(h:Touch S a b)(hs:∀i,S i->base<=i)(e:base<=a.heap.size):Below base a b:=
 ⟨h.os,h.tape,h.output,h.size,fun i d=>h.block i (by omega) fun c=>by have:=hs i c;omega⟩
theorem Touch.row{S:Nat->Prop}{a b:World}{g:Nat}{o:Obj}(h:Touch S a b)(c:a.heap[g]?=some o)(hs:¬S g):b.heap[g]?=some o:=by
 rw[h.block g (lt_of_block c) hs];exact c
theorem Touch.cell{S:Nat->Prop}{a b:World}{p:Addr}{v:Value}(h:Touch S a b)(c:a.cell? p=some v)(hs:¬S p.block):b.cell? p=some v:=by
 rw[World.cell?_of_block (w:=a) (a:=p) (h.block p.block (block_lt_of_cell c) hs)];exact c
theorem Touch.bz{S:Nat->Prop}{a b:World}{v:Value}{l:List Nat}(h:Touch S a b)(d:aV a v l)(hs:0<l.length->∀g,v.ownBlock=some g->¬S g):aV b v l:=by
 obtain⟨p,cap,e,f,j,hp⟩:=d.form;refine⟨⟨p,cap,e,f,j,fun h0=>?_⟩,d.small,d.len⟩;obtain⟨g,off,c,m⟩:=hp h0;exact⟨g,off,c,fun i k=>h.cell (m i k) (hs h0 g (by rw[e,c];rfl))⟩
theorem Own.stored{base g cap n:Nat}{w:World}{l:List Nat}(h:Own base w (.slice (some ⟨g,0,none⟩) n cap) l)(b:l.length=n)(j:Nat)(z:Nat)(hz:z<256):
 Own base (w.setCell ⟨g,j,none⟩ (.int .u8 (z:Int))) (.slice (some ⟨g,0,none⟩) n cap) (l.set j z)/\w.grownBy (w.setCell ⟨g,j,none⟩ (.int .u8 (z:Int))) (some g):=by
 subst b;obtain⟨d,c⟩:=h.own.stored j (.int .u8 (z:Int));refine⟨⟨?_,?_,by simpa using h.len⟩,c⟩
 ·have e:af (l.set j z)=(af l).set j (.int .u8 (z:Int)):=by simp[af,List.map_set]
  rw[e,List.length_set];exact d
 ·intro x a;rcases List.mem_or_eq_of_mem_set a with a|rfl
  ·exact h.small x a
  ·exact hz
end Go.Proofs.YtbpodmallknhfaaGreat
namespace Go.Proofs.YtbpodmallknhfaaGreat.Ints
open Go.RowKit
def uU(x:Int):Prop:=(Lit.int .i64 x).wf=true
structure aV(w:World)(v:Value)(l:List Int):Prop where
 form:∃p cap,v=.slice p l.length cap/\(l.length<=cap/\cap<=9223372036854775807)/\(p=none->cap=0)/\(0<l.length->∃b off,p=some ⟨b,off,none⟩/\∀i,i<l.length->w.cell? ⟨b,off+i,none⟩=some (.int .i64 (l.getD i 0)))
 small:∀x∈l,uU x
 len:l.length<=17592186044416
theorem vY:uU 0:=by unfold uU;rfl
theorem aV.getD{w:World}{v:Value}{l:List Int}(h:aV w v l)(i:Nat):uU (l.getD i 0):=by
 rcases Nat.lt_or_ge i l.length with a|a
 ·refine h.small (l.getD i 0) ?_;rw[List.getD_eq_getElem?_getD,List.getElem?_eq_getElem a];simp
 ·rw[List.getD_eq_getElem?_getD,List.getElem?_eq_none a];exact vY
theorem aV.below{w w':World}{v:Value}{l:List Int}(h:aV w v l)(k:Below w.heap.size w w'):aV w' v l:=by
 obtain⟨p,cap,d,e,f,hp⟩:=h.form;refine⟨⟨p,cap,d,e,f,fun h0=>?_⟩,h.small,h.len⟩;obtain⟨b,off,c,j⟩:=hp h0;refine⟨b,off,c,fun i g=>?_⟩;have a:=j i g;rw[k.cell (p:=⟨b,off+i,none⟩) (block_lt_of_cell a)];exact a
theorem aV.take{w:World}{p:Option Addr}{cap:Nat}{l:List Int}(h:aV w (.slice p l.length cap) l)(n:Nat)(k:n<=l.length):aV w (.slice p n cap) (l.take n):=by
 obtain⟨j,d,c,f,hz,hp⟩:=h.form;simp only[Value.slice.injEq]at c;obtain⟨rfl,-,rfl⟩:=c;have hl:(l.take n).length=n:=by simp;omega
 refine⟨⟨p,cap,by rw[hl],⟨by omega,f.2⟩,hz,fun h0=>?_⟩,fun x e=>h.small x (List.mem_of_mem_take e),by have:=h.len;omega⟩;obtain⟨b,off,a,g⟩:=hp (by omega);refine⟨b,off,a,fun i m=>?_⟩;rw[g i (by omega)];have:(l.take n).getD i 0=l.getD i 0:=by
  simp only[List.getD_eq_getElem?_getD];rw[List.getElem?_take,if_pos (by omega)]
 rw[this]
theorem aV.ui{w:World}{v:Value}{l:List Int}(h:aV w v l)(k:Nat):∀x∈l.take k,uU x:=fun x a=>h.small x (List.mem_of_mem_take a)
theorem cT(l:List Int)(k:Nat)(h:k<l.length):l.take (k+1)=l.take k++[l.getD k 0]:=by
 rw[List.take_succ_eq_append_getElem h,List.getD_eq_getElem?_getD,List.getElem?_eq_getElem h];rfl
theorem ja:(Tryz.prog.info? 3).map (fun i=>(i.zero,i.size,i.bytes))=some (some (.int .i64 0),1,8):=by kernel_rfl
def af(l:List Int):List Value:=l.map fun x:Int=>Value.int .i64 x
theorem aF(l:List Int):(af l).length=l.length:=by simp[af]
theorem lk{w:World}{base g cap n:Nat}{l:List Int}(h:w.ownsRow base 3 1 (.slice (some ⟨g,0,none⟩) n cap) n (af l)):
 base<=g/\n<=cap/\cap<=maxLen/\l.length=n/\∀i,i<l.length->w.cell? ⟨g,i,none⟩=some (.int .i64 (l.getD i 0)):=by
 obtain⟨q,c⟩:=h;rcases c with⟨c,_⟩|⟨s,e,cur,d,k,j,p,o,r,m⟩
 ·simp at c
 ·simp only[Value.slice.injEq,Option.some.injEq,Addr.mk.injEq]at d;obtain⟨⟨rfl,-,-⟩,-,rfl⟩:=d;have b:l.length=n:=by simpa[af]using q
  refine⟨k,p,o,b,fun i f=>?_⟩;rw[cell_of_row _ g i cur 3 (0,0) j];have a:(cur.toList.take (n*1))[i]?=(af l)[i]?:=by rw[m]
  rw[List.getElem?_take,if_pos (by omega)]at a;rw[<-Array.getElem?_toList,a];simp[af,List.getElem?_eq_getElem f]
theorem ni{w:World}{base:Nat}{v:Value}{l:List Int}(h:w.ownsRow base 3 1 v l.length (af l))(hs:∀x∈l,uU x)(hl:l.length<=17592186044416):aV w v l:=by
 rcases h.2 with⟨a,h0⟩|⟨g,cap,cur,a,_⟩
 ·subst a;exact⟨⟨none,0,by rw[h0],by omega,fun _=>rfl,fun h=>absurd h (by omega)⟩,hs,hl⟩
 ·subst a;obtain⟨_,e,b,_,d⟩:=lk h;refine⟨⟨some ⟨g,0,none⟩,cap,rfl,⟨e,by unfold maxLen at b;exact b⟩,fun h=>by simp at h,fun _=>⟨g,0,rfl,fun i c=>?_⟩⟩,hs,hl⟩;rw[Nat.zero_add];exact d i c
theorem eM(w:World)(l:List Int)(cap:Nat)(a:l.length<=cap/\cap<=9223372036854775807)(t:TypeId)(fr:Nat×Nat)(hs:∀x∈l,uU x)(hl:l.length<=17592186044416):
 aV (w.alloc (.cells (l.map fun x:Int=>Value.int .i64 x).toArray t fr)) (.slice (some ⟨w.heap.size,0,none⟩) l.length cap) l:=by
 refine⟨⟨_,cap,rfl,a,(fun h=>by simp at h),fun _=>⟨w.heap.size,0,rfl,fun i b=>?_⟩⟩,hs,hl⟩;rw[cell_of_row _ w.heap.size (0+i) _ t fr (heap_alloc_last _ _)];simp[List.getElem?_eq_getElem b]
theorem bW(w:World)(row:Option Nat):w.grownBy w row:=⟨rfl,rfl,rfl,Nat.le_refl _,fun _ _ _=>rfl⟩
theorem ak{a b c:World}{row:Option Nat}(h:a.grownBy b row)(k:b.grownBy c row):a.grownBy c row:=
 ⟨k.os.trans h.os,k.tape.trans h.tape,k.output.trans h.output,Nat.le_trans h.size k.size,fun i e d=>(k.block i (Nat.lt_of_lt_of_le e h.size) d).trans (h.block i e d)⟩
theorem aR{a b:World}(h:Below a.heap.size a b)(row:Option Nat):a.grownBy b row:=⟨h.os,h.tape,h.output,h.size,fun k c _=>h.block k c⟩
theorem an(w:World)(B o:Nat)(u:Value):w.grownBy (w.setCell ⟨B,o,none⟩ u) (some B):=
 ⟨rfl,rfl,rfl,by simp[World.setCell],fun k _ a=>Below.heap_setCell _ _ _ _ (fun e=>a (by rw[e]))⟩
theorem dF(w:World)(row:Option Nat):w.grownBy w.drew row:=⟨rfl,rfl,rfl,Nat.le_refl _,fun _ _ _=>rfl⟩
theorem aJ{d B:Nat}{a b c:World}(h:Below d a b)(k:b.grownBy c (some B))(h0:d<=b.heap.size)(f:d<=B):Below d a c:=
 h.grown k h0 (fun i e=>by cases e;exact f)
theorem aV.grown{w w':World}{v:Value}{l:List Int}{row:Option Nat}(h:aV w v l)(j:w.grownBy w' row)(c:0<l.length->v.ownBlock≠row):aV w' v l:=by
 obtain⟨p,cap,d,e,f,hp⟩:=h.form;refine⟨⟨p,cap,d,e,f,fun h0=>?_⟩,h.small,h.len⟩;obtain⟨b,off,a,k⟩:=hp h0;refine⟨b,off,a,fun i g=>?_⟩;refine j.cell (k i g) ?_;have:=c h0;rw[d,a]at this;exact this
theorem aV.drop{w:World}{b off cap:Nat}{l:List Int}(h:aV w (.slice (some ⟨b,off,none⟩) l.length cap) l)(n:Nat)(m:n<=l.length):aV w (.slice (some ⟨b,off+n,none⟩) (l.length-n) (cap-n)) (l.drop n):=by
 obtain⟨j,e,d,k,hz,hp⟩:=h.form;simp only[Value.slice.injEq]at d;obtain⟨rfl,-,rfl⟩:=d;have hl:(l.drop n).length=l.length-n:=by simp
 refine⟨⟨_,_,by rw[hl],⟨by omega,by omega⟩,(fun h=>by simp at h),fun h0=>?_⟩,fun x f=>h.small x (List.mem_of_mem_drop f),by have:=h.len;omega⟩;obtain⟨p,c,a,g⟩:=hp (by omega);simp only[Option.some.injEq,Addr.mk.injEq]at a;obtain⟨rfl,rfl,-⟩:=a;refine⟨b,off+n,rfl,fun i o=>?_⟩;rw[show off+n+i=off+(n+i)by omega,g (n+i) (by omega)];simp[List.getD_eq_getElem?_getD]
theorem fR(w:World)(a:Addr)(n cap:Nat)(h:n=0)(b:cap<=9223372036854775807):aV w (.slice (some a) n cap) []:=by
 subst h;exact⟨⟨_,_,rfl,⟨Nat.zero_le _,b⟩,(fun h=>by simp at h),fun h=>absurd h (by simp)⟩,by simp,by simp⟩
def Row(w:World)(g n:Nat):Prop:=∃cur:Array Value,w.heap[g]?=some (.cells cur 3 (0,0))/\n<=cur.size/\∀i,i<n->∃b:Int,uU b/\cur[i]?=some (.int .i64 b)
theorem Row.lt{w:World}{g n:Nat}(h:Row w g n):g<w.heap.size:=by
 obtain⟨cur,a,_⟩:=h;exact lt_of_block a
theorem mJ{w:World}{base g cap n:Nat}{l:List Int}(h:w.ownsRow base 3 1 (.slice (some ⟨g,0,none⟩) n cap) n (af l))(hs:∀x∈l,uU x):Row w g n:=by
 obtain⟨k,b⟩:=h;rcases b with⟨b,_⟩|⟨s,d,cur,c,o,f,r,q,p,j⟩
 ·simp at b
 ·simp only[Value.slice.injEq,Option.some.injEq,Addr.mk.injEq]at c;obtain⟨⟨rfl,-,-⟩,-,rfl⟩:=c;have e:l.length=n:=by simpa[af]using k
  refine⟨cur,f,by omega,fun i m=>?_⟩;have a:(cur.toList.take (n*1))[i]?=(af l)[i]?:=by rw[j]
  rw[List.getElem?_take,if_pos (by omega)]at a;refine⟨l[i]'(by omega),hs _ (List.getElem_mem _),?_⟩;rw[<-Array.getElem?_toList,a];simp[af,List.getElem?_eq_getElem (show i<l.length by omega)]
structure Own(base:Nat)(w:World)(v:Value)(l:List Int):Prop where
 own:w.ownsRow base 3 1 v l.length (af l)
 small:∀x∈l,uU x
 len:l.length<=17592186044416
theorem Own.bz{base:Nat}{w:World}{v:Value}{l:List Int}(h:Own base w v l):aV w v l:=ni h.own h.small h.len
theorem Own.form{base:Nat}{w:World}{v:Value}{l:List Int}(h:Own base w v l):(v=.slice none 0 0/\l=[])\/∃g cap,v=.slice (some ⟨g,0,none⟩) l.length cap/\base<=g/\l.length<=cap/\cap<=maxLen/\Row w g l.length:=by
 rcases h.own.2 with⟨a,h0⟩|⟨g,cap,cur,a,b,e,d,c,i,f⟩
 ·exact Or.inl ⟨a,List.eq_nil_of_length_eq_zero h0⟩
 ·subst a;exact Or.inr ⟨g,cap,rfl,b,d,c,mJ h.own h.small⟩
theorem Own.grown{base:Nat}{w w':World}{v:Value}{l:List Int}{row:Option Nat}(h:Own base w v l)(b:w.grownBy w' row)(a:v.ownBlock=none\/v.ownBlock≠row):Own base w' v l:=⟨h.own.kept b a,h.small,h.len⟩
theorem Own.below{base:Nat}{w w':World}{v:Value}{l:List Int}(h:Own base w v l)(a:Below w.heap.size w w'):Own base w' v l:=
 h.grown (row:=none) (aR a none) (by cases b:v.ownBlock<;>simp)
theorem Own.from{base base':Nat}{w:World}{v:Value}{l:List Int}(h:Own base w v l)(c:base'<=base):Own base' w v l:=by
 refine⟨⟨h.own.1,?_⟩,h.small,h.len⟩;rcases h.own.2 with d|⟨g,cap,cur,a,b,r⟩
 ·exact Or.inl d
 ·exact Or.inr ⟨g,cap,cur,a,Nat.le_trans c b,r⟩
theorem aM(base:Nat)(w:World):Own base w (.slice none 0 0) []:=⟨⟨rfl,Or.inl ⟨rfl,rfl⟩⟩,by simp,by decide⟩
theorem aB{w:World}{ops:Array Oper}{rest:List Oper}{o:Oper}{a:Act}{Q:Exit->Act->World->Prop}(q:o.guard=none)(s x:Operand)
 (I:o.op=.call {callee:=.builtin .append,args:=#[s,x],argTypes:=#[34,34]})
 (base:Nat) (v:Value) (l1:List Int) (hs:a.eval s=v) (d:Own base w v l1)
 (G:Value) (e:List Int) (H:a.eval x=G) (L:aV w G e) (hlen:l1.length+e.length<=17592186044416) (l:base<=w.heap.size)
 (h:∀t w',Own base w' t (l1++e)->Below base w w'->w.grownBy w' v.ownBlock->wpList Tryz.prog ops Q rest (a.put o.dst t) w'):wpList Tryz.prog ops Q (o::rest) a w:=by
 obtain⟨i0,K,B,A,z⟩:=info_parts ja;have C:∀x∈l1++e,uU x:=by
  intro y m;rcases List.mem_append.1 m with m|m
  ·exact d.small y m
  ·exact L.small y m
 have O:af l1++af e=af (l1++e):=by simp[af]
 obtain⟨p,cap,rfl,_,M,hp⟩:=L.form;cases p with
 |none=>
  obtain rfl:=M rfl;have D:e.length=0:=by
   rcases Nat.eq_zero_or_pos e.length with h0|h0
   ·exact h0
   ·obtain⟨b,off,he,_⟩:=hp h0;simp at he
  obtain rfl:e=[]:=List.eq_nil_of_length_eq_zero D;refine wpList_append_own_none q s x 34 I base 3 i0 1 Tryz.underlying34 K v l1.length (af l1) hs d.own H ?_;refine h v w ?_ (Below.refl _ _) (bW _ _);simpa using d
 |some ad=>
  refine wpList_append_own w q s x 34 I base 3 i0 (.int .i64 0) 1 8 Tryz.underlying34 K B A z rfl (by decide) v l1.length (af l1) hs d.own ad e.length cap (af e) H (by simp[af]) ?_ ?_ (by unfold maxLen;omega) (by omega) l ?_
  ·intro j u E;have n:j<e.length:=by
    rcases Nat.lt_or_ge j e.length with F|F
    ·exact F
    ·rw[List.getElem?_eq_none (by simpa[af]using F)]at E;simp at E
   obtain⟨b,off,he,N⟩:=hp (by omega);obtain rfl:=Option.some.inj he;have r:(⟨b,off,none⟩:Addr).add j=⟨b,off+j,none⟩:=by unfold Addr.add;split<;>simp_all
   rw[r,N j n,<-E];simp[af,List.getElem?_eq_getElem n]
  ·intro u hu;simp only[af,List.mem_map]at hu;obtain⟨y,_,rfl⟩:=hu;rfl
  ·intro t w' f i _;rw[O,<-List.length_append]at f;refine h t w' ⟨f,C,by simp;omega⟩ ((Below.refl _ _).grown i l ?_) i;intro k J;rcases d.own.2 with⟨rfl,_⟩|⟨g,c,cur,rfl,P,_⟩
   ·simp[Value.ownBlock]at J
   ·simp only[Value.ownBlock,Option.some.injEq]at J;omega
theorem ky(w:World)(base cap:Nat)(cs:Array Value)(a:base<=w.heap.size)(hm:cap<=maxLen)(hs:cs.size=cap*1):Own base (w.alloc (.cells cs 3)) (.slice (some ⟨w.heap.size,0,none⟩) 0 cap) []:=
 ⟨World.ownsRow_made w cs cap a hm hs,by simp,by decide⟩
theorem jK{w:World}{ops:Array Oper}{rest:List Oper}{o:Oper}{a:Act}{Q:Exit->Act->World->Prop}(j:o.guard=none)(x c:Operand)
 (i:o.op=Op.makeSlice 34 x c) (base:Nat) (kl m:IntKind) (C:Int) (n:Nat) (hl:a.eval x=.int kl 0) (s:a.eval c=.int m C) (hC:C=(n:Int)) (t:n<=17592186044416) (b:base<=w.heap.size)
 (h:∀l w',Own base w' l []->Below base w w'->wpList Tryz.prog ops Q rest (a.put o.dst l) w'):wpList Tryz.prog ops Q (o::rest) a w:=by
 obtain⟨i0,q,g,f,e⟩:=info_parts ja;refine wpList_make_own w j x c 34 i base 3 i0 (.int .i64 0) 1 Tryz.underlying34 q g f kl m C n hl s hC (by rw[e];omega) (by unfold maxLen;omega) b ?_;intro w' d r;exact h _ w' ⟨d,by simp,by decide⟩ ((Below.refl _ _).grown r b (fun k p=>by cases p))
theorem bY{w:World}{ops:Array Oper}{rest:List Oper}{o:Oper}{a:Act}{Q:Exit->Act->World->Prop}(i:o.guard=none)(s x:Operand)
 (m:o.op=.call {callee:=.builtin .append,args:=#[s,x],argTypes:=#[34,34]})
 (base:Nat) (v:Value) (l:List Int) (hs:a.eval s=v) (d:Own base w v l)
 (k:a.eval x=.slice (some ⟨w.heap.size,0,none⟩) 1 1) (b:Int) (n:uU b) (hlen:l.length+1<=17592186044416) (c:base<=w.heap.size)
 (h:∀f w',Own base w' f (l++[b])->Below base w w'->wpList Tryz.prog ops Q rest (a.put o.dst f) w'):wpList Tryz.prog ops Q (o::rest) a (w.alloc (.cells #[.int .i64 b] 3)):=by
 have e:Below base w (w.alloc (.cells #[.int .i64 b] 3)):=(Below.refl _ _).alloc c _;refine aB i s x m base v l hs (d.below ((Below.refl _ _).alloc (Nat.le_refl _) _)) _ [b] k (eM w [b] 1 (by simp) 3 (0,0) (by simpa using n) (by simp)) (by simpa using hlen) (Nat.le_trans c e.size) ?_
 ·intro f w' g j _;exact h f w' g (e.trans j)
end Go.Proofs.YtbpodmallknhfaaGreat.Ints
namespace Go.Proofs.YtbpodmallknhfaaGreat.Ints
open Go.ChangeShapes Go.WideShapes Go.ChangeAt Go.RowKit
theorem wO:Tryz.prog.cellsOf 3=1:=by kernel_rfl
theorem wT:Tryz.prog.bytesOf 3=8:=by kernel_rfl
theorem ua{H:Type}{enc:TypeId×Value->H}{W:World}{base:Nat}{spare:Nat->Bool}{held:Bool}{a:Option Addr}{len cap:Nat}{d:DataW H}{n:List MemPlace}
 (h:DataW.Trod enc Tryz.prog W base spare held 34 (.slice a len cap) d n):
 ∃l:List Int,(l.length<=17592186044416->aV W (.slice a len cap) l)/\(l=[]\/∃elems rest,d=.slice elems rest/\l.length<=elems.length):=by
 obtain⟨fuel,hf⟩:=h;rcases open_ints Tryz.underlying34 Tryz.underlying3 wO hf with⟨e,_⟩|⟨x,l,c,zs,e,_,hl,hm,hz,p,f,m⟩
 ·simp[Value.cells]at e;obtain⟨rfl,rfl,rfl⟩:=e;exact⟨[],fun _=>⟨⟨none,0,rfl,by decide,fun _=>rfl,fun h=>absurd h (by decide)⟩,by simp,by decide⟩,Or.inl rfl⟩
 ·simp[Value.cells]at e;obtain⟨rfl,rfl,rfl⟩:=e;have hlen:len<=zs.length:=by rw[hz];split<;>omega
  have j:(zs.take len).length=len:=by simp;omega
  refine⟨zs.take len,fun s=>⟨⟨some x,cap,by rw[j],⟨by omega,by unfold maxLen at hm;exact hm⟩,fun h=>by simp at h,fun h0=>?_⟩,fun y o=>m y (List.mem_of_mem_take o),s⟩,Or.inr ⟨_,_,(Prod.mk.inj p).1,by simp[lits]⟩⟩;rw[j]at h0⊢;obtain⟨b,off,spot⟩:=x;have g:spot=none:=by
   have r:=f 0 (by omega);simpa[Addr.add]using World.cell?_spot r
  subst g;refine⟨b,off,rfl,fun i q=>?_⟩;have k:(⟨b,off,none⟩:Addr).add i=⟨b,off+i,none⟩:=by unfold Addr.add;split<;>simp_all
  rw[<-k,f i (by omega)];simp[q]
theorem qS{H:Type}{P:Program}(f:P=Tryz.prog){b:List TypeId}{c:List (DataW H)}(a:(DataW.weightsEach P b c).all (·<=reachBytes)=true){j:Nat}{d:DataW H}{l:List Int}
 (e:b[j]?=some 34) (hd:c[j]?=some d) (h:l=[]\/∃elems rest,d=.slice elems rest/\l.length<=elems.length):l.length<=17592186044416:=by
 subst f;rcases h with rfl|⟨elems,rest,rfl,hl⟩
 ·decide
 ·have:=sized_slice a e hd Tryz.underlying34;rw[wT]at this;have g:reachBytes=140737488351232:=rfl;omega
end Go.Proofs.YtbpodmallknhfaaGreat.Ints
namespace Go.Proofs.YtbpodmallknhfaaGreat
open Go.RowKit
theorem xV{w:World}{B:Nat}{a b c:Value}{T:TypeId}(h:w.heap[B]?=some (.cells #[a,b,c] T (0,0))):w.cell? ⟨B,0,none⟩=some a:=by simp[World.cell?,h]
theorem xU{w:World}{B:Nat}{a b c:Value}{T:TypeId}(h:w.heap[B]?=some (.cells #[a,b,c] T (0,0))):w.cell? ⟨B,1,none⟩=some b:=by simp[World.cell?,h]
theorem xT{w:World}{B:Nat}{a b c:Value}{T:TypeId}(h:w.heap[B]?=some (.cells #[a,b,c] T (0,0))):w.cell? ⟨B,2,none⟩=some c:=by simp[World.cell?,h]
theorem B2{w:World}{B:Nat}{a b c:Value}{T:TypeId}(h:w.heap[B]?=some (.cells #[a,b,c] T (0,0)))(o:Nat):w.frozen? ⟨B,o,none⟩=false:=by simp[World.frozen?,h]
theorem EF{w:World}{B:Nat}{a b c u:Value}{T:TypeId}(h:w.heap[B]?=some (.cells #[a,b,c] T (0,0))):(w.setCell ⟨B,0,none⟩ u).heap[B]?=some (.cells #[u,b,c] T (0,0)):=by
 have d:=lt_of_block h;have e:w.heap[B]=.cells #[a,b,c] T (0,0):=by simpa[Array.getElem?_eq_getElem d]using h
 show(w.heap.modify B _)[B]?=_;rw[Array.getElem?_eq_getElem (by simpa using d),Array.getElem_modify_self,e];rfl
theorem EE{w:World}{B:Nat}{a b c u:Value}{T:TypeId}(h:w.heap[B]?=some (.cells #[a,b,c] T (0,0))):(w.setCell ⟨B,1,none⟩ u).heap[B]?=some (.cells #[a,u,c] T (0,0)):=by
 have d:=lt_of_block h;have e:w.heap[B]=.cells #[a,b,c] T (0,0):=by simpa[Array.getElem?_eq_getElem d]using h
 show(w.heap.modify B _)[B]?=_;rw[Array.getElem?_eq_getElem (by simpa using d),Array.getElem_modify_self,e];rfl
theorem ED{w:World}{B:Nat}{a b c u:Value}{T:TypeId}(h:w.heap[B]?=some (.cells #[a,b,c] T (0,0))):(w.setCell ⟨B,2,none⟩ u).heap[B]?=some (.cells #[a,b,u] T (0,0)):=by
 have d:=lt_of_block h;have e:w.heap[B]=.cells #[a,b,c] T (0,0):=by simpa[Array.getElem?_eq_getElem d]using h
 show(w.heap.modify B _)[B]?=_;rw[Array.getElem?_eq_getElem (by simpa using d),Array.getElem_modify_self,e];rfl
theorem G0{w:World}{B:Nat}{a b c x y z:Value}{T:TypeId}(h:w.heap[B]?=some (.cells #[a,b,c] T (0,0))):
 (((w.setCell ⟨B,0,none⟩ x).setCell ⟨B,1,none⟩ y).setCell ⟨B,2,none⟩ z).heap[B]?=some (.cells #[x,y,z] T (0,0))/\w.grownBy (((w.setCell ⟨B,0,none⟩ x).setCell ⟨B,1,none⟩ y).setCell ⟨B,2,none⟩ z) (some B):=
 ⟨ED (EE (EF h)),ak (an _ _ _ _) (ak (an _ _ _ _) (an _ _ _ _))⟩
theorem Touch.grownBy{Q:Nat}{a b:World}(h:Touch (·=Q) a b):a.grownBy b (some Q):=⟨h.os,h.tape,h.output,h.size,fun i d c=>h.block i d fun e=>c (by rw[e])⟩
theorem Own.Ew{base Q:Nat}{w w':World}{v:Value}{l:List Nat}(h:Own base w v l)(b:Q<base)(a:Touch (·=Q) w w'):Own base w' v l:=by
 refine h.grown a.grownBy ?_;rcases h.form with⟨rfl,-⟩|⟨g,cap,rfl,c,-⟩
 ·exact Or.inl rfl
 ·refine Or.inr fun e=>?_;simp only[Value.ownBlock,Option.some.injEq]at e;omega
theorem df{w:World}(Q:Nat)(A:Array Value):Touch (·=Q) w (w.setRow Q A):=⟨rfl,rfl,rfl,by simp[World.setRow],fun i _ a=>setRow_other w Q i _ a⟩
theorem mK{P:Program}{fn:Func}{p q:Tmp}{ty:TypeId}(h:fn.results=#[.cell p ty,.tmp q])(tmps:Array Value)(w:World)(g:Nat)(t:TypeId)(cs:Array Value)(fr:Nat×Nat)(d:TypeDesc)(v:Value)
 (hp:tmps.getD p undef=.pointer (some ⟨g,0,none⟩)) (c:tmps.getD q undef=v) (f:w.heap[g]?=some (.cells cs t fr))
 (hu:P.underlying ty=some d) (hd:(match d with| .struct _| .array _ _=>true|_=>false)=true) (e:(P.info? ty).map (·.size)=some cs.size):
 (results fn tmps).run P w=.ok (.tuple #[.agg cs,v]) w:=by
 have b:tmps[p]?.getD undef=.pointer (some ⟨g,0,none⟩):=by simpa using hp
 have a:tmps[q]?.getD undef=v:=by simpa using c
 simp[results,h,b,a,asAddr,run_loadVar_row w g t ty cs fr d f hu hd e]
structure TR(W:World)(Q:Nat)(T:TypeId)(B0 A:Array Value)(op:Nat)(D:Nat->Bool)(w:World):Prop where
 al:Touch (·=Q) W w
 row:w.heap[Q]?=some (.cells (if D op=true then A else B0) T (0,0))
section
variable{W w w':World}{Q op:Nat}{T:TypeId}{A B0:Array Value}{D:Nat->Bool}
theorem TR.first(h:W.heap[Q]?=some (.cells B0 T (0,0))):TR W Q T B0 A op (fun _=>false) W.drew:=⟨(Touch.refl _ _).drew,h⟩
theorem TR.skip(h:TR W Q T B0 A op D w)(k:Nat)(a:op≠k):TR W Q T B0 A op (Ord.bP D k) w:=
 ⟨h.al,by rw[show Ord.bP D k op=D op from if_neg a];exact h.row⟩
theorem TR.step(h:TR W Q T B0 A op D w)(k:Nat)(b:op≠k)(a:Below w.heap.size w w'):TR W Q T B0 A op (Ord.bP D k) w':=
 ⟨h.al.trans (Touch.aE a),by rw[show Ord.bP D k op=D op from if_neg b];exact(a.block Q (lt_of_block h.row)).trans h.row⟩
theorem TR.put(h:TR W Q T B0 A op D w)(a:Touch (·=Q) w w')(b:w'.heap[Q]?=some (.cells A T (0,0))):TR W Q T B0 A op (Ord.bP D op) w':=
 ⟨h.al.trans a,by rw[show Ord.bP D op op=true from if_pos rfl,if_pos rfl];exact b⟩
theorem TR.now(h:TR W Q T B0 A op D w)(hd:D op=false):w.heap[Q]?=some (.cells B0 T (0,0)):=by
 have:=h.row;rw[hd]at this;exact this
theorem TR.done(h:TR W Q T B0 A op D w)(hd:D op=true):w.heap[Q]?=some (.cells A T (0,0)):=by
 have:=h.row;rw[hd]at this;exact this
end
end Go.Proofs.YtbpodmallknhfaaGreat
