/- Parts of a proof. Conditions: as each row says. -/
import Derived.Test.YtbpodmallknhfaaGreatRows
import Derived.WalkKit
import Derived.WalkSpells
import Derived.WalkLawsBesides
import Derived.Lib.Hide
import Derived.Deep.WholeRow
import Derived.Laws.AppendOwnNone
import Derived.Laws.MakeOwn
import Derived.OneCell
import Derived.OwnWalk
import Derived.Deep.DeepCutAuto
import Derived.Laws.BitsAllLaws
import Derived.Lib.SlBytesConst
import Derived.ProofKit
import Derived.SizedLaws
import Derived.OpenShut
import Derived.Below
import Derived.Orders
import Derived.Tactics
import Derived.KernelRfl
import Derived.Laws.Tables
import Derived.Laws.Rows
import Derived.Test.YtbpodmallknhfaaGreatPlA5
import Derived.Test.YtbpodmallknhfaaGreatPlA1
import Derived.Test.YtbpodmallknhfaaGreatPlA0
import Derived.Test.YtbpodmallknhfaaGreatPlA2
import Derived.Test.YtbpodmallknhfaaGreatPlA6
import Derived.Test.YtbpodmallknhfaaGreatPlA3
import Derived.Test.YtbpodmallknhfaaGreatPlA7
import Derived.Test.YtbpodmallknhfaaGreatPlA4
namespace Go.Proofs.YtbpodmallknhfaaGreat
open Go.RowKit
theorem lx{k:IntKind}{a b:Int}(h:a=b):Ending.returned (.int k a)=.returned (.int k b):=by rw[h]
structure aJ(w:World)(v:Value)(l:List Nat):Prop where
 form:∃p cap,v=.slice p l.length cap/\(l.length<=cap/\cap<=9223372036854775807)/\(p=none->cap=0)/\(0<l.length->∃b off,p=some ⟨b,off,none⟩/\∀i,i<l.length->w.cell? ⟨b,off+i,none⟩=some (.int .u8 (l.getD i 0:Nat)))
 small:∀x∈l,x<256
 len:l.length<=140737488355328
theorem aJ.getD{w:World}{v:Value}{l:List Nat}(h:aJ w v l)(i:Nat):l.getD i 0<256:=by
 rcases Hi i l.length with a|a
 ·have:=h.small (l.getD i 0) (by rw[GG,GS a];simp);exact this
 ·rw[GG,He a];decide
theorem aJ.below{w w':World}{v:Value}{l:List Nat}(h:aJ w v l)(k:Below w.heap.size w w'):aJ w' v l:=by
 obtain⟨p,cap,d,e,f,hp⟩:=h.form;refine⟨⟨p,cap,d,e,f,fun h0=>?_⟩,h.small,h.len⟩;obtain⟨b,off,c,j⟩:=hp h0;refine⟨b,off,c,fun i g=>?_⟩;have a:=j i g;rw[k.cell (p:=⟨b,off+i,none⟩) (Ib a)];exact a
theorem aJ.take{w:World}{p:Option Addr}{cap:Nat}{l:List Nat}(h:aJ w (.slice p l.length cap) l)(n:Nat)(k:n<=l.length):aJ w (.slice p n cap) (l.take n):=by
 obtain⟨j,d,c,f,hz,hp⟩:=h.form;simp only[Hc]at c;obtain⟨rfl,-,rfl⟩:=c;have hl:(l.take n).length=n:=by simp;omega
 refine⟨⟨p,cap,by rw[hl],⟨by omega,f.2⟩,hz,fun h0=>?_⟩,fun x e=>h.small x (Hl e),by have:=h.len;omega⟩;obtain⟨b,off,a,g⟩:=hp (by omega);refine⟨b,off,a,fun i m=>?_⟩;rw[g i (by omega)];have:(l.take n).getD i 0=l.getD i 0:=by
  simp only[GG];rw[Ij,GU (by omega)]
 rw[this]
theorem aJ.tg{w:World}{v:Value}{l:List Nat}(h:aJ w v l)(k:Nat):∀x∈l.take k,x<256:=fun x a=>h.small x (Hl a)
theorem dR(l:List Nat)(k:Nat)(h:k<l.length):l.take (k+1)=l.take k++[l.getD k 0]:=by
 rw[Ih h,GG,GS h];rfl
theorem iT:(Tryz.prog.info? 5).map (fun i=>(i.zero,i.size,i.bytes))=some (some (.int .u8 0),1,1):=by kernel_rfl
def ai(l:List Nat):List Value:=l.map fun x:Nat=>Value.int .u8 (x:Int)
theorem aE(l:List Nat):(ai l).length=l.length:=by simp[ai]
theorem kQ{w:World}{base g cap n:Nat}{l:List Nat}(h:w.ownsRow base 5 1 (.slice (some ⟨g,0,none⟩) n cap) n (ai l)):
 base<=g/\n<=cap/\cap<=maxLen/\l.length=n/\∀i,i<l.length->w.cell? ⟨g,i,none⟩=some (.int .u8 (l.getD i 0:Nat)):=by
 obtain⟨q,c⟩:=h;rcases c with⟨c,_⟩|⟨s,e,cur,d,k,j,p,o,r,m⟩
 ·simp at c
 ·simp only[Hc,GO,Im]at d;obtain⟨⟨rfl,-,-⟩,-,rfl⟩:=d;have b:l.length=n:=by simpa[ai]using q
  refine⟨k,p,o,b,fun i f=>?_⟩;rw[Iq _ g i cur 5 (0,0) j];have a:(cur.toList.take (n*1))[i]?=(ai l)[i]?:=by rw[m]
  rw[Ij,GU (by omega)]at a;rw[<-It,a];simp[ai,GS f]
theorem mE{w:World}{base:Nat}{v:Value}{l:List Nat}(h:w.ownsRow base 5 1 v l.length (ai l))(hs:∀x∈l,x<256)(hl:l.length<=140737488355328):aJ w v l:=by
 rcases h.2 with⟨a,h0⟩|⟨g,cap,cur,a,_⟩
 ·subst a;exact⟨⟨none,0,by rw[h0],by omega,fun _=>rfl,fun h=>absurd h (by omega)⟩,hs,hl⟩
 ·subst a;obtain⟨_,e,b,_,d⟩:=kQ h;refine⟨⟨some ⟨g,0,none⟩,cap,rfl,⟨e,by unfold maxLen at b;exact b⟩,fun h=>by simp at h,fun _=>⟨g,0,rfl,fun i c=>?_⟩⟩,hs,hl⟩;rw[H8];exact d i c
theorem eN(w:World)(l:List Nat)(cap:Nat)(a:l.length<=cap/\cap<=9223372036854775807)(t:TypeId)(fr:Nat×Nat)(hs:∀x∈l,x<256)(hl:l.length<=140737488355328):
 aJ (w.alloc (.cells (l.map fun x:Nat=>Value.int .u8 (x:Int)).toArray t fr)) (.slice (some ⟨w.heap.size,0,none⟩) l.length cap) l:=by
 refine⟨⟨_,cap,rfl,a,(fun h=>by simp at h),fun _=>⟨w.heap.size,0,rfl,fun i b=>?_⟩⟩,hs,hl⟩;rw[Iq _ w.heap.size (0+i) _ t fr (GM _ _)];simp[GS b]
theorem fq{w:World}{v:Value}{l:List Nat}(d:aJ w v l):
 (convert 57 9 v).run Tryz.prog w=.ok (.string (strOfNums (l.map fun x:Nat=>(x:Int)))) w:=by
 obtain⟨p,cap,rfl,_,f,hp⟩:=d.form;rcases IB l.length with h0|h0
 ·obtain rfl:l=[]:=Hk h0;cases p with
  |none=>exact run_convert_bytes_nil w 57 5 Tryz.underlying57 Tryz.underlying5 _ _ _ Tryz.underlying9
  |some ad=>
   have h:=run_convert_bytes_string (P:=Tryz.prog) w 57 9 5 (some ad) 0 cap Tryz.underlying57 Tryz.underlying5 Tryz.underlying9;have e:=run_bytesToString (P:=Tryz.prog) w ad 0 cap [] (by rfl);rw[e]at h;exact h
 ·obtain⟨b,off,rfl,c⟩:=hp h0;refine run_convert_bytes_arg w 57 5 Tryz.underlying57 Tryz.underlying5 b off l.length cap (l.map fun x:Nat=>(x:Int)) (by simp) (fun i a=>?_) _ Tryz.underlying9;rw[c i a];simp[GS a]
theorem de(w:World)(row:Option Nat):w.grownBy w row:=⟨rfl,rfl,rfl,GH _,fun _ _ _=>rfl⟩
theorem bg{a b c:World}{row:Option Nat}(h:a.grownBy b row)(k:b.grownBy c row):a.grownBy c row:=
 ⟨k.os.trans h.os,k.tape.trans h.tape,k.output.trans h.output,GR h.size k.size,fun i e d=>(k.block i (Hh e h.size) d).trans (h.block i e d)⟩
theorem bt{a b:World}(h:Below a.heap.size a b)(row:Option Nat):a.grownBy b row:=⟨h.os,h.tape,h.output,h.size,fun k c _=>h.block k c⟩
theorem aU(w:World)(B o:Nat)(u:Value):w.grownBy (w.setCell ⟨B,o,none⟩ u) (some B):=
 ⟨rfl,rfl,rfl,by simp[World.setCell],fun k _ a=>Below.heap_setCell _ _ _ _ (fun e=>a (by rw[e]))⟩
theorem eY(w:World)(row:Option Nat):w.grownBy w.drew row:=⟨rfl,rfl,rfl,GH _,fun _ _ _=>rfl⟩
theorem aZ{d B:Nat}{a b c:World}(h:Below d a b)(k:b.grownBy c (some B))(h0:d<=b.heap.size)(f:d<=B):Below d a c:=
 h.grown k h0 (fun i e=>by cases e;exact f)
theorem aJ.grown{w w':World}{v:Value}{l:List Nat}{row:Option Nat}(h:aJ w v l)(j:w.grownBy w' row)(c:0<l.length->v.ownBlock≠row):aJ w' v l:=by
 obtain⟨p,cap,d,e,f,hp⟩:=h.form;refine⟨⟨p,cap,d,e,f,fun h0=>?_⟩,h.small,h.len⟩;obtain⟨b,off,a,k⟩:=hp h0;refine⟨b,off,a,fun i g=>?_⟩;refine j.cell (k i g) ?_;have:=c h0;rw[d,a]at this;exact this
theorem aJ.drop{w:World}{b off cap:Nat}{l:List Nat}(h:aJ w (.slice (some ⟨b,off,none⟩) l.length cap) l)(n:Nat)(m:n<=l.length):aJ w (.slice (some ⟨b,off+n,none⟩) (l.length-n) (cap-n)) (l.drop n):=by
 obtain⟨j,e,d,k,hz,hp⟩:=h.form;simp only[Hc]at d;obtain⟨rfl,-,rfl⟩:=d;have hl:(l.drop n).length=l.length-n:=by simp
 refine⟨⟨_,_,by rw[hl],⟨by omega,by omega⟩,(fun h=>by simp at h),fun h0=>?_⟩,fun x f=>h.small x (Ht f),by have:=h.len;omega⟩;obtain⟨p,c,a,g⟩:=hp (by omega);simp only[GO,Im]at a;obtain⟨rfl,rfl,-⟩:=a;refine⟨b,off+n,rfl,fun i o=>?_⟩;rw[show off+n+i=off+(n+i)by omega,g (n+i) (by omega)];simp[GG]
def Row(w:World)(g n:Nat):Prop:=∃cur:Array Value,w.heap[g]?=some (.cells cur 5 (0,0))/\n<=cur.size/\∀i,i<n->∃b:Nat,b<256/\cur[i]?=some (.int .u8 (b:Int))
theorem Row.lt{w:World}{g n:Nat}(h:Row w g n):g<w.heap.size:=by
 obtain⟨cur,a,_⟩:=h;exact GN a
theorem mg{w:World}{base g cap n:Nat}{l:List Nat}(h:w.ownsRow base 5 1 (.slice (some ⟨g,0,none⟩) n cap) n (ai l))(hs:∀x∈l,x<256):Row w g n:=by
 obtain⟨k,b⟩:=h;rcases b with⟨b,_⟩|⟨s,d,cur,c,o,f,r,q,p,j⟩
 ·simp at b
 ·simp only[Hc,GO,Im]at c;obtain⟨⟨rfl,-,-⟩,-,rfl⟩:=c;have e:l.length=n:=by simpa[ai]using k
  refine⟨cur,f,by omega,fun i m=>?_⟩;have a:(cur.toList.take (n*1))[i]?=(ai l)[i]?:=by rw[j]
  rw[Ij,GU (by omega)]at a;refine⟨l[i]'(by omega),hs _ (Ie _),?_⟩;rw[<-It,a];simp[ai,GS (show i<l.length by omega)]
structure Own(base:Nat)(w:World)(v:Value)(l:List Nat):Prop where
 own:w.ownsRow base 5 1 v l.length (ai l)
 small:∀x∈l,x<256
 len:l.length<=140737488355328
theorem Own.aP{base:Nat}{w:World}{v:Value}{l:List Nat}(h:Own base w v l):aJ w v l:=mE h.own h.small h.len
theorem Own.form{base:Nat}{w:World}{v:Value}{l:List Nat}(h:Own base w v l):(v=.slice none 0 0/\l=[])\/∃g cap,v=.slice (some ⟨g,0,none⟩) l.length cap/\base<=g/\l.length<=cap/\cap<=maxLen/\Row w g l.length:=by
 rcases h.own.2 with⟨a,h0⟩|⟨g,cap,cur,a,b,e,d,c,i,f⟩
 ·exact GJ ⟨a,Hk h0⟩
 ·subst a;exact GL ⟨g,cap,rfl,b,d,c,mg h.own h.small⟩
theorem Own.grown{base:Nat}{w w':World}{v:Value}{l:List Nat}{row:Option Nat}(h:Own base w v l)(b:w.grownBy w' row)(a:v.ownBlock=none\/v.ownBlock≠row):Own base w' v l:=⟨h.own.kept b a,h.small,h.len⟩
theorem Own.below{base:Nat}{w w':World}{v:Value}{l:List Nat}(h:Own base w v l)(a:Below w.heap.size w w'):Own base w' v l:=
 h.grown (row:=none) (bt a none) (by cases b:v.ownBlock<;>simp)
theorem Own.from{base base':Nat}{w:World}{v:Value}{l:List Nat}(h:Own base w v l)(c:base'<=base):Own base' w v l:=by
 refine⟨⟨h.own.1,?_⟩,h.small,h.len⟩;rcases h.own.2 with d|⟨g,cap,cur,a,b,r⟩
 ·exact GJ d
 ·exact GL ⟨g,cap,cur,a,GR c b,r⟩
theorem cU(base:Nat)(w:World):Own base w (.slice none 0 0) []:=⟨⟨rfl,GJ ⟨rfl,rfl⟩⟩,by simp,by decide⟩
theorem aA{w:World}{ops:Array Oper}{rest:List Oper}{o:Oper}{a:Act}{Q:Exit->Act->World->Prop}(q:o.guard=none)(s x:Operand)
 (I:o.op=.call {callee:=.builtin .append,args:=#[s,x],argTypes:=#[57,57]})
 (base:Nat) (v:Value) (l1:List Nat) (hs:a.eval s=v) (d:Own base w v l1)
 (G:Value) (e:List Nat) (H:a.eval x=G) (L:aJ w G e) (hlen:l1.length+e.length<=140737488355328) (l:base<=w.heap.size)
 (h:∀t w',Own base w' t (l1++e)->Below base w w'->w.grownBy w' v.ownBlock->wpList Tryz.prog ops Q rest (a.put o.dst t) w'):wpList Tryz.prog ops Q (o::rest) a w:=by
 obtain⟨i0,K,B,A,z⟩:=info_parts iT;have C:∀x∈l1++e,x<256:=by
  intro y m;rcases List.mem_append.1 m with m|m
  ·exact d.small y m
  ·exact L.small y m
 have O:ai l1++ai e=ai (l1++e):=by simp[ai]
 obtain⟨p,cap,rfl,_,M,hp⟩:=L.form;cases p with
 |none=>
  obtain rfl:=M rfl;have D:e.length=0:=by
   rcases IB e.length with h0|h0
   ·exact h0
   ·obtain⟨b,off,he,_⟩:=hp h0;simp at he
  obtain rfl:e=[]:=Hk D;refine wpList_append_own_none q s x 57 I base 5 i0 1 Tryz.underlying57 K v l1.length (ai l1) hs d.own H ?_;refine h v w ?_ (GF _ _) (de _ _);simpa using d
 |some ad=>
  refine wpList_append_own w q s x 57 I base 5 i0 (.int .u8 0) 1 1 Tryz.underlying57 K B A z rfl (by decide) v l1.length (ai l1) hs d.own ad e.length cap (ai e) H (by simp[ai]) ?_ ?_ (by unfold maxLen;omega) (by omega) l ?_
  ·intro j u E;have n:j<e.length:=by
    rcases Hi j e.length with F|F
    ·exact F
    ·rw[He (by simpa[ai]using F)]at E;simp at E
   obtain⟨b,off,he,N⟩:=hp (by omega);obtain rfl:=GZ he;have r:(⟨b,off,none⟩:Addr).add j=⟨b,off+j,none⟩:=by unfold Addr.add;split<;>simp_all
   rw[r,N j n,<-E];simp[ai,GS n]
  ·intro u hu;simp only[ai,I2]at hu;obtain⟨y,_,rfl⟩:=hu;rfl
  ·intro t w' f i _;rw[O,<-GI]at f;refine h t w' ⟨f,C,by simp;omega⟩ ((GF _ _).grown i l ?_) i;intro k J;rcases d.own.2 with⟨rfl,_⟩|⟨g,c,cur,rfl,P,_⟩
   ·simp[Value.ownBlock]at J
   ·simp only[Value.ownBlock,GO]at J;omega
theorem kb(w:World)(base cap:Nat)(cs:Array Value)(a:base<=w.heap.size)(hm:cap<=maxLen)(hs:cs.size=cap*1):Own base (w.alloc (.cells cs 5)) (.slice (some ⟨w.heap.size,0,none⟩) 0 cap) []:=
 ⟨World.ownsRow_made w cs cap a hm hs,by simp,by decide⟩
theorem jt{w:World}{ops:Array Oper}{rest:List Oper}{o:Oper}{a:Act}{Q:Exit->Act->World->Prop}(j:o.guard=none)(x c:Operand)
 (i:o.op=Op.makeSlice 57 x c) (base:Nat) (m p:IntKind) (C:Int) (n:Nat) (hl:a.eval x=.int m 0) (t:a.eval c=.int p C) (hC:C=(n:Int)) (u:n<=140737488355328) (b:base<=w.heap.size)
 (h:∀l w',Own base w' l []->Below base w w'->wpList Tryz.prog ops Q rest (a.put o.dst l) w'):wpList Tryz.prog ops Q (o::rest) a w:=by
 obtain⟨i0,r,g,f,e⟩:=info_parts iT;refine wpList_make_own w j x c 57 i base 5 i0 (.int .u8 0) 1 Tryz.underlying57 r g f m p C n hl t hC (by rw[e];omega) (by unfold maxLen;omega) b ?_;intro w' d s;exact h _ w' ⟨d,by simp,by decide⟩ ((GF _ _).grown s b (fun k q=>by cases q))
theorem bU{w:World}{ops:Array Oper}{rest:List Oper}{o:Oper}{a:Act}{Q:Exit->Act->World->Prop}{z:Int}(i:o.guard=none)(s x:Operand)
 (m:o.op=.call {callee:=.builtin .append,args:=#[s,x],argTypes:=#[57,57]})
 (base:Nat) (v:Value) (l:List Nat) (hs:a.eval s=v) (d:Own base w v l)
 (k:a.eval x=.slice (some ⟨w.heap.size,0,none⟩) 1 1) (b:Nat) (hz:z=(b:Int)) (n:b<256) (hlen:l.length+1<=140737488355328) (c:base<=w.heap.size)
 (h:∀f w',Own base w' f (l++[b])->Below base w w'->wpList Tryz.prog ops Q rest (a.put o.dst f) w'):wpList Tryz.prog ops Q (o::rest) a (w.alloc (.cells #[.int .u8 z] 5)):=by
 subst hz;have e:Below base w (w.alloc (.cells #[.int .u8 (b:Int)] 5)):=(GF _ _).alloc c _;refine aA i s x m base v l hs (d.below ((GF _ _).alloc (GH _) _)) _ [b] k (eN w [b] 1 (by simp) 5 (0,0) (by simpa using n) (by simp)) (by simpa using hlen) (GR c e.size) ?_
 ·intro f w' g j _;exact h f w' g (e.trans j)
end Go.Proofs.YtbpodmallknhfaaGreat
namespace Go.Proofs.YtbpodmallknhfaaGreat
open Go.ChangeShapes Go.WideShapes Go.ChangeAt Go.RowKit
end Go.Proofs.YtbpodmallknhfaaGreat
namespace Go.Proofs.YtbpodmallknhfaaGreat
open Go.RowKit
theorem gU{base:Nat}{w:World}{v:Value}{l:List Nat}(h:Own base w v l)(h0:0<l.length):∃g cap,v=.slice (some ⟨g,0,none⟩) l.length cap/\base<=g/\g<w.heap.size/\l.length<=cap/\cap<=9223372036854775807/\Row w g l.length:=by
 rcases h.form with⟨_,d⟩|⟨g,cap,c,f,e,b,a⟩
 ·rw[d]at h0;simp at h0
 ·exact⟨g,cap,c,f,a.lt,e,by unfold maxLen at b;exact b,a⟩
theorem aJ.pr{w:World}{v:Value}{l:List Nat}(h:aJ w v l)(h0:0<l.length):∀b,v.ownBlock=some b->b<w.heap.size:=by
 intro b a;obtain⟨p,cap,c,_,_,hp⟩:=h.form;obtain⟨e,off,rfl,d⟩:=hp h0;rw[c]at a;simp only[Value.ownBlock,GO]at a;subst a;exact Ib (d 0 h0)
theorem eu{w:World}{o:Oper}{a:Act}{K:Act->World->Prop}{Q:Exit->Act->World->Prop}(s x:Operand)
 (L:o.op=.call {callee:=.builtin .append,args:=#[s,x],argTypes:=#[57,57]})
 (base:Nat) (v:Value) (l1:List Nat) (hs:a.eval s=v) (d:Own base w v l1)
 (I:Value) (e:List Nat) (J:a.eval x=I) (N:aJ w I e) (hlen:l1.length+e.length<=140737488355328) (l:base<=w.heap.size)
 (h:∀t w',Own base w' t (l1++e)->Below base w w'->w.grownBy w' v.ownBlock->K (a.put o.dst t) w'):o.wp Tryz.prog a w K Q:=by
 obtain⟨i0,M,C,B,A⟩:=info_parts iT;have E:∀x∈l1++e,x<256:=by
  intro y m;rcases List.mem_append.1 m with m|m
  ·exact d.small y m
  ·exact N.small y m
 have S:ai l1++ai e=ai (l1++e):=by simp[ai]
 obtain⟨p,cap,rfl,_,O,hp⟩:=N.form;cases p with
 |none=>
  obtain rfl:=O rfl;have F:e.length=0:=by
   rcases IB e.length with h0|h0
   ·exact h0
   ·obtain⟨b,off,he,_⟩:=hp h0;simp at he
  obtain rfl:e=[]:=Hk F;have n:=run_append_owned_none (P:=Tryz.prog) (w:=w) base 57 o.type 5 i0 1 Tryz.underlying57 M v l1.length (ai l1) d.own;have D:a.eval x=.slice none 0 0:=J;have z:=h v w (by simpa using d) (GF _ _) (de _ _);unfold Oper.wp;simp[execOp,L,resolve,invoke,builtin,hs,D,n,Result.andThen];exact z
 |some ad=>
  refine wp_append_own w s x 57 L base 5 i0 (.int .u8 0) 1 1 Tryz.underlying57 M C B A rfl (by decide) v l1.length (ai l1) hs d.own ad e.length cap (ai e) J (by simp[ai]) ?_ ?_ (by unfold maxLen;omega) (by omega) l ?_
  ·intro j u G;have q:j<e.length:=by
    rcases Hi j e.length with H|H
    ·exact H
    ·rw[He (by simpa[ai]using H)]at G;simp at G
   obtain⟨b,off,he,R⟩:=hp (by omega);obtain rfl:=GZ he;have r:(⟨b,off,none⟩:Addr).add j=⟨b,off+j,none⟩:=by unfold Addr.add;split<;>simp_all
   rw[r,R j q,<-G];simp[ai,GS q]
  ·intro u hu;simp only[ai,I2]at hu;obtain⟨y,_,rfl⟩:=hu;rfl
  ·intro t w' f i _;rw[S,<-GI]at f;refine h t w' ⟨f,E,by simp;omega⟩ ((GF _ _).grown i l ?_) i;intro k z;rcases d.own.2 with⟨rfl,_⟩|⟨g,c,cur,rfl,T,_⟩
   ·simp[Value.ownBlock]at z
   ·simp only[Value.ownBlock,GO]at z;omega
end Go.Proofs.YtbpodmallknhfaaGreat
namespace Go.Proofs.YtbpodmallknhfaaGreat.Ord
variable{P:Program}
def fill:List Oper->(Nat->Value)->Nat->Act->Act
 | [],_,_,a=>a
 |o::r,xs,k,a=>fill r xs (k+1) (a.put o.dst (xs k))
theorem put_comm(a:Act){d b:Option Tmp}{u v:Value}(h:∀x,d=some x->b≠some x):(a.put d u).put b v=(a.put b v).put d u:=by
 cases d with
 |none=>rfl
 |some x=>
  cases b with
  |none=>rfl
  |some y=>
   have c:x≠y:=fun e=>h x rfl (by rw[e]);show Act.mk _ _=Act.mk _ _;simp only[Act.put];rw[Array.setIfInBounds_comm _ _ c]
theorem B5(a:Act)(d:Option Tmp)(u v:Value):(a.put d u).put d v=a.put d v:=by
 cases d with
 |none=>rfl
 |some x=>simp[Act.put]
theorem tA{d:Option Tmp}{v:Value}:∀(l:List Oper)(xs:Nat->Value)(k:Nat)(a:Act),(∀o∈l,∀x,o.dst=some x->d≠some x)->(fill l xs k a).put d v=fill l xs k (a.put d v)
 | [],_,_,_,_=>rfl
 |o::r,xs,k,a,h=>by
  rw[fill,fill,tA r xs (k+1) _ (fun c b=>h c (Hx _ b)),put_comm a (h o (Hr ..))]
theorem oW:∀(l:List Oper)(xs b:Nat->Value)(k:Nat)(a:Act),(∀j,k<=j->xs j=b j)->fill l xs k a=fill l b k a
 | [],_,_,_,_,_=>rfl
 |o::r,xs,b,k,a,h=>by
  rw[fill,fill,h k (GH _),oW r xs b (k+1) _ (fun j c=>h j (by omega))]
def apart:List Oper->Bool
 | []=>true
 |o::r=>(match o.dst with|none=>true|some x=>r.all fun a=>a.dst !=some x)&&apart r
def set(xs:Nat->Value)(i:Nat)(v:Value):Nat->Value:=fun j=>if j=i then v else xs j
theorem oV:∀(l:List Oper)(xs:Nat->Value)(k i:Nat)(a:Act)(o:Oper)(v:Value),apart l=true->l[i]?=some o->(fill l xs k a).put o.dst v=fill l (set xs (k+i) v) k a
 | [],_,_,_,_,_,_,_,h=>by simp at h
 |f::r,xs,k,i,a,o,v,hap,h=>by
  simp only[apart,Hs]at hap;cases i with
  |zero=>
   obtain rfl:f=o:=by simpa using h
   rw[fill,tA r xs (k+1) _ ?_,B5,fill,oW r xs (set xs (k+0) v) (k+1) _ (fun j s=>by unfold set;rw[GQ (by omega)])]
   ·congr 1
    unfold set;rw[GU (by omega)]
   ·intro e b x g m;have d:=hap.1;rw[m]at d;have c:=List.all_eq_true.1 d e b;rw[g]at c;simp at c
  |succ i=>
   have n:r[i]?=some o:=by simpa using h
   rw[fill,oV r xs (k+1) i _ o v hap.2 n,fill];have q:set xs (k+(i+1)) v=set xs (k+1+i) v:=by rw[show k+(i+1)=k+1+i by omega]
   have p:set xs (k+(i+1)) v k=xs k:=by unfold set;rw[GQ (by omega)]
   rw[p,q]
theorem Ae(a:Act)(d:Tmp):a.put (some d) (a.tmps.getD d undef)=a:=by
 obtain⟨t,c⟩:=a;show Act.mk _ _=Act.mk _ _;congr 1
 apply Array.ext_getElem?;intro i;show(t.setIfInBounds d (t.getD d undef))[i]?=t[i]?;by_cases h:d=i
 ·subst h;rcases Hi d t.size with b|b
  ·rw[Array.getElem?_setIfInBounds_self_of_lt b];simp[b]
  ·rw[Array.setIfInBounds,dif_neg (by omega)]
 ·rw[I6 h]
def first(a:Act)(o:Option Oper):Value:=match o.bind (·.dst)with|some d=>a.tmps.getD d undef|none=>undef
theorem kX:∀(l:List Oper)(xs:Nat->Value)(k:Nat)(a:Act),(∀j,xs (k+j)=first a l[j]?)->fill l xs k a=a
 | [],_,_,_,_=>rfl
 |o::r,xs,k,a,h=>by
  have h0:a.put o.dst (xs k)=a:=by
   have:=h 0;rw[Ia]at this;rw[this];cases hd:o.dst with
   |none=>rfl
   |some d=>simp only[first,I9,Option.bind_some,hd];exact Ae a d
  rw[fill,h0];refine kX r xs (k+1) a fun j=>?_;have:=h (j+1);rw[show k+1+j=k+(j+1)by omega,this];simp[first]
def back:List Oper->Nat->Bool
 | [],_=>true
 |o::r,k=>(o.after.toList.all fun e=> !Region.binds .any e||decide (e.on<k))&&back r (k+1)
theorem mG:∀(l:List Oper)(k i:Nat)(o:Oper),back l k=true->l[i]?=some o->∀e∈o.after,Region.binds .any e=true->e.on<k+i
 | [],_,_,_,_,h=>by simp at h
 |b::r,k,i,o,hb,h=>by
  simp only[back,Hs]at hb;cases i with
  |zero=>
   obtain rfl:b=o:=by simpa using h
   intro e he a;have:=List.all_eq_true.1 hb.1 e (by simpa using he);rw[a]at this;simpa using this
  |succ i=>
   intro e he a;have:=mG r (k+1) i o hb.2 (by simpa using h) e he a;omega
def ahead(F:Nat->Value->World->Prop)(xs:Nat->Value)(w:World):List Edge->Prop
 | []=>True
 |e::es=>F e.on (xs e.on) w/\ahead F xs w es
theorem pA{F:Nat->Value->World->Prop}{xs:Nat->Value}{w:World}:∀(es:List Edge),(∀e∈es,F e.on (xs e.on) w)->ahead F xs w es
 | [],_=>trivial
 |e::es,h=>⟨h e (Hr ..),pA es fun b a=>h b (Hx _ a)⟩
def one(P:Program)(ops:Array Oper)(Q:Exit->Act->World->Prop)(o:Oper)(K:Act->World->Prop)(a:Act)(w:World):Prop:=
 if Region.wanted o (yielded ops a.tmps)then o.wp P a w K Q\/(o.asks P a w/\LetsOut Q)else K (a.put o.dst undef) w
def bB(D:Nat->Bool)(k:Nat):Nat->Bool:=fun j=>if j=k then true else D j
def closed(l:List Oper)(D:Nat->Bool):Prop:=∀j o,l[j]?=some o->D j=true->∀e∈o.after,Region.binds .any e=true->D e.on=true
def waits(l:List Oper)(j i:Nat):Bool:=match l[j]? with|some o=>o.after.toList.any fun e=>e.on==i&&Region.binds .any e|none=>false
theorem af{l:List Oper}{D:Nat->Bool}(h:closed l D)(j i:Nat)(hw:waits l j i=true)(b:D j=true):D i=true:=by
 unfold waits at hw;split at hw
 ·next o ho=>
  obtain⟨e,he,a⟩:=List.any_eq_true.1 hw;simp only[Hs,beq_iff_eq]at a;rw[<-a.1];exact h j o ho b e (by simpa using he) a.2
 ·cases hw
def each(P:Program)(ops:Array Oper)(Q:Exit->Act->World->Prop)(a:List Oper)(a0:Act)(F:Nat->Value->World->Prop)(R:(Nat->Bool)->(Nat->Value)->World->Prop)(T:World->World->Prop):Nat->List Oper->Prop
 |_,[]=>True
 |k,o::r=>(∀D xs w,D k=false->closed a D->(∀e∈o.after,Region.binds .any e=true->D e.on=true)->R D xs w->ahead F xs w (o.after.toList.filter fun e=>Region.binds .any e)->one P ops Q o (fun b w'=>∃v,b=(fill a xs 0 a0).put o.dst v/\T w w'/\R (bB D k) (set xs k v) w'/\F k v w') (fill a xs 0 a0) w)/\each P ops Q a a0 F R T (k+1) r
theorem iX{ops:Array Oper}{Q:Exit->Act->World->Prop}{a:List Oper}{a0:Act}{F:Nat->Value->World->Prop}{R:(Nat->Bool)->(Nat->Value)->World->Prop}{T:World->World->Prop}:
 ∀(l:List Oper)(k i:Nat)(o:Oper),each P ops Q a a0 F R T k l->l[i]?=some o->∀D xs w,D (k+i)=false->closed a D->(∀e∈o.after,Region.binds .any e=true->D e.on=true)->R D xs w->ahead F xs w (o.after.toList.filter fun e=>Region.binds .any e)->
  one P ops Q o (fun c w'=>∃v,c=(fill a xs 0 a0).put o.dst v/\T w w'/\R (bB D (k+i)) (set xs (k+i) v) w'/\F (k+i) v w') (fill a xs 0 a0) w
 | [],_,_,_,_,h=>by simp at h
 |b::r,k,i,o,he,h=>by
  cases i with
  |zero=>
   obtain rfl:b=o:=by simpa using h
   exact he.1
  |succ i=>
   have:=iX r (k+1) i o he.2 (by simpa using h);rwa[show k+1+i=k+(i+1)by omega]at this
theorem fS{l:List Oper}{Q:Exit->Act->World->Prop}{a0:Act}{F:Nat->Value->World->Prop}{R:(Nat->Bool)->(Nat->Value)->World->Prop}{T:World->World->Prop}(Z:back l 0=true)(B:apart l=true)
 (hT:∀k v w w',T w w'->F k v w->F k v w') (he:each P l.toArray Q l a0 F R T 0 l)
 (hend:∀D xs w,R D xs w->(∀k,k<l.length->D k=true/\F k (xs k) w)->Q .normal (fill l xs 0 a0) w):
 ∀(fuel:Nat)(a:Array Bool)(xs:Nat->Value)(w:World),a.size=l.length->a.toList.count false=fuel->closed l (fun k=>a.getD k false)->R (fun k=>a.getD k false) xs w->(∀k,a.getD k false=true->F k (xs k) w)->
  wpAny P .any l.toArray Q fuel a (fill l xs 0 a0) w
 |0,a,xs,w,hsz,hc,hC,hR,hF=>by
  have b:∀k,k<l.length->a.getD k false=true:=by
   intro k u;cases h:a.getD k false with
   |true=>rfl
   |false=>
    have hlt:k<a.size:=by omega
    have:a[k]=false:=by simpa[hlt]using h
    have hm:false∈a.toList:=by rw[<-this];simp
    exact absurd hc (by have:=List.count_pos_iff.2 hm;omega)
  refine⟨?_,hend _ xs w hR fun k u=>⟨b k u,hF k (b k u)⟩⟩;refine List.eq_nil_iff_forall_not_mem.2 fun i L=>?_;obtain⟨d,o,t,-⟩:=mem_ready.1 L;have z:i<l.length:=by simpa using(Array.getElem?_eq_some_iff.1 t).1
  have:=b i z;have V:a.getD i true=true:=by
   have hlt:i<a.size:=by omega
   simpa[hlt]using this
  rw[V]at d;cases d
 |fuel+1,a,xs,w,hsz,hc,hC,hR,hF=>by
  refine⟨fun h0=>?_,fun i L=>?_⟩
  ·exfalso;have hm:false∈a.toList:=List.count_pos_iff.1 (by omega);obtain⟨j,C,J⟩:=List.getElem_of_mem hm;have hex:∃n,n<l.length/\a.getD n true=false/\∀m,m<n->a.getD m false=true:=by
    have hP:∀n,(n<l.length/\a.getD n true=false)->∃n,n<l.length/\a.getD n true=false/\∀m,m<n->a.getD m false=true:=by
     intro n;induction n using Nat.strongRecOn with
     |_ n ih=>
      intro⟨g,r⟩;by_cases b:∀m,m<n->a.getD m false=true
      ·exact⟨n,g,r,b⟩
      ·simp only[Classical.not_forall]at b;obtain⟨m,I,H⟩:=b;have hlt:m<a.size:=by omega
       refine ih m I ⟨by omega,?_⟩;simpa[hlt]using H
    refine hP j ⟨by simpa[hsz]using C,?_⟩;have hlt:j<a.size:=by simpa using C
    simpa[hlt]using J
   obtain⟨n,g,r,G⟩:=hex;have t:l.toArray[n]?=some l[n]:=by simp[g]
   have X:n∈Region.ready .any l.toArray a:=mem_ready.2 ⟨r,_,t,fun e s N=>G _ (by have:=mG l 0 n _ Z (by simp[g]) e s N;omega)⟩;rw[h0]at X;cases X
  ·obtain⟨d,o,t,b⟩:=mem_ready.1 L;have f:l[i]?=some o:=by simpa using t
   have z:i<l.length:=by
    rcases Hi i l.length with h|h
    ·exact h
    ·rw[He h]at f;cases f
   have p:a.getD i false=false:=by
    have hlt:i<a.size:=by omega
    simpa[hlt]using d
   have x:=iX l 0 i o he f (fun k=>a.getD k false) xs w (by rw[H8];exact p) hC b hR (pA _ fun e s=>by obtain⟨h1,V⟩:=List.mem_filter.1 s;exact hF _ (b e (by simpa using h1) V));have E:wpOp P l.toArray Q i (fun a' w'=>∃v,a'=(fill l xs 0 a0).put o.dst v/\T w w'/\R (bB (fun k=>a.getD k false) (0+i)) (set xs (0+i) v) w'/\F (0+i) v w') (fill l xs 0 a0) w:=by
    unfold wpOp;simp only[t];exact x
   refine wpOp_mono (fun a' w' h=>?_) E;obtain⟨v,rfl,O,S,U⟩:=h;rw[oV l xs 0 i a0 o v B f];refine fS Z B hT he hend fuel (a.setIfInBounds i true) (set xs (0+i) v) w' (by simpa using hsz) ?_ ?_ ?_ fun k u=>?_
   ·have hlt:i<a.size:=by omega
    have p:a[i]=false:=by simpa[hlt]using d
    have M:(a.toList.set i true).count false+1=a.toList.count false:=by
     have hm:false∈a.toList:=by rw[<-p];simp
     have:=List.count_pos_iff.2 hm;rw[List.count_set (by simpa using hlt),GU (by simp[p]),GQ (by decide)];omega
    have Y:(a.setIfInBounds i true).toList.count false+1=a.toList.count false:=by
     rw[Array.toList_setIfInBounds];exact M
    rw[hc]at Y;exact Nat.succ.inj Y
   ·intro j W y C e he q;by_cases A:i=j
    ·subst A;obtain rfl:o=W:=GZ (f.symm.trans y);exact getD_set_true (b e he q)
    ·have K:a.getD j false=true:=by rw[<-getD_set_ne (i:=i) (j:=j) false A];exact C
     exact getD_set_true (hC j W y K e he q)
   ·have hD:(fun k=>(a.setIfInBounds i true).getD k false)=bB (fun k=>a.getD k false) (0+i):=by
     funext k
     unfold bB;have hlt:i<a.size:=by omega
     by_cases c:k=0+i
     ·rw[GU c,c,H8];simp[hlt]
     ·rw[GQ c,getD_set_ne (i:=i) (j:=k) false (by omega)]
    rw[hD];exact S
   ·unfold set;by_cases c:k=0+i
    ·rw[GU c,c];exact U
    ·rw[GQ c];exact hT k _ w w' O (hF k (by rw[getD_set_ne (i:=i) (j:=k) false (by omega)]at u;exact u))
theorem regionF{id:Nat}{l:List Oper}{Q:Exit->Act->World->Prop}{a:Act}{w:World}(F:Nat->Value->World->Prop)(R:(Nat->Bool)->(Nat->Value)->World->Prop)(T:World->World->Prop)
 (hm:P.follows .mixedOrders=true) (d:(back l 0&&apart l)=true) (hT:∀k v w w',T w w'->F k v w->F k v w') (hR:R (fun _=>false) (fun k=>first a l[k]?) {w with drawn:=w.drawn+1})
 (he:each P l.toArray Q l a F R T 0 l) (hend:∀D xs w,R D xs w->(∀k,k<l.length->D k=true/\F k (xs k) w)->Q .normal (fill l xs 0 a) w):(Code.region id l.toArray true).wp P Q a w:=by
 rw[Hs]at d;refine wp_region_any hm ?_;have hf:=kX l (fun k=>first a l[k]?) 0 a (fun j=>by rw[H8]);have:=fS d.1 d.2 hT he hend l.toArray.size (Array.replicate l.toArray.size false) (fun k=>first a l[k]?) {w with drawn:=w.drawn+1} (by simp) (by simp) (fun j o _ c=>by simp[IE]at c;split at c<;>simp at c) (by
  have e:(fun k=>(Array.replicate l.toArray.size false).getD k false)=fun _=>false:=by
   funext k
   simp only[Array.getD_eq_getD_getElem?,IE];split<;>rfl
  rw[e];exact hR) (fun k b=>by simp[IE]at b;split at b<;>simp at b)
 rwa[hf]at this
theorem region{id:Nat}{l:List Oper}{Q:Exit->Act->World->Prop}{a:Act}{w:World}(F:Nat->Value->World->Prop)(R:(Nat->Bool)->(Nat->Value)->World->Prop)(T:World->World->Prop)
 (hm:P.follows .mixedOrders=true) (b:(back l 0&&apart l)=true) (hT:∀k v w w',T w w'->F k v w->F k v w') (hR:∀xs,R (fun _=>false) xs {w with drawn:=w.drawn+1})
 (he:each P l.toArray Q l a F R T 0 l) (hend:∀D xs w,R D xs w->(∀k,k<l.length->D k=true/\F k (xs k) w)->Q .normal (fill l xs 0 a) w):(Code.region id l.toArray true).wp P Q a w:=
 regionF F R T hm b hT (hR _) he hend
def ib(P:Program)(ops:Array Oper)(Q:Exit->Act->World->Prop)(a:List Oper)(fr:(Nat->Value)->Act)(F:Nat->Value->World->Prop)(R:(Nat->Bool)->(Nat->Value)->World->Prop)(T:World->World->Prop):Nat->List Oper->Prop
 |_,[]=>True
 |k,o::r=>(∀D xs w,D k=false->closed a D->(∀e∈o.after,Region.binds .any e=true->D e.on=true)->R D xs w->ahead F xs w (o.after.toList.filter fun e=>Region.binds .any e)->∀K:Act->World->Prop,(∀b w',(∃v,b=(fr xs).put o.dst v/\T w w'/\R (bB D k) (set xs k v) w'/\F k v w')->K b w')->
  if Region.wanted o (yielded ops (fr xs).tmps)then o.wp P (fr xs) w K Q else K ((fr xs).put o.dst undef) w)/\ib P ops Q a fr F R T (k+1) r
theorem jn{ops:Array Oper}{Q:Exit->Act->World->Prop}{b:List Oper}{a0:Act}{fr:(Nat->Value)->Act}{F:Nat->Value->World->Prop}{R:(Nat->Bool)->(Nat->Value)->World->Prop}{T:World->World->Prop}(hfr:∀xs,fill b xs 0 a0=fr xs):
 ∀(k:Nat)(l:List Oper),ib P ops Q b fr F R T k l->each P ops Q b a0 F R T k l
 |_,[],_=>trivial
 |k,o::r,h=>⟨fun D xs w d hC c hR e=>by
  rw[hfr xs];have a:=h.1 D xs w d hC c hR e _ fun _ _ h=>h;unfold one;split
  ·next hw=>rw[GU hw]at a;exact GJ a
  ·next hw=>rw[GQ hw]at a;exact a,jn hfr (k+1) r h.2⟩
theorem ay{ops:Array Oper}{Q:Exit->Act->World->Prop}{a:List Oper}{fr:(Nat->Value)->Act}{F:Nat->Value->World->Prop}{R:(Nat->Bool)->(Nat->Value)->World->Prop}{T:World->World->Prop}{k:Nat}:ib P ops Q a fr F R T k []:=trivial
theorem aa{ops:Array Oper}{Q:Exit->Act->World->Prop}{a:List Oper}{fr:(Nat->Value)->Act}{F:Nat->Value->World->Prop}{R:(Nat->Bool)->(Nat->Value)->World->Prop}{T:World->World->Prop}{k:Nat}{o:Oper}{r:List Oper}
 (h:∀D xs w,D k=false->closed a D->(∀e∈o.after,Region.binds .any e=true->D e.on=true)->R D xs w->ahead F xs w (o.after.toList.filter fun e=>Region.binds .any e)->∀K:Act->World->Prop,(∀b w',(∃v,b=(fr xs).put o.dst v/\T w w'/\R (bB D k) (set xs k v) w'/\F k v w')->K b w')->
  if Region.wanted o (yielded ops (fr xs).tmps)then o.wp P (fr xs) w K Q else K ((fr xs).put o.dst undef) w)
 (c:ib P ops Q a fr F R T (k+1) r):ib P ops Q a fr F R T k (o::r):=⟨h,c⟩
theorem walk{id:Nat}{l:List Oper}{Q:Exit->Act->World->Prop}{a:Act}{w:World}(F:Nat->Value->World->Prop)(R:(Nat->Bool)->(Nat->Value)->World->Prop)(T:World->World->Prop)
 (hm:P.follows .mixedOrders=true) (b:(back l 0&&apart l)=true) (fr:(Nat->Value)->Act) (hfr:∀xs,fill l xs 0 a=fr xs) (hT:∀k v w w',T w w'->F k v w->F k v w') (hR:∀xs,R (fun _=>false) xs w.drew)
 (he:ib P l.toArray Q l fr F R T 0 l) (hend:∀D xs w,R D xs w->(∀k,k<l.length->D k=true/\F k (xs k) w)->Q .normal (fr xs) w):(Code.region id l.toArray true).wp P Q a w:=
 region F R T hm b hT hR (jn hfr 0 l he) fun D xs w d c=>by rw[hfr xs];exact hend D xs w d c
theorem CN{id:Nat}{l:List Oper}{Q:Exit->Act->World->Prop}{a:Act}{w:World}(F:Nat->Value->World->Prop)(R:(Nat->Bool)->(Nat->Value)->World->Prop)(T:World->World->Prop)
 (hm:P.follows .mixedOrders=true) (b:(back l 0&&apart l)=true) (fr:(Nat->Value)->Act) (hfr:∀xs,fill l xs 0 a=fr xs) (hT:∀k v w w',T w w'->F k v w->F k v w') (hR:∀xs,(∀k,xs k=first a l[k]?)->R (fun _=>false) xs w.drew)
 (he:ib P l.toArray Q l fr F R T 0 l) (hend:∀D xs w,R D xs w->(∀k,k<l.length->D k=true/\F k (xs k) w)->Q .normal (fr xs) w):(Code.region id l.toArray true).wp P Q a w:=
 regionF F R T hm b hT (hR _ fun _=>rfl) (jn hfr 0 l he) fun D xs w d c=>by rw[hfr xs];exact hend D xs w d c
theorem ab{F:Nat->Value->World->Prop}{xs:Nat->Value}{w:World}:∀(es:List Edge),ahead F xs w es->∀j,(es.any fun e=>e.on==j)=true->F j (xs j) w
 | [],_,_,h=>by simp at h
 |e::es,ha,j,h=>by
  simp only[List.any_cons,Bool.or_eq_true,beq_iff_eq]at h;rcases h with h|h
  ·subst h;exact ha.1
  ·exact ab es ha.2 j h
end Go.Proofs.YtbpodmallknhfaaGreat.Ord
namespace Go.Proofs.YtbpodmallknhfaaGreat
open Go.RowKit
structure Touch(S:Nat->Prop)(a b:World):Prop where
 os:b.os=a.os
 tape:b.tape=a.tape
 output:b.output=a.output
 size:a.heap.size<=b.heap.size
 block:∀i,i<a.heap.size->¬S i->b.heap[i]?=a.heap[i]?
theorem Touch.refl(S:Nat->Prop)(a:World):Touch S a a:=⟨rfl,rfl,rfl,GH _,fun _ _ _=>rfl⟩
theorem Touch.trans{S:Nat->Prop}{a b c:World}(h:Touch S a b)(k:Touch S b c):Touch S a c:=
 ⟨k.os.trans h.os,k.tape.trans h.tape,k.output.trans h.output,GR h.size k.size,fun i d hs=>(k.block i (Hh d h.size) hs).trans (h.block i d hs)⟩
theorem Touch.mono{S T:Nat->Prop}{a b:World}(h:Touch S a b)(hs:∀i,i<a.heap.size->S i->T i):Touch T a b:=
 ⟨h.os,h.tape,h.output,h.size,fun i c d=>h.block i c fun e=>d (hs i c e)⟩
theorem Touch.ez{S:Nat->Prop}{base:Nat}{a b:World}(h:Below base a b)(hs:∀i,i<a.heap.size->base<=i->S i):Touch S a b:=
 ⟨h.os,h.tape,h.output,h.size,fun i e d=>h.block i (by
  rcases Hi i base with c|c
  ·exact c
  ·exact absurd (hs i e c) d)⟩
theorem Touch.ax{S:Nat->Prop}{a b:World}(h:Below a.heap.size a b):Touch S a b:=.ez h fun i d c=>absurd c (by omega)
theorem Touch.gW{S:Nat->Prop}{g:Nat}{a b:World}(h:a.grownBy b (some g))(hs:S g):Touch S a b:=
 ⟨h.os,h.tape,h.output,h.size,fun i d c=>h.block i d fun e=>c (by rw[GZ e];exact hs)⟩
theorem Touch.set{S:Nat->Prop}{a:World}(g o:Nat)(u:Value)(hs:S g):Touch S a (a.setCell ⟨g,o,none⟩ u):=.gW (aU a g o u) hs
theorem Touch.drew{S:Nat->Prop}{a b:World}(h:Touch S a b):Touch S a b.drew:=⟨h.os,h.tape,h.output,h.size,h.block⟩
theorem Touch.drewN{S:Nat->Prop}{a b:World}(h:Touch S a b)(n:Nat):Touch S a (b.drewN n):=⟨h.os,h.tape,h.output,h.size,h.block⟩
theorem Touch.below{S:Nat->Prop}{base:Nat}{a b:World}(h:Touch S a b)(hs:∀i,S i->base<=i)(e:base<=a.heap.size):Below base a b:=
 ⟨h.os,h.tape,h.output,h.size,fun i d=>h.block i (by omega) fun c=>by have:=hs i c;omega⟩
theorem Touch.row{S:Nat->Prop}{a b:World}{g:Nat}{o:Obj}(h:Touch S a b)(c:a.heap[g]?=some o)(hs:¬S g):b.heap[g]?=some o:=by
 rw[h.block g (GN c) hs];exact c
theorem Touch.cell{S:Nat->Prop}{a b:World}{p:Addr}{v:Value}(h:Touch S a b)(c:a.cell? p=some v)(hs:¬S p.block):b.cell? p=some v:=by
 rw[World.cell?_of_block (w:=a) (a:=p) (h.block p.block (Ib c) hs)];exact c
theorem Touch.aP{S:Nat->Prop}{a b:World}{v:Value}{l:List Nat}(h:Touch S a b)(d:aJ a v l)(hs:0<l.length->∀g,v.ownBlock=some g->¬S g):aJ b v l:=by
 obtain⟨p,cap,e,f,j,hp⟩:=d.form;refine⟨⟨p,cap,e,f,j,fun h0=>?_⟩,d.small,d.len⟩;obtain⟨g,off,c,m⟩:=hp h0;exact⟨g,off,c,fun i k=>h.cell (m i k) (hs h0 g (by rw[e,c];rfl))⟩
theorem Own.stored{base g cap n:Nat}{w:World}{l:List Nat}(h:Own base w (.slice (some ⟨g,0,none⟩) n cap) l)(b:l.length=n)(j:Nat)(z:Nat)(hz:z<256):
 Own base (w.setCell ⟨g,j,none⟩ (.int .u8 (z:Int))) (.slice (some ⟨g,0,none⟩) n cap) (l.set j z)/\w.grownBy (w.setCell ⟨g,j,none⟩ (.int .u8 (z:Int))) (some g):=by
 subst b;obtain⟨d,c⟩:=h.own.stored j (.int .u8 (z:Int));refine⟨⟨?_,?_,by simpa using h.len⟩,c⟩
 ·have e:ai (l.set j z)=(ai l).set j (.int .u8 (z:Int)):=by simp[ai,List.map_set]
  rw[e,G4];exact d
 ·intro x a;rcases Jf a with a|rfl
  ·exact h.small x a
  ·exact hz
theorem Own.cellAt{base g cap n:Nat}{w:World}{l:List Nat}(h:Own base w (.slice (some ⟨g,0,none⟩) n cap) l)(a:l.length=n)(j:Nat)(b:j<n):w.cell? ⟨g,j,none⟩=some (.int .u8 (l.getD j 0:Nat))/\w.frozen? ⟨g,j,none⟩=false:=by
 subst a;refine⟨?_,h.own.frozenAt j⟩;rw[h.own.cellAt j (by omega)];simp[ai,GS b]
end Go.Proofs.YtbpodmallknhfaaGreat
namespace Go.Proofs.YtbpodmallknhfaaGreat.Ints
open Go.RowKit
def rS(x:Int):Prop:=(Lit.int .i64 x).wf=true
structure aJ(w:World)(v:Value)(l:List Int):Prop where
 form:∃p cap,v=.slice p l.length cap/\(l.length<=cap/\cap<=9223372036854775807)/\(p=none->cap=0)/\(0<l.length->∃b off,p=some ⟨b,off,none⟩/\∀i,i<l.length->w.cell? ⟨b,off+i,none⟩=some (.int .i64 (l.getD i 0)))
 small:∀x∈l,rS x
 len:l.length<=17592186044416
theorem vn:rS 0:=by unfold rS;rfl
theorem aJ.getD{w:World}{v:Value}{l:List Int}(h:aJ w v l)(i:Nat):rS (l.getD i 0):=by
 rcases Hi i l.length with a|a
 ·refine h.small (l.getD i 0) ?_;rw[GG,GS a];simp
 ·rw[GG,He a];exact vn
theorem aJ.below{w w':World}{v:Value}{l:List Int}(h:aJ w v l)(k:Below w.heap.size w w'):aJ w' v l:=by
 obtain⟨p,cap,d,e,f,hp⟩:=h.form;refine⟨⟨p,cap,d,e,f,fun h0=>?_⟩,h.small,h.len⟩;obtain⟨b,off,c,j⟩:=hp h0;refine⟨b,off,c,fun i g=>?_⟩;have a:=j i g;rw[k.cell (p:=⟨b,off+i,none⟩) (Ib a)];exact a
theorem aJ.take{w:World}{p:Option Addr}{cap:Nat}{l:List Int}(h:aJ w (.slice p l.length cap) l)(n:Nat)(k:n<=l.length):aJ w (.slice p n cap) (l.take n):=by
 obtain⟨j,d,c,f,hz,hp⟩:=h.form;simp only[Hc]at c;obtain⟨rfl,-,rfl⟩:=c;have hl:(l.take n).length=n:=by simp;omega
 refine⟨⟨p,cap,by rw[hl],⟨by omega,f.2⟩,hz,fun h0=>?_⟩,fun x e=>h.small x (Hl e),by have:=h.len;omega⟩;obtain⟨b,off,a,g⟩:=hp (by omega);refine⟨b,off,a,fun i m=>?_⟩;rw[g i (by omega)];have:(l.take n).getD i 0=l.getD i 0:=by
  simp only[GG];rw[Ij,GU (by omega)]
 rw[this]
theorem aJ.tg{w:World}{v:Value}{l:List Int}(h:aJ w v l)(k:Nat):∀x∈l.take k,rS x:=fun x a=>h.small x (Hl a)
theorem dR(l:List Int)(k:Nat)(h:k<l.length):l.take (k+1)=l.take k++[l.getD k 0]:=by
 rw[Ih h,GG,GS h];rfl
theorem iT:(Tryz.prog.info? 3).map (fun i=>(i.zero,i.size,i.bytes))=some (some (.int .i64 0),1,8):=by kernel_rfl
def ai(l:List Int):List Value:=l.map fun x:Int=>Value.int .i64 x
theorem aE(l:List Int):(ai l).length=l.length:=by simp[ai]
theorem kQ{w:World}{base g cap n:Nat}{l:List Int}(h:w.ownsRow base 3 1 (.slice (some ⟨g,0,none⟩) n cap) n (ai l)):
 base<=g/\n<=cap/\cap<=maxLen/\l.length=n/\∀i,i<l.length->w.cell? ⟨g,i,none⟩=some (.int .i64 (l.getD i 0)):=by
 obtain⟨q,c⟩:=h;rcases c with⟨c,_⟩|⟨s,e,cur,d,k,j,p,o,r,m⟩
 ·simp at c
 ·simp only[Hc,GO,Im]at d;obtain⟨⟨rfl,-,-⟩,-,rfl⟩:=d;have b:l.length=n:=by simpa[ai]using q
  refine⟨k,p,o,b,fun i f=>?_⟩;rw[Iq _ g i cur 3 (0,0) j];have a:(cur.toList.take (n*1))[i]?=(ai l)[i]?:=by rw[m]
  rw[Ij,GU (by omega)]at a;rw[<-It,a];simp[ai,GS f]
theorem mE{w:World}{base:Nat}{v:Value}{l:List Int}(h:w.ownsRow base 3 1 v l.length (ai l))(hs:∀x∈l,rS x)(hl:l.length<=17592186044416):aJ w v l:=by
 rcases h.2 with⟨a,h0⟩|⟨g,cap,cur,a,_⟩
 ·subst a;exact⟨⟨none,0,by rw[h0],by omega,fun _=>rfl,fun h=>absurd h (by omega)⟩,hs,hl⟩
 ·subst a;obtain⟨_,e,b,_,d⟩:=kQ h;refine⟨⟨some ⟨g,0,none⟩,cap,rfl,⟨e,by unfold maxLen at b;exact b⟩,fun h=>by simp at h,fun _=>⟨g,0,rfl,fun i c=>?_⟩⟩,hs,hl⟩;rw[H8];exact d i c
theorem eN(w:World)(l:List Int)(cap:Nat)(a:l.length<=cap/\cap<=9223372036854775807)(t:TypeId)(fr:Nat×Nat)(hs:∀x∈l,rS x)(hl:l.length<=17592186044416):
 aJ (w.alloc (.cells (l.map fun x:Int=>Value.int .i64 x).toArray t fr)) (.slice (some ⟨w.heap.size,0,none⟩) l.length cap) l:=by
 refine⟨⟨_,cap,rfl,a,(fun h=>by simp at h),fun _=>⟨w.heap.size,0,rfl,fun i b=>?_⟩⟩,hs,hl⟩;rw[Iq _ w.heap.size (0+i) _ t fr (GM _ _)];simp[GS b]
theorem de(w:World)(row:Option Nat):w.grownBy w row:=⟨rfl,rfl,rfl,GH _,fun _ _ _=>rfl⟩
theorem bg{a b c:World}{row:Option Nat}(h:a.grownBy b row)(k:b.grownBy c row):a.grownBy c row:=
 ⟨k.os.trans h.os,k.tape.trans h.tape,k.output.trans h.output,GR h.size k.size,fun i e d=>(k.block i (Hh e h.size) d).trans (h.block i e d)⟩
theorem bt{a b:World}(h:Below a.heap.size a b)(row:Option Nat):a.grownBy b row:=⟨h.os,h.tape,h.output,h.size,fun k c _=>h.block k c⟩
theorem aU(w:World)(B o:Nat)(u:Value):w.grownBy (w.setCell ⟨B,o,none⟩ u) (some B):=
 ⟨rfl,rfl,rfl,by simp[World.setCell],fun k _ a=>Below.heap_setCell _ _ _ _ (fun e=>a (by rw[e]))⟩
theorem eY(w:World)(row:Option Nat):w.grownBy w.drew row:=⟨rfl,rfl,rfl,GH _,fun _ _ _=>rfl⟩
theorem aZ{d B:Nat}{a b c:World}(h:Below d a b)(k:b.grownBy c (some B))(h0:d<=b.heap.size)(f:d<=B):Below d a c:=
 h.grown k h0 (fun i e=>by cases e;exact f)
theorem aJ.grown{w w':World}{v:Value}{l:List Int}{row:Option Nat}(h:aJ w v l)(j:w.grownBy w' row)(c:0<l.length->v.ownBlock≠row):aJ w' v l:=by
 obtain⟨p,cap,d,e,f,hp⟩:=h.form;refine⟨⟨p,cap,d,e,f,fun h0=>?_⟩,h.small,h.len⟩;obtain⟨b,off,a,k⟩:=hp h0;refine⟨b,off,a,fun i g=>?_⟩;refine j.cell (k i g) ?_;have:=c h0;rw[d,a]at this;exact this
theorem aJ.drop{w:World}{b off cap:Nat}{l:List Int}(h:aJ w (.slice (some ⟨b,off,none⟩) l.length cap) l)(n:Nat)(m:n<=l.length):aJ w (.slice (some ⟨b,off+n,none⟩) (l.length-n) (cap-n)) (l.drop n):=by
 obtain⟨j,e,d,k,hz,hp⟩:=h.form;simp only[Hc]at d;obtain⟨rfl,-,rfl⟩:=d;have hl:(l.drop n).length=l.length-n:=by simp
 refine⟨⟨_,_,by rw[hl],⟨by omega,by omega⟩,(fun h=>by simp at h),fun h0=>?_⟩,fun x f=>h.small x (Ht f),by have:=h.len;omega⟩;obtain⟨p,c,a,g⟩:=hp (by omega);simp only[GO,Im]at a;obtain⟨rfl,rfl,-⟩:=a;refine⟨b,off+n,rfl,fun i o=>?_⟩;rw[show off+n+i=off+(n+i)by omega,g (n+i) (by omega)];simp[GG]
def Row(w:World)(g n:Nat):Prop:=∃cur:Array Value,w.heap[g]?=some (.cells cur 3 (0,0))/\n<=cur.size/\∀i,i<n->∃b:Int,rS b/\cur[i]?=some (.int .i64 b)
theorem Row.lt{w:World}{g n:Nat}(h:Row w g n):g<w.heap.size:=by
 obtain⟨cur,a,_⟩:=h;exact GN a
theorem mg{w:World}{base g cap n:Nat}{l:List Int}(h:w.ownsRow base 3 1 (.slice (some ⟨g,0,none⟩) n cap) n (ai l))(hs:∀x∈l,rS x):Row w g n:=by
 obtain⟨k,b⟩:=h;rcases b with⟨b,_⟩|⟨s,d,cur,c,o,f,r,q,p,j⟩
 ·simp at b
 ·simp only[Hc,GO,Im]at c;obtain⟨⟨rfl,-,-⟩,-,rfl⟩:=c;have e:l.length=n:=by simpa[ai]using k
  refine⟨cur,f,by omega,fun i m=>?_⟩;have a:(cur.toList.take (n*1))[i]?=(ai l)[i]?:=by rw[j]
  rw[Ij,GU (by omega)]at a;refine⟨l[i]'(by omega),hs _ (Ie _),?_⟩;rw[<-It,a];simp[ai,GS (show i<l.length by omega)]
structure Own(base:Nat)(w:World)(v:Value)(l:List Int):Prop where
 own:w.ownsRow base 3 1 v l.length (ai l)
 small:∀x∈l,rS x
 len:l.length<=17592186044416
theorem Own.aP{base:Nat}{w:World}{v:Value}{l:List Int}(h:Own base w v l):aJ w v l:=mE h.own h.small h.len
theorem Own.form{base:Nat}{w:World}{v:Value}{l:List Int}(h:Own base w v l):(v=.slice none 0 0/\l=[])\/∃g cap,v=.slice (some ⟨g,0,none⟩) l.length cap/\base<=g/\l.length<=cap/\cap<=maxLen/\Row w g l.length:=by
 rcases h.own.2 with⟨a,h0⟩|⟨g,cap,cur,a,b,e,d,c,i,f⟩
 ·exact GJ ⟨a,Hk h0⟩
 ·subst a;exact GL ⟨g,cap,rfl,b,d,c,mg h.own h.small⟩
theorem Own.grown{base:Nat}{w w':World}{v:Value}{l:List Int}{row:Option Nat}(h:Own base w v l)(b:w.grownBy w' row)(a:v.ownBlock=none\/v.ownBlock≠row):Own base w' v l:=⟨h.own.kept b a,h.small,h.len⟩
theorem Own.below{base:Nat}{w w':World}{v:Value}{l:List Int}(h:Own base w v l)(a:Below w.heap.size w w'):Own base w' v l:=
 h.grown (row:=none) (bt a none) (by cases b:v.ownBlock<;>simp)
theorem Own.from{base base':Nat}{w:World}{v:Value}{l:List Int}(h:Own base w v l)(c:base'<=base):Own base' w v l:=by
 refine⟨⟨h.own.1,?_⟩,h.small,h.len⟩;rcases h.own.2 with d|⟨g,cap,cur,a,b,r⟩
 ·exact GJ d
 ·exact GL ⟨g,cap,cur,a,GR c b,r⟩
theorem cU(base:Nat)(w:World):Own base w (.slice none 0 0) []:=⟨⟨rfl,GJ ⟨rfl,rfl⟩⟩,by simp,by decide⟩
theorem aA{w:World}{ops:Array Oper}{rest:List Oper}{o:Oper}{a:Act}{Q:Exit->Act->World->Prop}(q:o.guard=none)(s x:Operand)
 (I:o.op=.call {callee:=.builtin .append,args:=#[s,x],argTypes:=#[34,34]})
 (base:Nat) (v:Value) (l1:List Int) (hs:a.eval s=v) (d:Own base w v l1)
 (G:Value) (e:List Int) (H:a.eval x=G) (L:aJ w G e) (hlen:l1.length+e.length<=17592186044416) (l:base<=w.heap.size)
 (h:∀t w',Own base w' t (l1++e)->Below base w w'->w.grownBy w' v.ownBlock->wpList Tryz.prog ops Q rest (a.put o.dst t) w'):wpList Tryz.prog ops Q (o::rest) a w:=by
 obtain⟨i0,K,B,A,z⟩:=info_parts iT;have C:∀x∈l1++e,rS x:=by
  intro y m;rcases List.mem_append.1 m with m|m
  ·exact d.small y m
  ·exact L.small y m
 have O:ai l1++ai e=ai (l1++e):=by simp[ai]
 obtain⟨p,cap,rfl,_,M,hp⟩:=L.form;cases p with
 |none=>
  obtain rfl:=M rfl;have D:e.length=0:=by
   rcases IB e.length with h0|h0
   ·exact h0
   ·obtain⟨b,off,he,_⟩:=hp h0;simp at he
  obtain rfl:e=[]:=Hk D;refine wpList_append_own_none q s x 34 I base 3 i0 1 Tryz.underlying34 K v l1.length (ai l1) hs d.own H ?_;refine h v w ?_ (GF _ _) (de _ _);simpa using d
 |some ad=>
  refine wpList_append_own w q s x 34 I base 3 i0 (.int .i64 0) 1 8 Tryz.underlying34 K B A z rfl (by decide) v l1.length (ai l1) hs d.own ad e.length cap (ai e) H (by simp[ai]) ?_ ?_ (by unfold maxLen;omega) (by omega) l ?_
  ·intro j u E;have n:j<e.length:=by
    rcases Hi j e.length with F|F
    ·exact F
    ·rw[He (by simpa[ai]using F)]at E;simp at E
   obtain⟨b,off,he,N⟩:=hp (by omega);obtain rfl:=GZ he;have r:(⟨b,off,none⟩:Addr).add j=⟨b,off+j,none⟩:=by unfold Addr.add;split<;>simp_all
   rw[r,N j n,<-E];simp[ai,GS n]
  ·intro u hu;simp only[ai,I2]at hu;obtain⟨y,_,rfl⟩:=hu;rfl
  ·intro t w' f i _;rw[O,<-GI]at f;refine h t w' ⟨f,C,by simp;omega⟩ ((GF _ _).grown i l ?_) i;intro k J;rcases d.own.2 with⟨rfl,_⟩|⟨g,c,cur,rfl,P,_⟩
   ·simp[Value.ownBlock]at J
   ·simp only[Value.ownBlock,GO]at J;omega
theorem kb(w:World)(base cap:Nat)(cs:Array Value)(a:base<=w.heap.size)(hm:cap<=maxLen)(hs:cs.size=cap*1):Own base (w.alloc (.cells cs 3)) (.slice (some ⟨w.heap.size,0,none⟩) 0 cap) []:=
 ⟨World.ownsRow_made w cs cap a hm hs,by simp,by decide⟩
theorem jt{w:World}{ops:Array Oper}{rest:List Oper}{o:Oper}{a:Act}{Q:Exit->Act->World->Prop}(j:o.guard=none)(x c:Operand)
 (i:o.op=Op.makeSlice 34 x c) (base:Nat) (m p:IntKind) (C:Int) (n:Nat) (hl:a.eval x=.int m 0) (t:a.eval c=.int p C) (hC:C=(n:Int)) (u:n<=17592186044416) (b:base<=w.heap.size)
 (h:∀l w',Own base w' l []->Below base w w'->wpList Tryz.prog ops Q rest (a.put o.dst l) w'):wpList Tryz.prog ops Q (o::rest) a w:=by
 obtain⟨i0,r,g,f,e⟩:=info_parts iT;refine wpList_make_own w j x c 34 i base 3 i0 (.int .i64 0) 1 Tryz.underlying34 r g f m p C n hl t hC (by rw[e];omega) (by unfold maxLen;omega) b ?_;intro w' d s;exact h _ w' ⟨d,by simp,by decide⟩ ((GF _ _).grown s b (fun k q=>by cases q))
theorem bU{w:World}{ops:Array Oper}{rest:List Oper}{o:Oper}{a:Act}{Q:Exit->Act->World->Prop}(i:o.guard=none)(s x:Operand)
 (m:o.op=.call {callee:=.builtin .append,args:=#[s,x],argTypes:=#[34,34]})
 (base:Nat) (v:Value) (l:List Int) (hs:a.eval s=v) (d:Own base w v l)
 (k:a.eval x=.slice (some ⟨w.heap.size,0,none⟩) 1 1) (b:Int) (n:rS b) (hlen:l.length+1<=17592186044416) (c:base<=w.heap.size)
 (h:∀f w',Own base w' f (l++[b])->Below base w w'->wpList Tryz.prog ops Q rest (a.put o.dst f) w'):wpList Tryz.prog ops Q (o::rest) a (w.alloc (.cells #[.int .i64 b] 3)):=by
 have e:Below base w (w.alloc (.cells #[.int .i64 b] 3)):=(GF _ _).alloc c _;refine aA i s x m base v l hs (d.below ((GF _ _).alloc (GH _) _)) _ [b] k (eN w [b] 1 (by simp) 3 (0,0) (by simpa using n) (by simp)) (by simpa using hlen) (GR c e.size) ?_
 ·intro f w' g j _;exact h f w' g (e.trans j)
end Go.Proofs.YtbpodmallknhfaaGreat.Ints
namespace Go.Proofs.YtbpodmallknhfaaGreat.Ints
open Go.ChangeShapes Go.WideShapes Go.ChangeAt Go.RowKit
end Go.Proofs.YtbpodmallknhfaaGreat.Ints
namespace Go.Proofs.YtbpodmallknhfaaGreat
open Go.RowKit
theorem wT{w:World}{B:Nat}{a b c:Value}{T:TypeId}(h:w.heap[B]?=some (.cells #[a,b,c] T (0,0))):w.cell? ⟨B,0,none⟩=some a:=by simp[World.cell?,h]
theorem wS{w:World}{B:Nat}{a b c:Value}{T:TypeId}(h:w.heap[B]?=some (.cells #[a,b,c] T (0,0))):w.cell? ⟨B,1,none⟩=some b:=by simp[World.cell?,h]
theorem wR{w:World}{B:Nat}{a b c:Value}{T:TypeId}(h:w.heap[B]?=some (.cells #[a,b,c] T (0,0))):w.cell? ⟨B,2,none⟩=some c:=by simp[World.cell?,h]
theorem Ba{w:World}{B:Nat}{a b c:Value}{T:TypeId}(h:w.heap[B]?=some (.cells #[a,b,c] T (0,0)))(o:Nat):w.frozen? ⟨B,o,none⟩=false:=by simp[World.frozen?,h]
theorem Dl{w:World}{B:Nat}{a b c u:Value}{T:TypeId}(h:w.heap[B]?=some (.cells #[a,b,c] T (0,0))):(w.setCell ⟨B,0,none⟩ u).heap[B]?=some (.cells #[u,b,c] T (0,0)):=by
 have hlt:=GN h;have d:w.heap[B]=.cells #[a,b,c] T (0,0):=by simpa[Hq hlt]using h
 show(w.heap.modify B _)[B]?=_;rw[Hq (by simpa using hlt),IM,d];rfl
theorem Dj{w:World}{B:Nat}{a b c u:Value}{T:TypeId}(h:w.heap[B]?=some (.cells #[a,b,c] T (0,0))):(w.setCell ⟨B,1,none⟩ u).heap[B]?=some (.cells #[a,u,c] T (0,0)):=by
 have hlt:=GN h;have d:w.heap[B]=.cells #[a,b,c] T (0,0):=by simpa[Hq hlt]using h
 show(w.heap.modify B _)[B]?=_;rw[Hq (by simpa using hlt),IM,d];rfl
theorem Dh{w:World}{B:Nat}{a b c u:Value}{T:TypeId}(h:w.heap[B]?=some (.cells #[a,b,c] T (0,0))):(w.setCell ⟨B,2,none⟩ u).heap[B]?=some (.cells #[a,b,u] T (0,0)):=by
 have hlt:=GN h;have d:w.heap[B]=.cells #[a,b,c] T (0,0):=by simpa[Hq hlt]using h
 show(w.heap.modify B _)[B]?=_;rw[Hq (by simpa using hlt),IM,d];rfl
theorem FA{w:World}{B:Nat}{a b c x y z:Value}{T:TypeId}(h:w.heap[B]?=some (.cells #[a,b,c] T (0,0))):
 (((w.setCell ⟨B,0,none⟩ x).setCell ⟨B,1,none⟩ y).setCell ⟨B,2,none⟩ z).heap[B]?=some (.cells #[x,y,z] T (0,0))/\w.grownBy (((w.setCell ⟨B,0,none⟩ x).setCell ⟨B,1,none⟩ y).setCell ⟨B,2,none⟩ z) (some B):=
 ⟨Dh (Dj (Dl h)),bg (aU _ _ _ _) (bg (aU _ _ _ _) (aU _ _ _ _))⟩
theorem Touch.grownBy{Q:Nat}{a b:World}(h:Touch (·=Q) a b):a.grownBy b (some Q):=⟨h.os,h.tape,h.output,h.size,fun i d c=>h.block i d fun e=>c (by rw[e])⟩
theorem gr{w:World}(Q:Nat)(A:Array Value):Touch (·=Q) w (w.setRow Q A):=⟨rfl,rfl,rfl,by simp[World.setRow],fun i _ a=>setRow_other w Q i _ a⟩
structure TR(W:World)(Q:Nat)(T:TypeId)(B0 A:Array Value)(op:Nat)(D:Nat->Bool)(w:World):Prop where
 aj:Touch (·=Q) W w
 row:w.heap[Q]?=some (.cells (if D op=true then A else B0) T (0,0))
section
variable{W w w':World}{Q op:Nat}{T:TypeId}{A B0:Array Value}{D:Nat->Bool}
theorem TR.first(h:W.heap[Q]?=some (.cells B0 T (0,0))):TR W Q T B0 A op (fun _=>false) W.drew:=⟨(Touch.refl _ _).drew,h⟩
theorem TR.skip(h:TR W Q T B0 A op D w)(k:Nat)(a:op≠k):TR W Q T B0 A op (Ord.bB D k) w:=
 ⟨h.aj,by rw[show Ord.bB D k op=D op from GQ a];exact h.row⟩
theorem TR.put(h:TR W Q T B0 A op D w)(a:Touch (·=Q) w w')(b:w'.heap[Q]?=some (.cells A T (0,0))):TR W Q T B0 A op (Ord.bB D op) w':=
 ⟨h.aj.trans a,by rw[show Ord.bB D op op=true from GU rfl,GU rfl];exact b⟩
theorem TR.now(h:TR W Q T B0 A op D w)(a:D op=false):w.heap[Q]?=some (.cells B0 T (0,0)):=by
 have:=h.row;rw[a]at this;exact this
theorem TR.done(h:TR W Q T B0 A op D w)(a:D op=true):w.heap[Q]?=some (.cells A T (0,0)):=by
 have:=h.row;rw[a]at this;exact this
end
end Go.Proofs.YtbpodmallknhfaaGreat
