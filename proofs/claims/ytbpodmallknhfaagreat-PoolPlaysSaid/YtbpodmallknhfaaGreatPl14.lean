/- Parts of a proof. Conditions: as each row says. -/
import Derived.Test.YtbpodmallknhfaaGreatPl03
import Derived.Test.YtbpodmallknhfaaGreatPl09
import Derived.Test.YtbpodmallknhfaaGreatPl10
import Derived.Deep.WholeRow
import Derived.ArgAppend
import Derived.Laws.IdiomCopy
import Derived.Maps.AppendAt
namespace Go.Proofs.YtbpodmallknhfaaGreat.Wl
open Go.Proofs.YtbpodmallknhfaaGreat
structure S where
 ik:List Lr.R
 start:Nat
 stop:Nat
 ag:Nat
 dS:Nat
 an:Nat
 at_:Nat
 count:Nat
def fresh(a count:Nat):S:=⟨[],52,52,52,0,1,a,count⟩
def size(x:Lr.R):Nat:=(Lr.form x).length
def aV(s:S)(x:Lr.R):Lr.R:={x with bl:=s.stop,an:=s.an}
def left(s:S):Int:=(((s.start/52+2*s.count)*52:Nat):Int)-(s.stop:Int)
def app(s:S)(x:Lr.R):S:={s with ik:=s.ik++[aV s x],stop:=s.stop+size (aV s x)}
noncomputable def dq(s:S)(x:Lr.R):S×Nat×Nat:=Lr.rC (Lr.rU (aV s x)) (if(size (aV s x):Int)<=left s then(app s x,s.stop,0)else(s,0,5)) (s,0,2)
def flush(s:S):S:={s with ag:=s.stop}
def find(s:S)(bl:Nat):Option Lr.R:=s.ik.find? (fun x=>x.bl==bl)
def placeOf(s:S)(k:Nat):Nat:=match s.ik[k]? with
 |some x=>x.bl
 |none=>s.stop
def cut(s:S)(k:Nat):S:={s with ik:=s.ik.take k,stop:=placeOf s k,ag:=placeOf s k,an:=s.an+1}
def Fits(n:Nat)(a c:Int):Prop:=16<=c/\c<=8192/\0<=a/\a+c+2<=n
structure Calm(n:Nat)(d:Dk.ak):Prop where
 off:d.off=false
 bR:d.bR=0
 sz:Dk.size d=n
 bD:d.bD=n
structure aX(n:Nat)(d:Dk.ak):Prop where
 ok:Dk.Ok d
 sz:Dk.size d=n
 bD:d.bD=n
theorem kZ{n:Nat}:Calm n (Dk.fresh n n):=⟨rfl,rfl,by show(List.replicate n Dk.blank).length=n;rw[G9],rfl⟩
theorem aX.aQ{n:Nat}{d:Dk.ak}(h:aX n d)(a:List Nat):Calm n (Dk.aQ d a):=
 ⟨rfl,rfl,by show(Dk.dD d.waits d.aL a).length=n;rw[Dk.eB _ _ _ h.ok.w];exact h.sz,h.bD⟩
def chain:Nat->List Lr.R->Nat->Prop
 |p,[],q=>p=q
 |p,x::l,q=>x.bl=p/\chain (p+size x) l q
theorem size_pos(x:Lr.R):19<=size x:=by
 unfold size;rw[Lr.bP];omega
theorem pd:∀{l:List Lr.R}{p q:Nat}{x:Lr.R},chain p l q->x.bl=q->chain p (l++[x]) (q+size x)
 | [],p,q,x,h,hx=>by
  obtain rfl:p=q:=h;exact⟨hx,rfl⟩
 |y::l,p,q,x,h,hx=>⟨h.1,pd h.2 hx⟩
structure Good(s:S):Prop where
 chain:chain s.start s.ik s.stop
 low:s.start<=s.ag
 high:s.ag<=s.stop
 ok:∀x∈s.ik,Lr.rU x/\Lr.Ok x
theorem kW(a c:Nat):Good (fresh a c):=⟨rfl,GH _,GH _,fun x b=>by cases b⟩
def dn(t:Nat):Lr.R:=⟨4,0,0,t,0,0,[],[],[],0,0,false,0,[],[]⟩
theorem oY{s:S}{t:Nat}(h:t≠0):Lr.rU (aV s (dn t)):=⟨GL (GL (GL (GJ ⟨rfl,h⟩))),rfl⟩
theorem lT(s:S)(t:Nat):size (aV s (dn t))=27:=by
 unfold size;rw[Lr.bP];show 19+(aH.le 8 t).length=27;rw[aH.al]
theorem oZ(t:Nat):Lr.xd (dn t):=⟨G7 _,G7 _,G7 _,G7 _,G7 _⟩
theorem EP{t:Nat}(h:t<18446744073709551616):Lr.Ok (dn t):=by
 refine⟨(show(-9223372036854775808:Int)<=4/\(4:Int)<9223372036854775808 by decide),(show 0<18446744073709551616 by decide),(show 0<4294967296 by decide),h,(show 0<4294967296 by decide),(show 0<65536 by decide),?_,?_,?_,(show 0<18446744073709551616 by decide),(show 0<18446744073709551616 by decide),(show 0<18446744073709551616 by decide),?_,?_⟩<;>intro b a<;>cases a
def wr(p:Nat)(b:List Nat):Lr.R:=⟨1,0,0,0,p,0,b,b,[],0,0,false,0,[],[]⟩
theorem eP{s:S}{x:Lr.R}(a:Lr.rU (aV s x))(hl:(size (aV s x):Int)<=left s):dq s x=(app s x,s.stop,0):=by
 unfold dq;rw[Lr.fF a,GU hl]
theorem eO{s:S}{x:Lr.R}(a:Lr.rU (aV s x))(hl:¬(size (aV s x):Int)<=left s):dq s x=(s,0,5):=by
 unfold dq;rw[Lr.fF a,GQ hl]
theorem sr{s:S}{x:Lr.R}(h:Lr.Ok x)(b:s.stop<18446744073709551616)(a:s.an<4294967296):Lr.Ok (aV s x):=⟨h.kind,b,a,h.bn,h.aw,h.off,h.old,h.new,h.bI,h.prev,h.next,h.aV,h.dH,h.cq⟩
theorem A8{s:S}(h:Good s){x:Lr.R}(c:Lr.rU (aV s x))(b:Lr.Ok (aV s x)):Good (app s x):=by
 refine⟨pd h.chain rfl,h.low,GR h.high (Nat.le_add_right _ _),fun y a=>?_⟩;rcases List.mem_append.1 a with a|a
 ·exact h.ok y a
 ·rw[List.mem_singleton.1 a];exact⟨c,b⟩
theorem vC{s:S}(h:Good s):Good (flush s):=⟨h.chain,GR h.low h.high,GH _,h.ok⟩
end Go.Proofs.YtbpodmallknhfaaGreat.Wl
namespace Go.Proofs.YtbpodmallknhfaaGreat
open Go.RowKit
def bA(U a:Nat->Prop)(w:World):Prop:=∀i,a i->U i\/w.heap.size<=i
def bF(z:Int):Prop:= -9223372036854775808<=z/\z<=9223372036854775807
def cr(U V:Nat->Prop)(i:Nat):Prop:=U i\/V i
end Go.Proofs.YtbpodmallknhfaaGreat
namespace Go.Proofs.YtbpodmallknhfaaGreat
open Go.RowKit
namespace Wl
def aY(n:Nat):List Nat:=List.replicate n 0
theorem bQ(n:Nat):(aY n).length=n:=G9 ..
theorem jy(n:Nat):∀x∈aY n,x<256:=fun x a=>by rw[Ik a];decide
end Wl
theorem Db(z:Value)(n:Nat):madeCells #[z] n=(List.replicate n z).toArray:=by
 apply Array.ext';rw[toList_madeCells_one]
theorem C9(n:Nat)(f:n<=65536)(W:World):(Instr.makeSlice 57 (.int .i64 (n:Int)) (.int .i64 (n:Int))).run Tryz.prog W=.ok (.slice (some ⟨W.heap.size,0,none⟩) n n) (W.alloc (.cells (ai (Wl.aY n)).toArray 5)):=by
 obtain⟨i0,d,c,a,b⟩:=info_parts iT;have h:=run_makeSlice (P:=Tryz.prog) W 57 5 i0 _ Tryz.underlying57 d c .i64 .i64 n n (by omega) (Int.le_refl _) (by rw[a];omega) (by rw[b];omega) (by omega);rw[Ic,a,Iz]at h;rw[h];have e:madeCells #[Value.int .u8 0] n=(ai (Wl.aY n)).toArray:=by
  rw[show(ai (Wl.aY n)).toArray=(List.replicate n (Value.int .u8 0)).toArray by unfold Wl.aY ai;rw[List.map_replicate];rfl];exact Db _ n
 congr 3
theorem Da(n:Nat)(a:n<=65536)(W:World):Own W.heap.size (W.alloc (.cells (ai (Wl.aY n)).toArray 5)) (.slice (some ⟨W.heap.size,0,none⟩) n n) (Wl.aY n):=by
 have hl:=Wl.bQ n;refine⟨⟨by simp[ai],GL ⟨W.heap.size,n,(ai (Wl.aY n)).toArray,by rw[hl],GH _,GM _ _,by rw[hl];exact GH _,by unfold maxLen;omega,?_,?_⟩⟩,Wl.jy n,by rw[hl];omega⟩
 ·simp[ai,hl]
 ·simp only[Iz];rw[Hm (by simp[ai])]
end Go.Proofs.YtbpodmallknhfaaGreat
namespace Go.Proofs.YtbpodmallknhfaaGreat.Wl
open Go.Proofs.YtbpodmallknhfaaGreat
def places(s:S):List Nat:=s.ik.map (fun x=>x.bl)
end Go.Proofs.YtbpodmallknhfaaGreat.Wl
namespace Go.Proofs.YtbpodmallknhfaaGreat.Wl
open Go.Proofs.YtbpodmallknhfaaGreat
def after(k:Nat)(j:Nat):Nat:=if j<k then j+1 else 1000+(j-k)
end Go.Proofs.YtbpodmallknhfaaGreat.Wl
namespace Go.Proofs.YtbpodmallknhfaaGreat
open Go.RowKit
def Qu(base:Nat)(w:World)(v:Value)(l:List Nat):Prop:=(v=.slice none 0 0/\l=[])\/
 ∃g off cap cur,v=.slice (some ⟨g,off,none⟩) l.length cap/\base<=g/\w.heap[g]?=some (.cells cur 56 (0,0))/\off+cap=cur.size/\l.length<=cap/\cap<=9223372036854775807/\∀i,i<l.length->cur[off+i]?=some (.int .u64 (l.getD i 0:Nat))
theorem Qu.lt{base:Nat}{w:World}{v:Value}{l:List Nat}(h:Qu base w v l):∀g,v.ownBlock=some g->g<w.heap.size:=by
 intro g a;rcases h with⟨rfl,-⟩|⟨d,off,cap,cur,rfl,c,b,-⟩
 ·cases a
 ·simp only[Value.ownBlock,GO]at a;rw[<-a];exact GN b
theorem Qu.slice{base:Nat}{w:World}{v:Value}{l:List Nat}(h:Qu base w v l):∃p cap,v=.slice p l.length cap:=by
 rcases h with⟨rfl,rfl⟩|⟨g,off,cap,cur,a,-⟩
 ·exact⟨none,0,rfl⟩
 ·exact⟨_,cap,a⟩
theorem DO:(Tryz.prog.info? 56).map (fun i=>(i.zero,i.size,i.bytes))=Option.some (Option.some (.int .u64 0),1,8):=by kernel_rfl
def uo(l:List Nat):List Value:=l.map fun x:Nat=>Value.int .u64 (x:Int)
def QO(base:Nat)(w:World)(v:Value)(l:List Nat):Prop:=w.ownsRow base 56 1 v l.length (uo l)
theorem DB(base:Nat)(w:World):QO base w (.slice none 0 0) []:=⟨rfl,GJ ⟨rfl,rfl⟩⟩
section
variable{base:Nat}{w w':World}{v:Value}{l:List Nat}{T:Nat->Prop}
theorem QO.qu(h:QO base w v l):Qu base w v l:=by
 rcases h.2 with⟨a,h0⟩|⟨g,cap,cur,a,f,d,k,b,m,j⟩
 ·exact GJ ⟨a,Hk h0⟩
 ·refine GL ⟨g,0,cap,cur,a,f,d,by omega,k,by unfold maxLen at b;exact b,fun i c=>?_⟩;rw[H8];have e:(cur.toList.take (l.length*1))[i]?=(uo l)[i]?:=by rw[j]
  rw[Ij,GU (by omega),It]at e;rw[e];unfold uo;rw[Je,GG,GS c];rfl
theorem QO.bq(h:QO base w v l)(b:Touch T w w')(hs:∀i,v.ownBlock=some i->¬T i):QO base w' v l:=by
 refine⟨h.1,?_⟩;rcases h.2 with e|⟨g,cap,cur,a,d,c,r⟩
 ·exact GJ e
 ·exact GL ⟨g,cap,cur,a,d,b.row c (hs g (by rw[a];rfl)),r⟩
theorem QO.aj(h:QO base w v l)(a:Touch T w w')(hs:∀i,v.ownBlock=some i->¬T i):QO base w' v l:=h.bq a hs
theorem QO.lt(h:QO base w v l):∀i,v.ownBlock=some i->i<w.heap.size:=h.qu.lt
theorem QO.below(h:QO base w v l)(b:Below w.heap.size w w'):QO base w' v l:=
 h.bq (T:=fun i=>w.heap.size<=i) (.ez b fun _ _ h=>h) fun i a=>by have:=h.lt i a;omega
theorem qN{o:Oper}{a:Act}{K:Act->World->Prop}{Q:Exit->Act->World->Prop}(s x:Operand)
 (C:o.op=.call {callee:=.builtin .append,args:=#[s,x],argTypes:=#[37,37]})
 (hs:a.eval s=v) (B:QO base w v l) (y k:Nat) (z:a.eval x=.slice (some ⟨k,0,none⟩) 1 1) (r:w.cell? ⟨k,0,none⟩=Option.some (.int .u64 (y:Int))) (hl:l.length<=100000) (f:base<=w.heap.size)
 (h:∀g w',QO base w' g (l++[y])->w.grownBy w' v.ownBlock->(g.ownBlock=v.ownBlock\/∃i,g.ownBlock=some i/\w.heap.size<=i)->K (a.put o.dst g) w'):o.wp Tryz.prog a w K Q:=by
 obtain⟨i0,E,p,n,m⟩:=info_parts DO;have c:∀j u,([Value.int .u64 (y:Int)]:List Value)[j]?=Option.some u->w.cell? ((⟨k,0,none⟩:Addr).add j)=Option.some u:=by
  intro j u q;cases j with
  |zero=>simp at q;subst q;simpa[Addr.add]using r
  |succ j=>simp at q
 have e:uo l++[Value.int .u64 (y:Int)]=uo (l++[y]):=by simp[uo]
 obtain⟨g,w',A,b,d,-,t⟩:=run_append_own_at (P:=Tryz.prog) w base 37 o.type 56 i0 (.int .u64 0) 1 8 Tryz.underlying37 E p n m rfl (by decide) v l.length (uo l) B ⟨k,0,none⟩ 1 1 [.int .u64 (y:Int)] rfl c (by intro u hu;rw[List.mem_singleton.1 hu];rfl) (by unfold maxLen;omega) (by omega) f;rw[e]at b;have D:=h g w' (by show w'.ownsRow _ _ _ _ (l++[y]).length _;rw[GI];exact b) d (t.imp id fun h=>⟨_,h,GH _⟩);unfold Oper.wp;simp[execOp,C,resolve,invoke,builtin,hs,z,A,Result.andThen];exact D
end
end Go.Proofs.YtbpodmallknhfaaGreat
