/- Parts of a proof. Conditions: as each row says. -/
import Derived.Test.YtbpodmallknhfaaGreatCr03
import Derived.Test.YtbpodmallknhfaaGreatCr09
import Derived.Test.YtbpodmallknhfaaGreatCr10
import Derived.Deep.WholeRow
import Derived.ArgAppend
import Derived.Laws.IdiomCopy
import Derived.Maps.AppendAt
namespace Go.Proofs.YtbpodmallknhfaaGreat.Wl
open Go.Proofs.YtbpodmallknhfaaGreat
structure S where
 cd:List Lr.R
 start:Nat
 stop:Nat
 ae:Nat
 bp:Nat
 ai:Nat
 at_:Nat
 count:Nat
def fresh(a count:Nat):S:=⟨[],52,52,52,0,1,a,count⟩
def size(x:Lr.R):Nat:=(Lr.form x).length
def bf(s:S)(x:Lr.R):Lr.R:={x with bj:=s.stop,ai:=s.ai}
def left(s:S):Int:=(((s.start/52+2*s.count)*52:Nat):Int)-(s.stop:Int)
def app(s:S)(x:Lr.R):S:={s with cd:=s.cd++[bf s x],stop:=s.stop+size (bf s x)}
noncomputable def dA(s:S)(x:Lr.R):S×Nat×Nat:=Lr.ru (Lr.oe (bf s x)) (if(size (bf s x):Int)<=left s then(app s x,s.stop,0)else(s,0,5)) (s,0,2)
def flush(s:S):S:={s with ae:=s.stop}
def find(s:S)(bj:Nat):Option Lr.R:=s.cd.find? (fun x=>x.bj==bj)
def jM(s:S)(bj:Nat):Lr.R×Nat×Nat:=match find s bj with
 |some x=>(x,bj+size x,0)
 |none=>(Lr.zero,0,7)
def placeOf(s:S)(k:Nat):Nat:=match s.cd[k]? with
 |some x=>x.bj
 |none=>s.stop
def cut(s:S)(k:Nat):S:={s with cd:=s.cd.take k,stop:=placeOf s k,ae:=placeOf s k,ai:=s.ai+1}
def Fits(n:Nat)(a c:Int):Prop:=16<=c/\c<=8192/\0<=a/\a+c+2<=n
structure Calm(n:Nat)(d:Dk.aq):Prop where
 off:d.off=false
 bL:d.bL=0
 sz:Dk.size d=n
 aW:d.aW=n
structure aY(n:Nat)(d:Dk.aq):Prop where
 ok:Dk.Ok d
 sz:Dk.size d=n
 aW:d.aW=n
theorem lB{n:Nat}:Calm n (Dk.fresh n n):=⟨rfl,rfl,by show(List.replicate n Dk.blank).length=n;rw[List.length_replicate],rfl⟩
theorem aY.ay{n:Nat}{d:Dk.aq}(h:aY n d)(a:List Nat):Calm n (Dk.ay d a):=
 ⟨rfl,rfl,by show(Dk.dG d.waits d.aP a).length=n;rw[Dk.eC _ _ _ h.ok.w];exact h.sz,h.aW⟩
def chain:Nat->List Lr.R->Nat->Prop
 |p,[],q=>p=q
 |p,x::l,q=>x.bj=p/\chain (p+size x) l q
theorem size_pos(x:Lr.R):19<=size x:=by
 unfold size;rw[Lr.bq];omega
theorem pS:∀{l:List Lr.R}{p q:Nat},chain p l q->p<=q
 | [],_,_,h=>Nat.le_of_eq h
 |x::l,p,q,h=>by
  have:=pS h.2;omega
theorem pQ:∀{l:List Lr.R}{p q:Nat}{x:Lr.R},chain p l q->x.bj=q->chain p (l++[x]) (q+size x)
 | [],p,q,x,h,hx=>by
  obtain rfl:p=q:=h;exact⟨hx,rfl⟩
 |y::l,p,q,x,h,hx=>⟨h.1,pQ h.2 hx⟩
structure Good(s:S):Prop where
 chain:chain s.start s.cd s.stop
 low:s.start<=s.ae
 high:s.ae<=s.stop
 ok:∀x∈s.cd,Lr.oe x/\Lr.Ok x
theorem lx(a c:Nat):Good (fresh a c):=⟨rfl,Nat.le_refl _,Nat.le_refl _,fun x b=>by cases b⟩
def dn(t:Nat):Lr.R:=⟨4,0,0,t,0,0,[],[],[],0,0,false,0,[],[]⟩
theorem Fg{s:S}{t:Nat}(h:t≠0):Lr.oe (bf s (dn t)):=⟨Or.inr (Or.inr (Or.inr (Or.inl ⟨rfl,h⟩))),rfl⟩
theorem DK(s:S)(t:Nat):size (bf s (dn t))=27:=by
 unfold size;rw[Lr.bq];show 19+(aw.le 8 t).length=27;rw[aw.ao]
theorem Fh(t:Nat):Lr.xm (dn t):=⟨Nat.zero_le _,Nat.zero_le _,Nat.zero_le _,Nat.zero_le _,Nat.zero_le _⟩
theorem Gm{t:Nat}(h:t<18446744073709551616):Lr.Ok (dn t):=by
 refine⟨(show(-9223372036854775808:Int)<=4/\(4:Int)<9223372036854775808 by decide),(show 0<18446744073709551616 by decide),(show 0<4294967296 by decide),h,(show 0<4294967296 by decide),(show 0<65536 by decide),?_,?_,?_,(show 0<18446744073709551616 by decide),(show 0<18446744073709551616 by decide),(show 0<18446744073709551616 by decide),?_,?_⟩<;>intro b a<;>cases a
def wr(p:Nat)(b:List Nat):Lr.R:=⟨1,0,0,0,p,0,b,b,[],0,0,false,0,[],[]⟩
theorem nM{s:S}{x:Lr.R}(a:Lr.oe (bf s x))(hl:(size (bf s x):Int)<=left s):dA s x=(app s x,s.stop,0):=by
 unfold dA;rw[Lr.ed a,if_pos hl]
theorem nL{s:S}{x:Lr.R}(a:Lr.oe (bf s x))(hl:¬(size (bf s x):Int)<=left s):dA s x=(s,0,5):=by
 unfold dA;rw[Lr.ed a,if_neg hl]
theorem tw{s:S}{x:Lr.R}(h:Lr.Ok x)(b:s.stop<18446744073709551616)(a:s.ai<4294967296):Lr.Ok (bf s x):=⟨h.kind,b,a,h.bs,h.aA,h.off,h.old,h.new,h.bD,h.prev,h.next,h.bf,h.dm,h.bR⟩
theorem BY{s:S}(h:Good s){x:Lr.R}(c:Lr.oe (bf s x))(b:Lr.Ok (bf s x)):Good (app s x):=by
 refine⟨pQ h.chain rfl,h.low,Nat.le_trans h.high (Nat.le_add_right _ _),fun y a=>?_⟩;rcases List.mem_append.1 a with a|a
 ·exact h.ok y a
 ·rw[List.mem_singleton.1 a];exact⟨c,b⟩
theorem pG{s:S}(h:Good s):Good (flush s):=⟨h.chain,Nat.le_trans h.low h.high,Nat.le_refl _,h.ok⟩
end Go.Proofs.YtbpodmallknhfaaGreat.Wl
namespace Go.Proofs.YtbpodmallknhfaaGreat
open Go.RowKit
def br(U a:Nat->Prop)(w:World):Prop:=∀i,a i->U i\/w.heap.size<=i
def qF(z:Int):Prop:= -9223372036854775808<=z/\z<=9223372036854775807
def cY(U V:Nat->Prop)(i:Nat):Prop:=U i\/V i
end Go.Proofs.YtbpodmallknhfaaGreat
namespace Go.Proofs.YtbpodmallknhfaaGreat
open Go.RowKit
namespace Wl
def bm(n:Nat):List Nat:=List.replicate n 0
theorem bU(n:Nat):(bm n).length=n:=List.length_replicate ..
theorem jP(n:Nat):∀x∈bm n,x<256:=fun x a=>by rw[List.eq_of_mem_replicate a];decide
end Wl
theorem Ev(z:Value)(n:Nat):madeCells #[z] n=(List.replicate n z).toArray:=by
 apply Array.ext';rw[toList_madeCells_one]
theorem Et(n:Nat)(f:n<=65536)(W:World):(Instr.makeSlice 57 (.int .i64 (n:Int)) (.int .i64 (n:Int))).run Tryz.prog W=.ok (.slice (some ⟨W.heap.size,0,none⟩) n n) (W.alloc (.cells (af (Wl.bm n)).toArray 5)):=by
 obtain⟨i0,d,c,a,b⟩:=info_parts ja;have h:=run_makeSlice (P:=Tryz.prog) W 57 5 i0 _ Tryz.underlying57 d c .i64 .i64 n n (by omega) (Int.le_refl _) (by rw[a];omega) (by rw[b];omega) (by omega);rw[Int.toNat_natCast,a,Nat.mul_one]at h;rw[h];have e:madeCells #[Value.int .u8 0] n=(af (Wl.bm n)).toArray:=by
  rw[show(af (Wl.bm n)).toArray=(List.replicate n (Value.int .u8 0)).toArray by unfold Wl.bm af;rw[List.map_replicate];rfl];exact Ev _ n
 congr 3
theorem Eu(n:Nat)(a:n<=65536)(W:World):Own W.heap.size (W.alloc (.cells (af (Wl.bm n)).toArray 5)) (.slice (some ⟨W.heap.size,0,none⟩) n n) (Wl.bm n):=by
 have hl:=Wl.bU n;refine⟨⟨by simp[af],Or.inr ⟨W.heap.size,n,(af (Wl.bm n)).toArray,by rw[hl],Nat.le_refl _,heap_alloc_last _ _,by rw[hl];exact Nat.le_refl _,by unfold maxLen;omega,?_,?_⟩⟩,Wl.jP n,by rw[hl];omega⟩
 ·simp[af,hl]
 ·simp only[Nat.mul_one];rw[List.take_of_length_le (by simp[af])]
end Go.Proofs.YtbpodmallknhfaaGreat
namespace Go.Proofs.YtbpodmallknhfaaGreat.Wl
open Go.Proofs.YtbpodmallknhfaaGreat
def places(s:S):List Nat:=s.cd.map (fun x=>x.bj)
theorem kS(s:S):(places s).length=s.cd.length:=by simp[places]
end Go.Proofs.YtbpodmallknhfaaGreat.Wl
namespace Go.Proofs.YtbpodmallknhfaaGreat.Wl
open Go.Proofs.YtbpodmallknhfaaGreat
def after(k:Nat)(j:Nat):Nat:=if j<k then j+1 else 1000+(j-k)
end Go.Proofs.YtbpodmallknhfaaGreat.Wl
namespace Go.Proofs.YtbpodmallknhfaaGreat
open Go.RowKit
def Qu(base:Nat)(w:World)(v:Value)(l:List Nat):Prop:=(v=.slice none 0 0/\l=[])\/
 ∃g off cap cur,v=.slice (some ⟨g,off,none⟩) l.length cap/\base<=g/\w.heap[g]?=some (.cells cur 56 (0,0))/\off+cap=cur.size/\l.length<=cap/\cap<=9223372036854775807/\∀i,i<l.length->cur[off+i]?=some (.int .u64 (l.getD i 0:Nat))
theorem Qu.lt{base:Nat}{w:World}{v:Value}{l:List Nat}(h:Qu base w v l):∀g,v.ownBlock=some g->g<w.heap.size:=by
 intro g a;rcases h with⟨rfl,-⟩|⟨d,off,cap,cur,rfl,c,b,-⟩
 ·cases a
 ·simp only[Value.ownBlock,Option.some.injEq]at a;rw[<-a];exact lt_of_block b
theorem Qu.slice{base:Nat}{w:World}{v:Value}{l:List Nat}(h:Qu base w v l):∃p cap,v=.slice p l.length cap:=by
 rcases h with⟨rfl,rfl⟩|⟨g,off,cap,cur,a,-⟩
 ·exact⟨none,0,rfl⟩
 ·exact⟨_,cap,a⟩
theorem E3:(Tryz.prog.info? 56).map (fun i=>(i.zero,i.size,i.bytes))=Option.some (Option.some (.int .u64 0),1,8):=by kernel_rfl
def vz(l:List Nat):List Value:=l.map fun x:Nat=>Value.int .u64 (x:Int)
def QO(base:Nat)(w:World)(v:Value)(l:List Nat):Prop:=w.ownsRow base 56 1 v l.length (vz l)
theorem A3(base:Nat)(w:World):QO base w (.slice none 0 0) []:=⟨rfl,Or.inl ⟨rfl,rfl⟩⟩
section
variable{base:Nat}{w w':World}{v:Value}{l:List Nat}{T:Nat->Prop}
theorem QO.qu(h:QO base w v l):Qu base w v l:=by
 rcases h.2 with⟨a,h0⟩|⟨g,cap,cur,a,f,d,k,b,m,j⟩
 ·exact Or.inl ⟨a,List.eq_nil_of_length_eq_zero h0⟩
 ·refine Or.inr ⟨g,0,cap,cur,a,f,d,by omega,k,by unfold maxLen at b;exact b,fun i c=>?_⟩;rw[Nat.zero_add];have e:(cur.toList.take (l.length*1))[i]?=(vz l)[i]?:=by rw[j]
  rw[List.getElem?_take,if_pos (by omega),Array.getElem?_toList]at e;rw[e];unfold vz;rw[List.getElem?_map,List.getD_eq_getElem?_getD,List.getElem?_eq_getElem c];rfl
theorem QO.bQ(h:QO base w v l)(b:Touch T w w')(hs:∀i,v.ownBlock=some i->¬T i):QO base w' v l:=by
 refine⟨h.1,?_⟩;rcases h.2 with e|⟨g,cap,cur,a,d,c,r⟩
 ·exact Or.inl e
 ·exact Or.inr ⟨g,cap,cur,a,d,b.row c (hs g (by rw[a];rfl)),r⟩
theorem QO.al(h:QO base w v l)(a:Touch T w w')(hs:∀i,v.ownBlock=some i->¬T i):QO base w' v l:=h.bQ a hs
theorem QO.lt(h:QO base w v l):∀i,v.ownBlock=some i->i<w.heap.size:=h.qu.lt
theorem QO.below(h:QO base w v l)(b:Below w.heap.size w w'):QO base w' v l:=
 h.bQ (T:=fun i=>w.heap.size<=i) (.dC b fun _ _ h=>h) fun i a=>by have:=h.lt i a;omega
theorem lH{o:Oper}{a:Act}{K:Act->World->Prop}{Q:Exit->Act->World->Prop}(s x:Operand)
 (C:o.op=.call {callee:=.builtin .append,args:=#[s,x],argTypes:=#[37,37]})
 (hs:a.eval s=v) (B:QO base w v l) (y k:Nat) (z:a.eval x=.slice (some ⟨k,0,none⟩) 1 1) (r:w.cell? ⟨k,0,none⟩=Option.some (.int .u64 (y:Int))) (hl:l.length<=100000) (f:base<=w.heap.size)
 (h:∀g w',QO base w' g (l++[y])->w.grownBy w' v.ownBlock->(g.ownBlock=v.ownBlock\/∃i,g.ownBlock=some i/\w.heap.size<=i)->K (a.put o.dst g) w'):o.wp Tryz.prog a w K Q:=by
 obtain⟨i0,E,p,n,m⟩:=info_parts E3;have c:∀j u,([Value.int .u64 (y:Int)]:List Value)[j]?=Option.some u->w.cell? ((⟨k,0,none⟩:Addr).add j)=Option.some u:=by
  intro j u q;cases j with
  |zero=>simp at q;subst q;simpa[Addr.add]using r
  |succ j=>simp at q
 have e:vz l++[Value.int .u64 (y:Int)]=vz (l++[y]):=by simp[vz]
 obtain⟨g,w',A,b,d,-,t⟩:=run_append_own_at (P:=Tryz.prog) w base 37 o.type 56 i0 (.int .u64 0) 1 8 Tryz.underlying37 E p n m rfl (by decide) v l.length (vz l) B ⟨k,0,none⟩ 1 1 [.int .u64 (y:Int)] rfl c (by intro u hu;rw[List.mem_singleton.1 hu];rfl) (by unfold maxLen;omega) (by omega) f;rw[e]at b;have D:=h g w' (by show w'.ownsRow _ _ _ _ (l++[y]).length _;rw[List.length_append];exact b) d (t.imp id fun h=>⟨_,h,Nat.le_refl _⟩);unfold Oper.wp;simp[execOp,C,resolve,invoke,builtin,hs,z,A,Result.andThen];exact D
end
end Go.Proofs.YtbpodmallknhfaaGreat
