/- Parts of a proof. Conditions: as each row says. -/
import Derived.Test.YtbpodmallknhfaaGreatPl03
import Derived.Test.YtbpodmallknhfaaGreatPl01
import Derived.Laws.BitsAllLaws
import Derived.Laws.OwnMore
import Derived.Deep.SlicePairs
import Derived.Lib.SmallJoins
import Derived.IntWalk
import Derived.WideShapes
import Derived.BigQuiet
import Derived.Deep.QuietTactic
import Derived.StillTailTactics
import Derived.Laws.Rows
import Derived.Laws.Tables
import Derived.Laws.StructEq
namespace Go.Proofs.YtbpodmallknhfaaGreat
namespace dK
def od:Nat:=2197175160
def H(x:Nat):Nat:=(x/2)^^^(if x%2=1 then od else 0)
def Hn:Nat->Nat->Nat
 |0,x=>x
 |n+1,x=>Hn n (H x)
def S(x:Nat):Nat:=Hn 8 x
def raw(r:Nat)(l:List Nat):Nat:=l.foldl (fun r b=>S (r^^^b)) r
def le:List Nat->Nat
 | []=>0
 |b::r=>b^^^(256*le r)
def kR:Nat:=4294967295
def more(s:Nat)(l:List Nat):Nat:=kR^^^raw (kR^^^s) l
theorem yZ(a b:Nat):(a^^^b)/2=(a/2)^^^(b/2):=by
 apply Nat.eq_of_testBit_eq;intro i;simp[Nat.testBit_div_two]
theorem BM(a b:Nat):(a^^^b)%2=(a%2+b%2)%2:=by
 have h:decide ((a^^^b)%2=1)=(decide (a%2=1)).xor (decide (b%2=1)):=by
  rw[<-Nat.testBit_zero,<-Nat.testBit_zero,<-Nat.testBit_zero];exact Nat.testBit_xor a b 0
 rcases I0 a with e|e<;>rcases I0 b with d|d<;>
  rcases I0 (a^^^b)with c|c<;>simp[e,d,c]at h⊢
theorem E3(a b:Nat):H (a^^^b)=H a^^^H b:=by
 unfold H;rw[yZ,BM];rcases I0 a with d|d<;>rcases I0 b with c|c<;>simp[d,c]
 ·rw[I5]
 ·rw[I5,I5,Nat.xor_comm od (b/2)]
 ·have:a/2^^^od^^^(b/2^^^od)=(a/2^^^b/2)^^^(od^^^od):=by
   simp only[I5];congr 1;rw[<-I5,Nat.xor_comm od,I5]
  rw[this,Nat.xor_self,Nat.xor_zero]
theorem BC(n a b:Nat):Hn n (a^^^b)=Hn n a^^^Hn n b:=by
 induction n generalizing a b with
 |zero=>rfl
 |succ n ih=>simp only[Hn];rw[E3,ih]
theorem vX(m n x:Nat):Hn (m+n) x=Hn n (Hn m x):=by
 induction m generalizing x with
 |zero=>simp[Hn]
 |succ m ih=>rw[show m+1+n=(m+n)+1 by omega];simp only[Hn];exact ih _
theorem CH(n x:Nat):Hn (n+1) x=H (Hn n x):=vX n 1 x
theorem BE(x:Nat):H (2*x)=x:=by
 unfold H;rw[show 2*x/2=x by omega,GQ (by omega),Nat.xor_zero]
theorem pD(n x:Nat):Hn n (2^n*x)=x:=by
 induction n generalizing x with
 |zero=>simp[Hn]
 |succ n ih=>simp only[Hn];rw[Nat.pow_succ',Nat.mul_assoc,BE,ih]
theorem CG(n:Nat):Hn n 0=0:=by simpa using pD n 0
theorem E5{x:Nat}(h:x<2^32):H x<2^32:=by
 unfold H;apply Ja
 ·omega
 ·split
  ·decide
  ·decide
theorem BD(n:Nat){x:Nat}(h:x<2^32):Hn n x<2^32:=by
 induction n generalizing x with
 |zero=>exact h
 |succ n ih=>exact ih (E5 h)
theorem D7{x:Nat}(h:x<2^32):S x<2^32:=BD 8 h
theorem Bw(a b:Nat):S (a^^^b)=S a^^^S b:=BC 8 a b
theorem xa(x:Nat):S (256*x)=x:=pD 8 x
theorem sI(r b:Nat)(l:List Nat):raw r (b::l)=raw (S (r^^^b)) l:=rfl
theorem uV(r:Nat)(a b:List Nat):raw r (a++b)=raw (raw r a) b:=List.foldl_append
theorem Ac(r:Nat)(a:List Nat)(b:Nat):raw r (a++[b])=S (raw r a^^^b):=by rw[uV];rfl
theorem rf(r:Nat)(l:List Nat):raw r l=Hn (8*l.length) (r^^^le l):=by
 induction l generalizing r with
 |nil=>simp[raw,le,Hn]
 |cons b l ih=>
  rw[sI,ih,G2,show 8*(l.length+1)=8+8*l.length by omega,vX];congr 1
  show S (r^^^b)^^^le l=S (r^^^(b^^^(256*le l)));rw[<-I5,Bw (r^^^b),xa]
theorem Ad{r:Nat}(h:r<2^32):∀{l:List Nat},(∀b∈l,b<256)->raw r l<2^32:=by
 intro l;induction l generalizing r with
 |nil=>intro _;exact h
 |cons b l c=>
  intro a;rw[sI];refine c (D7 (Ja h ?_)) (fun x d=>a x (by simp[d]));have:=a b (by simp);omega
theorem wB{s:Nat}(h:s<2^32){l:List Nat}(hl:∀b∈l,b<256):more s l<2^32:=
 Ja (by decide) (Ad (Ja (by decide) h) hl)
theorem Ck:∀(a b c:List Nat),a.length=b.length->b.length=c.length->
 le (List.zipWith (· ^^^ ·) (List.zipWith (· ^^^ ·) a b) c)=le a^^^le b^^^le c:=by
 have f:∀x y:Nat,256*(x^^^y)=(256*x)^^^(256*y):=by
  intro x y;have h:∀z:Nat,256*z=z<<<8:=fun z=>by rw[Nat.shiftLeft_eq];omega
  rw[h,h,h,Nat.shiftLeft_xor_distrib]
 intro a;induction a with
 |nil=>intro b c e d;cases b<;>simp_all<;>cases c<;>simp_all[le]
 |cons x a ih=>
  intro b c e d;match b,c,e,d with
  |y::b,z::c,e,d=>
   simp only[G2,Nat.add_right_cancel_iff]at e d;simp only[List.zipWith_cons_cons,le,ih b c e d,f];generalize 256*le a=A;generalize 256*le b=B;generalize 256*le c=C;apply Nat.eq_of_testBit_eq;intro i;simp only[Nat.testBit_xor];cases x.testBit i<;>cases y.testBit i<;>cases z.testBit i<;>cases A.testBit i<;>cases B.testBit i<;>cases C.testBit i<;>rfl
theorem three(a b c:List Nat)(d:a.length=b.length)(e:b.length=c.length):
 more 0 (List.zipWith (· ^^^ ·) (List.zipWith (· ^^^ ·) a b) c)=more 0 a^^^more 0 b^^^more 0 c:=by
 unfold more;rw[rf,rf,rf,rf,Ck a b c d e];have hl:(List.zipWith (· ^^^ ·) (List.zipWith (· ^^^ ·) a b) c).length=a.length:=by simp;omega
 rw[hl,<-d,<-(d.trans e)];simp only[BC,Nat.xor_zero];generalize Hn (8*a.length) kR=x;generalize Hn (8*a.length) (le a)=A;generalize Hn (8*a.length) (le b)=B;generalize Hn (8*a.length) (le c)=C;apply Nat.eq_of_testBit_eq;intro i;simp only[Nat.testBit_xor];cases x.testBit i<;>cases A.testBit i<;>cases B.testBit i<;>cases C.testBit i<;>cases kR.testBit i<;>rfl
theorem zq(r b:Nat):S (r^^^b)=S ((r%256)^^^b)^^^(r/256):=by
 have h:r=(r%256)^^^(256*(r/256)):=by
  apply Nat.eq_of_testBit_eq;intro i;have d:r%256=r%2^8:=rfl;have c:256*(r/256)=(r>>>8)<<<8:=by rw[Nat.shiftLeft_eq,Nat.shiftRight_eq_div_pow];omega
  rw[d,c,Nat.testBit_xor,Nat.testBit_mod_two_pow,Nat.testBit_shiftLeft,Nat.testBit_shiftRight];by_cases a:i<8
  ·simp[a,show¬8<=i by omega]
  ·simp[a,show 8<=i by omega,show 8+(i-8)=i by omega]
 have e:r^^^b=((r%256)^^^b)^^^(256*(r/256)):=by
  conv=>lhs;rw[h]
  rw[I5,I5,Nat.xor_comm b]
 rw[e,Bw,xa]
theorem known:more 0 [49,50,51,52,53,54,55,56,57]=3808858755:=by decide+kernel
end dK
end Go.Proofs.YtbpodmallknhfaaGreat
namespace Go.Proofs.YtbpodmallknhfaaGreat.Lr
open Go.Proofs.YtbpodmallknhfaaGreat.aH
theorem two32:(2:Nat)^32=4294967296:=by decide
abbrev Ch:=Nat×Nat×Nat
abbrev Di:=Nat×Nat
structure R where
 kind:Int
 bl:Nat
 an:Nat
 bn:Nat
 aw:Nat
 off:Nat
 old:List Nat
 new:List Nat
 bI:List Nat
 prev:Nat
 next:Nat
 lj:Bool
 aV:Nat
 dH:List Ch
 cq:List Di
def zero:R:=⟨0,0,0,0,0,0,[],[],[],0,0,false,0,[],[]⟩
def bare(x:R):R:=
 if x.kind=1 then⟨x.kind,x.bl,x.an,0,x.aw,x.off,x.old,x.new,[],0,0,false,0,[],[]⟩
 else if x.kind=2 then⟨x.kind,x.bl,x.an,x.bn,0,0,[],[],x.bI,x.prev,x.next,x.lj,0,[],[]⟩
 else if x.kind=3 then⟨x.kind,x.bl,x.an,x.bn,0,0,[],[],[],0,0,false,x.aV,[],[]⟩
 else if x.kind=4 then⟨x.kind,x.bl,x.an,x.bn,0,0,[],[],[],0,0,false,0,[],[]⟩
 else if x.kind=5 then⟨x.kind,x.bl,x.an,0,0,0,[],[],[],0,0,false,0,x.dH,x.cq⟩
 else⟨x.kind,x.bl,x.an,0,0,0,[],[],[],0,0,false,0,[],[]⟩
def k9(x:R):Prop:=
 (x.kind=1/\x.old.length=x.new.length/\1<=x.new.length/\x.off+x.new.length<=500)\/
 (x.kind=2/\(x.lj=true->x.bI.length=0)/\(x.lj=false->x.bI.length<=64/\x.next=0))\/
 (x.kind=3/\x.bn≠0)\/(x.kind=4/\x.bn≠0)\/(x.kind=5/\x.dH.length<=16/\x.cq.length<=64)
def rU(x:R):Prop:=k9 x/\x=bare x
structure Ok(x:R):Prop where
 kind: -9223372036854775808<=x.kind/\x.kind<9223372036854775808
 bl:x.bl<18446744073709551616
 an:x.an<4294967296
 bn:x.bn<18446744073709551616
 aw:x.aw<4294967296
 off:x.off<65536
 old:∀b∈x.old,b<256
 new:∀b∈x.new,b<256
 bI:∀b∈x.bI,b<256
 prev:x.prev<18446744073709551616
 next:x.next<18446744073709551616
 aV:x.aV<18446744073709551616
 dH:∀c∈x.dH,c.1<18446744073709551616/\c.2.1<18446744073709551616/\c.2.2<18446744073709551616
 cq:∀d∈x.cq,d.1<4294967296/\d.2<18446744073709551616
def text(s:List Nat):List Nat:=uv s.length++s
def Fi(c:Ch):List Nat:=le 8 c.1++(le 8 c.2.1++le 8 c.2.2)
def Fh(d:Di):List Nat:=le 4 d.1++le 8 d.2
def tU(l:List Ch):List Nat:=l.flatMap Fi
def tS(l:List Di):List Nat:=l.flatMap Fh
def ER(b:Bool):Nat:=if b then 1 else 0
def own(x:R):List Nat:=
 if x.kind=1 then le 4 x.aw++(le 2 x.off++(text x.old++text x.new))
 else if x.kind=2 then le 8 x.bn++(le 8 x.prev++(le 8 x.next++(ER x.lj::text x.bI)))
 else if x.kind=3 then le 8 x.bn++le 8 x.aV
 else if x.kind=4 then le 8 x.bn
 else if x.kind=5 then(uv x.dH.length++tU x.dH)++(uv x.cq.length++tS x.cq)
 else []
def body(x:R):List Nat:=le 8 x.bl++(le 4 x.an++(x.kind.toNat::own x))
def rest(x:R):List Nat:=le 2 (19+(own x).length)++body x
def form(x:R):List Nat:=le 4 (dK.more 0 (rest x))++rest x
theorem jq:∀l:List Ch,(tU l).length=24*l.length
 | []=>rfl
 |c::l=>by
  have:=jq l;unfold tU at*
  rw[Ha,GI,this,G2];unfold Fi;rw[GI,GI,al,al,al];omega
theorem jo:∀l:List Di,(tS l).length=12*l.length
 | []=>rfl
 |c::l=>by
  have:=jo l;unfold tS at*
  rw[Ha,GI,this,G2];unfold Fh;rw[GI,al,al];omega
theorem jC(s:List Nat)(h:s.length<=500):(text s).length<=510:=by
 have:=iF (n:=s.length) (by omega);unfold text;rw[GI];omega
theorem tJ(x:R):(body x).length=13+(own x).length:=by
 unfold body;rw[GI,GI,al,al,G2];omega
theorem fK(x:R):(rest x).length=15+(own x).length:=by
 unfold rest;rw[GI,al,tJ];omega
theorem bP(x:R):(form x).length=19+(own x).length:=by
 unfold form;rw[GI,al,fK];omega
theorem vm{x:R}(h:k9 x):(own x).length<=1200:=by
 unfold own;rcases h with⟨c,d,e,f⟩|⟨c,d,e⟩|⟨c,d⟩|⟨c,d⟩|⟨c,d,e⟩
 ·rw[GU c];have a:=jC x.old (by omega);have b:=jC x.new (by omega);simp only[GI,al];omega
 ·rw[GQ (by omega),GU c];have hu:x.bI.length<=64:=by
   cases hc:x.lj
   ·exact(e hc).1
   ·have:=d hc;omega
  have a:=jC x.bI (by omega);simp only[GI,al,G2];omega
 ·rw[GQ (by omega),GQ (by omega),GU c];simp only[GI,al];omega
 ·rw[GQ (by omega),GQ (by omega),GQ (by omega),GU c];simp only[al];omega
 ·rw[GQ (by omega),GQ (by omega),GQ (by omega),GQ (by omega),GU c];have a:=iF (n:=x.dH.length) (by omega);have b:=iF (n:=x.cq.length) (by omega);simp only[GI,jq,jo];omega
theorem D4(l:List Ch):∀x∈tU l,x<256:=by
 intro x b;obtain⟨c,-,a⟩:=List.mem_flatMap.1 b;unfold Fi at a;rcases List.mem_append.1 a with h|h
 ·exact cZ _ _ x h
 ·rcases List.mem_append.1 h with h|h
  ·exact cZ _ _ x h
  ·exact cZ _ _ x h
theorem DY(l:List Di):∀x∈tS l,x<256:=by
 intro x b;obtain⟨c,-,a⟩:=List.mem_flatMap.1 b;unfold Fh at a;rcases List.mem_append.1 a with h|h
 ·exact cZ _ _ x h
 ·exact cZ _ _ x h
theorem qS{s:List Nat}(h:∀x∈s,x<256):∀x∈text s,x<256:=by
 intro x a;rcases List.mem_append.1 a with a|a
 ·exact zi _ x a
 ·exact h x a
theorem Cu(b:Bool):ER b<256:=by cases b<;>decide
theorem cM{a b:List Nat}(e:∀x∈a,x<256)(d:∀x∈b,x<256):∀x∈a++b,x<256:=by
 intro x c;rcases List.mem_append.1 c with c|c
 ·exact e x c
 ·exact d x c
theorem wQ{a:Nat}{b:List Nat}(e:a<256)(d:∀x∈b,x<256):∀x∈a::b,x<256:=by
 intro x c;rcases List.mem_cons.1 c with rfl|c
 ·exact e
 ·exact d x c
theorem jg{x:R}(h:Ok x):∀b∈own x,b<256:=by
 unfold own;split
 ·exact cM (cZ _ _) (cM (cZ _ _) (cM (qS h.old) (qS h.new)))
 split
 ·exact cM (cZ _ _) (cM (cZ _ _) (cM (cZ _ _) (wQ (Cu _) (qS h.bI))))
 split
 ·exact cM (cZ _ _) (cZ _ _)
 split
 ·exact cZ _ _
 split
 ·exact cM (cM (zi _) (D4 _)) (cM (zi _) (DY _))
 ·simp
theorem rB{x:R}(h:k9 x):1<=x.kind/\x.kind<=5:=by
 rcases h with⟨a,b,c,d⟩|⟨a,b,c⟩|⟨a,b⟩|⟨a,b⟩|⟨a,b,c⟩<;>omega
theorem ng{x:R}(h:Ok x)(hw:k9 x):∀b∈rest x,b<256:=by
 have:=rB hw;exact cM (cZ _ _) (cM (cZ _ _) (cM (cZ _ _) (wQ (by omega) (jg h))))
theorem iA{x:R}(h:Ok x)(hw:k9 x):∀b∈form x,b<256:=cM (cZ _ _) (ng h hw)
theorem zp{l:List Nat}(h:∀x∈l,x<256):dK.more 0 l<4294967296:=by
 have:=dK.wB (s:=0) (by decide) h;rwa[two32]at this
def Is(b:List Nat)(y:R):Prop:=rU y/\Ok y/\∃t,b=form y++t
theorem mk_eq{x y:R}(o:x.kind=y.kind)(n:x.bl=y.bl)(m:x.an=y.an)(l:x.bn=y.bn)(k:x.aw=y.aw)(j:x.off=y.off)(i:x.old=y.old)(h:x.new=y.new)(g:x.bI=y.bI)(f:x.prev=y.prev)(e:x.next=y.next)(d:x.lj=y.lj)(c:x.aV=y.aV)(b:x.dH=y.dH)(a:x.cq=y.cq):x=y:=by
 cases x;cases y;simp only at*;subst_vars;rfl
noncomputable def rC{α:Type}(p:Prop)(a b:α):α:= @ite α p (Classical.propDecidable p) a b
theorem fF{α:Type}{p:Prop}(h:p)(a b:α):rC p a b=a:=by unfold rC;exact @GU p (_) h _ _ _
theorem eW{α:Type}{p:Prop}(h:¬p)(a b:α):rC p a b=b:=by unfold rC;exact @GQ p (_) h _ _ _
end Go.Proofs.YtbpodmallknhfaaGreat.Lr
namespace Go.Proofs.YtbpodmallknhfaaGreat
structure Lr.xd(x:Lr.R):Prop where
 old:x.old.length<=6000
 new:x.new.length<=6000
 bI:x.bI.length<=6000
 dH:x.dH.length<=6000
 cq:x.cq.length<=6000
end Go.Proofs.YtbpodmallknhfaaGreat
namespace Go.Proofs.YtbpodmallknhfaaGreat.pE
open Go.RowKit Go.Proofs.YtbpodmallknhfaaGreat.Lr
abbrev El:=Ch
def enc(c:El):List Value:=[.int .u64 (c.1:Int),.int .u64 (c.2.1:Int),.int .u64 (c.2.2:Int)]
def cells(l:List El):List Value:=l.flatMap enc
theorem bz:∀l:List El,(cells l).length=l.length*3
 | []=>rfl
 |h::l=>by
  have:=bz l;simp only[cells,Ha,GI,G2]at*
  simp only[enc,G2,Hz];omega
theorem gC(a b:List El):cells (a++b)=cells a++cells b:=by simp[cells]
theorem iY:∀(l:List El)(i j:Nat),i<l.length->j<3->(cells l)[i*3+j]?=(enc (l.getD i default))[j]?
 | [],i,_,h,_=>by simp at h
 |x::l,0,j,_,hj=>by
  simp only[cells,Ha,Nat.zero_mul,H8];rw[Ig (by simpa[enc]using hj)];rfl
 |x::l,i+1,j,h,hj=>by
  have:=iY l i j (by simpa using h) hj;simp only[cells,Ha]at*
  rw[Hy (by simp only[enc,G2,Hz];omega)];rw[show(i+1)*3+j-(enc x).length=i*3+j by simp only[enc,G2,Hz];omega,this];simp
theorem kt(l:List El):∀u∈cells l,u.oneCell'=true:=by
 intro u hu;simp only[cells,List.mem_flatMap,enc]at hu;obtain⟨x,_,a⟩:=hu;simp at a;rcases a with rfl|rfl|rfl<;>rfl
theorem mD(l:List El)(i:Nat)(h:El)(a:i<l.length):cells (l.set i h)=((((cells l).set (i*3) (.int .u64 (h.1:Int))).set (i*3+1) (.int .u64 (h.2.1:Int))).set (i*3+2) (.int .u64 (h.2.2:Int))):=by
 induction l generalizing i with
 |nil=>simp at a
 |cons x l ih=>
  cases i with
  |zero=>simp[cells,enc]
  |succ i=>
   have:=ih i (by simpa using a);rw[show(i+1)*3=i*3+3 by omega];simp only[cells,GV,Ha,enc]at*
   simpa using this
structure aJ(w:World)(v:Value)(l:List El):Prop where
 form:∃p cap,v=.slice p l.length cap/\(l.length<=cap/\cap<=9223372036854775807)/\(p=none->cap=0)/\(0<l.length->∃b off,p=some ⟨b,off,none⟩/\∀j,j<l.length*3->w.cell? ⟨b,off+j,none⟩=(cells l)[j]?)
theorem aJ.below{w w':World}{v:Value}{l:List El}(h:aJ w v l)(k:Below w.heap.size w w'):aJ w' v l:=by
 obtain⟨p,cap,e,f,g,hp⟩:=h.form;refine⟨p,cap,e,f,g,fun h0=>?_⟩;obtain⟨b,off,c,i⟩:=hp h0;refine⟨b,off,c,fun j d=>?_⟩;have a:=i j d;rw[GS (by rw[bz];exact d)]at a⊢;rw[k.cell (p:=⟨b,off+j,none⟩) (Ib a)];exact a
theorem aJ.grown{w w':World}{v:Value}{l:List El}{row:Option Nat}(h:aJ w v l)(k:w.grownBy w' row)(d:0<l.length->v.ownBlock≠row):aJ w' v l:=by
 obtain⟨p,cap,e,g,i,hp⟩:=h.form;refine⟨p,cap,e,g,i,fun h0=>?_⟩;obtain⟨b,off,a,m⟩:=hp h0;refine⟨b,off,a,fun j f=>?_⟩;have c:=m j f;rw[GS (by rw[bz];exact f)]at c⊢;refine k.cell c ?_;have:=d h0;rw[e,a]at this;exact this
theorem aJ.at{w:World}{b off cap:Nat}{l:List El}(h:aJ w (.slice (some ⟨b,off,none⟩) l.length cap) l)(i:Nat)(g:i<l.length)(j:Nat)(f:j<3):
 w.cell? ⟨b,off+i*3+j,none⟩=(enc (l.getD i default))[j]?:=by
 obtain⟨m,e,d,n,hz,hp⟩:=h.form;obtain⟨o,c,a,k⟩:=hp (by omega);subst a;simp only[Hc,GO,Im,Jj,Jg]at d;obtain⟨⟨rfl,rfl⟩,rfl⟩:=d;rw[Nat.add_assoc,k (i*3+j) (by omega),iY l i j g f]
theorem aJ.some{w:World}{v:Value}{l:List El}(h:aJ w v l)(h0:0<l.length):∃b off cap,v=.slice (some ⟨b,off,none⟩) l.length cap:=by
 obtain⟨p,cap,a,-,-,hp⟩:=h.form;obtain⟨b,off,rfl,-⟩:=hp h0;exact⟨b,off,cap,a⟩
theorem aJ.slice{w:World}{v:Value}{l:List El}(h:aJ w v l):∃p cap,v=.slice p l.length cap:=by
 obtain⟨p,cap,a,-⟩:=h.form;exact⟨p,cap,a⟩
theorem ec(w:World):aJ w (.slice none 0 0) []:=⟨none,0,rfl,by decide,fun _=>rfl,fun h=>absurd h (by decide)⟩
theorem info:(Tryz.prog.info? 204).map (fun i=>(i.zero,i.size,i.bytes))=some (some (.agg #[.int .u64 0,.int .u64 0,.int .u64 0]),3,24):=by kernel_rfl
def Own(base:Nat)(w:World)(v:Value)(l:List El):Prop:=w.ownsRow base 204 3 v l.length (cells l)
theorem Own.form{base:Nat}{w:World}{v:Value}{l:List El}(h:Own base w v l):(v=.slice none 0 0/\l=[])\/∃g cap,v=.slice (some ⟨g,0,none⟩) l.length cap/\base<=g/\g<w.heap.size/\l.length<=cap/\cap<=9223372036854775807:=by
 rcases h.2 with⟨a,h0⟩|⟨g,cap,cur,a,c,b,e,d,i,f⟩
 ·exact GJ ⟨a,Hk h0⟩
 ·exact GL ⟨g,cap,a,c,GN b,e,d⟩
theorem Own.aP{base:Nat}{w:World}{v:Value}{l:List El}(h:Own base w v l):aJ w v l:=by
 rcases h.2 with⟨a,h0⟩|⟨g,cap,cur,a,i,c,f,e,k,d⟩
 ·exact⟨none,0,by rw[a,h0],by omega,fun _=>rfl,fun h=>absurd h (by omega)⟩
 ·refine⟨some ⟨g,0,none⟩,cap,a,⟨f,e⟩,fun h=>by simp at h,fun _=>⟨g,0,rfl,fun j b=>?_⟩⟩;rw[H8,Iq _ g j cur 204 (0,0) c,<-d,Ij,GU b,It]
theorem Own.grown{base:Nat}{w w':World}{v:Value}{l:List El}{row:Option Nat}(h:Own base w v l)(b:w.grownBy w' row)(a:v.ownBlock=none\/v.ownBlock≠row):Own base w' v l:=h.kept b a
theorem Own.below{base:Nat}{w w':World}{v:Value}{l:List El}(h:Own base w v l)(a:Below w.heap.size w w'):Own base w' v l:=
 h.grown (row:=none) (bt a none) (by cases b:v.ownBlock<;>simp)
theorem Own.from{base base':Nat}{w:World}{v:Value}{l:List El}(h:Own base w v l)(c:base'<=base):Own base' w v l:=by
 refine⟨h.1,?_⟩;rcases h.2 with d|⟨g,cap,cur,a,b,r⟩
 ·exact GJ d
 ·exact GL ⟨g,cap,cur,a,GR c b,r⟩
theorem cU(base:Nat)(w:World):Own base w (.slice none 0 0) []:=⟨rfl,GJ ⟨rfl,rfl⟩⟩
theorem kb(w:World)(base:Nat)(a:base<=w.heap.size):Own base (w.alloc (.cells #[] 204)) (.slice (some ⟨w.heap.size,0,none⟩) 0 0) []:=
 ⟨rfl,GL ⟨w.heap.size,0,#[],rfl,a,GM _ _,GH _,G7 _,rfl,rfl⟩⟩
theorem aA{w:World}{ops:Array Oper}{rest:List Oper}{o:Oper}{a:Act}{Q:Exit->Act->World->Prop}(m:o.guard=none)(s x:Operand)
 (F:o.op=.call {callee:=.builtin .append,args:=#[s,x],argTypes:=#[76,76]})
 (base:Nat) (v:Value) (l1:List El) (hs:a.eval s=v) (d:Own base w v l1)
 (D:Value) (e:List El) (E:a.eval x=D) (K:aJ w D e) (hlen:l1.length+e.length<=1000000) (l:base<=w.heap.size)
 (h:∀q w',Own base w' q (l1++e)->Below base w w'->w.grownBy w' v.ownBlock->wpList Tryz.prog ops Q rest (a.put o.dst q) w'):wpList Tryz.prog ops Q (o::rest) a w:=by
 obtain⟨i0,H,y,t,r⟩:=info_parts info;obtain⟨p,cap,rfl,_,I,hp⟩:=K.form;cases p with
 |none=>
  obtain rfl:=I rfl;have z:e.length=0:=by
   rcases IB e.length with h0|h0
   ·exact h0
   ·obtain⟨b,off,he,_⟩:=hp h0;simp at he
  obtain rfl:e=[]:=Hk z;refine wpList_append_own_none m s x 76 F base 204 i0 3 Tryz.underlying76 H v l1.length (cells l1) hs d E ?_;refine h v w ?_ (GF _ _) (World.grownBy.refl _ _);simpa using d
 |some ad=>
  refine wpList_append_own w m s x 76 F base 204 i0 (.agg #[.int .u64 0,.int .u64 0,.int .u64 0]) 3 24 Tryz.underlying76 H y t r rfl (by decide) v l1.length (cells l1) hs d ad e.length cap (cells e) E (bz _) ?_ (kt e) (by unfold maxLen;omega) (by omega) l ?_
  ·intro j u B;have A:j<e.length*3:=by
    rcases Hi j (e.length*3)with C|C
    ·exact C
    ·rw[He (by rw[bz];exact C)]at B;simp at B
   obtain⟨b,off,he,J⟩:=hp (by omega);obtain rfl:=GZ he;have n:(⟨b,off,none⟩:Addr).add j=⟨b,off+j,none⟩:=by unfold Addr.add;split<;>simp_all
   rw[n,J j A,B]
  ·intro q w' f i _;rw[<-gC,<-GI]at f;refine h q w' f ((GF _ _).grown i l ?_) i;intro k G;rcases d.2 with⟨rfl,_⟩|⟨g,c,cur,rfl,L,_⟩
   ·simp[Value.ownBlock]at G
   ·simp only[Value.ownBlock,GO]at G;omega
theorem wU(w:World)(h:El)(t:TypeId):aJ (w.alloc (.cells (enc h).toArray t)) (.slice (some ⟨w.heap.size,0,none⟩) 1 1) [h]:=by
 refine⟨_,1,rfl,⟨GH 1,by omega⟩,fun h=>by simp at h,fun _=>⟨w.heap.size,0,rfl,fun j a=>?_⟩⟩;rw[H8,Iq _ _ j _ _ (0,0) (GM _ _)];simp[cells]
theorem Own.stored{base g cap:Nat}{w:World}{l:List El}(h:Own base w (.slice (some ⟨g,0,none⟩) l.length cap) l)(i:Nat)(b:i<l.length)(x:El):
 Own base (((w.setCell ⟨g,i*3,none⟩ (.int .u64 (x.1:Int))).setCell ⟨g,i*3+1,none⟩ (.int .u64 (x.2.1:Int))).setCell ⟨g,i*3+2,none⟩ (.int .u64 (x.2.2:Int))) (.slice (some ⟨g,0,none⟩) l.length cap) (l.set i x)/\w.grownBy (((w.setCell ⟨g,i*3,none⟩ (.int .u64 (x.1:Int))).setCell ⟨g,i*3+1,none⟩ (.int .u64 (x.2.1:Int))).setCell ⟨g,i*3+2,none⟩ (.int .u64 (x.2.2:Int))) (some g):=by
 obtain⟨a0,c⟩:=World.ownsRow.stored h (i*3) (.int .u64 (x.1:Int));obtain⟨d,b1⟩:=World.ownsRow.stored a0 (i*3+1) (.int .u64 (x.2.1:Int));obtain⟨a,b2⟩:=World.ownsRow.stored d (i*3+2) (.int .u64 (x.2.2:Int));rw[<-mD l i x b]at a;exact⟨by unfold Own;rw[G4];exact a,(bg (bg c b1) b2)⟩
end Go.Proofs.YtbpodmallknhfaaGreat.pE
namespace Go.Proofs.YtbpodmallknhfaaGreat.eR
open Go.RowKit Go.Proofs.YtbpodmallknhfaaGreat.Lr
abbrev El:=Di
def enc(c:El):List Value:=[.int .u32 (c.1:Int),.int .u64 (c.2:Int)]
def cells(l:List El):List Value:=l.flatMap enc
theorem bz:∀l:List El,(cells l).length=l.length*2
 | []=>rfl
 |h::l=>by
  have:=bz l;simp only[cells,Ha,GI,G2]at*
  simp only[enc,G2,Hz];omega
theorem gC(a b:List El):cells (a++b)=cells a++cells b:=by simp[cells]
theorem iY:∀(l:List El)(i j:Nat),i<l.length->j<2->(cells l)[i*2+j]?=(enc (l.getD i default))[j]?
 | [],i,_,h,_=>by simp at h
 |x::l,0,j,_,hj=>by
  simp only[cells,Ha,Nat.zero_mul,H8];rw[Ig (by simpa[enc]using hj)];rfl
 |x::l,i+1,j,h,hj=>by
  have:=iY l i j (by simpa using h) hj;simp only[cells,Ha]at*
  rw[Hy (by simp only[enc,G2,Hz];omega)];rw[show(i+1)*2+j-(enc x).length=i*2+j by simp only[enc,G2,Hz];omega,this];simp
theorem kt(l:List El):∀u∈cells l,u.oneCell'=true:=by
 intro u hu;simp only[cells,List.mem_flatMap,enc]at hu;obtain⟨x,_,a⟩:=hu;simp at a;rcases a with rfl|rfl<;>rfl
theorem mD(l:List El)(i:Nat)(h:El)(a:i<l.length):cells (l.set i h)=(((cells l).set (i*2) (.int .u32 (h.1:Int))).set (i*2+1) (.int .u64 (h.2:Int))):=by
 induction l generalizing i with
 |nil=>simp at a
 |cons x l ih=>
  cases i with
  |zero=>simp[cells,enc]
  |succ i=>
   have:=ih i (by simpa using a);rw[show(i+1)*2=i*2+2 by omega];simp only[cells,GV,Ha,enc]at*
   simpa using this
structure aJ(w:World)(v:Value)(l:List El):Prop where
 form:∃p cap,v=.slice p l.length cap/\(l.length<=cap/\cap<=9223372036854775807)/\(p=none->cap=0)/\(0<l.length->∃b off,p=some ⟨b,off,none⟩/\∀j,j<l.length*2->w.cell? ⟨b,off+j,none⟩=(cells l)[j]?)
theorem aJ.below{w w':World}{v:Value}{l:List El}(h:aJ w v l)(k:Below w.heap.size w w'):aJ w' v l:=by
 obtain⟨p,cap,e,f,g,hp⟩:=h.form;refine⟨p,cap,e,f,g,fun h0=>?_⟩;obtain⟨b,off,c,i⟩:=hp h0;refine⟨b,off,c,fun j d=>?_⟩;have a:=i j d;rw[GS (by rw[bz];exact d)]at a⊢;rw[k.cell (p:=⟨b,off+j,none⟩) (Ib a)];exact a
theorem aJ.grown{w w':World}{v:Value}{l:List El}{row:Option Nat}(h:aJ w v l)(k:w.grownBy w' row)(d:0<l.length->v.ownBlock≠row):aJ w' v l:=by
 obtain⟨p,cap,e,g,i,hp⟩:=h.form;refine⟨p,cap,e,g,i,fun h0=>?_⟩;obtain⟨b,off,a,m⟩:=hp h0;refine⟨b,off,a,fun j f=>?_⟩;have c:=m j f;rw[GS (by rw[bz];exact f)]at c⊢;refine k.cell c ?_;have:=d h0;rw[e,a]at this;exact this
theorem aJ.at{w:World}{b off cap:Nat}{l:List El}(h:aJ w (.slice (some ⟨b,off,none⟩) l.length cap) l)(i:Nat)(g:i<l.length)(j:Nat)(f:j<2):
 w.cell? ⟨b,off+i*2+j,none⟩=(enc (l.getD i default))[j]?:=by
 obtain⟨m,e,d,n,hz,hp⟩:=h.form;obtain⟨o,c,a,k⟩:=hp (by omega);subst a;simp only[Hc,GO,Im,Jj,Jg]at d;obtain⟨⟨rfl,rfl⟩,rfl⟩:=d;rw[Nat.add_assoc,k (i*2+j) (by omega),iY l i j g f]
theorem aJ.some{w:World}{v:Value}{l:List El}(h:aJ w v l)(h0:0<l.length):∃b off cap,v=.slice (some ⟨b,off,none⟩) l.length cap:=by
 obtain⟨p,cap,a,-,-,hp⟩:=h.form;obtain⟨b,off,rfl,-⟩:=hp h0;exact⟨b,off,cap,a⟩
theorem aJ.slice{w:World}{v:Value}{l:List El}(h:aJ w v l):∃p cap,v=.slice p l.length cap:=by
 obtain⟨p,cap,a,-⟩:=h.form;exact⟨p,cap,a⟩
theorem ec(w:World):aJ w (.slice none 0 0) []:=⟨none,0,rfl,by decide,fun _=>rfl,fun h=>absurd h (by decide)⟩
theorem info:(Tryz.prog.info? 104).map (fun i=>(i.zero,i.size,i.bytes))=some (some (.agg #[.int .u32 0,.int .u64 0]),2,16):=by kernel_rfl
def Own(base:Nat)(w:World)(v:Value)(l:List El):Prop:=w.ownsRow base 104 2 v l.length (cells l)
theorem Own.form{base:Nat}{w:World}{v:Value}{l:List El}(h:Own base w v l):(v=.slice none 0 0/\l=[])\/∃g cap,v=.slice (some ⟨g,0,none⟩) l.length cap/\base<=g/\g<w.heap.size/\l.length<=cap/\cap<=9223372036854775807:=by
 rcases h.2 with⟨a,h0⟩|⟨g,cap,cur,a,c,b,e,d,i,f⟩
 ·exact GJ ⟨a,Hk h0⟩
 ·exact GL ⟨g,cap,a,c,GN b,e,d⟩
theorem Own.aP{base:Nat}{w:World}{v:Value}{l:List El}(h:Own base w v l):aJ w v l:=by
 rcases h.2 with⟨a,h0⟩|⟨g,cap,cur,a,i,c,f,e,k,d⟩
 ·exact⟨none,0,by rw[a,h0],by omega,fun _=>rfl,fun h=>absurd h (by omega)⟩
 ·refine⟨some ⟨g,0,none⟩,cap,a,⟨f,e⟩,fun h=>by simp at h,fun _=>⟨g,0,rfl,fun j b=>?_⟩⟩;rw[H8,Iq _ g j cur 104 (0,0) c,<-d,Ij,GU b,It]
theorem Own.grown{base:Nat}{w w':World}{v:Value}{l:List El}{row:Option Nat}(h:Own base w v l)(b:w.grownBy w' row)(a:v.ownBlock=none\/v.ownBlock≠row):Own base w' v l:=h.kept b a
theorem Own.below{base:Nat}{w w':World}{v:Value}{l:List El}(h:Own base w v l)(a:Below w.heap.size w w'):Own base w' v l:=
 h.grown (row:=none) (bt a none) (by cases b:v.ownBlock<;>simp)
theorem Own.from{base base':Nat}{w:World}{v:Value}{l:List El}(h:Own base w v l)(c:base'<=base):Own base' w v l:=by
 refine⟨h.1,?_⟩;rcases h.2 with d|⟨g,cap,cur,a,b,r⟩
 ·exact GJ d
 ·exact GL ⟨g,cap,cur,a,GR c b,r⟩
theorem cU(base:Nat)(w:World):Own base w (.slice none 0 0) []:=⟨rfl,GJ ⟨rfl,rfl⟩⟩
theorem kb(w:World)(base:Nat)(a:base<=w.heap.size):Own base (w.alloc (.cells #[] 104)) (.slice (some ⟨w.heap.size,0,none⟩) 0 0) []:=
 ⟨rfl,GL ⟨w.heap.size,0,#[],rfl,a,GM _ _,GH _,G7 _,rfl,rfl⟩⟩
theorem aA{w:World}{ops:Array Oper}{rest:List Oper}{o:Oper}{a:Act}{Q:Exit->Act->World->Prop}(m:o.guard=none)(s x:Operand)
 (F:o.op=.call {callee:=.builtin .append,args:=#[s,x],argTypes:=#[66,66]})
 (base:Nat) (v:Value) (l1:List El) (hs:a.eval s=v) (d:Own base w v l1)
 (D:Value) (e:List El) (E:a.eval x=D) (K:aJ w D e) (hlen:l1.length+e.length<=1000000) (l:base<=w.heap.size)
 (h:∀q w',Own base w' q (l1++e)->Below base w w'->w.grownBy w' v.ownBlock->wpList Tryz.prog ops Q rest (a.put o.dst q) w'):wpList Tryz.prog ops Q (o::rest) a w:=by
 obtain⟨i0,H,y,t,r⟩:=info_parts info;obtain⟨p,cap,rfl,_,I,hp⟩:=K.form;cases p with
 |none=>
  obtain rfl:=I rfl;have z:e.length=0:=by
   rcases IB e.length with h0|h0
   ·exact h0
   ·obtain⟨b,off,he,_⟩:=hp h0;simp at he
  obtain rfl:e=[]:=Hk z;refine wpList_append_own_none m s x 66 F base 104 i0 2 Tryz.underlying66 H v l1.length (cells l1) hs d E ?_;refine h v w ?_ (GF _ _) (World.grownBy.refl _ _);simpa using d
 |some ad=>
  refine wpList_append_own w m s x 66 F base 104 i0 (.agg #[.int .u32 0,.int .u64 0]) 2 16 Tryz.underlying66 H y t r rfl (by decide) v l1.length (cells l1) hs d ad e.length cap (cells e) E (bz _) ?_ (kt e) (by unfold maxLen;omega) (by omega) l ?_
  ·intro j u B;have A:j<e.length*2:=by
    rcases Hi j (e.length*2)with C|C
    ·exact C
    ·rw[He (by rw[bz];exact C)]at B;simp at B
   obtain⟨b,off,he,J⟩:=hp (by omega);obtain rfl:=GZ he;have n:(⟨b,off,none⟩:Addr).add j=⟨b,off+j,none⟩:=by unfold Addr.add;split<;>simp_all
   rw[n,J j A,B]
  ·intro q w' f i _;rw[<-gC,<-GI]at f;refine h q w' f ((GF _ _).grown i l ?_) i;intro k G;rcases d.2 with⟨rfl,_⟩|⟨g,c,cur,rfl,L,_⟩
   ·simp[Value.ownBlock]at G
   ·simp only[Value.ownBlock,GO]at G;omega
theorem wU(w:World)(h:El)(t:TypeId):aJ (w.alloc (.cells (enc h).toArray t)) (.slice (some ⟨w.heap.size,0,none⟩) 1 1) [h]:=by
 refine⟨_,1,rfl,⟨GH 1,by omega⟩,fun h=>by simp at h,fun _=>⟨w.heap.size,0,rfl,fun j a=>?_⟩⟩;rw[H8,Iq _ _ j _ _ (0,0) (GM _ _)];simp[cells]
theorem Own.stored{base g cap:Nat}{w:World}{l:List El}(h:Own base w (.slice (some ⟨g,0,none⟩) l.length cap) l)(i:Nat)(b:i<l.length)(x:El):
 Own base ((w.setCell ⟨g,i*2,none⟩ (.int .u32 (x.1:Int))).setCell ⟨g,i*2+1,none⟩ (.int .u64 (x.2:Int))) (.slice (some ⟨g,0,none⟩) l.length cap) (l.set i x)/\w.grownBy ((w.setCell ⟨g,i*2,none⟩ (.int .u32 (x.1:Int))).setCell ⟨g,i*2+1,none⟩ (.int .u64 (x.2:Int))) (some g):=by
 obtain⟨a0,c⟩:=World.ownsRow.stored h (i*2) (.int .u32 (x.1:Int));obtain⟨a,b1⟩:=World.ownsRow.stored a0 (i*2+1) (.int .u64 (x.2:Int));rw[<-mD l i x b]at a;exact⟨by unfold Own;rw[G4];exact a,(bg c b1)⟩
end Go.Proofs.YtbpodmallknhfaaGreat.eR
namespace Go.Proofs.YtbpodmallknhfaaGreat
open Go.RowKit
theorem _root_.Go.RowKit.Below.goN{c:Nat}{a b:World}(h:Below c a b)(n:Nat):Below c a (b.drewN n):=⟨h.os,h.tape,h.output,h.size,fun k d=>h.block k d⟩
theorem _root_.Go.RowKit.Below.ij{c:Nat}{a b:World}(h:Below c a b):Below c a b.drew:=⟨h.os,h.tape,h.output,h.size,fun k d=>h.block k d⟩
abbrev cz(x:Lr.R)(o n u c d:Value):Value:=.agg #[.int .i64 x.kind,.int .u64 (x.bl:Int),.int .u32 (x.an:Int),.int .u64 (x.bn:Int),.int .u32 (x.aw:Int),.int .u16 (x.off:Int),o,n,u,.int .u64 (x.prev:Int),.int .u64 (x.next:Int),.bool x.lj,.int .u64 (x.aV:Int),c,d]
def az(x:Lr.R)(o n u c d:Value):Obj:=.cells #[.int .i64 x.kind,.int .u64 (x.bl:Int),.int .u32 (x.an:Int),.int .u64 (x.bn:Int),.int .u32 (x.aw:Int),.int .u16 (x.off:Int),o,n,u,.int .u64 (x.prev:Int),.int .u64 (x.next:Int),.bool x.lj,.int .u64 (x.aV:Int),c,d] 78
def BL:Obj:=.cells #[.int .i64 0,.int .u64 0,.int .u32 0,.int .u64 0,.int .u32 0,.int .u16 0,.slice none 0 0,.slice none 0 0,.slice none 0 0,.int .u64 0,.int .u64 0,.bool false,.int .u64 0,.slice none 0 0,.slice none 0 0] 78
structure bm(w:World)(x:Lr.R)(o n u c d:Value):Prop where
 old:aJ w o x.old
 new:aJ w n x.new
 bI:aJ w u x.bI
 dH:pE.aJ w c x.dH
 cq:eR.aJ w d x.cq
 ok:Lr.Ok x
section
variable{base base':Nat}{w w':World}{x:Lr.R}{o n u c d:Value}
theorem bm.below(h:bm w x o n u c d)(a:Below w.heap.size w w'):bm w' x o n u c d:=⟨h.old.below a,h.new.below a,h.bI.below a,h.dH.below a,h.cq.below a,h.ok⟩
theorem aJ.slice{v:Value}{l:List Nat}(h:aJ w v l):∃p cap,v=.slice p l.length cap:=by
 obtain⟨p,cap,a,-⟩:=h.form;exact⟨p,cap,a⟩
theorem au(h:bm w x o n u c d):∃g c1 f c2 e c3 b c4 a c5,o=.slice g x.old.length c1/\n=.slice f x.new.length c2/\u=.slice e x.bI.length c3/\c=.slice b x.dH.length c4/\d=.slice a x.cq.length c5:=by
 obtain⟨g,c1,m⟩:=h.old.slice;obtain⟨f,c2,l⟩:=h.new.slice;obtain⟨e,c3,k⟩:=h.bI.slice;obtain⟨b,c4,j⟩:=h.dH.slice;obtain⟨a,c5,i⟩:=h.cq.slice;exact⟨g,c1,f,c2,e,c3,b,c4,a,c5,m,l,k,j,i⟩
end
theorem aq{w:World}{B:Nat}{a0 j i a3 a4 a5 a6 g f a9 e d c b a:Value}{T:TypeId}(h:w.heap[B]?=some (.cells #[a0,j,i,a3,a4,a5,a6,g,f,a9,e,d,c,b,a] T (0,0))):w.cell? ⟨B,0,none⟩=some a0/\w.cell? ⟨B,1,none⟩=some j/\w.cell? ⟨B,2,none⟩=some i/\w.cell? ⟨B,3,none⟩=some a3/\w.cell? ⟨B,4,none⟩=some a4/\w.cell? ⟨B,5,none⟩=some a5/\w.cell? ⟨B,6,none⟩=some a6/\w.cell? ⟨B,7,none⟩=some g/\w.cell? ⟨B,8,none⟩=some f/\w.cell? ⟨B,9,none⟩=some a9/\w.cell? ⟨B,10,none⟩=some e/\w.cell? ⟨B,11,none⟩=some d/\w.cell? ⟨B,12,none⟩=some c/\w.cell? ⟨B,13,none⟩=some b/\w.cell? ⟨B,14,none⟩=some a:=by
 refine⟨?_,?_,?_,?_,?_,?_,?_,?_,?_,?_,?_,?_,?_,?_,?_⟩<;>simp[World.cell?,h]
theorem nW{w:World}{B:Nat}{A:Array Value}{T:TypeId}(h:w.heap[B]?=some (.cells A T (0,0)))(i:Nat):w.frozen? ⟨B,i,none⟩=false:=by simp[World.frozen?,h]
theorem wm{w:World}{B i:Nat}{A:Array Value}{T:TypeId}(v:Value)(h:w.heap[B]?=some (.cells A T (0,0))):(w.setCell ⟨B,i,none⟩ v).heap[B]?=some (.cells (A.setIfInBounds i v) T (0,0)):=by
 have hlt:=GN h;have a:w.heap[B]=.cells A T (0,0):=by simpa[Hq hlt]using h
 show(w.heap.modify B _)[B]?=_;rw[Hq (by simpa using hlt),IM,a];rfl
theorem dd(w:World)(x:Lr.R)(o n u c d:Value):(w.alloc (az x o n u c d)).heap[w.heap.size]?=some (.cells #[.int .i64 x.kind,.int .u64 (x.bl:Int),.int .u32 (x.an:Int),.int .u64 (x.bn:Int),.int .u32 (x.aw:Int),.int .u16 (x.off:Int),o,n,u,.int .u64 (x.prev:Int),.int .u64 (x.next:Int),.bool x.lj,.int .u64 (x.aV:Int),c,d] 78 (0,0)):=GM _ _
theorem Fx(w:World):(w.alloc BL).heap[w.heap.size]?=some (.cells #[.int .i64 0,.int .u64 0,.int .u32 0,.int .u64 0,.int .u32 0,.int .u16 0,.slice none 0 0,.slice none 0 0,.slice none 0 0,.int .u64 0,.int .u64 0,.bool false,.int .u64 0,.slice none 0 0,.slice none 0 0] 78 (0,0)):=GM _ _
theorem ae(w:World)(o:Obj):Below w.heap.size w (w.alloc o):=(GF _ _).alloc (GH _) _
theorem iO{a b:Bool}(h:a=b):Ending.returned (.bool a)=.returned (.bool b):=by rw[h]
def Lay(A:Array Value):List (Nat×Nat×Value)->(Nat->Bool)->Array Value
 | [],_=>A
 |s::S,D=>Lay (if D s.1=true then A.setIfInBounds s.2.1 s.2.2 else A) S D
def rR:List (Nat×Nat×Value)->Bool
 | []=>true
 |s::S=>(S.all fun a=>a.1 !=s.1&&a.2.1 !=s.2.1)&&rR S
theorem oI{S:List (Nat×Nat×Value)}{D:Nat->Bool}{k:Nat}:∀(A:Array Value),(S.all fun s=>s.1 !=k)=true->Lay A S (Ord.bB D k)=Lay A S D:=by
 induction S with
 |nil=>intro A _;rfl
 |cons s S ih=>
  intro A h;simp only[List.all_cons,Hs,IZ,ne_eq]at h;unfold Lay;rw[show Ord.bB D k s.1=D s.1 from GQ h.1];exact ih _ h.2
theorem Cm{S:List (Nat×Nat×Value)}{D:Nat->Bool}{i:Nat}{v:Value}:∀(A:Array Value),(S.all fun s=>s.2.1 !=i)=true->Lay (A.setIfInBounds i v) S D=(Lay A S D).setIfInBounds i v:=by
 induction S with
 |nil=>intro A _;rfl
 |cons s S ih=>
  intro A h;simp only[List.all_cons,Hs,IZ,ne_eq]at h;unfold Lay;split
  ·rw[Array.setIfInBounds_comm _ _ (H4 h.1)];exact ih _ h.2
  ·exact ih _ h.2
theorem Cn{S:List (Nat×Nat×Value)}{D:Nat->Bool}{k i:Nat}{v:Value}:∀(A:Array Value),rR S=true->(k,i,v)∈S->D k=false->Lay A S (Ord.bB D k)=(Lay A S D).setIfInBounds i v:=by
 induction S with
 |nil=>intro A _ h;cases h
 |cons s S ih=>
  intro A c hm f;unfold rR at c;rw[Hs]at c;have a:=List.all_eq_true.1 c.1;simp only[Hs,IZ,ne_eq]at a;rcases List.mem_cons.1 hm with h|h
  ·subst h;unfold Lay;rw[show Ord.bB D k (k,i,v).1=true from GU rfl,GU rfl];simp only[f,Bool.false_eq_true,if_false];rw[oI _ (List.all_eq_true.2 fun d b=>by simp only[IZ,ne_eq];exact(a d b).1)];exact Cm _ (List.all_eq_true.2 fun d b=>by simp only[IZ,ne_eq];exact(a d b).2)
  ·unfold Lay;have g:=a _ h;rw[show Ord.bB D k s.1=D s.1 from GQ (fun e=>g.1 e.symm)];exact ih _ c.2 h f
theorem lI{S:List (Nat×Nat×Value)}{D:Nat->Bool}:∀(A:Array Value),(∀s∈S,D s.1=true)->Lay A S D=Lay A S (fun _=>true):=by
 induction S with
 |nil=>intro A _;rfl
 |cons s S c=>
  intro A h;unfold Lay;rw[h s (Hr ..),GU rfl];exact c _ fun b a=>h b (Hx _ a)
theorem AU{S:List (Nat×Nat×Value)}:∀(A:Array Value),Lay A S (fun _=>false)=A:=by
 induction S with
 |nil=>intro A;rfl
 |cons s S ih=>intro A;unfold Lay;exact ih _
structure eD(W:World)(B:Nat)(A:Array Value)(T:TypeId)(S:List (Nat×Nat×Value))(D:Nat->Bool)(w:World):Prop where
 grown:W.grownBy w (some B)
 row:w.heap[B]?=some (.cells (Lay A S D) T (0,0))
section
variable{W w:World}{B k i:Nat}{A:Array Value}{T:TypeId}{S:List (Nat×Nat×Value)}{D:Nat->Bool}{v:Value}
theorem eD.first(h:W.heap[B]?=some (.cells A T (0,0))):eD W B A T S (fun _=>false) W.drew:=⟨eY W _,by rw[AU];exact h⟩
theorem eD.skip(h:eD W B A T S D w)(a:(S.all fun s=>s.1 !=k)=true):eD W B A T S (Ord.bB D k) w:=⟨h.grown,by rw[oI _ a];exact h.row⟩
theorem eD.put(h:eD W B A T S D w)(k i:Nat)(v:Value)(a:rR S=true)(hm:(k,i,v)∈S)(b:D k=false):eD W B A T S (Ord.bB D k) (w.setCell ⟨B,i,none⟩ v):=
 ⟨bg h.grown (aU _ _ _ _),by rw[Cn _ a hm b];exact wm v h.row⟩
theorem eD.free(h:eD W B A T S D w)(i:Nat):w.frozen? ⟨B,i,none⟩=false:=nW h.row i
theorem eD.cell(h:eD W B A T S D w){b o:Nat}{u:Value}(a:W.cell? ⟨b,o,none⟩=some u)(c:b≠B):w.cell? ⟨b,o,none⟩=some u:=h.grown.cell a (fun e=>c (GZ e))
theorem AT{S:List (Nat×Nat×Value)}{D:Nat->Bool}:∀(A:Array Value),(Lay A S D).size=A.size:=by
 induction S with
 |nil=>intro A;rfl
 |cons s S ih=>intro A;unfold Lay;rw[ih];split<;>simp
theorem eD.there(h:eD W B A T S D w)(i:Nat)(a:i<A.size):∃u,w.cell? ⟨B,i,none⟩=some u:=by
 rw[Iq _ B i _ T (0,0) h.row];exact⟨_,Hq (by rw[AT];exact a)⟩
end
theorem aO(w:World):aJ w (.slice none 0 0) []:=(cU 0 w).aP
theorem ke{x:Lr.R}{y:Lr.R}(h:Lr.Ok x)(f:y.kind=x.kind:=by rfl)(p:y.bl=x.bl:=by rfl)(o:y.an=x.an:=by rfl)(n:y.bn=x.bn\/y.bn=0:=by first|exact GJ rfl|exact GL rfl)(m:y.aw=x.aw\/y.aw=0:=by first|exact GJ rfl|exact GL rfl)(l:y.off=x.off\/y.off=0:=by first|exact GJ rfl|exact GL rfl)
 (k:y.old=x.old\/y.old=[]:=by first|exact GJ rfl|exact GL rfl) (j:y.new=x.new\/y.new=[]:=by first|exact GJ rfl|exact GL rfl) (i:y.bI=x.bI\/y.bI=[]:=by first|exact GJ rfl|exact GL rfl) (g:y.prev=x.prev\/y.prev=0:=by first|exact GJ rfl|exact GL rfl) (d:y.next=x.next\/y.next=0:=by first|exact GJ rfl|exact GL rfl)
 (c:y.aV=x.aV\/y.aV=0:=by first|exact GJ rfl|exact GL rfl) (b:y.dH=x.dH\/y.dH=[]:=by first|exact GJ rfl|exact GL rfl) (a:y.cq=x.cq\/y.cq=[]:=by first|exact GJ rfl|exact GL rfl):Lr.Ok y:=by
 refine⟨by rw[f];exact h.kind,by rw[p];exact h.bl,by rw[o];exact h.an,?_,?_,?_,?_,?_,?_,?_,?_,?_,?_,?_⟩
 ·rcases n with e|e<;>rw[e];exact h.bn;decide
 ·rcases m with e|e<;>rw[e];exact h.aw;decide
 ·rcases l with e|e<;>rw[e];exact h.off;decide
 ·rcases k with e|e<;>rw[e];exact h.old;simp
 ·rcases j with e|e<;>rw[e];exact h.new;simp
 ·rcases i with e|e<;>rw[e];exact h.bI;simp
 ·rcases g with e|e<;>rw[e];exact h.prev;decide
 ·rcases d with e|e<;>rw[e];exact h.next;decide
 ·rcases c with e|e<;>rw[e];exact h.aV;decide
 ·rcases b with e|e<;>rw[e];exact h.dH;simp
 ·rcases a with e|e<;>rw[e];exact h.cq;simp
section
variable{ops:Array Oper}{rest:List Oper}{o:Oper}{a:Act}{w:World}{Q:Exit->Act->World->Prop}{K:Act->World->Prop}
theorem fL{A:Array Value}(h:A.size=15):(Tryz.prog.info? 78).map (·.size)=some A.size:=by rw[h];kernel_rfl
theorem bG(b:o.guard=none)(x:Operand)(d:o.op=.load 78 x)(g:Nat)(c:a.eval x=.pointer (some ⟨g,0,none⟩))(A:Array Value)(e:w.heap[g]?=some (.cells A 78 (0,0)))(hs:A.size=15)
 (h:wpList Tryz.prog ops Q rest (a.put o.dst (.agg A)) w):wpList Tryz.prog ops Q (o::rest) a w:=
 wpList_load_row b 78 x d g c _ _ _ _ e Tryz.underlying78 rfl (fL hs) h
theorem cO(c:o.guard=none)(x y:Operand)(k:o.op=.store 78 x y)(g:Nat)(j:a.eval x=.pointer (some ⟨g,0,none⟩))(A:Array Value)(f:a.eval y=.agg A)(old:Array Value)(d:w.heap[g]?=some (.cells old 78 (0,0)))(hs:A.size=15)(b:old.size=15)(m:A.all (·.oneCell')=true)
 (h:∀w',w'.heap[g]?=some (.cells A 78 (0,0))->w.grownBy w' (some g)->wpList Tryz.prog ops Q rest (a.put o.dst undef) w'):wpList Tryz.prog ops Q (o::rest) a w:=by
 refine wpList_store_row c 78 x y k g _ j f _ _ d (fL hs) (by rw[hs,b]) m (h _ (setRow_heap _ _ _ _ _ _ d) ?_);exact⟨rfl,rfl,rfl,by simp,fun i _ l=>setRow_other w g i _ (fun e=>l (by rw[e]))⟩
end
structure ef(base:Nat)(W:World)(P:Nat->World->Value->Prop)(til:Nat->Option Nat)(D:Nat->Bool)(xs:Nat->Value)(w:World):Prop where
 below:Below base W w
 size:base<=w.heap.size
 each:∀k,D k=true->(∀j,til k=some j->D j=false)->P k w (xs k)
section
variable{base:Nat}{W w w':World}{P:Nat->World->Value->Prop}{til:Nat->Option Nat}{D:Nat->Bool}{xs:Nat->Value}
theorem ef.first(xs:Nat->Value)(hs:base<=W.heap.size):ef base W P til (fun _=>false) xs W.drew:=⟨(GF _ _).ij,hs,fun _ h=>(by cases h)⟩
theorem ef.step(h:ef base W P til D xs w)(k:Nat)(v:Value)(a:∀k w w' v,P k w v->Below w.heap.size w w'->P k w' v)(b:Below w.heap.size w w')(hp:P k w' v):ef base W P til (Ord.bB D k) (Ord.set xs k v) w':=by
 refine⟨h.below.trans (b.mono h.size),GR h.size b.size,fun j c f=>?_⟩;by_cases e:j=k
 ·subst e;rw[show Ord.set xs j v j=v from GU rfl];exact hp
 ·rw[show Ord.set xs k v j=xs j from GQ e];rw[show Ord.bB D k j=D j from GQ e]at c;refine a _ _ _ _ (h.each j c fun i d=>?_) b;have:=f i d;unfold Ord.bB at this;split at this
  ·cases this
  ·exact this
theorem ef.append(h:ef base W P til D xs w)(k:Nat)(v:Value)(b:Below base w w')(c:∀j,j≠k->D j=true->(∀i,til j=some i->Ord.bB D k i=false)->P j w' (xs j))(hp:P k w' v):ef base W P til (Ord.bB D k) (Ord.set xs k v) w':=by
 refine⟨h.below.trans b,GR h.size b.size,fun j a d=>?_⟩;by_cases e:j=k
 ·subst e;rw[show Ord.set xs j v j=v from GU rfl];exact hp
 ·rw[show Ord.set xs k v j=xs j from GQ e];rw[show Ord.bB D k j=D j from GQ e]at a;exact c j e a d
theorem jA(D:Nat->Bool)(k:Nat):Ord.bB D k k=true:=GU rfl
end
theorem str_inj{a b:List Nat}(i:∀x∈a,x<256)(f:∀x∈b,x<256)(h:strOfNums (a.map fun x:Nat=>(x:Int))=strOfNums (b.map fun x:Nat=>(x:Int))):a=b:=by
 have c:=Ho (fun s:ByteArray=>s.data.toList.map UInt8.toNat) h;simp only[strOfNums_data,List.map_map]at c;have e:∀l:List Nat,(∀x∈l,x<256)->l.map (UInt8.toNat∘(fun n:Int=>UInt8.ofNat n.toNat)∘fun x:Nat=>(x:Int))=l:=by
  intro l hl;rw[List.map_congr_left (g:=id),List.map_id];intro x d;have:=hl x d;simp;omega
 rw[e a i,e b f]at c;exact c
theorem lk{α:Type} [Inhabited α](a b:List α)(d:α)(k:Nat)(hl:a.length=b.length)(e:k<a.length)(h:a.take k=b.take k)(c:a.getD k d=b.getD k d):a.take (k+1)=b.take (k+1):=by
 rw[Ih e,Ih (by omega),h];rw[GG,GS e,GG,GS (by omega)]at c;simp only[IH]at c;rw[c]
set_option maxHeartbeats 1600000 in
set_option maxRecDepth 20000 in
theorem aG(j i:Value)(a b:List Nat)(w:World)(d:aJ w j a)(c:aJ w i b):
 Calls Tryz.prog 99 #[j,i] w fun e w'=>e=.returned (.bool (decide (a=b)))/\w=w':=by
 have l:=fq d;have k:=fq c;have g:=fun h=>str_inj d.small c.small h;obtain⟨n,q,rfl,-,-,-⟩:=d.form;obtain⟨m,p,rfl,-,-,-⟩:=c.form;clear d c;by_cases h:a=b
 ·subst h;rw[GK rfl];clear g;generalize strOfNums (a.map fun x:Nat=>(x:Int))=S at*
  go_enter Tryz.func99,Tryz.ntmps99;go_wp2;go_ret;exact⟨rfl,rfl⟩
 ·rw[GY h];have f:=fun e=>h (g e);clear g;generalize strOfNums (a.map fun x:Nat=>(x:Int))=S at*
  generalize strOfNums (b.map fun x:Nat=>(x:Int))=T at*
  have o:(S.toList==T.toList)=false:=by
   rw[G6];intro e;rw[ByteArray.toList_eq,ByteArray.toList_eq]at e;exact f (Go.WideShapes.bytes_inj e)
  go_enter Tryz.func99,Tryz.ntmps99;go_wp2;go_ret;exact⟨rfl,rfl⟩
theorem pE.Be(x y:pE.El):x=y↔(x.1:Int)=(y.1:Int)/\(x.2.1:Int)=(y.2.1:Int)/\(x.2.2:Int)=(y.2.2:Int):=by
 constructor
 ·rintro rfl;exact⟨rfl,rfl,rfl⟩
 ·rintro⟨h0,b,a⟩;exact Prod.ext (by omega) (Prod.ext (by omega) (by omega))
set_option maxHeartbeats 3200000 in
set_option maxRecDepth 20000 in
theorem pE.gM(I H:Value)(a b:List pE.El)(w:World)(v:pE.aJ w I a)(u:pE.aJ w H b)(V:a.length<=1000000):
 Calls Tryz.prog 150 #[I,H] w fun e w'=>e=.returned (.bool (decide (a=b)))/\∃n,w'=w.drewN n:=by
 have G:=GD v;have F:=GD u;obtain⟨S,Z,rfl,O,-,h⟩:=v.form;obtain⟨R,Y,rfl,N,-,g⟩:=u.form;have E:=GD h;have D:=GD g;clear h g v u;obtain⟨r,t⟩:∃r,decide (a=b)=r:=⟨_,rfl⟩
 rw[t];have C:=GD t;clear t;by_cases s:a.length=b.length
 ·have H1:=GD s;go_enter Tryz.func150,Tryz.ntmps150;go_wp2_with fail
  clear s;go_loopw [13] (fun i wr=>∃k n:Nat,k<=a.length/\i=.int .i64 k/\a.take k=b.take k/\wr=w.drewN n) (fun i _=>a.length-(intOf i).toNat)
  case atStart=>exact⟨0,0,by omega,rfl,by simp,rfl⟩
  case round=>
   obtain⟨k,n,W,rfl,J,rfl⟩:=hrel;have M:=GD J;clear J;by_cases hlt:k<a.length
   ·have B:=GD (lk a b default k H1.out hlt M.out);have d:k<b.length:=by have:=H1.out;omega
    obtain⟨ba,U,rfl,-⟩:=E.out (by omega);obtain⟨bb,T,rfl,-⟩:=D.out (by omega);have z:=G.out.at k hlt 0 (by decide);have y:=G.out.at k hlt 1 (by decide);have x:=G.out.at k hlt 2 (by decide);have p:=F.out.at k d 0 (by decide);have o:=F.out.at k d 1 (by decide);have m:=F.out.at k d 2 (by decide);simp only[pE.enc,I9,Ji,Ia]at z y x p o m;by_cases c:a.getD k default=b.getD k default
    ·have hs:=B.out c;have A:=GD hs;rw[<-c]at p o m;clear hs c B;generalize((a.getD k default).1:Int)=x0 at*
     generalize((a.getD k default).2.1:Int)=x1 at*
     generalize((a.getD k default).2.2:Int)=x2 at*
     go_wp2;go_quiet (fail)
     go_wp2;go_roundw
     case rel=>exact⟨k+1,_,by omega,by go_num,A.out,rfl⟩
     case measure=>simp[intOf];omega
    ·have j:a≠b:=fun e=>c (by rw[e]);have q:=GD (C.out.symm.trans (GY j));rw[pE.Be]at c;clear j B;generalize((a.getD k default).1:Int)=x0 at*
     generalize((a.getD k default).2.1:Int)=x1 at*
     generalize((a.getD k default).2.2:Int)=x2 at*
     generalize((b.getD k default).1:Int)=y0 at*
     generalize((b.getD k default).2.1:Int)=y1 at*
     generalize((b.getD k default).2.2:Int)=y2 at*
     have f:(x0==y0)=false\/((x0==y0)=true/\(x1==y1)=false)\/((x0==y0)=true/\(x1==y1)=true/\(x2==y2)=false):=by
      simp only[G6,beq_iff_eq];omega
     clear c;rcases f with L|⟨L,Q⟩|⟨L,Q,X⟩
     all_goals
      go_wp2;go_quiet (fail)
      go_wp2;go_ret;exact⟨iO q.out.symm,_,World.drewN_drewN _ _ _⟩
   ·have l:decide (a=b)=true:=by
     rw[Jh];have K:=M.out;have s:=H1.out;rw[Hm (by omega),Hm (by omega)]at K;exact K
    have q:=GD (C.out.symm.trans l);have P:¬k<b.length:=by have:=H1.out;omega
    clear l;go_wp2_with fail
    go_ret;exact⟨iO q.out.symm,n,rfl⟩
 ·have l:decide (a=b)=false:=GY (fun e=>s (by rw[e]));have q:=GD (C.out.symm.trans l);clear l;go_enter Tryz.func150,Tryz.ntmps150;go_wp2_with fail
  go_ret;exact⟨iO q.out.symm,0,rfl⟩
theorem eR.Be(x y:eR.El):x=y↔(x.1:Int)=(y.1:Int)/\(x.2:Int)=(y.2:Int):=by
 constructor
 ·rintro rfl;exact⟨rfl,rfl⟩
 ·rintro⟨h0,a⟩;exact Prod.ext (by omega) (by omega)
set_option maxHeartbeats 3200000 in
set_option maxRecDepth 20000 in
theorem eR.gM(E D:Value)(a b:List eR.El)(w:World)(u:eR.aJ w E a)(t:eR.aJ w D b)(S:a.length<=1000000):
 Calls Tryz.prog 151 #[E,D] w fun e w'=>e=.returned (.bool (decide (a=b)))/\∃n,w'=w.drewN n:=by
 have J:=GD u;have I:=GD t;obtain⟨P,W,rfl,L,-,g⟩:=u.form;obtain⟨O,V,rfl,K,-,f⟩:=t.form;have C:=GD g;have B:=GD f;clear g f u t;obtain⟨r,s⟩:∃r,decide (a=b)=r:=⟨_,rfl⟩
 rw[s];have A:=GD s;clear s;by_cases q:a.length=b.length
 ·have H1:=GD q;go_enter Tryz.func151,Tryz.ntmps151;go_wp2_with fail
  clear q;go_loopw [13] (fun i wr=>∃k n:Nat,k<=a.length/\i=.int .i64 k/\a.take k=b.take k/\wr=w.drewN n) (fun i _=>a.length-(intOf i).toNat)
  case atStart=>exact⟨0,0,by omega,rfl,by simp,rfl⟩
  case round=>
   obtain⟨k,n,T,rfl,F,rfl⟩:=hrel;have H:=GD F;clear F;by_cases hlt:k<a.length
   ·have z:=GD (lk a b default k H1.out hlt H.out);have j:k<b.length:=by have:=H1.out;omega
    obtain⟨Y,R,rfl,-⟩:=C.out (by omega);obtain⟨X,Q,rfl,-⟩:=B.out (by omega);have x:=J.out.at k hlt 0 (by decide);have v:=J.out.at k hlt 1 (by decide);have o:=I.out.at k j 0 (by decide);have m:=I.out.at k j 1 (by decide);simp only[eR.enc,I9,Ji,Ia]at x v o m;by_cases c:a.getD k default=b.getD k default
    ·have hs:=z.out c;have y:=GD hs;rw[<-c]at o m;clear hs c z;generalize((a.getD k default).1:Int)=x0 at*
     generalize((a.getD k default).2:Int)=x1 at*
     go_wp2;go_quiet (fail)
     go_wp2;go_roundw
     case rel=>exact⟨k+1,_,by omega,by go_num,y.out,rfl⟩
     case measure=>simp[intOf];omega
    ·have h:a≠b:=fun e=>c (by rw[e]);have p:=GD (A.out.symm.trans (GY h));rw[eR.Be]at c;clear h z;generalize((a.getD k default).1:Int)=x0 at*
     generalize((a.getD k default).2:Int)=x1 at*
     generalize((b.getD k default).1:Int)=y0 at*
     generalize((b.getD k default).2:Int)=y1 at*
     have d:(x0==y0)=false\/((x0==y0)=true/\(x1==y1)=false):=by
      simp only[G6,beq_iff_eq];omega
     clear c;rcases d with N|⟨N,U⟩
     all_goals
      go_wp2;go_quiet (fail)
      go_wp2;go_ret;exact⟨iO p.out.symm,_,World.drewN_drewN _ _ _⟩
   ·have l:decide (a=b)=true:=by
     rw[Jh];have G:=H.out;have q:=H1.out;rw[Hm (by omega),Hm (by omega)]at G;exact G
    have p:=GD (A.out.symm.trans l);have M:¬k<b.length:=by have:=H1.out;omega
    clear l;go_wp2_with fail
    go_ret;exact⟨iO p.out.symm,n,rfl⟩
 ·have l:decide (a=b)=false:=GY (fun e=>q (by rw[e]));have p:=GD (A.out.symm.trans l);clear l;go_enter Tryz.func151,Tryz.ntmps151;go_wp2_with fail
  go_ret;exact⟨iO p.out.symm,0,rfl⟩
end Go.Proofs.YtbpodmallknhfaaGreat
namespace Go.Proofs.YtbpodmallknhfaaGreat
namespace Lr
noncomputable def same(x y:R):Bool:= @decide (x=y) (Classical.propDecidable _)
theorem qe{s t:R}(h:s=t):same s t=true:=by unfold same;exact @GK _ (_) h
theorem bV{s t:R}(h:s≠t):same s t=false:=by unfold same;exact @GY _ (_) h
theorem BV{s t:R}(h:same s t=true):s=t:=by unfold same at h;exact @IJ _ (_) h
end Lr
end Go.Proofs.YtbpodmallknhfaaGreat
namespace Go.Proofs.YtbpodmallknhfaaGreat
open Go.RowKit
namespace Lr
def within(x:R):Bool:=
 if x.kind=1 then decide (x.old.length=x.new.length)&&decide (1<=x.new.length)&&decide (x.off+x.new.length<=500)
 else if x.kind=2 then(if x.lj then decide (x.bI.length=0)else decide (x.bI.length<=64)&&decide (x.next=0))
 else if x.kind=3 then decide (x.bn≠0)
 else if x.kind=4 then decide (x.bn≠0)
 else if x.kind=5 then decide (x.dH.length<=16)&&decide (x.cq.length<=64)
 else false
theorem within_iff(x:R):within x=true↔k9 x:=by
 unfold within k9;by_cases i:x.kind=1
 ·rw[GU i];simp only[Hs,IK];constructor
  ·rintro⟨⟨a,b⟩,c⟩;exact GJ ⟨i,a,b,c⟩
  ·rintro(⟨_,a,b,c⟩|⟨h,_⟩|⟨h,_⟩|⟨h,_⟩|⟨h,_⟩)
   ·exact⟨⟨a,b⟩,c⟩
   all_goals omega
 rw[GQ i];by_cases d:x.kind=2
 ·rw[GU d];cases j:x.lj
  ·simp only[Bool.false_eq_true,if_false,Hs,IK];constructor
   ·rintro⟨a,b⟩;exact GL (GJ ⟨d,(fun h=>by cases h),fun _=>⟨a,b⟩⟩)
   ·rintro(⟨h,_⟩|⟨_,_,h⟩|⟨h,_⟩|⟨h,_⟩|⟨h,_⟩)
    ·omega
    ·exact h trivial
    all_goals omega
  ·simp only[if_true,IK];constructor
   ·intro a;exact GL (GJ ⟨d,fun _=>a,(fun h=>by cases h)⟩)
   ·rintro(⟨h,_⟩|⟨_,h,_⟩|⟨h,_⟩|⟨h,_⟩|⟨h,_⟩)
    ·omega
    ·exact h trivial
    all_goals omega
 rw[GQ d];by_cases g:x.kind=3
 ·rw[GU g,IK];constructor
  ·intro a;exact GL (GL (GJ ⟨g,a⟩))
  ·rintro(⟨h,_⟩|⟨h,_⟩|⟨_,h⟩|⟨h,_⟩|⟨h,_⟩)
   ·omega
   ·omega
   ·exact h
   all_goals omega
 rw[GQ g];by_cases f:x.kind=4
 ·rw[GU f,IK];constructor
  ·intro a;exact GL (GL (GL (GJ ⟨f,a⟩)))
  ·rintro(⟨h,_⟩|⟨h,_⟩|⟨h,_⟩|⟨_,h⟩|⟨h,_⟩)
   ·omega
   ·omega
   ·omega
   ·exact h
   ·omega
 rw[GQ f];by_cases e:x.kind=5
 ·rw[GU e];simp only[Hs,IK];constructor
  ·rintro⟨a,b⟩;exact GL (GL (GL (GL ⟨e,a,b⟩)))
  ·rintro(⟨h,_⟩|⟨h,_⟩|⟨h,_⟩|⟨h,_⟩|⟨_,h⟩)
   ·omega
   ·omega
   ·omega
   ·omega
   ·exact h
 rw[GQ e];constructor
 ·intro h;cases h
 ·rintro(⟨h,_⟩|⟨h,_⟩|⟨h,_⟩|⟨h,_⟩|⟨h,_⟩)<;>omega
end Lr
theorem dp{a b:Nat}:((a:Int)==(b:Int))=decide (a=b):=by
 rw[Bool.eq_iff_iff,beq_iff_eq,IK];omega
theorem leI{a b:Nat}:decide ((a:Int)<=(b:Int))=decide (a<=b):=by
 rw[Bool.eq_iff_iff];simp
set_option maxHeartbeats 1600000 in
set_option maxRecDepth 20000 in
theorem nB(x:Lr.R)(o n u c d:Value)(w:World)(h:bm w x o n u c d):
 Calls Tryz.prog 110 #[cz x o n u c d] w fun e w'=>e=.returned (.bool (Lr.within x))/\Below w.heap.size w w':=by
 obtain⟨W,f⟩:∃W,W=w.alloc (az x o n u c d):=⟨_,rfl⟩
 have l:=ae w (az x o n u c d);have j:=dd w x o n u c d;rw[<-f]at l j;have g:=GD l;obtain⟨Q,P,O,N,M,L,K,J,I,H,E,D,C,B,A⟩:=aq j;obtain⟨Y,c1,X,c2,V,c3,U,c4,T,c5,rfl,rfl,rfl,rfl,rfl⟩:=au h;have z:=h.ok.off;clear h l j;unfold az at f;obtain⟨k,bl,ep,bn,S,off,ol,nw,un,pv,i,G,st,op,t⟩:=x;dsimp only at*
 have y:wrap64 (500-(off:Int))=500-(off:Int):=IA _ ⟨by omega,by omega⟩;have f1:((ol.length:Int)==(nw.length:Int))=decide (ol.length=nw.length):=dp;have f2:decide ((1:Int)<=(nw.length:Int))=decide (1<=nw.length):=leI (a:=1);have f3:decide ((nw.length:Int)<=500-(off:Int))=decide (off+nw.length<=500):=by rw[decide_eq_decide];omega
 have f4:((un.length:Int)==0)=decide (un.length=0):=dp (b:=0);have f5:decide ((un.length:Int)<=64)=decide (un.length<=64):=leI (b:=64);have f6:((i:Int)==0)=decide (i=0):=dp (b:=0);have f7:((bn:Int)!=0)=decide (bn≠0):=by rw[Bool.eq_iff_iff];simp
 have f8:decide ((op.length:Int)<=16)=decide (op.length<=16):=leI (b:=16);have f9:decide ((t.length:Int)<=64)=decide (t.length<=64):=leI (b:=64);unfold Lr.within;dsimp only;generalize decide (ol.length=nw.length)=b1 at*
 generalize decide (1<=nw.length)=b2 at*
 generalize decide (off+nw.length<=500)=b3 at*
 generalize decide (un.length=0)=b4 at*
 generalize decide (un.length<=64)=b5 at*
 generalize decide (i=0)=b6 at*
 generalize decide (bn≠0)=b7 at*
 generalize decide (op.length<=16)=b8 at*
 generalize decide (t.length<=64)=b9 at*
 by_cases s:k=1
 ·subst s;clear f4 f5 f6 f7 f8 f9;rw[GU rfl];cases b1<;>cases b2<;>cases b3;all_goals
   go_enter Tryz.func110,Tryz.ntmps110;go_upto_region 1 with(fail)
   rw[<-f];clear f;go_wp2_with fail
   go_ret;exact⟨rfl,g.out⟩
 have k1:(k==1)=false:=by rw[G6];exact s
 rw[GQ s];by_cases r:k=2
 ·subst r;clear f1 f2 f3 f7 f8 f9 k1;rw[GU rfl];cases G<;>cases b4<;>cases b5<;>cases b6;all_goals
   go_enter Tryz.func110,Tryz.ntmps110;go_upto_region 1 with(fail)
   rw[<-f];clear f;go_wp2_with fail
   go_ret;exact⟨rfl,g.out⟩
 have k2:(k==2)=false:=by rw[G6];exact r
 rw[GQ r];clear f1 f2 f3 f4 f5 f6;by_cases q:k=3
 ·subst q;clear f8 f9 k1 k2;rw[GU rfl];go_enter Tryz.func110,Tryz.ntmps110;go_upto_region 1 with(fail)
  rw[<-f];clear f;go_wp2_with fail
  go_ret;exact⟨rfl,g.out⟩
 have v:(k==3)=false:=by rw[G6];exact q
 rw[GQ q];by_cases p:k=4
 ·subst p;clear f8 f9 k1 k2 v;rw[GU rfl];go_enter Tryz.func110,Tryz.ntmps110;go_upto_region 1 with(fail)
  rw[<-f];clear f;go_wp2_with fail
  go_ret;exact⟨rfl,g.out⟩
 have F:(k==4)=false:=by rw[G6];exact p
 rw[GQ p];by_cases m:k=5
 ·subst m;clear f7 k1 k2 v F;rw[GU rfl];cases b8<;>cases b9;all_goals
   go_enter Tryz.func110,Tryz.ntmps110;go_upto_region 1 with(fail)
   rw[<-f];clear f;go_wp2_with fail
   go_ret;exact⟨rfl,g.out⟩
 have Z:(k==5)=false:=by rw[G6];exact m
 rw[GQ m];clear f7 f8 f9;go_enter Tryz.func110,Tryz.ntmps110;go_upto_region 1 with(fail)
 rw[<-f];clear f;go_wp2_with fail
 go_ret;exact⟨rfl,g.out⟩
end Go.Proofs.YtbpodmallknhfaaGreat
