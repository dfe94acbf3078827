/- Parts of a proof. Conditions: as each row says. -/
import Derived.Test.YtbpodmallknhfaaGreatCr03
import Derived.Test.YtbpodmallknhfaaGreatCr01
import Derived.Laws.BitsAllLaws
import Derived.Laws.OwnMore
import Derived.Deep.SlicePairs
import Derived.Lib.SmallJoins
import Derived.IntWalk
import Derived.WideShapes
import Derived.BigQuiet
import Derived.Deep.QuietTactic
import Derived.StillTailTactics
import Derived.Laws.Rows
import Derived.Laws.Tables
import Derived.Laws.StructEq
namespace Go.Proofs.YtbpodmallknhfaaGreat
namespace dK
def oU:Nat:=2197175160
def H(x:Nat):Nat:=(x/2)^^^(if x%2=1 then oU else 0)
def Hn:Nat->Nat->Nat
 |0,x=>x
 |n+1,x=>Hn n (H x)
def S(x:Nat):Nat:=Hn 8 x
def raw(r:Nat)(l:List Nat):Nat:=l.foldl (fun r b=>S (r^^^b)) r
def le:List Nat->Nat
 | []=>0
 |b::r=>b^^^(256*le r)
def ll:Nat:=4294967295
def more(s:Nat)(l:List Nat):Nat:=ll^^^raw (ll^^^s) l
theorem Au(a b:Nat):(a^^^b)/2=(a/2)^^^(b/2):=by
 apply Nat.eq_of_testBit_eq;intro i;simp[Nat.testBit_div_two]
theorem CO(a b:Nat):(a^^^b)%2=(a%2+b%2)%2:=by
 have h:decide ((a^^^b)%2=1)=(decide (a%2=1)).xor (decide (b%2=1)):=by
  rw[<-Nat.testBit_zero,<-Nat.testBit_zero,<-Nat.testBit_zero];exact Nat.testBit_xor a b 0
 rcases Nat.mod_two_eq_zero_or_one a with e|e<;>rcases Nat.mod_two_eq_zero_or_one b with d|d<;>
  rcases Nat.mod_two_eq_zero_or_one (a^^^b)with c|c<;>simp[e,d,c]at h⊢
theorem GB(a b:Nat):H (a^^^b)=H a^^^H b:=by
 unfold H;rw[Au,CO];rcases Nat.mod_two_eq_zero_or_one a with d|d<;>rcases Nat.mod_two_eq_zero_or_one b with c|c<;>simp[d,c]
 ·rw[Nat.xor_assoc]
 ·rw[Nat.xor_assoc,Nat.xor_assoc,Nat.xor_comm oU (b/2)]
 ·have:a/2^^^oU^^^(b/2^^^oU)=(a/2^^^b/2)^^^(oU^^^oU):=by
   simp only[Nat.xor_assoc];congr 1;rw[<-Nat.xor_assoc,Nat.xor_comm oU,Nat.xor_assoc]
  rw[this,Nat.xor_self,Nat.xor_zero]
theorem CD(n a b:Nat):Hn n (a^^^b)=Hn n a^^^Hn n b:=by
 induction n generalizing a b with
 |zero=>rfl
 |succ n ih=>simp only[Hn];rw[GB,ih]
theorem xj(m n x:Nat):Hn (m+n) x=Hn n (Hn m x):=by
 induction m generalizing x with
 |zero=>simp[Hn]
 |succ m ih=>rw[show m+1+n=(m+n)+1 by omega];simp only[Hn];exact ih _
theorem DZ(n x:Nat):Hn (n+1) x=H (Hn n x):=xj n 1 x
theorem CF(x:Nat):H (2*x)=x:=by
 unfold H;rw[show 2*x/2=x by omega,if_neg (by omega),Nat.xor_zero]
theorem qd(n x:Nat):Hn n (2^n*x)=x:=by
 induction n generalizing x with
 |zero=>simp[Hn]
 |succ n ih=>simp only[Hn];rw[Nat.pow_succ',Nat.mul_assoc,CF,ih]
theorem DY(n:Nat):Hn n 0=0:=by simpa using qd n 0
theorem GD{x:Nat}(h:x<2^32):H x<2^32:=by
 unfold H;apply Nat.xor_lt_two_pow
 ·omega
 ·split
  ·decide
  ·decide
theorem CE(n:Nat){x:Nat}(h:x<2^32):Hn n x<2^32:=by
 induction n generalizing x with
 |zero=>exact h
 |succ n ih=>exact ih (GD h)
theorem FA{x:Nat}(h:x<2^32):S x<2^32:=CE 8 h
theorem Cx(a b:Nat):S (a^^^b)=S a^^^S b:=CD 8 a b
theorem yb(x:Nat):S (256*x)=x:=qd 8 x
theorem tL(r b:Nat)(l:List Nat):raw r (b::l)=raw (S (r^^^b)) l:=rfl
theorem vM(r:Nat)(a b:List Nat):raw r (a++b)=raw (raw r a) b:=List.foldl_append
theorem A1(r:Nat)(a:List Nat)(b:Nat):raw r (a++[b])=S (raw r a^^^b):=by rw[vM];rfl
theorem sm(r:Nat)(l:List Nat):raw r l=Hn (8*l.length) (r^^^le l):=by
 induction l generalizing r with
 |nil=>simp[raw,le,Hn]
 |cons b l ih=>
  rw[tL,ih,List.length_cons,show 8*(l.length+1)=8+8*l.length by omega,xj];congr 1
  show S (r^^^b)^^^le l=S (r^^^(b^^^(256*le l)));rw[<-Nat.xor_assoc,Cx (r^^^b),yb]
theorem A2{r:Nat}(h:r<2^32):∀{l:List Nat},(∀b∈l,b<256)->raw r l<2^32:=by
 intro l;induction l generalizing r with
 |nil=>intro _;exact h
 |cons b l c=>
  intro a;rw[tL];refine c (FA (Nat.xor_lt_two_pow h ?_)) (fun x d=>a x (by simp[d]));have:=a b (by simp);omega
theorem xB{s:Nat}(h:s<2^32){l:List Nat}(hl:∀b∈l,b<256):more s l<2^32:=
 Nat.xor_lt_two_pow (by decide) (A2 (Nat.xor_lt_two_pow (by decide) h) hl)
theorem Dx:∀(a b c:List Nat),a.length=b.length->b.length=c.length->
 le (List.zipWith (· ^^^ ·) (List.zipWith (· ^^^ ·) a b) c)=le a^^^le b^^^le c:=by
 have f:∀x y:Nat,256*(x^^^y)=(256*x)^^^(256*y):=by
  intro x y;have h:∀z:Nat,256*z=z<<<8:=fun z=>by rw[Nat.shiftLeft_eq];omega
  rw[h,h,h,Nat.shiftLeft_xor_distrib]
 intro a;induction a with
 |nil=>intro b c e d;cases b<;>simp_all<;>cases c<;>simp_all[le]
 |cons x a ih=>
  intro b c e d;match b,c,e,d with
  |y::b,z::c,e,d=>
   simp only[List.length_cons,Nat.add_right_cancel_iff]at e d;simp only[List.zipWith_cons_cons,le,ih b c e d,f];generalize 256*le a=A;generalize 256*le b=B;generalize 256*le c=C;apply Nat.eq_of_testBit_eq;intro i;simp only[Nat.testBit_xor];cases x.testBit i<;>cases y.testBit i<;>cases z.testBit i<;>cases A.testBit i<;>cases B.testBit i<;>cases C.testBit i<;>rfl
theorem three(a b c:List Nat)(d:a.length=b.length)(e:b.length=c.length):
 more 0 (List.zipWith (· ^^^ ·) (List.zipWith (· ^^^ ·) a b) c)=more 0 a^^^more 0 b^^^more 0 c:=by
 unfold more;rw[sm,sm,sm,sm,Dx a b c d e];have hl:(List.zipWith (· ^^^ ·) (List.zipWith (· ^^^ ·) a b) c).length=a.length:=by simp;omega
 rw[hl,<-d,<-(d.trans e)];simp only[CD,Nat.xor_zero];generalize Hn (8*a.length) ll=x;generalize Hn (8*a.length) (le a)=A;generalize Hn (8*a.length) (le b)=B;generalize Hn (8*a.length) (le c)=C;apply Nat.eq_of_testBit_eq;intro i;simp only[Nat.testBit_xor];cases x.testBit i<;>cases A.testBit i<;>cases B.testBit i<;>cases C.testBit i<;>cases ll.testBit i<;>rfl
theorem AJ(r b:Nat):S (r^^^b)=S ((r%256)^^^b)^^^(r/256):=by
 have h:r=(r%256)^^^(256*(r/256)):=by
  apply Nat.eq_of_testBit_eq;intro i;have d:r%256=r%2^8:=rfl;have c:256*(r/256)=(r>>>8)<<<8:=by rw[Nat.shiftLeft_eq,Nat.shiftRight_eq_div_pow];omega
  rw[d,c,Nat.testBit_xor,Nat.testBit_mod_two_pow,Nat.testBit_shiftLeft,Nat.testBit_shiftRight];by_cases a:i<8
  ·simp[a,show¬8<=i by omega]
  ·simp[a,show 8<=i by omega,show 8+(i-8)=i by omega]
 have e:r^^^b=((r%256)^^^b)^^^(256*(r/256)):=by
  conv=>lhs;rw[h]
  rw[Nat.xor_assoc,Nat.xor_assoc,Nat.xor_comm b]
 rw[e,Cx,yb]
theorem known:more 0 [49,50,51,52,53,54,55,56,57]=3808858755:=by decide+kernel
end dK
end Go.Proofs.YtbpodmallknhfaaGreat
namespace Go.Proofs.YtbpodmallknhfaaGreat.Lr
open Go.Proofs.YtbpodmallknhfaaGreat.aw
theorem two32:(2:Nat)^32=4294967296:=by decide
abbrev Ch:=Nat×Nat×Nat
abbrev Di:=Nat×Nat
structure R where
 kind:Int
 bj:Nat
 ai:Nat
 bs:Nat
 aA:Nat
 off:Nat
 old:List Nat
 new:List Nat
 bD:List Nat
 prev:Nat
 next:Nat
 jE:Bool
 bf:Nat
 dm:List Ch
 bR:List Di
def zero:R:=⟨0,0,0,0,0,0,[],[],[],0,0,false,0,[],[]⟩
def bare(x:R):R:=
 if x.kind=1 then⟨x.kind,x.bj,x.ai,0,x.aA,x.off,x.old,x.new,[],0,0,false,0,[],[]⟩
 else if x.kind=2 then⟨x.kind,x.bj,x.ai,x.bs,0,0,[],[],x.bD,x.prev,x.next,x.jE,0,[],[]⟩
 else if x.kind=3 then⟨x.kind,x.bj,x.ai,x.bs,0,0,[],[],[],0,0,false,x.bf,[],[]⟩
 else if x.kind=4 then⟨x.kind,x.bj,x.ai,x.bs,0,0,[],[],[],0,0,false,0,[],[]⟩
 else if x.kind=5 then⟨x.kind,x.bj,x.ai,0,0,0,[],[],[],0,0,false,0,x.dm,x.bR⟩
 else⟨x.kind,x.bj,x.ai,0,0,0,[],[],[],0,0,false,0,[],[]⟩
def kh(x:R):Prop:=
 (x.kind=1/\x.old.length=x.new.length/\1<=x.new.length/\x.off+x.new.length<=500)\/
 (x.kind=2/\(x.jE=true->x.bD.length=0)/\(x.jE=false->x.bD.length<=64/\x.next=0))\/
 (x.kind=3/\x.bs≠0)\/(x.kind=4/\x.bs≠0)\/(x.kind=5/\x.dm.length<=16/\x.bR.length<=64)
def oe(x:R):Prop:=kh x/\x=bare x
structure Ok(x:R):Prop where
 kind: -9223372036854775808<=x.kind/\x.kind<9223372036854775808
 bj:x.bj<18446744073709551616
 ai:x.ai<4294967296
 bs:x.bs<18446744073709551616
 aA:x.aA<4294967296
 off:x.off<65536
 old:∀b∈x.old,b<256
 new:∀b∈x.new,b<256
 bD:∀b∈x.bD,b<256
 prev:x.prev<18446744073709551616
 next:x.next<18446744073709551616
 bf:x.bf<18446744073709551616
 dm:∀c∈x.dm,c.1<18446744073709551616/\c.2.1<18446744073709551616/\c.2.2<18446744073709551616
 bR:∀d∈x.bR,d.1<4294967296/\d.2<18446744073709551616
def text(s:List Nat):List Nat:=uv s.length++s
def Gq(c:Ch):List Nat:=le 8 c.1++(le 8 c.2.1++le 8 c.2.2)
def Gp(d:Di):List Nat:=le 4 d.1++le 8 d.2
def qh(l:List Ch):List Nat:=l.flatMap Gq
def qz(l:List Di):List Nat:=l.flatMap Gp
def Fp(b:Bool):Nat:=if b then 1 else 0
def own(x:R):List Nat:=
 if x.kind=1 then le 4 x.aA++(le 2 x.off++(text x.old++text x.new))
 else if x.kind=2 then le 8 x.bs++(le 8 x.prev++(le 8 x.next++(Fp x.jE::text x.bD)))
 else if x.kind=3 then le 8 x.bs++le 8 x.bf
 else if x.kind=4 then le 8 x.bs
 else if x.kind=5 then(uv x.dm.length++qh x.dm)++(uv x.bR.length++qz x.bR)
 else []
def body(x:R):List Nat:=le 8 x.bj++(le 4 x.ai++(x.kind.toNat::own x))
def rest(x:R):List Nat:=le 2 (19+(own x).length)++body x
def form(x:R):List Nat:=le 4 (dK.more 0 (rest x))++rest x
theorem jF:∀l:List Ch,(qh l).length=24*l.length
 | []=>rfl
 |c::l=>by
  have:=jF l;unfold qh at*
  rw[List.flatMap_cons,List.length_append,this,List.length_cons];unfold Gq;rw[List.length_append,List.length_append,ao,ao,ao];omega
theorem jD:∀l:List Di,(qz l).length=12*l.length
 | []=>rfl
 |c::l=>by
  have:=jD l;unfold qz at*
  rw[List.flatMap_cons,List.length_append,this,List.length_cons];unfold Gp;rw[List.length_append,ao,ao];omega
theorem jS(s:List Nat)(h:s.length<=500):(text s).length<=510:=by
 have:=iG (n:=s.length) (by omega);unfold text;rw[List.length_append];omega
theorem uP(x:R):(body x).length=13+(own x).length:=by
 unfold body;rw[List.length_append,List.length_append,ao,ao,List.length_cons];omega
theorem fK(x:R):(rest x).length=15+(own x).length:=by
 unfold rest;rw[List.length_append,ao,uP];omega
theorem bq(x:R):(form x).length=19+(own x).length:=by
 unfold form;rw[List.length_append,ao,fK];omega
theorem jw{x:R}(h:kh x):(own x).length<=1200:=by
 unfold own;rcases h with⟨c,d,e,f⟩|⟨c,d,e⟩|⟨c,d⟩|⟨c,d⟩|⟨c,d,e⟩
 ·rw[if_pos c];have a:=jS x.old (by omega);have b:=jS x.new (by omega);simp only[List.length_append,ao];omega
 ·rw[if_neg (by omega),if_pos c];have hu:x.bD.length<=64:=by
   cases hc:x.jE
   ·exact(e hc).1
   ·have:=d hc;omega
  have a:=jS x.bD (by omega);simp only[List.length_append,ao,List.length_cons];omega
 ·rw[if_neg (by omega),if_neg (by omega),if_pos c];simp only[List.length_append,ao];omega
 ·rw[if_neg (by omega),if_neg (by omega),if_neg (by omega),if_pos c];simp only[ao];omega
 ·rw[if_neg (by omega),if_neg (by omega),if_neg (by omega),if_neg (by omega),if_pos c];have a:=iG (n:=x.dm.length) (by omega);have b:=iG (n:=x.bR.length) (by omega);simp only[List.length_append,jF,jD];omega
theorem zw{x:R}(h:kh x):(form x).length<=1600:=by
 have:=jw h;rw[bq];omega
theorem Fq(l:List Ch):∀x∈qh l,x<256:=by
 intro x b;obtain⟨c,-,a⟩:=List.mem_flatMap.1 b;unfold Gq at a;rcases List.mem_append.1 a with h|h
 ·exact c7 _ _ x h
 ·rcases List.mem_append.1 h with h|h
  ·exact c7 _ _ x h
  ·exact c7 _ _ x h
theorem Fj(l:List Di):∀x∈qz l,x<256:=by
 intro x b;obtain⟨c,-,a⟩:=List.mem_flatMap.1 b;unfold Gp at a;rcases List.mem_append.1 a with h|h
 ·exact c7 _ _ x h
 ·exact c7 _ _ x h
theorem rV{s:List Nat}(h:∀x∈s,x<256):∀x∈text s,x<256:=by
 intro x a;rcases List.mem_append.1 a with a|a
 ·exact AE _ x a
 ·exact h x a
theorem xS(b:Bool):Fp b<256:=by cases b<;>decide
theorem cM{a b:List Nat}(e:∀x∈a,x<256)(d:∀x∈b,x<256):∀x∈a++b,x<256:=by
 intro x c;rcases List.mem_append.1 c with c|c
 ·exact e x c
 ·exact d x c
theorem xR{a:Nat}{b:List Nat}(e:a<256)(d:∀x∈b,x<256):∀x∈a::b,x<256:=by
 intro x c;rcases List.mem_cons.1 c with rfl|c
 ·exact e
 ·exact d x c
theorem ju{x:R}(h:Ok x):∀b∈own x,b<256:=by
 unfold own;split
 ·exact cM (c7 _ _) (cM (c7 _ _) (cM (rV h.old) (rV h.new)))
 split
 ·exact cM (c7 _ _) (cM (c7 _ _) (cM (c7 _ _) (xR (xS _) (rV h.bD))))
 split
 ·exact cM (c7 _ _) (c7 _ _)
 split
 ·exact c7 _ _
 split
 ·exact cM (cM (AE _) (Fq _)) (cM (AE _) (Fj _))
 ·simp
theorem mf{x:R}(h:kh x):1<=x.kind/\x.kind<=5:=by
 rcases h with⟨a,b,c,d⟩|⟨a,b,c⟩|⟨a,b⟩|⟨a,b⟩|⟨a,b,c⟩<;>omega
theorem lP{x:R}(h:Ok x)(hw:kh x):∀b∈rest x,b<256:=by
 have:=mf hw;exact cM (c7 _ _) (cM (c7 _ _) (cM (c7 _ _) (xR (by omega) (ju h))))
theorem gA{x:R}(h:Ok x)(hw:kh x):∀b∈form x,b<256:=cM (c7 _ _) (lP h hw)
theorem sc{l:List Nat}(h:∀x∈l,x<256):dK.more 0 l<4294967296:=by
 have:=dK.xB (s:=0) (by decide) h;rwa[two32]at this
def Is(b:List Nat)(y:R):Prop:=oe y/\Ok y/\∃t,b=form y++t
theorem lR(k m:Nat)(t:List Nat):rdNum k (le k m++t) 0=(m%256^k,t,0):=by
 unfold rdNum;have h:((le k m++t).take k)=le k m:=List.take_left' (ao k m);have a:((le k m++t).drop k)=t:=List.drop_left' (ao k m);rw[if_neg (by decide),if_neg (by rw[List.length_append,ao];omega),h,a,mO]
theorem D8{n:Nat}(h:n<18446744073709551616)(t:List Nat):lS (uv n++t) 0=(n,t,0):=by
 unfold lS;rw[if_neg (by decide),rC t h];have:=rU n;simp only;rw[if_neg (by omega),List.drop_left' rfl]
theorem sk{s:List Nat}(m:Int)(h:(s.length:Int)<=m)(a:s.length<18446744073709551616)(t:List Nat):dT m (text s++t) 0=(s,t,0):=by
 unfold dT text;rw[if_neg (by decide),List.append_assoc,rC _ a];have:=rU s.length;simp only;rw[if_neg (by omega),if_neg (by omega),if_neg (by simp only[List.length_append];omega),List.drop_left' rfl,List.take_left' rfl,List.drop_left' rfl]
def cG:Nat->List Nat->Nat->List Ch×List Nat×Nat
 |0,l,e=>([],l,e)
 |n+1,l,e=>((cG n l e).1++[((rdNum 8 (cG n l e).2.1 (cG n l e).2.2).1,(rdNum 8 (rdNum 8 (cG n l e).2.1 (cG n l e).2.2).2.1 (rdNum 8 (cG n l e).2.1 (cG n l e).2.2).2.2).1,(rdNum 8 (rdNum 8 (rdNum 8 (cG n l e).2.1 (cG n l e).2.2).2.1 (rdNum 8 (cG n l e).2.1 (cG n l e).2.2).2.2).2.1 (rdNum 8 (rdNum 8 (cG n l e).2.1 (cG n l e).2.2).2.1 (rdNum 8 (cG n l e).2.1 (cG n l e).2.2).2.2).2.2).1)],(rdNum 8 (rdNum 8 (rdNum 8 (cG n l e).2.1 (cG n l e).2.2).2.1 (rdNum 8 (cG n l e).2.1 (cG n l e).2.2).2.2).2.1 (rdNum 8 (rdNum 8 (cG n l e).2.1 (cG n l e).2.2).2.1 (rdNum 8 (cG n l e).2.1 (cG n l e).2.2).2.2).2.2).2)
def ej:Nat->List Nat->Nat->List Di×List Nat×Nat
 |0,l,e=>([],l,e)
 |n+1,l,e=>((ej n l e).1++[((rdNum 4 (ej n l e).2.1 (ej n l e).2.2).1,(rdNum 8 (rdNum 4 (ej n l e).2.1 (ej n l e).2.2).2.1 (rdNum 4 (ej n l e).2.1 (ej n l e).2.2).2.2).1)],(rdNum 8 (rdNum 4 (ej n l e).2.1 (ej n l e).2.2).2.1 (rdNum 4 (ej n l e).2.1 (ej n l e).2.2).2.2).2)
theorem oS{n:Nat}{l:List Nat}{e:Nat}{p:List Ch}{g l1 f d:List Nat}{k j i h a b c:Nat}(h0:cG n l e=(p,g,k))(q:rdNum 8 g k=(a,l1,j))(o:rdNum 8 l1 j=(b,f,i))(m:rdNum 8 f i=(c,d,h)):cG (n+1) l e=(p++[(a,b,c)],d,h):=by
 rw[cG,h0];simp only;rw[q];simp only;rw[o];simp only;rw[m]
theorem oR{n:Nat}{l:List Nat}{e:Nat}{p:List Di}{d l1 c:List Nat}{h g f a b:Nat}(h0:ej n l e=(p,d,h))(j:rdNum 4 d h=(a,l1,g))(i:rdNum 8 l1 g=(b,c,f)):ej (n+1) l e=(p++[(a,b)],c,f):=by
 rw[ej,h0];simp only;rw[j];simp only;rw[i]
theorem lV:∀(n:Nat)(l:List Nat)(e:Nat),(cG n l e).1.length=n
 |0,_,_=>rfl
 |n+1,l,e=>by rw[cG];simp[lV n l e]
theorem lT:∀(n:Nat)(l:List Nat)(e:Nat),(ej n l e).1.length=n
 |0,_,_=>rfl
 |n+1,l,e=>by rw[ej];simp[lT n l e]
theorem dh{m:Nat}(h:m<18446744073709551616)(t:List Nat):rdNum 8 (le 8 m++t) 0=(m,t,0):=by
 rw[lR,Nat.mod_eq_of_lt (Nat.lt_of_lt_of_le h (by decide))]
theorem ix{m:Nat}(h:m<4294967296)(t:List Nat):rdNum 4 (le 4 m++t) 0=(m,t,0):=by
 rw[lR,Nat.mod_eq_of_lt (Nat.lt_of_lt_of_le h (by decide))]
theorem AV{m:Nat}(h:m<65536)(t:List Nat):rdNum 2 (le 2 m++t) 0=(m,t,0):=by
 rw[lR,Nat.mod_eq_of_lt (Nat.lt_of_lt_of_le h (by decide))]
theorem AW{m:Nat}(h:m<256)(t:List Nat):rdNum 1 (m::t) 0=(m,t,0):=by
 have:=lR 1 m t;have e:le 1 m=[m]:=by simp[le,Nat.mod_eq_of_lt h]
 rw[e,Nat.pow_one,Nat.mod_eq_of_lt h]at this;exact this
theorem AY(L:List Ch)(t:List Nat)(h:∀c∈L,c.1<18446744073709551616/\c.2.1<18446744073709551616/\c.2.2<18446744073709551616):∀n,n<=L.length->cG n (qh L++t) 0=(L.take n,qh (L.drop n)++t,0)
 |0,_=>by simp[cG]
 |n+1,hn=>by
  have d:=AY L t h n (by omega);obtain⟨c,b⟩:∃c,L[n]?=some c:=⟨L[n],List.getElem?_eq_getElem (by omega)⟩
  have hm:=h c (List.mem_of_getElem? b);have a:n<L.length:=by omega
  have hd:L.drop n=c::L.drop (n+1):=by
   rw[List.drop_eq_getElem_cons a];rw[List.getElem?_eq_getElem a]at b;rw[Option.some.inj b]
  have f:L.take (n+1)=L.take n++[c]:=by
   rw[List.take_succ_eq_append_getElem a];rw[List.getElem?_eq_getElem a]at b;rw[Option.some.inj b]
  have e:qh (c::L.drop (n+1))++t=le 8 c.1++(le 8 c.2.1++(le 8 c.2.2++(qh (L.drop (n+1))++t))):=by
   unfold qh;rw[List.flatMap_cons];unfold Gq;simp only[List.append_assoc]
  rw[hd,e]at d;rw[oS d (dh hm.1 _) (dh hm.2.1 _) (dh hm.2.2 _),f]
theorem AX(L:List Di)(t:List Nat)(h:∀c∈L,c.1<4294967296/\c.2<18446744073709551616):∀n,n<=L.length->ej n (qz L++t) 0=(L.take n,qz (L.drop n)++t,0)
 |0,_=>by simp[ej]
 |n+1,hn=>by
  have d:=AX L t h n (by omega);obtain⟨c,b⟩:∃c,L[n]?=some c:=⟨L[n],List.getElem?_eq_getElem (by omega)⟩
  have hm:=h c (List.mem_of_getElem? b);have a:n<L.length:=by omega
  have hd:L.drop n=c::L.drop (n+1):=by
   rw[List.drop_eq_getElem_cons a];rw[List.getElem?_eq_getElem a]at b;rw[Option.some.inj b]
  have f:L.take (n+1)=L.take n++[c]:=by
   rw[List.take_succ_eq_append_getElem a];rw[List.getElem?_eq_getElem a]at b;rw[Option.some.inj b]
  have e:qz (c::L.drop (n+1))++t=le 4 c.1++(le 8 c.2++(qz (L.drop (n+1))++t)):=by
   unfold qz;rw[List.flatMap_cons];unfold Gp;simp only[List.append_assoc]
  rw[hd,e]at d;rw[oR d (ix hm.1 _) (dh hm.2 _),f]
def Head(b:List Nat)(bj ep k:Nat)(l:List Nat)(e:Nat):Prop:=∀y,oe y->Ok y->∀t,b=form y++t->bj=y.bj/\ep=y.ai/\(k:Int)=y.kind/\l=own y++t/\e=0
def sR(b:List Nat)(x:R)(e:Nat):Prop:=∀y,Is b y->x=y/\e=0
theorem xJ{b:List Nat}{n0 u f d n4 s r q p o:Nat}{j l1 i h g:List Nat}(h0:rdNum 4 b 0=(n0,j,s))(n:rdNum 2 j s=(u,l1,r))(m:rdNum 8 l1 r=(f,i,q))(l:rdNum 4 i q=(d,h,p))(k:rdNum 1 h p=(n4,g,o)):Head b f d n4 g o:=by
 intro y c a t v;have w:=mf c.1;have hl:=jw c.1;have e:b=le 4 (dK.more 0 (rest y))++(le 2 (19+(own y).length)++(le 8 y.bj++(le 4 y.ai++(y.kind.toNat::(own y++t))))):=by
  rw[v];unfold form;conv=>lhs;rw[List.append_assoc];rhs;unfold rest body
  simp only[List.append_assoc,List.cons_append]
 rw[e,ix (sc (lP a c.1))]at h0;obtain⟨rfl,rfl,rfl⟩:=h0;rw[AV (by omega)]at n;obtain⟨rfl,rfl,rfl⟩:=n;rw[dh a.bj]at m;obtain⟨rfl,rfl,rfl⟩:=m;rw[ix a.ai]at l;obtain⟨rfl,rfl,rfl⟩:=l;rw[AW (by omega)]at k;obtain⟨rfl,rfl,rfl⟩:=k;exact⟨rfl,rfl,by omega,rfl,rfl⟩
theorem mk_eq{x y:R}(o:x.kind=y.kind)(n:x.bj=y.bj)(m:x.ai=y.ai)(l:x.bs=y.bs)(k:x.aA=y.aA)(j:x.off=y.off)(i:x.old=y.old)(h:x.new=y.new)(g:x.bD=y.bD)(f:x.prev=y.prev)(e:x.next=y.next)(d:x.jE=y.jE)(c:x.bf=y.bf)(b:x.dm=y.dm)(a:x.bR=y.bR):x=y:=by
 cases x;cases y;simp only at*;subst_vars;rfl
theorem oy{b l l1 q m x o n:List Nat}{bj ep e p f w v u s:Nat}(A:Head b bj ep 1 l e)(c:rdNum 4 l e=(p,l1,w))(k:rdNum 2 l1 w=(f,q,v))(j:dT 500 q v=(o,m,u))(r:dT 500 m u=(n,x,s)):
 sR b ⟨1,bj,ep,0,p,f,o,n,[],0,0,false,0,[],[]⟩ s:=by
 intro y ⟨i,h,t,z⟩;obtain⟨rfl,rfl,d,rfl,rfl⟩:=A y i h t z;have d:y.kind=1:=by omega
 have g:=i.2;unfold bare at g;rw[if_pos d]at g;have hw:y.old.length=y.new.length/\y.new.length<=500:=by
  rcases i.1 with⟨_,c,k,j⟩|⟨a,_⟩|⟨a,_⟩|⟨a,_⟩|⟨a,_⟩
  ·exact⟨c,by omega⟩
  all_goals omega
 unfold own at c;rw[if_pos d,List.append_assoc,ix h.aA]at c;obtain⟨rfl,rfl,rfl⟩:=c;rw[List.append_assoc,AV h.off]at k;obtain⟨rfl,rfl,rfl⟩:=k;rw[List.append_assoc,sk 500 (by omega) (by omega)]at j;obtain⟨rfl,rfl,rfl⟩:=j;rw[sk 500 (by omega) (by omega)]at r;obtain⟨rfl,rfl,rfl⟩:=r;refine⟨?_,rfl⟩;rw[d]at g;exact g.symm
theorem tt{b l l1 r q o D u:List Nat}{bj ep e a p n c C B A z x:Nat}(F:Head b bj ep 2 l e)(f:rdNum 8 l e=(a,l1,C))(k:rdNum 8 l1 C=(p,r,B))(w:rdNum 8 r B=(n,q,A))(v:rdNum 1 q A=(c,o,z))(s:dT 64 o z=(u,D,x)):
 sR b ⟨2,bj,ep,a,0,0,[],[],u,p,n,decide (c=1),0,[],[]⟩ x:=by
 intro y ⟨m,i,t,E⟩;obtain⟨rfl,rfl,g,rfl,rfl⟩:=F y m i t E;have g:y.kind=2:=by omega
 have j:=m.2;unfold bare at j;rw[if_neg (by omega),if_pos g]at j;have hw:y.bD.length<=64:=by
  rcases m.1 with⟨d,_⟩|⟨_,f,k⟩|⟨d,_⟩|⟨d,_⟩|⟨d,_⟩
  ·omega
  ·cases h:y.jE
   ·exact(k h).1
   ·have:=f h;omega
  all_goals omega
 unfold own at f;rw[if_neg (by omega),if_pos g,List.append_assoc,dh i.bs]at f;obtain⟨rfl,rfl,rfl⟩:=f;rw[List.append_assoc,dh i.prev]at k;obtain⟨rfl,rfl,rfl⟩:=k;rw[List.append_assoc,dh i.next]at w;obtain⟨rfl,rfl,rfl⟩:=w;rw[List.cons_append,AW (xS _)]at v;obtain⟨rfl,rfl,rfl⟩:=v;rw[sk 64 (by omega) (by omega)]at s;obtain⟨rfl,rfl,rfl⟩:=s;have h:decide (Fp y.jE=1)=y.jE:=by cases y.jE<;>rfl
 refine⟨?_,rfl⟩;rw[h];rw[g]at j;exact j.symm
theorem nt{b l l1 m:List Nat}{bj ep e a p k j:Nat}(o:Head b bj ep 3 l e)(g:rdNum 8 l e=(a,l1,k))(i:rdNum 8 l1 k=(p,m,j)):
 sR b ⟨3,bj,ep,a,0,0,[],[],[],0,0,false,p,[],[]⟩ j:=by
 intro y ⟨h,f,t,n⟩;obtain⟨rfl,rfl,c,rfl,rfl⟩:=o y h f t n;have c:y.kind=3:=by omega
 have d:=h.2;unfold bare at d;rw[if_neg (by omega),if_neg (by omega),if_pos c]at d;unfold own at g;rw[if_neg (by omega),if_neg (by omega),if_pos c,List.append_assoc,dh f.bs]at g;obtain⟨rfl,rfl,rfl⟩:=g;rw[dh f.bf]at i;obtain⟨rfl,rfl,rfl⟩:=i;refine⟨?_,rfl⟩;rw[c]at d;exact d.symm
theorem qL{b l l1:List Nat}{bj ep e a i:Nat}(k:Head b bj ep 4 l e)(f:rdNum 8 l e=(a,l1,i)):
 sR b ⟨4,bj,ep,a,0,0,[],[],[],0,0,false,0,[],[]⟩ i:=by
 intro y ⟨h,g,t,j⟩;obtain⟨rfl,rfl,c,rfl,rfl⟩:=k y h g t j;have c:y.kind=4:=by omega
 have d:=h.2;unfold bare at d;rw[if_neg (by omega),if_neg (by omega),if_neg (by omega),if_pos c]at d;unfold own at f;rw[if_neg (by omega),if_neg (by omega),if_neg (by omega),if_pos c,dh g.bs]at f;obtain⟨rfl,rfl,rfl⟩:=f;refine⟨?_,rfl⟩;rw[c]at d;exact d.symm
theorem oz{b l l1 q p z:List Nat}{C:List Ch}{D:List Di}{bj ep e n m x w v u k o:Nat}(E:Head b bj ep 5 l e)(f:lS l e=(n,l1,x))(j:cG k l1 x=(C,q,w))(A:n<=16->k=n)(s:lS q w=(m,p,v))(r:ej o p v=(D,z,u))(hm:m<=64->o=m):
 sR b ⟨5,bj,ep,0,0,0,[],[],[],0,0,false,0,C,D⟩ u:=by
 intro y ⟨i,g,t,B⟩;obtain⟨rfl,rfl,c,rfl,rfl⟩:=E y i g t B;have c:y.kind=5:=by omega
 have d:=i.2;unfold bare at d;rw[if_neg (by omega),if_neg (by omega),if_neg (by omega),if_neg (by omega),if_pos c]at d;have hw:y.dm.length<=16/\y.bR.length<=64:=by
  rcases i.1 with⟨a,_⟩|⟨a,f,j⟩|⟨a,_⟩|⟨a,_⟩|⟨_,h⟩
  ·omega
  ·omega
  ·omega
  ·omega
  ·exact h
 unfold own at f;rw[if_neg (by omega),if_neg (by omega),if_neg (by omega),if_neg (by omega),if_pos c,List.append_assoc,List.append_assoc,D8 (by omega)]at f;obtain⟨rfl,rfl,rfl⟩:=f;rw[A hw.1,AY y.dm _ g.dm _ (Nat.le_refl _),List.take_length,List.drop_length]at j;obtain⟨rfl,rfl,rfl⟩:=j;rw[show qh []=[]from rfl,List.nil_append,List.append_assoc,D8 (by omega)]at s;obtain⟨rfl,rfl,rfl⟩:=s;rw[hm hw.2,AX y.bR _ g.bR _ (Nat.le_refl _),List.take_length,List.drop_length]at r;obtain⟨rfl,rfl,rfl⟩:=r;refine⟨?_,rfl⟩;rw[c]at d;exact d.symm
theorem qK{b l:List Nat}{bj ep e k:Nat}{x:R}(g:Head b bj ep k l e)(h:¬(1<=k/\k<=5)):sR b x e:=by
 intro y ⟨a,f,t,d⟩;obtain⟨-,-,c,-,-⟩:=g y a f t d;have:=mf a.1;omega
theorem rz{y:R}(a:oe y)(t:List Nat):num (((form y++t).drop 4).take 2)=(form y).length:=by
 have hl:=jw a.1;have c:(form y++t).drop 4=rest y++t:=by
  unfold form;rw[List.append_assoc,List.drop_left' (ao _ _)]
 have b:(rest y++t).take 2=le 2 (19+(own y).length):=by
  unfold rest;rw[List.append_assoc,List.take_left' (ao _ _)]
 rw[c,b,mO,bq,Nat.mod_eq_of_lt (by omega)]
theorem Ce{x:R}(f:oe x)(k:Nat)(g:k<(form x).length):∀y,¬Is ((form x).take k) y:=by
 intro y ⟨d,h,t,a⟩;have c:=rz d t;rw[<-a]at c;have hl:=bq y;have hlen:=congrArg List.length a;rw[List.length_take,List.length_append]at hlen;have b:=rz f [];rw[List.append_nil]at b;have e:(((form x).take k).drop 4).take 2=((form x).drop 4).take 2:=by
  rw[List.drop_take,List.take_take,Nat.min_eq_left (by omega)]
 rw[e,b]at c;omega
noncomputable def ru{α:Type}(p:Prop)(a b:α):α:= @ite α p (Classical.propDecidable p) a b
theorem ed{α:Type}{p:Prop}(h:p)(a b:α):ru p a b=a:=by unfold ru;exact @if_pos p (_) h _ _ _
theorem dN{α:Type}{p:Prop}(h:¬p)(a b:α):ru p a b=b:=by unfold ru;exact @if_neg p (_) h _ _ _
theorem DA{b:List Nat}{y:R}(n:Nat)(e:1600<=n):Is (b.take n) y↔Is b y:=by
 constructor
 ·rintro⟨a,d,t,c⟩;refine⟨a,d,t++b.drop n,?_⟩;rw[<-List.append_assoc,<-c,List.take_append_drop]
 ·rintro⟨a,d,t,c⟩;have:=zw a.1;refine⟨a,d,t.take (n-(form y).length),?_⟩;rw[c,List.take_append,List.take_of_length_le (by omega)]
end Go.Proofs.YtbpodmallknhfaaGreat.Lr
namespace Go.Proofs.YtbpodmallknhfaaGreat
structure Lr.xm(x:Lr.R):Prop where
 old:x.old.length<=6000
 new:x.new.length<=6000
 bD:x.bD.length<=6000
 dm:x.dm.length<=6000
 bR:x.bR.length<=6000
end Go.Proofs.YtbpodmallknhfaaGreat
namespace Go.Proofs.YtbpodmallknhfaaGreat.fX
open Go.RowKit Go.Proofs.YtbpodmallknhfaaGreat.Lr
abbrev El:=Ch
def enc(c:El):List Value:=[.int .u64 (c.1:Int),.int .u64 (c.2.1:Int),.int .u64 (c.2.2:Int)]
def cells(l:List El):List Value:=l.flatMap enc
theorem bH:∀l:List El,(cells l).length=l.length*3
 | []=>rfl
 |h::l=>by
  have:=bH l;simp only[cells,List.flatMap_cons,List.length_append,List.length_cons]at*
  simp only[enc,List.length_cons,List.length_nil];omega
theorem jG(a b:List El):cells (a++b)=cells a++cells b:=by simp[cells]
theorem ig:∀(l:List El)(i j:Nat),i<l.length->j<3->(cells l)[i*3+j]?=(enc (l.getD i default))[j]?
 | [],i,_,h,_=>by simp at h
 |x::l,0,j,_,hj=>by
  simp only[cells,List.flatMap_cons,Nat.zero_mul,Nat.zero_add];rw[List.getElem?_append_left (by simpa[enc]using hj)];rfl
 |x::l,i+1,j,h,hj=>by
  have:=ig l i j (by simpa using h) hj;simp only[cells,List.flatMap_cons]at*
  rw[List.getElem?_append_right (by simp only[enc,List.length_cons,List.length_nil];omega)];rw[show(i+1)*3+j-(enc x).length=i*3+j by simp only[enc,List.length_cons,List.length_nil];omega,this];simp
theorem nh(l:List El):∀u∈cells l,u.oneCell'=true:=by
 intro u hu;simp only[cells,List.mem_flatMap,enc]at hu;obtain⟨x,_,a⟩:=hu;simp at a;rcases a with rfl|rfl|rfl<;>rfl
theorem ng(l:List El)(i:Nat)(h:El)(a:i<l.length):cells (l.set i h)=((((cells l).set (i*3) (.int .u64 (h.1:Int))).set (i*3+1) (.int .u64 (h.2.1:Int))).set (i*3+2) (.int .u64 (h.2.2:Int))):=by
 induction l generalizing i with
 |nil=>simp at a
 |cons x l ih=>
  cases i with
  |zero=>simp[cells,enc]
  |succ i=>
   have:=ih i (by simpa using a);rw[show(i+1)*3=i*3+3 by omega];simp only[cells,List.set_cons_succ,List.flatMap_cons,enc]at*
   simpa using this
structure aV(w:World)(v:Value)(l:List El):Prop where
 form:∃p cap,v=.slice p l.length cap/\(l.length<=cap/\cap<=9223372036854775807)/\(p=none->cap=0)/\(0<l.length->∃b off,p=some ⟨b,off,none⟩/\∀j,j<l.length*3->w.cell? ⟨b,off+j,none⟩=(cells l)[j]?)
theorem aV.below{w w':World}{v:Value}{l:List El}(h:aV w v l)(k:Below w.heap.size w w'):aV w' v l:=by
 obtain⟨p,cap,e,f,g,hp⟩:=h.form;refine⟨p,cap,e,f,g,fun h0=>?_⟩;obtain⟨b,off,c,i⟩:=hp h0;refine⟨b,off,c,fun j d=>?_⟩;have a:=i j d;rw[List.getElem?_eq_getElem (by rw[bH];exact d)]at a⊢;rw[k.cell (p:=⟨b,off+j,none⟩) (block_lt_of_cell a)];exact a
theorem aV.grown{w w':World}{v:Value}{l:List El}{row:Option Nat}(h:aV w v l)(k:w.grownBy w' row)(d:0<l.length->v.ownBlock≠row):aV w' v l:=by
 obtain⟨p,cap,e,g,i,hp⟩:=h.form;refine⟨p,cap,e,g,i,fun h0=>?_⟩;obtain⟨b,off,a,m⟩:=hp h0;refine⟨b,off,a,fun j f=>?_⟩;have c:=m j f;rw[List.getElem?_eq_getElem (by rw[bH];exact f)]at c⊢;refine k.cell c ?_;have:=d h0;rw[e,a]at this;exact this
theorem aV.at{w:World}{b off cap:Nat}{l:List El}(h:aV w (.slice (some ⟨b,off,none⟩) l.length cap) l)(i:Nat)(g:i<l.length)(j:Nat)(f:j<3):
 w.cell? ⟨b,off+i*3+j,none⟩=(enc (l.getD i default))[j]?:=by
 obtain⟨m,e,d,n,hz,hp⟩:=h.form;obtain⟨o,c,a,k⟩:=hp (by omega);subst a;simp only[Value.slice.injEq,Option.some.injEq,Addr.mk.injEq,and_true,true_and]at d;obtain⟨⟨rfl,rfl⟩,rfl⟩:=d;rw[Nat.add_assoc,k (i*3+j) (by omega),ig l i j g f]
theorem aV.some{w:World}{v:Value}{l:List El}(h:aV w v l)(h0:0<l.length):∃b off cap,v=.slice (some ⟨b,off,none⟩) l.length cap:=by
 obtain⟨p,cap,a,-,-,hp⟩:=h.form;obtain⟨b,off,rfl,-⟩:=hp h0;exact⟨b,off,cap,a⟩
theorem aV.slice{w:World}{v:Value}{l:List El}(h:aV w v l):∃p cap,v=.slice p l.length cap:=by
 obtain⟨p,cap,a,-⟩:=h.form;exact⟨p,cap,a⟩
theorem eg(w:World):aV w (.slice none 0 0) []:=⟨none,0,rfl,by decide,fun _=>rfl,fun h=>absurd h (by decide)⟩
theorem info:(Tryz.prog.info? 204).map (fun i=>(i.zero,i.size,i.bytes))=some (some (.agg #[.int .u64 0,.int .u64 0,.int .u64 0]),3,24):=by kernel_rfl
def Own(base:Nat)(w:World)(v:Value)(l:List El):Prop:=w.ownsRow base 204 3 v l.length (cells l)
theorem Own.form{base:Nat}{w:World}{v:Value}{l:List El}(h:Own base w v l):(v=.slice none 0 0/\l=[])\/∃g cap,v=.slice (some ⟨g,0,none⟩) l.length cap/\base<=g/\g<w.heap.size/\l.length<=cap/\cap<=9223372036854775807:=by
 rcases h.2 with⟨a,h0⟩|⟨g,cap,cur,a,c,b,e,d,i,f⟩
 ·exact Or.inl ⟨a,List.eq_nil_of_length_eq_zero h0⟩
 ·exact Or.inr ⟨g,cap,a,c,lt_of_block b,e,d⟩
theorem Own.bz{base:Nat}{w:World}{v:Value}{l:List El}(h:Own base w v l):aV w v l:=by
 rcases h.2 with⟨a,h0⟩|⟨g,cap,cur,a,i,c,f,e,k,d⟩
 ·exact⟨none,0,by rw[a,h0],by omega,fun _=>rfl,fun h=>absurd h (by omega)⟩
 ·refine⟨some ⟨g,0,none⟩,cap,a,⟨f,e⟩,fun h=>by simp at h,fun _=>⟨g,0,rfl,fun j b=>?_⟩⟩;rw[Nat.zero_add,cell_of_row _ g j cur 204 (0,0) c,<-d,List.getElem?_take,if_pos b,Array.getElem?_toList]
theorem Own.grown{base:Nat}{w w':World}{v:Value}{l:List El}{row:Option Nat}(h:Own base w v l)(b:w.grownBy w' row)(a:v.ownBlock=none\/v.ownBlock≠row):Own base w' v l:=h.kept b a
theorem Own.below{base:Nat}{w w':World}{v:Value}{l:List El}(h:Own base w v l)(a:Below w.heap.size w w'):Own base w' v l:=
 h.grown (row:=none) (aR a none) (by cases b:v.ownBlock<;>simp)
theorem Own.from{base base':Nat}{w:World}{v:Value}{l:List El}(h:Own base w v l)(c:base'<=base):Own base' w v l:=by
 refine⟨h.1,?_⟩;rcases h.2 with d|⟨g,cap,cur,a,b,r⟩
 ·exact Or.inl d
 ·exact Or.inr ⟨g,cap,cur,a,Nat.le_trans c b,r⟩
theorem aM(base:Nat)(w:World):Own base w (.slice none 0 0) []:=⟨rfl,Or.inl ⟨rfl,rfl⟩⟩
theorem ky(w:World)(base:Nat)(a:base<=w.heap.size):Own base (w.alloc (.cells #[] 204)) (.slice (some ⟨w.heap.size,0,none⟩) 0 0) []:=
 ⟨rfl,Or.inr ⟨w.heap.size,0,#[],rfl,a,heap_alloc_last _ _,Nat.le_refl _,Nat.zero_le _,rfl,rfl⟩⟩
theorem aB{w:World}{ops:Array Oper}{rest:List Oper}{o:Oper}{a:Act}{Q:Exit->Act->World->Prop}(m:o.guard=none)(s x:Operand)
 (F:o.op=.call {callee:=.builtin .append,args:=#[s,x],argTypes:=#[76,76]})
 (base:Nat) (v:Value) (l1:List El) (hs:a.eval s=v) (d:Own base w v l1)
 (D:Value) (e:List El) (E:a.eval x=D) (K:aV w D e) (hlen:l1.length+e.length<=1000000) (l:base<=w.heap.size)
 (h:∀q w',Own base w' q (l1++e)->Below base w w'->w.grownBy w' v.ownBlock->wpList Tryz.prog ops Q rest (a.put o.dst q) w'):wpList Tryz.prog ops Q (o::rest) a w:=by
 obtain⟨i0,H,y,t,r⟩:=info_parts info;obtain⟨p,cap,rfl,_,I,hp⟩:=K.form;cases p with
 |none=>
  obtain rfl:=I rfl;have z:e.length=0:=by
   rcases Nat.eq_zero_or_pos e.length with h0|h0
   ·exact h0
   ·obtain⟨b,off,he,_⟩:=hp h0;simp at he
  obtain rfl:e=[]:=List.eq_nil_of_length_eq_zero z;refine wpList_append_own_none m s x 76 F base 204 i0 3 Tryz.underlying76 H v l1.length (cells l1) hs d E ?_;refine h v w ?_ (Below.refl _ _) (World.grownBy.refl _ _);simpa using d
 |some ad=>
  refine wpList_append_own w m s x 76 F base 204 i0 (.agg #[.int .u64 0,.int .u64 0,.int .u64 0]) 3 24 Tryz.underlying76 H y t r rfl (by decide) v l1.length (cells l1) hs d ad e.length cap (cells e) E (bH _) ?_ (nh e) (by unfold maxLen;omega) (by omega) l ?_
  ·intro j u B;have A:j<e.length*3:=by
    rcases Nat.lt_or_ge j (e.length*3)with C|C
    ·exact C
    ·rw[List.getElem?_eq_none (by rw[bH];exact C)]at B;simp at B
   obtain⟨b,off,he,J⟩:=hp (by omega);obtain rfl:=Option.some.inj he;have n:(⟨b,off,none⟩:Addr).add j=⟨b,off+j,none⟩:=by unfold Addr.add;split<;>simp_all
   rw[n,J j A,B]
  ·intro q w' f i _;rw[<-jG,<-List.length_append]at f;refine h q w' f ((Below.refl _ _).grown i l ?_) i;intro k G;rcases d.2 with⟨rfl,_⟩|⟨g,c,cur,rfl,L,_⟩
   ·simp[Value.ownBlock]at G
   ·simp only[Value.ownBlock,Option.some.injEq]at G;omega
theorem Own.stored{base g cap:Nat}{w:World}{l:List El}(h:Own base w (.slice (some ⟨g,0,none⟩) l.length cap) l)(i:Nat)(b:i<l.length)(x:El):
 Own base (((w.setCell ⟨g,i*3,none⟩ (.int .u64 (x.1:Int))).setCell ⟨g,i*3+1,none⟩ (.int .u64 (x.2.1:Int))).setCell ⟨g,i*3+2,none⟩ (.int .u64 (x.2.2:Int))) (.slice (some ⟨g,0,none⟩) l.length cap) (l.set i x)/\w.grownBy (((w.setCell ⟨g,i*3,none⟩ (.int .u64 (x.1:Int))).setCell ⟨g,i*3+1,none⟩ (.int .u64 (x.2.1:Int))).setCell ⟨g,i*3+2,none⟩ (.int .u64 (x.2.2:Int))) (some g):=by
 obtain⟨a0,c⟩:=World.ownsRow.stored h (i*3) (.int .u64 (x.1:Int));obtain⟨d,b1⟩:=World.ownsRow.stored a0 (i*3+1) (.int .u64 (x.2.1:Int));obtain⟨a,b2⟩:=World.ownsRow.stored d (i*3+2) (.int .u64 (x.2.2:Int));rw[<-ng l i x b]at a;exact⟨by unfold Own;rw[List.length_set];exact a,(ak (ak c b1) b2)⟩
theorem gd{w:World}{ops:Array Oper}{rest:List Oper}{o:Oper}{a:Act}{Q:Exit->Act->World->Prop}(p:o.guard=none)(x c:Operand)
 (l:o.op=Op.makeSlice 76 x c) (base:Nat) (kl s:IntKind) (n:Nat) (hl:a.eval x=.int kl (n:Int)) (v:a.eval c=.int s (n:Int)) (B:n<=1000000) (b:base<=w.heap.size)
 (h:∀g w',Own base w' (.slice (some ⟨g,0,none⟩) n n) (List.replicate n default)->base<=g->Below base w w'->wpList Tryz.prog ops Q rest (a.put o.dst (.slice (some ⟨g,0,none⟩) n n)) w'):wpList Tryz.prog ops Q (o::rest) a w:=by
 obtain⟨i0,u,j,i,f⟩:=info_parts info;refine wpList_make_full w p x c 76 l base 204 i0 (.agg #[.int .u64 0,.int .u64 0,.int .u64 0]) 3 Tryz.underlying76 u j i kl s n n n hl v rfl rfl (by rw[f];omega) (by unfold maxLen;omega) b ?_;intro w' d q;have e:(madeCells (Value.cells (.agg #[.int .u64 0,.int .u64 0,.int .u64 0])) (n*3)).toList=cells (List.replicate n default):=by
  apply List.ext_getElem?;intro k;by_cases m:k<n*3
  ·have t:=ig (List.replicate n default) (k/3) (k%3) (by rw[List.length_replicate];omega) (by omega);rw[show k/3*3+k%3=k by omega]at t;have y:(List.replicate n (default:El)).getD (k/3) default=default:=by
    rw[List.getD_eq_getElem?_getD,List.getElem?_replicate];split<;>rfl
   rw[t,y];have hm:k%3<3:=Nat.mod_lt _ (by decide);have q:(madeCells (Value.cells (.agg #[.int .u64 0,.int .u64 0,.int .u64 0])) (n*3))[k]?=some ((Value.cells (.agg #[.int .u64 0,.int .u64 0,.int .u64 0]))[k%3]!):=by
    unfold madeCells;rw[Array.getElem?_map,Array.getElem?_range,if_pos m];rfl
   rw[Array.getElem?_toList,q];generalize k%3=r at hm⊢;match r,hm with
   |0,_=>rfl
   |1,_=>rfl
   |2,_=>rfl
  ·have A:(madeCells (Value.cells (.agg #[.int .u64 0,.int .u64 0,.int .u64 0])) (n*3)).toList.length<=k:=by rw[Array.length_toList,size_madeCells];omega
   have z:(cells (List.replicate n default)).length<=k:=by rw[bH,List.length_replicate];omega
   rw[List.getElem?_eq_none A,List.getElem?_eq_none z]
 rw[e]at d;refine h _ w' (by unfold Own;rw[List.length_replicate];exact d) b ((Below.refl _ _).grown q b (fun k m=>by cases m))
end Go.Proofs.YtbpodmallknhfaaGreat.fX
namespace Go.Proofs.YtbpodmallknhfaaGreat.gj
open Go.RowKit Go.Proofs.YtbpodmallknhfaaGreat.Lr
abbrev El:=Di
def enc(c:El):List Value:=[.int .u32 (c.1:Int),.int .u64 (c.2:Int)]
def cells(l:List El):List Value:=l.flatMap enc
theorem bH:∀l:List El,(cells l).length=l.length*2
 | []=>rfl
 |h::l=>by
  have:=bH l;simp only[cells,List.flatMap_cons,List.length_append,List.length_cons]at*
  simp only[enc,List.length_cons,List.length_nil];omega
theorem jG(a b:List El):cells (a++b)=cells a++cells b:=by simp[cells]
theorem ig:∀(l:List El)(i j:Nat),i<l.length->j<2->(cells l)[i*2+j]?=(enc (l.getD i default))[j]?
 | [],i,_,h,_=>by simp at h
 |x::l,0,j,_,hj=>by
  simp only[cells,List.flatMap_cons,Nat.zero_mul,Nat.zero_add];rw[List.getElem?_append_left (by simpa[enc]using hj)];rfl
 |x::l,i+1,j,h,hj=>by
  have:=ig l i j (by simpa using h) hj;simp only[cells,List.flatMap_cons]at*
  rw[List.getElem?_append_right (by simp only[enc,List.length_cons,List.length_nil];omega)];rw[show(i+1)*2+j-(enc x).length=i*2+j by simp only[enc,List.length_cons,List.length_nil];omega,this];simp
theorem nh(l:List El):∀u∈cells l,u.oneCell'=true:=by
 intro u hu;simp only[cells,List.mem_flatMap,enc]at hu;obtain⟨x,_,a⟩:=hu;simp at a;rcases a with rfl|rfl<;>rfl
theorem ng(l:List El)(i:Nat)(h:El)(a:i<l.length):cells (l.set i h)=(((cells l).set (i*2) (.int .u32 (h.1:Int))).set (i*2+1) (.int .u64 (h.2:Int))):=by
 induction l generalizing i with
 |nil=>simp at a
 |cons x l ih=>
  cases i with
  |zero=>simp[cells,enc]
  |succ i=>
   have:=ih i (by simpa using a);rw[show(i+1)*2=i*2+2 by omega];simp only[cells,List.set_cons_succ,List.flatMap_cons,enc]at*
   simpa using this
structure aV(w:World)(v:Value)(l:List El):Prop where
 form:∃p cap,v=.slice p l.length cap/\(l.length<=cap/\cap<=9223372036854775807)/\(p=none->cap=0)/\(0<l.length->∃b off,p=some ⟨b,off,none⟩/\∀j,j<l.length*2->w.cell? ⟨b,off+j,none⟩=(cells l)[j]?)
theorem aV.below{w w':World}{v:Value}{l:List El}(h:aV w v l)(k:Below w.heap.size w w'):aV w' v l:=by
 obtain⟨p,cap,e,f,g,hp⟩:=h.form;refine⟨p,cap,e,f,g,fun h0=>?_⟩;obtain⟨b,off,c,i⟩:=hp h0;refine⟨b,off,c,fun j d=>?_⟩;have a:=i j d;rw[List.getElem?_eq_getElem (by rw[bH];exact d)]at a⊢;rw[k.cell (p:=⟨b,off+j,none⟩) (block_lt_of_cell a)];exact a
theorem aV.grown{w w':World}{v:Value}{l:List El}{row:Option Nat}(h:aV w v l)(k:w.grownBy w' row)(d:0<l.length->v.ownBlock≠row):aV w' v l:=by
 obtain⟨p,cap,e,g,i,hp⟩:=h.form;refine⟨p,cap,e,g,i,fun h0=>?_⟩;obtain⟨b,off,a,m⟩:=hp h0;refine⟨b,off,a,fun j f=>?_⟩;have c:=m j f;rw[List.getElem?_eq_getElem (by rw[bH];exact f)]at c⊢;refine k.cell c ?_;have:=d h0;rw[e,a]at this;exact this
theorem aV.at{w:World}{b off cap:Nat}{l:List El}(h:aV w (.slice (some ⟨b,off,none⟩) l.length cap) l)(i:Nat)(g:i<l.length)(j:Nat)(f:j<2):
 w.cell? ⟨b,off+i*2+j,none⟩=(enc (l.getD i default))[j]?:=by
 obtain⟨m,e,d,n,hz,hp⟩:=h.form;obtain⟨o,c,a,k⟩:=hp (by omega);subst a;simp only[Value.slice.injEq,Option.some.injEq,Addr.mk.injEq,and_true,true_and]at d;obtain⟨⟨rfl,rfl⟩,rfl⟩:=d;rw[Nat.add_assoc,k (i*2+j) (by omega),ig l i j g f]
theorem aV.some{w:World}{v:Value}{l:List El}(h:aV w v l)(h0:0<l.length):∃b off cap,v=.slice (some ⟨b,off,none⟩) l.length cap:=by
 obtain⟨p,cap,a,-,-,hp⟩:=h.form;obtain⟨b,off,rfl,-⟩:=hp h0;exact⟨b,off,cap,a⟩
theorem aV.slice{w:World}{v:Value}{l:List El}(h:aV w v l):∃p cap,v=.slice p l.length cap:=by
 obtain⟨p,cap,a,-⟩:=h.form;exact⟨p,cap,a⟩
theorem eg(w:World):aV w (.slice none 0 0) []:=⟨none,0,rfl,by decide,fun _=>rfl,fun h=>absurd h (by decide)⟩
theorem info:(Tryz.prog.info? 104).map (fun i=>(i.zero,i.size,i.bytes))=some (some (.agg #[.int .u32 0,.int .u64 0]),2,16):=by kernel_rfl
def Own(base:Nat)(w:World)(v:Value)(l:List El):Prop:=w.ownsRow base 104 2 v l.length (cells l)
theorem Own.form{base:Nat}{w:World}{v:Value}{l:List El}(h:Own base w v l):(v=.slice none 0 0/\l=[])\/∃g cap,v=.slice (some ⟨g,0,none⟩) l.length cap/\base<=g/\g<w.heap.size/\l.length<=cap/\cap<=9223372036854775807:=by
 rcases h.2 with⟨a,h0⟩|⟨g,cap,cur,a,c,b,e,d,i,f⟩
 ·exact Or.inl ⟨a,List.eq_nil_of_length_eq_zero h0⟩
 ·exact Or.inr ⟨g,cap,a,c,lt_of_block b,e,d⟩
theorem Own.bz{base:Nat}{w:World}{v:Value}{l:List El}(h:Own base w v l):aV w v l:=by
 rcases h.2 with⟨a,h0⟩|⟨g,cap,cur,a,i,c,f,e,k,d⟩
 ·exact⟨none,0,by rw[a,h0],by omega,fun _=>rfl,fun h=>absurd h (by omega)⟩
 ·refine⟨some ⟨g,0,none⟩,cap,a,⟨f,e⟩,fun h=>by simp at h,fun _=>⟨g,0,rfl,fun j b=>?_⟩⟩;rw[Nat.zero_add,cell_of_row _ g j cur 104 (0,0) c,<-d,List.getElem?_take,if_pos b,Array.getElem?_toList]
theorem Own.grown{base:Nat}{w w':World}{v:Value}{l:List El}{row:Option Nat}(h:Own base w v l)(b:w.grownBy w' row)(a:v.ownBlock=none\/v.ownBlock≠row):Own base w' v l:=h.kept b a
theorem Own.below{base:Nat}{w w':World}{v:Value}{l:List El}(h:Own base w v l)(a:Below w.heap.size w w'):Own base w' v l:=
 h.grown (row:=none) (aR a none) (by cases b:v.ownBlock<;>simp)
theorem Own.from{base base':Nat}{w:World}{v:Value}{l:List El}(h:Own base w v l)(c:base'<=base):Own base' w v l:=by
 refine⟨h.1,?_⟩;rcases h.2 with d|⟨g,cap,cur,a,b,r⟩
 ·exact Or.inl d
 ·exact Or.inr ⟨g,cap,cur,a,Nat.le_trans c b,r⟩
theorem aM(base:Nat)(w:World):Own base w (.slice none 0 0) []:=⟨rfl,Or.inl ⟨rfl,rfl⟩⟩
theorem ky(w:World)(base:Nat)(a:base<=w.heap.size):Own base (w.alloc (.cells #[] 104)) (.slice (some ⟨w.heap.size,0,none⟩) 0 0) []:=
 ⟨rfl,Or.inr ⟨w.heap.size,0,#[],rfl,a,heap_alloc_last _ _,Nat.le_refl _,Nat.zero_le _,rfl,rfl⟩⟩
theorem aB{w:World}{ops:Array Oper}{rest:List Oper}{o:Oper}{a:Act}{Q:Exit->Act->World->Prop}(m:o.guard=none)(s x:Operand)
 (F:o.op=.call {callee:=.builtin .append,args:=#[s,x],argTypes:=#[66,66]})
 (base:Nat) (v:Value) (l1:List El) (hs:a.eval s=v) (d:Own base w v l1)
 (D:Value) (e:List El) (E:a.eval x=D) (K:aV w D e) (hlen:l1.length+e.length<=1000000) (l:base<=w.heap.size)
 (h:∀q w',Own base w' q (l1++e)->Below base w w'->w.grownBy w' v.ownBlock->wpList Tryz.prog ops Q rest (a.put o.dst q) w'):wpList Tryz.prog ops Q (o::rest) a w:=by
 obtain⟨i0,H,y,t,r⟩:=info_parts info;obtain⟨p,cap,rfl,_,I,hp⟩:=K.form;cases p with
 |none=>
  obtain rfl:=I rfl;have z:e.length=0:=by
   rcases Nat.eq_zero_or_pos e.length with h0|h0
   ·exact h0
   ·obtain⟨b,off,he,_⟩:=hp h0;simp at he
  obtain rfl:e=[]:=List.eq_nil_of_length_eq_zero z;refine wpList_append_own_none m s x 66 F base 104 i0 2 Tryz.underlying66 H v l1.length (cells l1) hs d E ?_;refine h v w ?_ (Below.refl _ _) (World.grownBy.refl _ _);simpa using d
 |some ad=>
  refine wpList_append_own w m s x 66 F base 104 i0 (.agg #[.int .u32 0,.int .u64 0]) 2 16 Tryz.underlying66 H y t r rfl (by decide) v l1.length (cells l1) hs d ad e.length cap (cells e) E (bH _) ?_ (nh e) (by unfold maxLen;omega) (by omega) l ?_
  ·intro j u B;have A:j<e.length*2:=by
    rcases Nat.lt_or_ge j (e.length*2)with C|C
    ·exact C
    ·rw[List.getElem?_eq_none (by rw[bH];exact C)]at B;simp at B
   obtain⟨b,off,he,J⟩:=hp (by omega);obtain rfl:=Option.some.inj he;have n:(⟨b,off,none⟩:Addr).add j=⟨b,off+j,none⟩:=by unfold Addr.add;split<;>simp_all
   rw[n,J j A,B]
  ·intro q w' f i _;rw[<-jG,<-List.length_append]at f;refine h q w' f ((Below.refl _ _).grown i l ?_) i;intro k G;rcases d.2 with⟨rfl,_⟩|⟨g,c,cur,rfl,L,_⟩
   ·simp[Value.ownBlock]at G
   ·simp only[Value.ownBlock,Option.some.injEq]at G;omega
theorem Own.stored{base g cap:Nat}{w:World}{l:List El}(h:Own base w (.slice (some ⟨g,0,none⟩) l.length cap) l)(i:Nat)(b:i<l.length)(x:El):
 Own base ((w.setCell ⟨g,i*2,none⟩ (.int .u32 (x.1:Int))).setCell ⟨g,i*2+1,none⟩ (.int .u64 (x.2:Int))) (.slice (some ⟨g,0,none⟩) l.length cap) (l.set i x)/\w.grownBy ((w.setCell ⟨g,i*2,none⟩ (.int .u32 (x.1:Int))).setCell ⟨g,i*2+1,none⟩ (.int .u64 (x.2:Int))) (some g):=by
 obtain⟨a0,c⟩:=World.ownsRow.stored h (i*2) (.int .u32 (x.1:Int));obtain⟨a,b1⟩:=World.ownsRow.stored a0 (i*2+1) (.int .u64 (x.2:Int));rw[<-ng l i x b]at a;exact⟨by unfold Own;rw[List.length_set];exact a,(ak c b1)⟩
theorem gd{w:World}{ops:Array Oper}{rest:List Oper}{o:Oper}{a:Act}{Q:Exit->Act->World->Prop}(p:o.guard=none)(x c:Operand)
 (l:o.op=Op.makeSlice 66 x c) (base:Nat) (kl s:IntKind) (n:Nat) (hl:a.eval x=.int kl (n:Int)) (v:a.eval c=.int s (n:Int)) (B:n<=1000000) (b:base<=w.heap.size)
 (h:∀g w',Own base w' (.slice (some ⟨g,0,none⟩) n n) (List.replicate n default)->base<=g->Below base w w'->wpList Tryz.prog ops Q rest (a.put o.dst (.slice (some ⟨g,0,none⟩) n n)) w'):wpList Tryz.prog ops Q (o::rest) a w:=by
 obtain⟨i0,u,j,i,f⟩:=info_parts info;refine wpList_make_full w p x c 66 l base 104 i0 (.agg #[.int .u32 0,.int .u64 0]) 2 Tryz.underlying66 u j i kl s n n n hl v rfl rfl (by rw[f];omega) (by unfold maxLen;omega) b ?_;intro w' d q;have e:(madeCells (Value.cells (.agg #[.int .u32 0,.int .u64 0])) (n*2)).toList=cells (List.replicate n default):=by
  apply List.ext_getElem?;intro k;by_cases m:k<n*2
  ·have t:=ig (List.replicate n default) (k/2) (k%2) (by rw[List.length_replicate];omega) (by omega);rw[show k/2*2+k%2=k by omega]at t;have y:(List.replicate n (default:El)).getD (k/2) default=default:=by
    rw[List.getD_eq_getElem?_getD,List.getElem?_replicate];split<;>rfl
   rw[t,y];have hm:k%2<2:=Nat.mod_lt _ (by decide);have q:(madeCells (Value.cells (.agg #[.int .u32 0,.int .u64 0])) (n*2))[k]?=some ((Value.cells (.agg #[.int .u32 0,.int .u64 0]))[k%2]!):=by
    unfold madeCells;rw[Array.getElem?_map,Array.getElem?_range,if_pos m];rfl
   rw[Array.getElem?_toList,q];generalize k%2=r at hm⊢;match r,hm with
   |0,_=>rfl
   |1,_=>rfl
  ·have A:(madeCells (Value.cells (.agg #[.int .u32 0,.int .u64 0])) (n*2)).toList.length<=k:=by rw[Array.length_toList,size_madeCells];omega
   have z:(cells (List.replicate n default)).length<=k:=by rw[bH,List.length_replicate];omega
   rw[List.getElem?_eq_none A,List.getElem?_eq_none z]
 rw[e]at d;refine h _ w' (by unfold Own;rw[List.length_replicate];exact d) b ((Below.refl _ _).grown q b (fun k m=>by cases m))
end Go.Proofs.YtbpodmallknhfaaGreat.gj
namespace Go.Proofs.YtbpodmallknhfaaGreat
open Go.RowKit
theorem _root_.Go.RowKit.Below.goN{c:Nat}{a b:World}(h:Below c a b)(n:Nat):Below c a (b.drewN n):=⟨h.os,h.tape,h.output,h.size,fun k d=>h.block k d⟩
theorem _root_.Go.RowKit.Below.kH{c:Nat}{a b:World}(h:Below c a b):Below c a b.drew:=⟨h.os,h.tape,h.output,h.size,fun k d=>h.block k d⟩
abbrev cz(x:Lr.R)(o n u c d:Value):Value:=.agg #[.int .i64 x.kind,.int .u64 (x.bj:Int),.int .u32 (x.ai:Int),.int .u64 (x.bs:Int),.int .u32 (x.aA:Int),.int .u16 (x.off:Int),o,n,u,.int .u64 (x.prev:Int),.int .u64 (x.next:Int),.bool x.jE,.int .u64 (x.bf:Int),c,d]
def aD(x:Lr.R)(o n u c d:Value):Obj:=.cells #[.int .i64 x.kind,.int .u64 (x.bj:Int),.int .u32 (x.ai:Int),.int .u64 (x.bs:Int),.int .u32 (x.aA:Int),.int .u16 (x.off:Int),o,n,u,.int .u64 (x.prev:Int),.int .u64 (x.next:Int),.bool x.jE,.int .u64 (x.bf:Int),c,d] 78
def qk:Obj:=.cells #[.int .i64 0,.int .u64 0,.int .u32 0,.int .u64 0,.int .u32 0,.int .u16 0,.slice none 0 0,.slice none 0 0,.slice none 0 0,.int .u64 0,.int .u64 0,.bool false,.int .u64 0,.slice none 0 0,.slice none 0 0] 78
structure bA(w:World)(x:Lr.R)(o n u c d:Value):Prop where
 old:aV w o x.old
 new:aV w n x.new
 bD:aV w u x.bD
 dm:fX.aV w c x.dm
 bR:gj.aV w d x.bR
 ok:Lr.Ok x
structure ki(base:Nat)(w:World)(x:Lr.R)(o n u c d:Value):Prop where
 old:Own base w o x.old
 new:Own base w n x.new
 bD:Own base w u x.bD
 dm:fX.Own base w c x.dm
 bR:gj.Own base w d x.bR
 ok:Lr.Ok x
section
variable{base base':Nat}{w w':World}{x:Lr.R}{o n u c d:Value}
theorem bA.below(h:bA w x o n u c d)(a:Below w.heap.size w w'):bA w' x o n u c d:=⟨h.old.below a,h.new.below a,h.bD.below a,h.dm.below a,h.bR.below a,h.ok⟩
theorem ki.below(h:ki base w x o n u c d)(a:Below w.heap.size w w'):ki base w' x o n u c d:=⟨h.old.below a,h.new.below a,h.bD.below a,h.dm.below a,h.bR.below a,h.ok⟩
theorem ki.at(h:ki base w x o n u c d):bA w x o n u c d:=⟨h.old.bz,h.new.bz,h.bD.bz,h.dm.bz,h.bR.bz,h.ok⟩
theorem Ds:Lr.Ok Lr.zero:=by
 refine⟨by decide,by decide,by decide,by decide,by decide,by decide,?_,?_,?_,by decide,by decide,by decide,?_,?_⟩<;>intro b a<;>cases a
theorem tb(base:Nat)(w:World):ki base w Lr.zero (.slice none 0 0) (.slice none 0 0) (.slice none 0 0) (.slice none 0 0) (.slice none 0 0):=⟨aM _ _,aM _ _,aM _ _,fX.aM _ _,gj.aM _ _,Ds⟩
theorem aV.slice{v:Value}{l:List Nat}(h:aV w v l):∃p cap,v=.slice p l.length cap:=by
 obtain⟨p,cap,a,-⟩:=h.form;exact⟨p,cap,a⟩
theorem ax(h:bA w x o n u c d):∃g c1 f c2 e c3 b c4 a c5,o=.slice g x.old.length c1/\n=.slice f x.new.length c2/\u=.slice e x.bD.length c3/\c=.slice b x.dm.length c4/\d=.slice a x.bR.length c5:=by
 obtain⟨g,c1,m⟩:=h.old.slice;obtain⟨f,c2,l⟩:=h.new.slice;obtain⟨e,c3,k⟩:=h.bD.slice;obtain⟨b,c4,j⟩:=h.dm.slice;obtain⟨a,c5,i⟩:=h.bR.slice;exact⟨g,c1,f,c2,e,c3,b,c4,a,c5,m,l,k,j,i⟩
end
theorem au{w:World}{B:Nat}{a0 j i a3 a4 a5 a6 g f a9 e d c b a:Value}{T:TypeId}(h:w.heap[B]?=some (.cells #[a0,j,i,a3,a4,a5,a6,g,f,a9,e,d,c,b,a] T (0,0))):w.cell? ⟨B,0,none⟩=some a0/\w.cell? ⟨B,1,none⟩=some j/\w.cell? ⟨B,2,none⟩=some i/\w.cell? ⟨B,3,none⟩=some a3/\w.cell? ⟨B,4,none⟩=some a4/\w.cell? ⟨B,5,none⟩=some a5/\w.cell? ⟨B,6,none⟩=some a6/\w.cell? ⟨B,7,none⟩=some g/\w.cell? ⟨B,8,none⟩=some f/\w.cell? ⟨B,9,none⟩=some a9/\w.cell? ⟨B,10,none⟩=some e/\w.cell? ⟨B,11,none⟩=some d/\w.cell? ⟨B,12,none⟩=some c/\w.cell? ⟨B,13,none⟩=some b/\w.cell? ⟨B,14,none⟩=some a:=by
 refine⟨?_,?_,?_,?_,?_,?_,?_,?_,?_,?_,?_,?_,?_,?_,?_⟩<;>simp[World.cell?,h]
theorem eA{w:World}{B:Nat}{A:Array Value}{T:TypeId}(h:w.heap[B]?=some (.cells A T (0,0)))(i:Nat):w.frozen? ⟨B,i,none⟩=false:=by simp[World.frozen?,h]
theorem dy{w:World}{B i:Nat}{A:Array Value}{T:TypeId}(v:Value)(h:w.heap[B]?=some (.cells A T (0,0))):(w.setCell ⟨B,i,none⟩ v).heap[B]?=some (.cells (A.setIfInBounds i v) T (0,0)):=by
 have a:=lt_of_block h;have b:w.heap[B]=.cells A T (0,0):=by simpa[Array.getElem?_eq_getElem a]using h
 show(w.heap.modify B _)[B]?=_;rw[Array.getElem?_eq_getElem (by simpa using a),Array.getElem_modify_self,b];rfl
theorem dj(w:World)(x:Lr.R)(o n u c d:Value):(w.alloc (aD x o n u c d)).heap[w.heap.size]?=some (.cells #[.int .i64 x.kind,.int .u64 (x.bj:Int),.int .u32 (x.ai:Int),.int .u64 (x.bs:Int),.int .u32 (x.aA:Int),.int .u16 (x.off:Int),o,n,u,.int .u64 (x.prev:Int),.int .u64 (x.next:Int),.bool x.jE,.int .u64 (x.bf:Int),c,d] 78 (0,0)):=heap_alloc_last _ _
theorem Em(w:World):(w.alloc qk).heap[w.heap.size]?=some (.cells #[.int .i64 0,.int .u64 0,.int .u32 0,.int .u64 0,.int .u32 0,.int .u16 0,.slice none 0 0,.slice none 0 0,.slice none 0 0,.int .u64 0,.int .u64 0,.bool false,.int .u64 0,.slice none 0 0,.slice none 0 0] 78 (0,0)):=heap_alloc_last _ _
theorem aj(w:World)(o:Obj):Below w.heap.size w (w.alloc o):=(Below.refl _ _).alloc (Nat.le_refl _) _
theorem iT{a b:Bool}(h:a=b):Ending.returned (.bool a)=.returned (.bool b):=by rw[h]
def Lay(A:Array Value):List (Nat×Nat×Value)->(Nat->Bool)->Array Value
 | [],_=>A
 |s::S,D=>Lay (if D s.1=true then A.setIfInBounds s.2.1 s.2.2 else A) S D
def sQ:List (Nat×Nat×Value)->Bool
 | []=>true
 |s::S=>(S.all fun a=>a.1 !=s.1&&a.2.1 !=s.2.1)&&sQ S
theorem pz{S:List (Nat×Nat×Value)}{D:Nat->Bool}{k:Nat}:∀(A:Array Value),(S.all fun s=>s.1 !=k)=true->Lay A S (Ord.bP D k)=Lay A S D:=by
 induction S with
 |nil=>intro A _;rfl
 |cons s S ih=>
  intro A h;simp only[List.all_cons,Bool.and_eq_true,bne_iff_ne,ne_eq]at h;unfold Lay;rw[show Ord.bP D k s.1=D s.1 from if_neg h.1];exact ih _ h.2
theorem Dy{S:List (Nat×Nat×Value)}{D:Nat->Bool}{i:Nat}{v:Value}:∀(A:Array Value),(S.all fun s=>s.2.1 !=i)=true->Lay (A.setIfInBounds i v) S D=(Lay A S D).setIfInBounds i v:=by
 induction S with
 |nil=>intro A _;rfl
 |cons s S ih=>
  intro A h;simp only[List.all_cons,Bool.and_eq_true,bne_iff_ne,ne_eq]at h;unfold Lay;split
  ·rw[Array.setIfInBounds_comm _ _ (Ne.symm h.1)];exact ih _ h.2
  ·exact ih _ h.2
theorem Dz{S:List (Nat×Nat×Value)}{D:Nat->Bool}{k i:Nat}{v:Value}:∀(A:Array Value),sQ S=true->(k,i,v)∈S->D k=false->Lay A S (Ord.bP D k)=(Lay A S D).setIfInBounds i v:=by
 induction S with
 |nil=>intro A _ h;cases h
 |cons s S ih=>
  intro A c hm f;unfold sQ at c;rw[Bool.and_eq_true]at c;have a:=List.all_eq_true.1 c.1;simp only[Bool.and_eq_true,bne_iff_ne,ne_eq]at a;rcases List.mem_cons.1 hm with h|h
  ·subst h;unfold Lay;rw[show Ord.bP D k (k,i,v).1=true from if_pos rfl,if_pos rfl];simp only[f,Bool.false_eq_true,if_false];rw[pz _ (List.all_eq_true.2 fun d b=>by simp only[bne_iff_ne,ne_eq];exact(a d b).1)];exact Dy _ (List.all_eq_true.2 fun d b=>by simp only[bne_iff_ne,ne_eq];exact(a d b).2)
  ·unfold Lay;have g:=a _ h;rw[show Ord.bP D k s.1=D s.1 from if_neg (fun e=>g.1 e.symm)];exact ih _ c.2 h f
theorem kB{S:List (Nat×Nat×Value)}{D:Nat->Bool}:∀(A:Array Value),(∀s∈S,D s.1=true)->Lay A S D=Lay A S (fun _=>true):=by
 induction S with
 |nil=>intro A _;rfl
 |cons s S c=>
  intro A h;unfold Lay;rw[h s (List.mem_cons_self ..),if_pos rfl];exact c _ fun b a=>h b (List.mem_cons_of_mem _ a)
theorem BH{S:List (Nat×Nat×Value)}:∀(A:Array Value),Lay A S (fun _=>false)=A:=by
 induction S with
 |nil=>intro A;rfl
 |cons s S ih=>intro A;unfold Lay;exact ih _
structure dR(W:World)(B:Nat)(A:Array Value)(T:TypeId)(S:List (Nat×Nat×Value))(D:Nat->Bool)(w:World):Prop where
 grown:W.grownBy w (some B)
 row:w.heap[B]?=some (.cells (Lay A S D) T (0,0))
section
variable{W w:World}{B k i:Nat}{A:Array Value}{T:TypeId}{S:List (Nat×Nat×Value)}{D:Nat->Bool}{v:Value}
theorem dR.first(h:W.heap[B]?=some (.cells A T (0,0))):dR W B A T S (fun _=>false) W.drew:=⟨dF W _,by rw[BH];exact h⟩
theorem dR.skip(h:dR W B A T S D w)(a:(S.all fun s=>s.1 !=k)=true):dR W B A T S (Ord.bP D k) w:=⟨h.grown,by rw[pz _ a];exact h.row⟩
theorem dR.put(h:dR W B A T S D w)(k i:Nat)(v:Value)(a:sQ S=true)(hm:(k,i,v)∈S)(b:D k=false):dR W B A T S (Ord.bP D k) (w.setCell ⟨B,i,none⟩ v):=
 ⟨ak h.grown (an _ _ _ _),by rw[Dz _ a hm b];exact dy v h.row⟩
theorem dR.free(h:dR W B A T S D w)(i:Nat):w.frozen? ⟨B,i,none⟩=false:=eA h.row i
theorem dR.cell(h:dR W B A T S D w){b o:Nat}{u:Value}(a:W.cell? ⟨b,o,none⟩=some u)(c:b≠B):w.cell? ⟨b,o,none⟩=some u:=h.grown.cell a (fun e=>c (Option.some.inj e))
theorem BG{S:List (Nat×Nat×Value)}{D:Nat->Bool}:∀(A:Array Value),(Lay A S D).size=A.size:=by
 induction S with
 |nil=>intro A;rfl
 |cons s S ih=>intro A;unfold Lay;rw[ih];split<;>simp
theorem dR.there(h:dR W B A T S D w)(i:Nat)(a:i<A.size):∃u,w.cell? ⟨B,i,none⟩=some u:=by
 rw[cell_of_row _ B i _ T (0,0) h.row];exact⟨_,Array.getElem?_eq_getElem (by rw[BG];exact a)⟩
end
theorem aX(w:World):aV w (.slice none 0 0) []:=(aM 0 w).bz
theorem kz{x:Lr.R}{y:Lr.R}(h:Lr.Ok x)(f:y.kind=x.kind:=by rfl)(p:y.bj=x.bj:=by rfl)(o:y.ai=x.ai:=by rfl)(n:y.bs=x.bs\/y.bs=0:=by first|exact Or.inl rfl|exact Or.inr rfl)(m:y.aA=x.aA\/y.aA=0:=by first|exact Or.inl rfl|exact Or.inr rfl)(l:y.off=x.off\/y.off=0:=by first|exact Or.inl rfl|exact Or.inr rfl)
 (k:y.old=x.old\/y.old=[]:=by first|exact Or.inl rfl|exact Or.inr rfl) (j:y.new=x.new\/y.new=[]:=by first|exact Or.inl rfl|exact Or.inr rfl) (i:y.bD=x.bD\/y.bD=[]:=by first|exact Or.inl rfl|exact Or.inr rfl) (g:y.prev=x.prev\/y.prev=0:=by first|exact Or.inl rfl|exact Or.inr rfl) (d:y.next=x.next\/y.next=0:=by first|exact Or.inl rfl|exact Or.inr rfl)
 (c:y.bf=x.bf\/y.bf=0:=by first|exact Or.inl rfl|exact Or.inr rfl) (b:y.dm=x.dm\/y.dm=[]:=by first|exact Or.inl rfl|exact Or.inr rfl) (a:y.bR=x.bR\/y.bR=[]:=by first|exact Or.inl rfl|exact Or.inr rfl):Lr.Ok y:=by
 refine⟨by rw[f];exact h.kind,by rw[p];exact h.bj,by rw[o];exact h.ai,?_,?_,?_,?_,?_,?_,?_,?_,?_,?_,?_⟩
 ·rcases n with e|e<;>rw[e];exact h.bs;decide
 ·rcases m with e|e<;>rw[e];exact h.aA;decide
 ·rcases l with e|e<;>rw[e];exact h.off;decide
 ·rcases k with e|e<;>rw[e];exact h.old;simp
 ·rcases j with e|e<;>rw[e];exact h.new;simp
 ·rcases i with e|e<;>rw[e];exact h.bD;simp
 ·rcases g with e|e<;>rw[e];exact h.prev;decide
 ·rcases d with e|e<;>rw[e];exact h.next;decide
 ·rcases c with e|e<;>rw[e];exact h.bf;decide
 ·rcases b with e|e<;>rw[e];exact h.dm;simp
 ·rcases a with e|e<;>rw[e];exact h.bR;simp
section
variable{ops:Array Oper}{rest:List Oper}{o:Oper}{a:Act}{w:World}{Q:Exit->Act->World->Prop}{K:Act->World->Prop}
theorem dg{A:Array Value}(h:A.size=15):(Tryz.prog.info? 78).map (·.size)=some A.size:=by rw[h];kernel_rfl
theorem aU(b:o.guard=none)(x:Operand)(d:o.op=.load 78 x)(g:Nat)(c:a.eval x=.pointer (some ⟨g,0,none⟩))(A:Array Value)(e:w.heap[g]?=some (.cells A 78 (0,0)))(hs:A.size=15)
 (h:wpList Tryz.prog ops Q rest (a.put o.dst (.agg A)) w):wpList Tryz.prog ops Q (o::rest) a w:=
 wpList_load_row b 78 x d g c _ _ _ _ e Tryz.underlying78 rfl (dg hs) h
theorem aS(c:o.guard=none)(x y:Operand)(k:o.op=.store 78 x y)(g:Nat)(j:a.eval x=.pointer (some ⟨g,0,none⟩))(A:Array Value)(f:a.eval y=.agg A)(old:Array Value)(d:w.heap[g]?=some (.cells old 78 (0,0)))(hs:A.size=15)(b:old.size=15)(m:A.all (·.oneCell')=true)
 (h:∀w',w'.heap[g]?=some (.cells A 78 (0,0))->w.grownBy w' (some g)->wpList Tryz.prog ops Q rest (a.put o.dst undef) w'):wpList Tryz.prog ops Q (o::rest) a w:=by
 refine wpList_store_row c 78 x y k g _ j f _ _ d (dg hs) (by rw[hs,b]) m (h _ (setRow_heap _ _ _ _ _ _ d) ?_);exact⟨rfl,rfl,rfl,by simp,fun i _ l=>setRow_other w g i _ (fun e=>l (by rw[e]))⟩
end
structure eo(base:Nat)(W:World)(P:Nat->World->Value->Prop)(til:Nat->Option Nat)(D:Nat->Bool)(xs:Nat->Value)(w:World):Prop where
 below:Below base W w
 size:base<=w.heap.size
 each:∀k,D k=true->(∀j,til k=some j->D j=false)->P k w (xs k)
section
variable{base:Nat}{W w w':World}{P:Nat->World->Value->Prop}{til:Nat->Option Nat}{D:Nat->Bool}{xs:Nat->Value}
theorem eo.first(xs:Nat->Value)(hs:base<=W.heap.size):eo base W P til (fun _=>false) xs W.drew:=⟨(Below.refl _ _).kH,hs,fun _ h=>(by cases h)⟩
theorem eo.step(h:eo base W P til D xs w)(k:Nat)(v:Value)(a:∀k w w' v,P k w v->Below w.heap.size w w'->P k w' v)(b:Below w.heap.size w w')(hp:P k w' v):eo base W P til (Ord.bP D k) (Ord.set xs k v) w':=by
 refine⟨h.below.trans (b.mono h.size),Nat.le_trans h.size b.size,fun j c f=>?_⟩;by_cases e:j=k
 ·subst e;rw[show Ord.set xs j v j=v from if_pos rfl];exact hp
 ·rw[show Ord.set xs k v j=xs j from if_neg e];rw[show Ord.bP D k j=D j from if_neg e]at c;refine a _ _ _ _ (h.each j c fun i d=>?_) b;have:=f i d;unfold Ord.bP at this;split at this
  ·cases this
  ·exact this
theorem eo.append(h:eo base W P til D xs w)(k:Nat)(v:Value)(b:Below base w w')(hd:∀j,j≠k->D j=true->(∀i,til j=some i->Ord.bP D k i=false)->P j w' (xs j))(hp:P k w' v):eo base W P til (Ord.bP D k) (Ord.set xs k v) w':=by
 refine⟨h.below.trans b,Nat.le_trans h.size b.size,fun j a c=>?_⟩;by_cases e:j=k
 ·subst e;rw[show Ord.set xs j v j=v from if_pos rfl];exact hp
 ·rw[show Ord.set xs k v j=xs j from if_neg e];rw[show Ord.bP D k j=D j from if_neg e]at a;exact hd j e a c
theorem jQ(D:Nat->Bool)(k:Nat):Ord.bP D k k=true:=if_pos rfl
end
theorem str_inj{a b:List Nat}(i:∀x∈a,x<256)(f:∀x∈b,x<256)(h:strOfNums (a.map fun x:Nat=>(x:Int))=strOfNums (b.map fun x:Nat=>(x:Int))):a=b:=by
 have c:=congrArg (fun s:ByteArray=>s.data.toList.map UInt8.toNat) h;simp only[strOfNums_data,List.map_map]at c;have e:∀l:List Nat,(∀x∈l,x<256)->l.map (UInt8.toNat∘(fun n:Int=>UInt8.ofNat n.toNat)∘fun x:Nat=>(x:Int))=l:=by
  intro l hl;rw[List.map_congr_left (g:=id),List.map_id];intro x d;have:=hl x d;simp;omega
 rw[e a i,e b f]at c;exact c
theorem lI{α:Type} [Inhabited α](a b:List α)(d:α)(k:Nat)(hl:a.length=b.length)(e:k<a.length)(h:a.take k=b.take k)(c:a.getD k d=b.getD k d):a.take (k+1)=b.take (k+1):=by
 rw[List.take_succ_eq_append_getElem e,List.take_succ_eq_append_getElem (by omega),h];rw[List.getD_eq_getElem?_getD,List.getElem?_eq_getElem e,List.getD_eq_getElem?_getD,List.getElem?_eq_getElem (by omega)]at c;simp only[Option.getD_some]at c;rw[c]
set_option maxHeartbeats 1600000 in
set_option maxRecDepth 20000 in
theorem aG(j i:Value)(a b:List Nat)(w:World)(d:aV w j a)(c:aV w i b):
 Calls Tryz.prog 99 #[j,i] w fun e w'=>e=.returned (.bool (decide (a=b)))/\w=w':=by
 have l:=fi d;have k:=fi c;have g:=fun h=>str_inj d.small c.small h;obtain⟨n,ca,rfl,-,-,-⟩:=d.form;obtain⟨m,cb,rfl,-,-,-⟩:=c.form;clear d c;by_cases h:a=b
 ·subst h;rw[decide_eq_true rfl];clear g;generalize strOfNums (a.map fun x:Nat=>(x:Int))=S at*
  go_enter Tryz.func99,Tryz.ntmps99;go_wp2;go_ret;exact⟨rfl,rfl⟩
 ·rw[decide_eq_false h];have f:=fun e=>h (g e);clear g;generalize strOfNums (a.map fun x:Nat=>(x:Int))=S at*
  generalize strOfNums (b.map fun x:Nat=>(x:Int))=T at*
  have o:(S.toList==T.toList)=false:=by
   rw[beq_eq_false_iff_ne];intro e;rw[ByteArray.toList_eq,ByteArray.toList_eq]at e;exact f (Go.WideShapes.bytes_inj e)
  go_enter Tryz.func99,Tryz.ntmps99;go_wp2;go_ret;exact⟨rfl,rfl⟩
theorem fX.Ca(x y:fX.El):x=y↔(x.1:Int)=(y.1:Int)/\(x.2.1:Int)=(y.2.1:Int)/\(x.2.2:Int)=(y.2.2:Int):=by
 constructor
 ·rintro rfl;exact⟨rfl,rfl,rfl⟩
 ·rintro⟨h0,b,a⟩;exact Prod.ext (by omega) (Prod.ext (by omega) (by omega))
set_option maxHeartbeats 3200000 in
set_option maxRecDepth 20000 in
theorem fX.gI(I H:Value)(a b:List fX.El)(w:World)(v:fX.aV w I a)(u:fX.aV w H b)(la:a.length<=1000000):
 Calls Tryz.prog 150 #[I,H] w fun e w'=>e=.returned (.bool (decide (a=b)))/\∃n,w'=w.drewN n:=by
 have G:=Lib.hid v;have F:=Lib.hid u;obtain⟨S,ca,rfl,O,-,j⟩:=v.form;obtain⟨R,cb,rfl,N,-,h⟩:=u.form;have E:=Lib.hid j;have D:=Lib.hid h;clear j h v u;obtain⟨r,t⟩:∃r,decide (a=b)=r:=⟨_,rfl⟩
 rw[t];have C:=Lib.hid t;clear t;by_cases s:a.length=b.length
 ·have H1:=Lib.hid s;go_enter Tryz.func150,Tryz.ntmps150;go_wp2_with fail
  clear s;go_loopw [13] (fun i wr=>∃k n:Nat,k<=a.length/\i=.int .i64 k/\a.take k=b.take k/\wr=w.drewN n) (fun i _=>a.length-(intOf i).toNat)
  case atStart=>exact⟨0,0,by omega,rfl,by simp,rfl⟩
  case round=>
   obtain⟨k,n,V,rfl,J,rfl⟩:=hrel;have M:=Lib.hid J;clear J;by_cases d:k<a.length
   ·have B:=Lib.hid (lI a b default k H1.out d M.out);have f:k<b.length:=by have:=H1.out;omega
    obtain⟨Y,U,rfl,-⟩:=E.out (by omega);obtain⟨X,T,rfl,-⟩:=D.out (by omega);have z:=G.out.at k d 0 (by decide);have y:=G.out.at k d 1 (by decide);have x:=G.out.at k d 2 (by decide);have p:=F.out.at k f 0 (by decide);have o:=F.out.at k f 1 (by decide);have m:=F.out.at k f 2 (by decide);simp only[fX.enc,List.getElem?_cons_zero,List.getElem?_cons_succ,Nat.add_zero]at z y x p o m;by_cases c:a.getD k default=b.getD k default
    ·have hs:=B.out c;have A:=Lib.hid hs;rw[<-c]at p o m;clear hs c B;generalize((a.getD k default).1:Int)=x0 at*
     generalize((a.getD k default).2.1:Int)=x1 at*
     generalize((a.getD k default).2.2:Int)=x2 at*
     go_wp2;go_quiet (fail)
     go_wp2;go_roundw
     case rel=>exact⟨k+1,_,by omega,by go_num,A.out,rfl⟩
     case measure=>simp[intOf];omega
    ·have l:a≠b:=fun e=>c (by rw[e]);have q:=Lib.hid (C.out.symm.trans (decide_eq_false l));rw[fX.Ca]at c;clear l B;generalize((a.getD k default).1:Int)=x0 at*
     generalize((a.getD k default).2.1:Int)=x1 at*
     generalize((a.getD k default).2.2:Int)=x2 at*
     generalize((b.getD k default).1:Int)=y0 at*
     generalize((b.getD k default).2.1:Int)=y1 at*
     generalize((b.getD k default).2.2:Int)=y2 at*
     have g:(x0==y0)=false\/((x0==y0)=true/\(x1==y1)=false)\/((x0==y0)=true/\(x1==y1)=true/\(x2==y2)=false):=by
      simp only[beq_eq_false_iff_ne,beq_iff_eq];omega
     clear c;rcases g with L|⟨L,Q⟩|⟨L,Q,W⟩
     all_goals
      go_wp2;go_quiet (fail)
      go_wp2;go_ret;exact⟨iT q.out.symm,_,World.drewN_drewN _ _ _⟩
   ·have hd:decide (a=b)=true:=by
     rw[decide_eq_true_iff];have K:=M.out;have s:=H1.out;rw[List.take_of_length_le (by omega),List.take_of_length_le (by omega)]at K;exact K
    have q:=Lib.hid (C.out.symm.trans hd);have P:¬k<b.length:=by have:=H1.out;omega
    clear hd;go_wp2_with fail
    go_ret;exact⟨iT q.out.symm,n,rfl⟩
 ·have hd:decide (a=b)=false:=decide_eq_false (fun e=>s (by rw[e]));have q:=Lib.hid (C.out.symm.trans hd);clear hd;go_enter Tryz.func150,Tryz.ntmps150;go_wp2_with fail
  go_ret;exact⟨iT q.out.symm,0,rfl⟩
theorem gj.Ca(x y:gj.El):x=y↔(x.1:Int)=(y.1:Int)/\(x.2:Int)=(y.2:Int):=by
 constructor
 ·rintro rfl;exact⟨rfl,rfl⟩
 ·rintro⟨h0,a⟩;exact Prod.ext (by omega) (by omega)
set_option maxHeartbeats 3200000 in
set_option maxRecDepth 20000 in
theorem gj.gI(E D:Value)(a b:List gj.El)(w:World)(u:gj.aV w E a)(t:gj.aV w D b)(la:a.length<=1000000):
 Calls Tryz.prog 151 #[E,D] w fun e w'=>e=.returned (.bool (decide (a=b)))/\∃n,w'=w.drewN n:=by
 have J:=Lib.hid u;have I:=Lib.hid t;obtain⟨P,ca,rfl,L,-,h⟩:=u.form;obtain⟨O,cb,rfl,K,-,g⟩:=t.form;have C:=Lib.hid h;have B:=Lib.hid g;clear h g u t;obtain⟨r,s⟩:∃r,decide (a=b)=r:=⟨_,rfl⟩
 rw[s];have A:=Lib.hid s;clear s;by_cases q:a.length=b.length
 ·have H1:=Lib.hid q;go_enter Tryz.func151,Tryz.ntmps151;go_wp2_with fail
  clear q;go_loopw [13] (fun i wr=>∃k n:Nat,k<=a.length/\i=.int .i64 k/\a.take k=b.take k/\wr=w.drewN n) (fun i _=>a.length-(intOf i).toNat)
  case atStart=>exact⟨0,0,by omega,rfl,by simp,rfl⟩
  case round=>
   obtain⟨k,n,S,rfl,F,rfl⟩:=hrel;have H:=Lib.hid F;clear F;by_cases d:k<a.length
   ·have z:=Lib.hid (lI a b default k H1.out d H.out);have l:k<b.length:=by have:=H1.out;omega
    obtain⟨V,R,rfl,-⟩:=C.out (by omega);obtain⟨U,Q,rfl,-⟩:=B.out (by omega);have x:=J.out.at k d 0 (by decide);have v:=J.out.at k d 1 (by decide);have o:=I.out.at k l 0 (by decide);have m:=I.out.at k l 1 (by decide);simp only[gj.enc,List.getElem?_cons_zero,List.getElem?_cons_succ,Nat.add_zero]at x v o m;by_cases c:a.getD k default=b.getD k default
    ·have hs:=z.out c;have y:=Lib.hid hs;rw[<-c]at o m;clear hs c z;generalize((a.getD k default).1:Int)=x0 at*
     generalize((a.getD k default).2:Int)=x1 at*
     go_wp2;go_quiet (fail)
     go_wp2;go_roundw
     case rel=>exact⟨k+1,_,by omega,by go_num,y.out,rfl⟩
     case measure=>simp[intOf];omega
    ·have j:a≠b:=fun e=>c (by rw[e]);have p:=Lib.hid (A.out.symm.trans (decide_eq_false j));rw[gj.Ca]at c;clear j z;generalize((a.getD k default).1:Int)=x0 at*
     generalize((a.getD k default).2:Int)=x1 at*
     generalize((b.getD k default).1:Int)=y0 at*
     generalize((b.getD k default).2:Int)=y1 at*
     have f:(x0==y0)=false\/((x0==y0)=true/\(x1==y1)=false):=by
      simp only[beq_eq_false_iff_ne,beq_iff_eq];omega
     clear c;rcases f with N|⟨N,T⟩
     all_goals
      go_wp2;go_quiet (fail)
      go_wp2;go_ret;exact⟨iT p.out.symm,_,World.drewN_drewN _ _ _⟩
   ·have hd:decide (a=b)=true:=by
     rw[decide_eq_true_iff];have G:=H.out;have q:=H1.out;rw[List.take_of_length_le (by omega),List.take_of_length_le (by omega)]at G;exact G
    have p:=Lib.hid (A.out.symm.trans hd);have M:¬k<b.length:=by have:=H1.out;omega
    clear hd;go_wp2_with fail
    go_ret;exact⟨iT p.out.symm,n,rfl⟩
 ·have hd:decide (a=b)=false:=decide_eq_false (fun e=>q (by rw[e]));have p:=Lib.hid (A.out.symm.trans hd);clear hd;go_enter Tryz.func151,Tryz.ntmps151;go_wp2_with fail
  go_ret;exact⟨iT p.out.symm,0,rfl⟩
set_option maxHeartbeats 1600000 in
set_option maxRecDepth 20000 in
theorem qx(i g:Value)(a b:List Nat)(w:World)(f:aV w i a)(d:aV w g b):
 Calls Tryz.prog 129 #[i,g] w fun e w'=>e=.returned (.bool (decide (b.length<=a.length/\a.take b.length=b)))/\w=w':=by
 have o:=Lib.hid f;have n:=Lib.hid d;obtain⟨q,ca,rfl,k,-,-⟩:=f.form;obtain⟨p,cb,rfl,j,-,-⟩:=d.form;have la:=f.len;have lb:=d.len;clear f d;by_cases h:b.length<=a.length
 ·have l:=Lib.hid (o.out.take b.length h);have c:decide (b.length<=a.length/\a.take b.length=b)=decide (a.take b.length=b):=by rw[decide_eq_decide];simp[h]
  rw[c];clear c;obtain⟨r,c⟩:∃r,decide (a.take b.length=b)=r:=⟨_,rfl⟩
  rw[c];have m:=Lib.hid c;clear c;go_enter Tryz.func129,Tryz.ntmps129;go_wp2_with fail
  refine(aG _ _ _ b w l.out n.out).mono ?_;rintro e w'⟨rfl,rfl⟩;rw[m.out];go_wp2_with fail
  go_ret;exact⟨rfl,rfl⟩
 ·rw[decide_eq_false (by simp[h])];have s:¬(b.length:Int)<=(a.length:Int):=by omega
  go_enter Tryz.func129,Tryz.ntmps129;go_wp2_with fail
  go_ret;exact⟨rfl,rfl⟩
end Go.Proofs.YtbpodmallknhfaaGreat
namespace Go.Proofs.YtbpodmallknhfaaGreat
namespace Lr
noncomputable def same(x y:R):Bool:= @decide (x=y) (Classical.propDecidable _)
theorem qP{s t:R}(h:s=t):same s t=true:=by unfold same;exact @decide_eq_true _ (_) h
theorem bZ{s t:R}(h:s≠t):same s t=false:=by unfold same;exact @decide_eq_false _ (_) h
theorem CZ{s t:R}(h:same s t=true):s=t:=by unfold same at h;exact @of_decide_eq_true _ (_) h
end Lr
end Go.Proofs.YtbpodmallknhfaaGreat
namespace Go.Proofs.YtbpodmallknhfaaGreat
open Go.RowKit
namespace Lr
def within(x:R):Bool:=
 if x.kind=1 then decide (x.old.length=x.new.length)&&decide (1<=x.new.length)&&decide (x.off+x.new.length<=500)
 else if x.kind=2 then(if x.jE then decide (x.bD.length=0)else decide (x.bD.length<=64)&&decide (x.next=0))
 else if x.kind=3 then decide (x.bs≠0)
 else if x.kind=4 then decide (x.bs≠0)
 else if x.kind=5 then decide (x.dm.length<=16)&&decide (x.bR.length<=64)
 else false
theorem within_iff(x:R):within x=true↔kh x:=by
 unfold within kh;by_cases i:x.kind=1
 ·rw[if_pos i];simp only[Bool.and_eq_true,decide_eq_true_eq];constructor
  ·rintro⟨⟨a,b⟩,c⟩;exact Or.inl ⟨i,a,b,c⟩
  ·rintro(⟨_,a,b,c⟩|⟨h,_⟩|⟨h,_⟩|⟨h,_⟩|⟨h,_⟩)
   ·exact⟨⟨a,b⟩,c⟩
   all_goals omega
 rw[if_neg i];by_cases d:x.kind=2
 ·rw[if_pos d];cases j:x.jE
  ·simp only[Bool.false_eq_true,if_false,Bool.and_eq_true,decide_eq_true_eq];constructor
   ·rintro⟨a,b⟩;exact Or.inr (Or.inl ⟨d,(fun h=>by cases h),fun _=>⟨a,b⟩⟩)
   ·rintro(⟨h,_⟩|⟨_,_,h⟩|⟨h,_⟩|⟨h,_⟩|⟨h,_⟩)
    ·omega
    ·exact h trivial
    all_goals omega
  ·simp only[if_true,decide_eq_true_eq];constructor
   ·intro a;exact Or.inr (Or.inl ⟨d,fun _=>a,(fun h=>by cases h)⟩)
   ·rintro(⟨h,_⟩|⟨_,h,_⟩|⟨h,_⟩|⟨h,_⟩|⟨h,_⟩)
    ·omega
    ·exact h trivial
    all_goals omega
 rw[if_neg d];by_cases g:x.kind=3
 ·rw[if_pos g,decide_eq_true_eq];constructor
  ·intro a;exact Or.inr (Or.inr (Or.inl ⟨g,a⟩))
  ·rintro(⟨h,_⟩|⟨h,_⟩|⟨_,h⟩|⟨h,_⟩|⟨h,_⟩)
   ·omega
   ·omega
   ·exact h
   all_goals omega
 rw[if_neg g];by_cases f:x.kind=4
 ·rw[if_pos f,decide_eq_true_eq];constructor
  ·intro a;exact Or.inr (Or.inr (Or.inr (Or.inl ⟨f,a⟩)))
  ·rintro(⟨h,_⟩|⟨h,_⟩|⟨h,_⟩|⟨_,h⟩|⟨h,_⟩)
   ·omega
   ·omega
   ·omega
   ·exact h
   ·omega
 rw[if_neg f];by_cases e:x.kind=5
 ·rw[if_pos e];simp only[Bool.and_eq_true,decide_eq_true_eq];constructor
  ·rintro⟨a,b⟩;exact Or.inr (Or.inr (Or.inr (Or.inr ⟨e,a,b⟩)))
  ·rintro(⟨h,_⟩|⟨h,_⟩|⟨h,_⟩|⟨h,_⟩|⟨_,h⟩)
   ·omega
   ·omega
   ·omega
   ·omega
   ·exact h
 rw[if_neg e];constructor
 ·intro h;cases h
 ·rintro(⟨h,_⟩|⟨h,_⟩|⟨h,_⟩|⟨h,_⟩|⟨h,_⟩)<;>omega
end Lr
theorem du{a b:Nat}:((a:Int)==(b:Int))=decide (a=b):=by
 rw[Bool.eq_iff_iff,beq_iff_eq,decide_eq_true_eq];omega
theorem leI{a b:Nat}:decide ((a:Int)<=(b:Int))=decide (a<=b):=by
 rw[Bool.eq_iff_iff];simp
set_option maxHeartbeats 1600000 in
set_option maxRecDepth 20000 in
theorem om(x:Lr.R)(o n u c d:Value)(w:World)(h:bA w x o n u c d):
 Calls Tryz.prog 110 #[cz x o n u c d] w fun e w'=>e=.returned (.bool (Lr.within x))/\Below w.heap.size w w':=by
 obtain⟨W,f⟩:∃W,W=w.alloc (aD x o n u c d):=⟨_,rfl⟩
 have l:=aj w (aD x o n u c d);have j:=dj w x o n u c d;rw[<-f]at l j;have g:=Lib.hid l;obtain⟨Q,P,O,N,M,L,K,J,I,H,E,D,C,B,A⟩:=au j;obtain⟨Y,c1,X,c2,V,c3,U,c4,T,c5,rfl,rfl,rfl,rfl,rfl⟩:=ax h;have z:=h.ok.off;clear h l j;unfold aD at f;obtain⟨k,bj,ep,bs,S,off,ol,nw,un,pv,i,G,st,op,t⟩:=x;dsimp only at*
 have y:wrap64 (500-(off:Int))=500-(off:Int):=IntWalk.wrap64_in _ ⟨by omega,by omega⟩;have f1:((ol.length:Int)==(nw.length:Int))=decide (ol.length=nw.length):=du;have f2:decide ((1:Int)<=(nw.length:Int))=decide (1<=nw.length):=leI (a:=1);have f3:decide ((nw.length:Int)<=500-(off:Int))=decide (off+nw.length<=500):=by rw[decide_eq_decide];omega
 have f4:((un.length:Int)==0)=decide (un.length=0):=du (b:=0);have f5:decide ((un.length:Int)<=64)=decide (un.length<=64):=leI (b:=64);have f6:((i:Int)==0)=decide (i=0):=du (b:=0);have f7:((bs:Int)!=0)=decide (bs≠0):=by rw[Bool.eq_iff_iff];simp
 have f8:decide ((op.length:Int)<=16)=decide (op.length<=16):=leI (b:=16);have f9:decide ((t.length:Int)<=64)=decide (t.length<=64):=leI (b:=64);unfold Lr.within;dsimp only;generalize decide (ol.length=nw.length)=b1 at*
 generalize decide (1<=nw.length)=b2 at*
 generalize decide (off+nw.length<=500)=b3 at*
 generalize decide (un.length=0)=b4 at*
 generalize decide (un.length<=64)=b5 at*
 generalize decide (i=0)=b6 at*
 generalize decide (bs≠0)=b7 at*
 generalize decide (op.length<=16)=b8 at*
 generalize decide (t.length<=64)=b9 at*
 by_cases s:k=1
 ·subst s;clear f4 f5 f6 f7 f8 f9;rw[if_pos rfl];cases b1<;>cases b2<;>cases b3;all_goals
   go_enter Tryz.func110,Tryz.ntmps110;go_upto_region 1 with(fail)
   rw[<-f];clear f;go_wp2_with fail
   go_ret;exact⟨rfl,g.out⟩
 have k1:(k==1)=false:=by rw[beq_eq_false_iff_ne];exact s
 rw[if_neg s];by_cases r:k=2
 ·subst r;clear f1 f2 f3 f7 f8 f9 k1;rw[if_pos rfl];cases G<;>cases b4<;>cases b5<;>cases b6;all_goals
   go_enter Tryz.func110,Tryz.ntmps110;go_upto_region 1 with(fail)
   rw[<-f];clear f;go_wp2_with fail
   go_ret;exact⟨rfl,g.out⟩
 have k2:(k==2)=false:=by rw[beq_eq_false_iff_ne];exact r
 rw[if_neg r];clear f1 f2 f3 f4 f5 f6;by_cases q:k=3
 ·subst q;clear f8 f9 k1 k2;rw[if_pos rfl];go_enter Tryz.func110,Tryz.ntmps110;go_upto_region 1 with(fail)
  rw[<-f];clear f;go_wp2_with fail
  go_ret;exact⟨rfl,g.out⟩
 have v:(k==3)=false:=by rw[beq_eq_false_iff_ne];exact q
 rw[if_neg q];by_cases p:k=4
 ·subst p;clear f8 f9 k1 k2 v;rw[if_pos rfl];go_enter Tryz.func110,Tryz.ntmps110;go_upto_region 1 with(fail)
  rw[<-f];clear f;go_wp2_with fail
  go_ret;exact⟨rfl,g.out⟩
 have F:(k==4)=false:=by rw[beq_eq_false_iff_ne];exact p
 rw[if_neg p];by_cases m:k=5
 ·subst m;clear f7 k1 k2 v F;rw[if_pos rfl];cases b8<;>cases b9;all_goals
   go_enter Tryz.func110,Tryz.ntmps110;go_upto_region 1 with(fail)
   rw[<-f];clear f;go_wp2_with fail
   go_ret;exact⟨rfl,g.out⟩
 have Z:(k==5)=false:=by rw[beq_eq_false_iff_ne];exact m
 rw[if_neg m];clear f7 f8 f9;go_enter Tryz.func110,Tryz.ntmps110;go_upto_region 1 with(fail)
 rw[<-f];clear f;go_wp2_with fail
 go_ret;exact⟨rfl,g.out⟩
end Go.Proofs.YtbpodmallknhfaaGreat
