/- Parts of a proof. Conditions: as each row says. -/
namespace Go.Proofs.YtbpodmallknhfaaGreat.aw
def le:Nat->Nat->List Nat
 |0,_=>[]
 |k+1,n=>n%256::le k (n/256)
theorem ao:∀(k n:Nat),(le k n).length=k
 |0,_=>rfl
 |k+1,n=>by simp[le,ao k]
theorem c7:∀(k n:Nat),∀x∈le k n,x<256
 |0,_,x,h=>by simp[le]at h
 |k+1,n,x,h=>by
  simp only[le,List.mem_cons]at h;rcases h with rfl|h
  ·omega
  ·exact c7 k _ x h
theorem nZ:∀(k n:Nat),le (k+1) n=le k n++[n/256^k%256]
 |0,n=>by simp[le]
 |k+1,n=>by
  rw[show le (k+1+1) n=n%256::le (k+1) (n/256)from rfl,nZ k (n/256)];rw[show le (k+1) n=n%256::le k (n/256)from rfl,Nat.pow_succ,Nat.mul_comm (256^k) 256,<-Nat.div_div_eq_div_mul];rfl
def num:List Nat->Nat
 | []=>0
 |x::r=>x+256*num r
theorem j3:∀(l:List Nat)(x:Nat),num (l++[x])=num l+x*256^l.length
 | [],x=>by simp[num]
 |y::r,x=>by
  rw[List.cons_append,num,num,j3 r x,List.length_cons,Nat.pow_succ,Nat.mul_add,Nat.add_assoc];congr 2
  rw[Nat.mul_comm (256^r.length) 256,<-Nat.mul_assoc,<-Nat.mul_assoc,Nat.mul_comm 256 x]
theorem jz:∀(l:List Nat),(∀x∈l,x<256)->num l<256^l.length
 | [],_=>by simp[num]
 |y::r,h=>by
  have c:=jz r (fun x a=>h x (List.mem_cons_of_mem _ a));have b:=h y (List.mem_cons_self ..);rw[num,List.length_cons,Nat.pow_succ];omega
theorem mO:∀(k n:Nat),num (le k n)=n%256^k
 |0,n=>by simp[le,num,Nat.mod_one]
 |k+1,n=>by
  rw[le,num,mO k,Nat.pow_succ,Nat.mul_comm (256^k) 256,Nat.mod_mul]
def uv(n:Nat):List Nat:=if n<128 then [n]else(n%128+128)::uv (n/128)
termination_by n
decreasing_by omega
theorem iQ{n:Nat}(h:n<128):uv n=[n]:=by rw[uv,if_pos h]
theorem ou{n:Nat}(h:¬n<128):uv n=(n%128+128)::uv (n/128):=by rw[uv,if_neg h]
theorem AE(n:Nat):∀x∈uv n,x<256:=by
 induction n using Nat.strongRecOn with
 |_ n b=>
  intro x a;by_cases h:n<128
  ·rw[iQ h]at a;simp at a;omega
  ·rw[ou h]at a;rcases List.mem_cons.1 a with rfl|a
   ·omega
   ·exact b (n/128) (by omega) x a
theorem qI:∀(k n:Nat),n<128^(k+1)->(uv n).length<=k+1
 |0,n,h=>by rw[iQ (by simpa using h)];simp
 |k+1,n,h=>by
  by_cases a:n<128
  ·rw[iQ a];simp
  ·rw[ou a,List.length_cons];have:n/128<128^(k+1):=by
    rw[Nat.div_lt_iff_lt_mul (by decide)];rw[Nat.pow_succ]at h;exact h
   have:=qI k (n/128) this;omega
theorem iG{n:Nat}(h:n<18446744073709551616):(uv n).length<=10:=qI 9 n (Nat.lt_trans h (by decide))
theorem rU(n:Nat):0<(uv n).length:=by
 by_cases h:n<128
 ·rw[iQ h];simp
 ·rw[ou h];simp
def aN:Nat->List Nat->Nat×Nat
 |_,[]=>(0,0)
 |i,x::r=>if 10<=i then(0,0)else if i=9/\1<x then(0,0)else
  if x<128 then(if x=0/\0<i then(0,0)else(x,1))else
   if(aN (i+1) r).2=0 then(0,0)else(x%128+128*(aN (i+1) r).1,(aN (i+1) r).2+1)
def fin(acc i:Nat)(p:Nat×Nat):Nat×Nat:=if p.2=0 then(0,0)else(acc+p.1*128^i,i+p.2)
theorem zy(p:Nat×Nat)(h:p.2=0->p.1=0):fin 0 0 p=p:=by
 unfold fin;split
 ·next h0=>exact Prod.ext (h h0).symm h0.symm
 ·simp
theorem Cf:∀(l:List Nat)(i:Nat),(aN i l).2=0->(aN i l).1=0
 | [],_,_=>rfl
 |x::r,i,h=>by
  rw[aN]at h⊢;repeat' split
  all_goals first|rfl|(exfalso;simp_all)
theorem B3(acc i x:Nat)(r:List Nat)(c:i<10)(b:¬(i=9/\1<x))(a:¬x<128):
 fin acc i (aN i (x::r))=fin (acc+(x%128)*128^i) (i+1) (aN (i+1) r):=by
 rw[aN,if_neg (by omega),if_neg b,if_neg a];unfold fin;by_cases h:(aN (i+1) r).2=0
 ·simp[h]
 ·rw[if_neg h];simp only[Nat.succ_ne_zero,if_false,h];refine Prod.ext ?_ ?_
  ·show acc+(x%128+128*(aN (i+1) r).1)*128^i=acc+x%128*128^i+(aN (i+1) r).1*128^(i+1);rw[Nat.add_mul,Nat.pow_succ,Nat.mul_comm 128,Nat.mul_assoc,Nat.mul_comm 128 (128^i)];omega
  ·show i+((aN (i+1) r).2+1)=i+1+(aN (i+1) r).2;omega
theorem pK(acc i x:Nat)(r:List Nat)(c:i<10)(b:¬(i=9/\1<x))(a:x<128)(h0:¬(x=0/\0<i)):
 fin acc i (aN i (x::r))=(acc+x*128^i,i+1):=by
 rw[aN,if_neg (by omega),if_neg b,if_pos a,if_neg h0];unfold fin;simp
theorem uG(acc i:Nat)(r:List Nat)(a:i<10)(h0:0<i):fin acc i (aN i (0::r))=(0,0):=by
 rw[aN,if_neg (by omega),if_neg (by omega),if_pos (by omega),if_pos ⟨rfl,h0⟩];unfold fin;simp
theorem B4(acc i x:Nat)(r:List Nat)(a:i=9/\1<x):fin acc i (aN i (x::r))=(0,0):=by
 rw[aN,if_neg (by omega),if_pos a];unfold fin;simp
theorem xP(acc i:Nat):fin acc i (aN i [])=(0,0):=by unfold fin aN;simp
theorem DJ(acc i:Nat)(l:List Nat)(h:10<=i):fin acc i (aN i l)=(0,0):=by
 cases l with
 |nil=>exact xP acc i
 |cons x r=>rw[aN,if_pos h];unfold fin;simp
theorem pN:∀(l:List Nat)(i:Nat),i<=9->(aN i l).1<2^(64-7*i)
 | [],i,hi=>by rw[aN];exact Nat.pow_pos (by decide)
 |x::r,i,hi=>by
  have hp:0<2^(64-7*i):=Nat.pow_pos (by decide);rw[aN];split
  ·exact hp
  split
  ·exact hp
  next h9=>
  split
  ·next hx=>
   split
   ·exact hp
   ·show x<_;by_cases h:i=9
    ·subst h;show x<2;omega
    ·have:2^7<=2^(64-7*i):=Nat.pow_le_pow_right (by decide) (by omega);omega
  ·next hx=>
   split
   ·exact hp
   ·show x%128+128*(aN (i+1) r).1<_;have a:i<9:=by omega
    have b:=pN r (i+1) (by omega);have e:2^(64-7*i)=128*2^(64-7*(i+1)):=by
     rw[show 64-7*i=7+(64-7*(i+1))by omega,Nat.pow_add]
    rw[e];omega
theorem mr:∀(l:List Nat)(i:Nat),(aN i l).2<=l.length
 | [],i=>by rw[aN];simp
 |x::r,i=>by
  have a:=mr r (i+1);rw[aN];repeat' split
  all_goals simp only[List.length_cons]
  all_goals omega
theorem Fo:∀(i n:Nat)(r:List Nat),i<=9->n<2^(64-7*i)->(i=0\/0<n)->aN i (uv n++r)=(n,(uv n).length):=by
 intro i n;induction n using Nat.strongRecOn generalizing i with
 |_ n c=>
  intro r f a h0;by_cases h:n<128
  ·rw[iQ h,List.singleton_append,aN,if_neg (by omega),if_neg,if_pos h,if_neg (by omega)]
   ·rfl
   ·rintro⟨rfl,g⟩;have:n<2:=a;omega
  ·rw[ou h,List.cons_append];have d:i<9:=by
    rcases Nat.lt_or_ge i 9 with b|b
    ·exact b
    ·obtain rfl:i=9:=by omega
     have:n<2:=a;omega
   have e:2^(64-7*i)=128*2^(64-7*(i+1)):=by
    rw[show 64-7*i=7+(64-7*(i+1))by omega,Nat.pow_add]
   rw[e]at a;have:=c (n/128) (by omega) (i+1) r (by omega) (by rw[Nat.div_lt_iff_lt_mul (by decide),Nat.mul_comm];exact a) (Or.inr (by omega));rw[aN,if_neg (by omega),if_neg (by omega),if_neg (by omega),this];have hp:=rU (n/128);rw[if_neg (by show¬(uv (n/128)).length=0;omega)];refine Prod.ext ?_ rfl;show(n%128+128)%128+128*(n/128)=n;omega
theorem rC{n:Nat}(r:List Nat)(h:n<18446744073709551616):aN 0 (uv n++r)=(n,(uv n).length):=Fo 0 n r (by decide) h (Or.inl rfl)
def rdNum(k:Nat)(l:List Nat)(e:Nat):Nat×List Nat×Nat:=
 if e≠0 then(0,l,e)else if l.length<k then(0,l,4)else(num (l.take k),l.drop k,0)
def lS(l:List Nat)(e:Nat):Nat×List Nat×Nat:=
 if e≠0 then(0,l,e)else if(aN 0 l).2=0 then(0,l,4)else((aN 0 l).1,l.drop (aN 0 l).2,0)
def dT(aW:Int)(l:List Nat)(e:Nat):List Nat×List Nat×Nat:=
 if e≠0 then([],l,e)else if(aN 0 l).2=0 then([],l,4)else if max aW 0<((aN 0 l).1:Int)then([],l,3)else
  if l.length-(aN 0 l).2<(aN 0 l).1 then([],l,4)else((l.drop (aN 0 l).2).take (aN 0 l).1,(l.drop (aN 0 l).2).drop (aN 0 l).1,0)
end Go.Proofs.YtbpodmallknhfaaGreat.aw
