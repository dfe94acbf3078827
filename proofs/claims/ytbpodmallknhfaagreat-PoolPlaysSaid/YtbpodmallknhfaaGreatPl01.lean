/- Parts of a proof. Conditions: as each row says. -/
import Derived.Test.YtbpodmallknhfaaGreatPlA0
namespace Go.Proofs.YtbpodmallknhfaaGreat.aH
def le:Nat->Nat->List Nat
 |0,_=>[]
 |k+1,n=>n%256::le k (n/256)
theorem al:∀(k n:Nat),(le k n).length=k
 |0,_=>rfl
 |k+1,n=>by simp[le,al k]
theorem cZ:∀(k n:Nat),∀x∈le k n,x<256
 |0,_,x,h=>by simp[le]at h
 |k+1,n,x,h=>by
  simp only[le,IX]at h;rcases h with rfl|h
  ·omega
  ·exact cZ k _ x h
theorem ni:∀(k n:Nat),le (k+1) n=le k n++[n/256^k%256]
 |0,n=>by simp[le]
 |k+1,n=>by
  rw[show le (k+1+1) n=n%256::le (k+1) (n/256)from rfl,ni k (n/256)];rw[show le (k+1) n=n%256::le k (n/256)from rfl,Jk,Nat.mul_comm (256^k) 256,<-Nat.div_div_eq_div_mul];rfl
def num:List Nat->Nat
 | []=>0
 |x::r=>x+256*num r
theorem oy:∀(l:List Nat)(x:Nat),num (l++[x])=num l+x*256^l.length
 | [],x=>by simp[num]
 |y::r,x=>by
  rw[Iy,num,num,oy r x,G2,Jk,Nat.mul_add,Nat.add_assoc];congr 2
  rw[Nat.mul_comm (256^r.length) 256,<-Nat.mul_assoc,<-Nat.mul_assoc,Nat.mul_comm 256 x]
theorem oz:∀(l:List Nat),(∀x∈l,x<256)->num l<256^l.length
 | [],_=>by simp[num]
 |y::r,h=>by
  have c:=oz r (fun x a=>h x (Hx _ a));have b:=h y (Hr ..);rw[num,G2,Jk];omega
theorem rp:∀(k n:Nat),num (le k n)=n%256^k
 |0,n=>by simp[le,num,Nat.mod_one]
 |k+1,n=>by
  rw[le,num,rp k,Jk,Nat.mul_comm (256^k) 256,Nat.mod_mul]
def uv(n:Nat):List Nat:=if n<128 then [n]else(n%128+128)::uv (n/128)
termination_by n
decreasing_by omega
theorem jB{n:Nat}(h:n<128):uv n=[n]:=by rw[uv,GU h]
theorem qR{n:Nat}(h:¬n<128):uv n=(n%128+128)::uv (n/128):=by rw[uv,GQ h]
theorem zi(n:Nat):∀x∈uv n,x<256:=by
 induction n using Nat.strongRecOn with
 |_ n b=>
  intro x a;by_cases h:n<128
  ·rw[jB h]at a;simp at a;omega
  ·rw[qR h]at a;rcases List.mem_cons.1 a with rfl|a
   ·omega
   ·exact b (n/128) (by omega) x a
theorem pW:∀(k n:Nat),n<128^(k+1)->(uv n).length<=k+1
 |0,n,h=>by rw[jB (by simpa using h)];simp
 |k+1,n,h=>by
  by_cases a:n<128
  ·rw[jB a];simp
  ·rw[qR a,G2];have:n/128<128^(k+1):=by
    rw[Nat.div_lt_iff_lt_mul (by decide)];rw[Jk]at h;exact h
   have:=pW k (n/128) this;omega
theorem iF{n:Nat}(h:n<18446744073709551616):(uv n).length<=10:=pW 9 n (II h (by decide))
theorem Dc(n:Nat):0<(uv n).length:=by
 by_cases h:n<128
 ·rw[jB h];simp
 ·rw[qR h];simp
def aS:Nat->List Nat->Nat×Nat
 |_,[]=>(0,0)
 |i,x::r=>if 10<=i then(0,0)else if i=9/\1<x then(0,0)else
  if x<128 then(if x=0/\0<i then(0,0)else(x,1))else
   if(aS (i+1) r).2=0 then(0,0)else(x%128+128*(aS (i+1) r).1,(aS (i+1) r).2+1)
def fin(acc i:Nat)(p:Nat×Nat):Nat×Nat:=if p.2=0 then(0,0)else(acc+p.1*128^i,i+p.2)
def rdNum(k:Nat)(l:List Nat)(e:Nat):Nat×List Nat×Nat:=
 if e≠0 then(0,l,e)else if l.length<k then(0,l,4)else(num (l.take k),l.drop k,0)
end Go.Proofs.YtbpodmallknhfaaGreat.aH
