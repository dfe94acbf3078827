/- Parts of a proof. Conditions: as each row says. -/
import Derived.Test.YtbpodmallknhfaaGreatCr31
import Derived.Test.YtbpodmallknhfaaGreatCr19
import Derived.Test.YtbpodmallknhfaaGreatCr09
import Derived.Test.YtbpodmallknhfaaGreatCr22
import Derived.Test.YtbpodmallknhfaaGreatCr30
import Derived.Test.YtbpodmallknhfaaGreatCr28
namespace Go.Proofs.YtbpodmallknhfaaGreat.Rg
open Go.Proofs.YtbpodmallknhfaaGreat
structure gC(n S b N:Nat):Prop where
 one:1<=N
 spare:S+5<=n
 base:b+4*N<=n
 apart:S+5<=b\/b+4*N<=S
def Has(S b N i:Nat):Prop:=(S<=i/\i<S+5)\/(b<=i/\i<b+4*N)
theorem gC.has{n S b N i:Nat}(h:gC n S b N)(a:Has S b N i):i<n:=by
 have d:=h.spare;have c:=h.base;rcases a with a|a<;>omega
def sp(d:Dk.aq)(S:Nat):List Nat:=lv d S++(lv d (S+1)++(lv d (S+2)++(lv d (S+3)++lv d (S+4))))
def hm(d:Dk.aq)(p:Nat):List Nat:=lv d p++(lv d (p+1)++(lv d (p+2)++lv d (p+3)))
def Home(d:Dk.aq)(p:Nat)(x:Po.Pg):Prop:=Pg.cD (hm d p)=0/\x=(Pg.cC (hm d p),Pg.cZ (hm d p))
def CC(d:Dk.aq)(S N:Nat):Prop:=∀n x,Whole (sp d S) n x->¬n<N
theorem gQ{d e:Dk.aq}{S:Nat}(h:∀j,j<5->lv e (S+j)=lv d (S+j)):sp e S=sp d S:=by
 unfold sp;have h0:=h 0 (by decide);rw[Nat.add_zero]at h0;rw[h0,h 1 (by decide),h 2 (by decide),h 3 (by decide),h 4 (by decide)]
theorem Gg{d e:Dk.aq}{p:Nat}(h:∀j,j<4->lv e (p+j)=lv d (p+j)):hm e p=hm d p:=by
 unfold hm;have h0:=h 0 (by decide);rw[Nat.add_zero]at h0;rw[h0,h 1 (by decide),h 2 (by decide),h 3 (by decide)]
theorem Home.eq{d e:Dk.aq}{p:Nat}{x:Po.Pg}(h:Home d p x)(k:∀j,j<4->lv e (p+j)=lv d (p+j)):Home e p x:=by
 unfold Home at*
 rw[Gg k];exact h
theorem zo{d:Dk.aq}{p:Nat}{y:Po.Pg}(a:Po.cK y)(h:hm d p=Pg.form y.1 y.2):Home d p y:=by
 unfold Home;rw[h,Pg.jx a.2.2 a.2.1,Pg.pc a.2.2 a.2.1 a.1,Pg.pe a.2.2 a.2.1];exact⟨rfl,rfl⟩
theorem CC.eq{d e:Dk.aq}{S N:Nat}(h:CC d S N)(k:sp e S=sp d S):CC e S N:=by
 unfold CC at*
 rw[k];exact h
theorem gW{n:Nat}{d:Dk.aq}(h:Wl.aY n d){i:Nat}(a:i<n):(lv d i).length=128:=Wl.rk h.ok (by rw[h.sz];exact a)
theorem ks{n S:Nat}{d:Dk.aq}(h:Wl.aY n d)(a:S+5<=n):(sp d S).length=640:=by
 unfold sp;simp only[List.length_append,gW h (show S<n by omega),gW h (show S+1<n by omega),gW h (show S+2<n by omega),gW h (show S+3<n by omega),gW h (show S+4<n by omega)]
theorem eB{a c:List Nat}(b:a.length=128)(i:Nat):part 64 (a++c) i=if i<2 then part 64 a i else part 64 c (i-2):=by
 split
 ·next h=>exact o0 (by omega)
 ·next h=>
  unfold part;rw[List.drop_append,b,List.drop_eq_nil_of_le (by omega),List.nil_append,show 64*i-128=64*(i-2)by omega]
theorem lL{n S:Nat}{d:Dk.aq}(h:Wl.aY n d)(g:S+5<=n){j k:Nat}(f:j<5)(e:k<2):part 64 (sp d S) (2*j+k)=part 64 (lv d (S+j)) k:=by
 have c:=gW h (show S<n by omega);have l1:=gW h (show S+1<n by omega);have a:=gW h (show S+2<n by omega);have b:=gW h (show S+3<n by omega);unfold sp;rw[eB c];obtain rfl|rfl|rfl|rfl|rfl:j=0\/j=1\/j=2\/j=3\/j=4:=by omega
 ·rw[if_pos (by omega)];congr 1;omega
 ·rw[if_neg (by omega),eB l1,if_pos (by omega)];congr 1;omega
 ·rw[if_neg (by omega),eB l1,if_neg (by omega),eB a,if_pos (by omega)];congr 1;omega
 ·rw[if_neg (by omega),eB l1,if_neg (by omega),eB a,if_neg (by omega),eB b,if_pos (by omega)];congr 1;omega
 ·rw[if_neg (by omega),eB l1,if_neg (by omega),eB a,if_neg (by omega),eB b,if_neg (by omega)];congr 1;omega
theorem yP(l:List Nat){j k:Nat}(a:k<2):part 64 (part 128 l j) k=part 64 l (2*j+k):=by
 unfold part;rw[List.drop_take,List.take_take,List.drop_drop,show 128*j+64*k=64*(2*j+k)by omega];congr 1;omega
theorem qY{a b:List Nat}(e:a.length=128)(d:b.length=128)(p:Nat){k:Nat}(c:k<2):part 64 (Dk.pick p a b) k=part 64 a k\/part 64 (Dk.pick p a b) k=part 64 b k:=Wl.sG e d p c
theorem AK{d:Dk.aq}{S:Nat}{nb:List Nat}(hl:nb.length=640)(h:∀j,j<5->lv d (S+j)=part 128 nb j):sp d S=nb:=by
 have e:=gX 128 nb 5;rw[List.take_of_length_le (by omega)]at e;have h0:=h 0 (by decide);rw[Nat.add_zero]at h0;unfold sp;rw[h0,h 1 (by decide),h 2 (by decide),h 3 (by decide),h 4 (by decide)];conv=>rhs;rw[<-e]
 rw[show List.range 5=[0,1,2,3,4]from rfl];simp only[List.flatMap_cons,List.flatMap_nil,List.append_nil]
theorem BM{d:Dk.aq}{p:Nat}{fm:List Nat}(hl:fm.length=512)(h:∀j,j<4->lv d (p+j)=(Dk.gh fm).getD j []):hm d p=fm:=by
 have h0:=h 0 (by decide);rw[Nat.add_zero]at h0;unfold hm;rw[h0,h 1 (by decide),h 2 (by decide),h 3 (by decide)];exact Dk.yA hl
structure qi(S b N:Nat)(d:Dk.aq)(f:Nat->Po.Pg):Prop where
 idle:∀i,Has S b N i->wv d i=none
 no:CC d S N
 home:∀k,k<N->Home d (b+4*k) (f k)
structure sZ(S b N:Nat)(d:Dk.aq)(c:Nat->Po.Pg->Prop):Prop where
 idle:∀i,Has S b N i->wv d i=none
 cB:∃f:Nat->Po.Pg,(∀k,Po.cK (f k))/\(∀k,k<N->c k (f k))/\((CC d S N/\∀k,k<N->Home d (b+4*k) (f k))\/(∃m,m<N/\Whole (sp d S) m (f m)/\∀k,k<N->k≠m->Home d (b+4*k) (f k)))
theorem sZ.mono{S b N:Nat}{d:Dk.aq}{c a:Nat->Po.Pg->Prop}(h:sZ S b N d c)(g:∀k x,c k x->a k x):sZ S b N d a:=by
 obtain⟨f,l,j,i⟩:=h.cB;exact⟨h.idle,f,l,fun k e=>g k _ (j k e),i⟩
section
variable{n S b N:Nat}{d:Dk.aq}{f:Nat->Po.Pg}
theorem fp(h:Wl.aY n d)(e:gC n S b N)(a:List Nat):∀i,Has S b N i->wv (Dk.ay d a) i=none:=fun i c=>(kL h a (e.has c)).1
theorem cE{k j:Nat}(a:k<N)(c:j<4):Has S b N (b+4*k+j):=Or.inr (by omega)
theorem da{j:Nat}(a:j<5):Has S b N (S+j):=Or.inl (by omega)
theorem qi.quiet(h:qi S b N d f){i:Nat}(c:Has S b N i):QS d i:=fun x a=>by rw[h.idle i c]at a;cases a
structure FO(S b N:Nat)(nb:List Nat)(d:Dk.aq)(f:Nat->Po.Pg):Prop where
 no:CC d S N
 spare:∀j,j<5->∀x,wv d (S+j)=some x->x=lv d (S+j)\/x=part 128 nb j
 quiet:∀k,k<N->∀j,j<4->QS d (b+4*k+j)
 home:∀k,k<N->Home d (b+4*k) (f k)
structure Fz(S b N m:Nat)(y:Po.Pg)(d:Dk.aq)(f:Nat->Po.Pg):Prop where
 whole:Whole (sp d S) m y
 spare:∀j,j<5->QS d (S+j)
 quiet:∀k,k<N->k≠m->∀j,j<4->QS d (b+4*k+j)
 home:∀k,k<N->k≠m->Home d (b+4*k) (f k)
structure GR(S b N m:Nat)(y:Po.Pg)(d:Dk.aq)(g:Nat->Po.Pg):Prop where
 whole:Whole (sp d S) m y
 spare:∀j,j<5->∀x,wv d (S+j)=some x->x=lv d (S+j)\/(j=0/\x=Dk.blank)
 quiet:∀k,k<N->∀j,j<4->QS d (b+4*k+j)
 home:∀k,k<N->Home d (b+4*k) (g k)
theorem FO.ay{m t:Nat}{y:Po.Pg}(l:Wl.aY n d)(A:gC n S b N)(h:FO S b N (laid (Pg.form y.1 y.2) (tag m t)) d f)(hf:∀k,Po.cK (f k))(B:Po.cK y)(hm:m<N)(E:m<65536)(D:t∉sI (sp d S) 10)(a:List Nat):
 sZ S b N (Dk.ay d a) fun k x=>x=f k\/(k=m/\x=y):=by
 have z:=A.spare;have I:=A.base;have v:(Pg.form y.1 y.2).length=512:=by rw[Pg.bq,B.2.1]
 have s:=eJ (t:=tag m t) (b:=Pg.form y.1 y.2) (cp m t) v;have w:Wl.aY n (Dk.ay d a):=⟨Dk.j2 l.ok a,(l.ay a).sz,(l.ay a).aW⟩
 have g:∀k,k<N->Home (Dk.ay d a) (b+4*k) (f k):=fun k c=>(h.home k c).eq fun j u=>eK l a (by omega) (h.quiet k c j u);have r:Hq (sp d S) (laid (Pg.form y.1 y.2) (tag m t)) (sp (Dk.ay d a) S):=by
  refine⟨ks w z,fun i H=>?_⟩;obtain⟨j,k,u,c,rfl⟩:∃j k,j<5/\k<2/\i=2*j+k:=⟨i/2,i%2,by omega,by omega,by omega⟩
  rw[lL w z u c,lL l z u c];obtain⟨-,c1,c2⟩:=kL l a (k:=S+j) (by omega);cases hw:wv d (S+j)with
  |none=>rw[c1 hw];exact Or.inl rfl
  |some x=>
   obtain⟨p,e⟩:=c2 x hw;rw[e];rcases h.spare j u x hw with rfl|rfl
   ·rw[Wl.kv];exact Or.inl rfl
   ·rw[<-yP _ c];exact qY (gW l (by omega)) (eG (by rw[s];omega)) p c
 by_cases o:CC (Dk.ay d a) S N
 ·exact⟨fp l A a,f,hf,fun k _=>Or.inl rfl,Or.inl ⟨o,g⟩⟩
 ·obtain⟨k,x,hw,c⟩:∃k x,Whole (sp (Dk.ay d a) S) k x/\k<N:=by
   unfold CC at o;simp only[Classical.not_forall,Classical.not_not]at o;obtain⟨k,x,G,F⟩:=o;exact⟨k,x,G,F⟩
  rcases Bt (ks l z) v D r hw.1 with e|e
  ·rw[e]at hw;exact absurd c (h.no k x hw)
  ·have q:=oo (t:=t) B E;rw[<-e]at q;refine⟨fp l A a,Po.cW f m y,fun k=>?_,fun k _=>?_,Or.inr ⟨m,hm,?_,fun k c C=>?_⟩⟩
   ·unfold Po.cW;split
    ·exact B
    ·exact hf k
   ·unfold Po.cW;split
    ·next e=>exact Or.inr ⟨e,rfl⟩
    ·exact Or.inl rfl
   ·rw[Po.cI];exact q
   ·rw[Po.eD f y C];exact g k c
theorem Fz.ay{m:Nat}{y:Po.Pg}(g:Wl.aY n d)(i:gC n S b N)(h:Fz S b N m y d f)(hf:∀k,Po.cK (f k))(o:Po.cK y)(hm:m<N)(c:List Nat):
 sZ S b N (Dk.ay d c) fun k x=>x=Po.cW f m y k:=by
 have p:=i.spare;have q:=i.base;refine⟨fp g i c,Po.cW f m y,fun k=>?_,fun k _=>rfl,Or.inr ⟨m,hm,?_,fun k l a=>?_⟩⟩
 ·unfold Po.cW;split
  ·exact o
  ·exact hf k
 ·rw[Po.cI,gQ fun j e=>eK g c (by omega) (h.spare j e)];exact h.whole
 ·rw[Po.eD f y a];exact(h.home k l a).eq fun j e=>eK g c (by omega) (h.quiet k l a j e)
theorem GR.ay{m:Nat}{y:Po.Pg}{g:Nat->Po.Pg}(l:Wl.aY n d)(u:gC n S b N)(h:GR S b N m y d g)(A:∀k,Po.cK (g k))(hm:m<N)(v:g m=y)(a:List Nat):
 sZ S b N (Dk.ay d a) fun k x=>x=g k:=by
 have t:=u.spare;have F:=u.base;have s:Wl.aY n (Dk.ay d a):=⟨Dk.j2 l.ok a,(l.ay a).sz,(l.ay a).aW⟩
 have f:∀k,k<N->Home (Dk.ay d a) (b+4*k) (g k):=fun k c=>(h.home k c).eq fun j r=>eK l a (by omega) (h.quiet k c j r);by_cases o:CC (Dk.ay d a) S N
 ·exact⟨fp l u a,g,A,fun k _=>rfl,Or.inl ⟨o,f⟩⟩
 ·obtain⟨k,x,hw,c⟩:∃k x,Whole (sp (Dk.ay d a) S) k x/\k<N:=by
   unfold CC at o;simp only[Classical.not_forall,Classical.not_not]at o;obtain⟨k,x,C,B⟩:=o;exact⟨k,x,C,B⟩
  have q:∀j k,j<5->k<2->part 64 (lv (Dk.ay d a) (S+j)) k=part 64 (lv d (S+j)) k:=fun j k r c=>by
   obtain⟨-,c1,c2⟩:=kL l a (k:=S+j) (by omega);cases hwv:wv d (S+j)with
   |none=>rw[c1 hwv]
   |some x=>
    obtain⟨p,e⟩:=c2 x hwv;rcases h.spare j r x hwv with rfl|⟨rfl,rfl⟩
    ·rw[e,Wl.kv]
    ·rcases qY (gW l (i:=S+0) (by omega)) (show Dk.blank.length=128 by unfold Dk.blank;rw[List.length_replicate]) p c with w|w
     ·rw[e];exact w
     ·exfalso;have D:part 64 (sp (Dk.ay d a) S) k=part 64 Dk.blank k:=by
       have:=lL s t (j:=0) (k:=k) (by decide) c;rw[Nat.mul_zero,Nat.zero_add]at this;rw[this,e,w]
      have z:=hw.1 k (by omega);rw[D]at z;have h0:((part 64 Dk.blank k).take 12).getD 0 0=0:=by
       obtain rfl|rfl:k=0\/k=1:=by omega
       ·rfl
       ·rfl
      rw[z]at h0;exact absurd h0 (by show¬(112:Nat)=0;decide)
  have e:sp (Dk.ay d a) S=sp d S:=mY (ks s t) (ks l t) fun i E=>by
   obtain⟨j,k,r,c,rfl⟩:∃j k,j<5/\k<2/\i=2*j+k:=⟨i/2,i%2,by omega,by omega,by omega⟩
   rw[lL s t r c,lL l t r c,q j k r c]
  exact⟨fp l u a,g,A,fun k _=>rfl,Or.inr ⟨m,hm,by rw[e,v];exact h.whole,fun k c _=>f k c⟩⟩
end
section
variable{n S b N:Nat}{f:Nat->Po.Pg}
theorem nA{m:Nat}{y:Po.Pg}{d:Dk.aq}(F:Wl.aY n d)(v:gC n S b N)(h:Fz S b N m y d f)(hf:∀k,Po.cK (f k))(B:Po.cK y)(hm:m<N):
 ((dx d S (b+4*m) (Pg.form y.1 y.2)).2=0->qi S b N (dx d S (b+4*m) (Pg.form y.1 y.2)).1 (Po.cW f m y))/\
 ((dx d S (b+4*m) (Pg.form y.1 y.2)).2≠0->∀t,sZ S b N (Dk.ay (dx d S (b+4*m) (Pg.form y.1 y.2)).1 t) fun k x=>x=Po.cW f m y k):=by
 have hS:=v.spare;have hB:=v.base;have aa:=v.apart;have E:(Pg.form y.1 y.2).length=512:=by rw[Pg.bq,B.2.1]
 have U:∀k,Po.cK (Po.cW f m y k):=fun k=>by
  unfold Po.cW;split
  ·exact B
  ·exact hf k
 have w:=Dk.oI E (Pg.gA (n:=y.1) B.2.2);have Z:=Dk.ir (Pg.form y.1 y.2);unfold dx;obtain⟨w1,w2,w3⟩:=rO (Dk.gh (Pg.form y.1 y.2)) (d:=d) (p:=b+4*m) F w (by omega);have s:Wl.aY n (Dk.jk d (b+4*m) (Dk.gh (Pg.form y.1 y.2))).1:=by
  rcases Bool.eq_false_or_eq_true d.off with M|M
  ·have:Dk.jk d (b+4*m) (Dk.gh (Pg.form y.1 y.2))=(d,6):=by
    unfold Dk.gh Dk.jk;rw[iY M];exact if_pos (show(6:Nat)≠0 by decide)
   rw[this];exact F
  ·exact(mN (A:=fun _=>True) (Dk.gh (Pg.form y.1 y.2)) F M w (by omega) fun _ _=>trivial).ro.bG F
 generalize Dk.jk d (b+4*m) (Dk.gh (Pg.form y.1 y.2))=r1 at*
 have l:Fz S b N m y r1.1 f:=by
  refine⟨by rw[gQ fun j _=>w1 _];exact h.whole,fun j g x a=>?_,fun k c o j g x a=>?_,fun k c o=>(h.home k c o).eq fun j _=>w1 _⟩
  ·rw[w1];rcases w2 (S+j)with e|⟨R,J,-⟩
   ·rw[e]at a;exact h.spare j g x a
   ·omega
  ·rw[w1];rcases w2 (b+4*k+j)with e|⟨R,J,-⟩
   ·rw[e]at a;exact h.quiet k c o j g x a
   ·omega
 by_cases I:r1.2=0
 case neg=>rw[cF _ I];exact⟨fun e=>absurd e I,fun _ t=>l.ay s v hf B hm t⟩
 rw[et _ I];have hw:=w3 I;have u:=(jy (A:=fun _=>True) s).ro.bG s;have T:∀{k},k<n->QS r1.1 k->(Dk.sync r1.1).2=0->lv (Dk.sync r1.1).1 k=lv r1.1 k/\wv (Dk.sync r1.1).1 k=none:=fun c L h0=>kZ s h0 c L;obtain⟨s1,s2⟩:=lJ s;generalize Dk.sync r1.1=r2 at*
 by_cases z:r2.2=0
 case neg=>
  rw[cF _ z];have e:=s2 z;refine⟨fun e=>absurd e z,fun _ t=>Fz.ay u v ⟨by rw[gQ fun j _=>(e _).1];exact l.whole,fun j g x a=>?_,fun k c o j g x a=>?_,fun k c o=>(l.home k c o).eq fun j _=>(e _).1⟩ hf B hm t⟩
  ·rw[(e _).2]at a;rw[(e _).1];exact l.spare j g x a
  ·rw[(e _).2]at a;rw[(e _).1];exact l.quiet k c o j g x a
 rw[et _ z];have J:=s1 z;have V:∀i,Has S b N i->wv r2.1 i=none:=fun i O=>(J i (v.has O)).2;have C:sp r2.1 S=sp d S:=by
  rw[gQ fun j g=>(T (by omega) (l.spare j g) z).1];exact gQ fun j _=>w1 _
 have D:∀k,k<N->Home r2.1 (b+4*k) (Po.cW f m y k):=fun k c=>by
  by_cases e:k=m
  ·subst e;rw[Po.cI];refine zo B (BM E fun j g=>?_);rw[(J (b+4*k+j) (by omega)).1,hw,if_pos (by omega),show b+4*k+j-(b+4*k)=j by omega];rfl
  ·rw[Po.eD f y e];exact(l.home k c e).eq fun j g=>(T (by omega) (l.quiet k c e j g) z).1
 obtain⟨b1,b2,b3⟩:=mC u (i:=S) (by omega) Dk.cR;have r:=(iX (A:=fun _=>True) u (i:=S) trivial (by omega) Dk.cR).ro.bG u;generalize Dk.write r2.1 (S:Int) Dk.blank=r3 at*
 have q:GR S b N m y r3.1 (Po.cW f m y):=by
  refine⟨by rw[gQ fun j _=>b1 _,C];exact h.whole,fun j g x a=>?_,fun k c j g x a=>?_,fun k c=>(D k c).eq fun j _=>b1 _⟩
  ·rcases b2 (S+j)with e|⟨R,X⟩
   ·rw[e,V _ (da g)]at a;cases a
   ·rw[X]at a;cases a;exact Or.inr ⟨by omega,rfl⟩
  ·rcases b2 (b+4*k+j)with e|⟨R,X⟩
   ·rw[e,V _ (cE c g)]at a;cases a
   ·omega
 by_cases H:r3.2=0
 case neg=>rw[cF _ H];exact⟨fun e=>absurd e H,fun _ t=>q.ay r v U hm (Po.cI f m y) t⟩
 rw[et _ H];have hb:=b3 H;have P:=(jy (A:=fun _=>True) r).ro.bG r;have Y:∀{k},k<n->QS r3.1 k->(Dk.sync r3.1).2=0->lv (Dk.sync r3.1).1 k=lv r3.1 k/\wv (Dk.sync r3.1).1 k=none:=fun c L h0=>kZ r h0 c L;obtain⟨t1,t2⟩:=lJ r;generalize Dk.sync r3.1=r4 at*
 refine⟨fun G=>?_,fun G t=>?_⟩
 ·have W:=t1 G;refine⟨fun i O=>(W i (v.has O)).2,fun k x K=>?_,fun k c=>(q.home k c).eq fun j g=>(Y (by omega) (q.quiet k c j g) G).1⟩;exfalso;have e5:lv r4.1 S=Dk.blank:=by rw[(W S (by omega)).1,hb,if_pos rfl];rfl
  have Q:=(oA K.1).1;unfold sp at Q;rw[e5]at Q;exact absurd Q (by show¬(0:Nat)=112;decide)
 ·have e:=t2 G;refine GR.ay (y:=y) P v ⟨by rw[gQ fun j _=>(e _).1];exact q.whole,fun j g x a=>?_,fun k c j g x a=>?_,fun k c=>(q.home k c).eq fun j _=>(e _).1⟩ U hm (Po.cI f m y) t
  ·rw[(e _).2]at a;rw[(e _).1];exact q.spare j g x a
  ·rw[(e _).2]at a;rw[(e _).1];exact q.quiet k c j g x a
end
end Go.Proofs.YtbpodmallknhfaaGreat.Rg
namespace Go.Proofs.YtbpodmallknhfaaGreat.Rg
open Go.Proofs.YtbpodmallknhfaaGreat
theorem Bd{l:List Nat}(hl:l.length=640)(a:∀x∈l,x<256){j:Nat}(b:j<5):Dk.fI (part 128 l j):=⟨eG (by omega),jt a j⟩
theorem ec(b:List Nat):(gR b).length=5:=rfl
theorem mF{l:List Nat}(hl:l.length=640)(b:∀x∈l,x<256):∀s∈gR l,Dk.fI s:=by
 intro s hs;obtain⟨j,a,rfl⟩:=List.mem_map.1 hs;exact Bd hl b (List.mem_range.1 a)
theorem tE(b:List Nat){j:Nat}(a:j<5):(gR b).getD j []=part 128 b j:=by
 obtain rfl|rfl|rfl|rfl|rfl:j=0\/j=1\/j=2\/j=3\/j=4:=by omega
 all_goals rfl
section
variable{n S b N:Nat}{d:Dk.aq}{f:Nat->Po.Pg}
theorem rh(f:Wl.aY n d)(l:d.off=false)(g:gC n S b N){m:Nat}(hm:m<N){fm:List Nat}(hl:fm.length=512)(o:∀x∈fm,x<256):Op (Has S b N) n d (dx d S (b+4*m) fm):=by
 have p:=g.spare;have q:=g.base;have k:Op (Has S b N) n d (Dk.jk d (b+4*m) (Dk.gh fm)):=mN _ f l (Dk.oI hl o) (by rw[Dk.ir];omega) fun j e=>cE hm (by rw[Dk.ir]at e;exact e);refine k.ke fun h0=>?_;have c:=k.ro.bG f;generalize Dk.jk d (b+4*m) (Dk.gh fm)=r1 at*
 have i:Op (Has S b N) n r1.1 (Dk.sync r1.1):=jy c;refine i.ke fun h0=>?_;have a:=i.ro.bG c;generalize Dk.sync r1.1=r2 at*
 have h:Op (Has S b N) n r2.1 (Dk.write r2.1 (S:Int) Dk.blank):=iX a (Or.inl (by omega)) (by omega) Dk.cR;exact h.ke fun h0=>jy (h.ro.bG a)
theorem Bl(c:Wl.aY n d)(f:d.off=false)(h:gC n S b N){nb:List Nat}(hl:nb.length=640)(g:∀x∈nb,x<256):Op (Has S b N) n d (sD d S nb):=by
 have i:=h.spare;have e:Op (Has S b N) n d (Dk.jk d S (gR nb)):=mN _ c f (mF hl g) (by rw[ec];omega) fun j a=>da (by rw[ec]at a;exact a);exact e.ke fun h0=>jy (e.ro.bG c)
theorem yU(k:Wl.aY n d)(g:gC n S b N){m:Nat}(hm:m<N){fm nb:List Nat}(hl:fm.length=512)(o:∀x∈fm,x<256)(e:nb.length=640)(f:∀x∈nb,x<256):Op (Has S b N) n d (dB d S (b+4*m) fm nb):=by
 have p:=g.base;have i:Op (Has S b N) n d (bV d (b+4*m) 4):=l8 4 k (by decide) (by omega) fun j l=>cE hm l;refine i.ke fun h0=>?_;have a:=i.ro.bG k;have c:=i.on h0;generalize bV d (b+4*m) 4=r1 at*
 have h:=Bl a c g e f;refine h.ke fun h0=>?_;exact rh (h.ro.bG a) (h.on h0) g hm hl o
theorem vm{m t:Nat}{y:Po.Pg}(V:Wl.aY n d)(B:gC n S b N)(h:qi S b N d f)(hf:∀k,Po.cK (f k))(D:Po.cK y)(hm:m<N)(X:m<65536)(Z:t<256)(O:t∉sI (sp d S) 10):
 ((dB d S (b+4*m) (Pg.form y.1 y.2) (laid (Pg.form y.1 y.2) (tag m t))).2=0->qi S b N (dB d S (b+4*m) (Pg.form y.1 y.2) (laid (Pg.form y.1 y.2) (tag m t))).1 (Po.cW f m y))/\
 ((dB d S (b+4*m) (Pg.form y.1 y.2) (laid (Pg.form y.1 y.2) (tag m t))).2≠0->∀z,sZ S b N (Dk.ay (dB d S (b+4*m) (Pg.form y.1 y.2) (laid (Pg.form y.1 y.2) (tag m t))).1 z) fun k x=>x=f k\/(k=m/\x=y)):=by
 have hS:=B.spare;have hB:=B.base;have ab:=B.apart;have U:(Pg.form y.1 y.2).length=512:=by rw[Pg.bq,D.2.1]
 have s:=eJ (t:=tag m t) (b:=Pg.form y.1 y.2) (cp m t) U;have H:=oc (rZ (n:=m) Z) (Pg.gA (n:=y.1) D.2.2);have M:=oo (t:=t) D X;have aa:= @FO.ay n S b N;unfold dB;have c0:Op (Has S b N) n d (bV d (b+4*m) 4):=l8 4 V (by decide) (by omega) fun j c=>cE hm c;obtain⟨c1,c2⟩:=kM 4 V (by omega) fun j c=>h.quiet (cE (S:=S) hm c);have v:=c0.ro.bG V;generalize bV d (b+4*m) 4=r1 at*
 generalize R:laid (Pg.form y.1 y.2) (tag m t)=nb at*
 have G:∀i,Has S b N i->QS r1.1 i:=fun i T x a=>by
  rcases c2 i with e|⟨-,-,e⟩
  ·rw[e,h.idle i T]at a;cases a
  ·rw[e]at a;cases a;exact(c1 i).symm
 have r:sp r1.1 S=sp d S:=gQ fun j _=>c1 _;have w:FO S b N nb r1.1 f:=⟨h.no.eq r,fun j c x a=>Or.inl (G _ (da c) x a),fun k l j c=>G _ (cE l c),fun k l=>(h.home k l).eq fun j _=>c1 _⟩
 have g:∀{e:Dk.aq},Wl.aY n e->sp e S=sp d S->FO S b N nb e f->∀z,sZ S b N (Dk.ay e z) fun k x=>x=f k\/(k=m/\x=y):=fun{e}he P E z=>by
  rw[<-R]at E;exact E.ay he B hf D hm X (by rw[P];exact O) z
 by_cases K:r1.2=0
 case neg=>rw[cF _ K];exact⟨fun e=>absurd e K,fun _=>g v r w⟩
 rw[et _ K];have Q:=c0.on K;unfold sD;obtain⟨w1,w2,w3⟩:=rO (gR nb) (d:=r1.1) (p:=S) v (mF s H) (by rw[ec];omega);have u:Wl.aY n (Dk.jk r1.1 S (gR nb)).1:=(mN (A:=Has S b N) (gR nb) v Q (mF s H) (by rw[ec];omega) fun j c=>da (by rw[ec]at c;exact c)).ro.bG v;generalize Dk.jk r1.1 S (gR nb)=r2 at*
 rw[ec]at w2 w3;have o:sp r2.1 S=sp d S:=(gQ fun j _=>w1 _).trans r;have q:FO S b N nb r2.1 f:=by
  refine⟨h.no.eq o,fun j c x a=>?_,fun k l j c x a=>?_,fun k l=>(w.home k l).eq fun j _=>w1 _⟩
  ·rw[w1];rcases w2 (S+j)with e|⟨e1,e2,L⟩
   ·rw[e]at a;exact w.spare j c x a
   ·rw[L,tE nb (by omega),show S+j-S=j by omega]at a;cases a;exact Or.inr rfl
  ·rw[w1];rcases w2 (b+4*k+j)with e|⟨e1,e2,-⟩
   ·rw[e]at a;exact w.quiet k l j c x a
   ·omega
 have I:=(jy (A:=Has S b N) u).ro.bG u;have Y:∀{k},k<n->QS r2.1 k->(Dk.sync r2.1).2=0->lv (Dk.sync r2.1).1 k=lv r2.1 k/\wv (Dk.sync r2.1).1 k=none:=fun l hq h0=>kZ u h0 l hq;obtain⟨s1,s2⟩:=lJ u;by_cases J:r2.2=0
 case neg=>
  rw[cF Dk.sync J,cF _ J];exact⟨fun e=>absurd e J,fun _=>g u o q⟩
 rw[et Dk.sync J];have hw:=w3 J;generalize Dk.sync r2.1=r3 at*
 by_cases C:r3.2=0
 case neg=>
  rw[cF _ C];have e:=s2 C;refine⟨fun e=>absurd e C,fun _=>g I ((gQ fun j _=>(e _).1).trans o) ⟨h.no.eq ((gQ fun j _=>(e _).1).trans o),fun j c x a=>?_,fun k l j c x a=>?_,fun k l=>(q.home k l).eq fun j _=>(e _).1⟩⟩
  ·rw[(e _).2]at a;rw[(e _).1];exact q.spare j c x a
  ·rw[(e _).2]at a;rw[(e _).1];exact q.quiet k l j c x a
 rw[et _ C];have L:=s1 C;have F:sp r3.1 S=nb:=AK s fun j c=>by
  rw[(L (S+j) (by omega)).1,hw,if_pos (by omega),tE nb (by omega),show S+j-S=j by omega];rfl
 have W:∀i,Has S b N i->wv r3.1 i=none:=fun i T=>(L i (B.has T)).2;have hW:Fz S b N m y r3.1 f:=⟨by rw[F];exact M,fun j c x a=>(by rw[W _ (da c)]at a;cases a),fun k l _ j c x a=>(by rw[W _ (cE l c)]at a;cases a),fun k l _=>(q.home k l).eq fun j c=>(Y (by omega) (q.quiet k l j c) C).1⟩
 obtain⟨g1,g2⟩:=nA I B hW hf D hm;refine⟨g1,fun h0 z=>(g2 h0 z).mono fun k x a=>?_⟩;unfold Po.cW at a;by_cases e:k=m
 ·rw[if_pos e]at a;exact Or.inr ⟨e,a⟩
 ·rw[if_neg e]at a;exact Or.inl a
def gm(d:Dk.aq)(S:Nat):List Nat:=Dk.sv d S++(Dk.sv d (S+1)++(Dk.sv d (S+2)++(Dk.sv d (S+3)++Dk.sv d (S+4))))
theorem mE(h:∀j,j<5->QS d (S+j)):gm d S=sp d S:=by
 have h0:=h 0 (by decide);rw[Nat.add_zero]at h0;unfold gm sp;rw[gP h0,gP (h 1 (by decide)),gP (h 2 (by decide)),gP (h 3 (by decide)),gP (h 4 (by decide))]
noncomputable def eI(d:Dk.aq)(S b N:Nat):Dk.aq×Nat:=
 Lr.ru (d.off=true) (d,6) (Lr.ru (Told (gm d S)/\Pg.cD (cut (gm d S))=0/\dU (gm d S)<N) (dx d S (b+4*dU (gm d S)) (Pg.form (Pg.cC (cut (gm d S))) (Pg.cZ (cut (gm d S))))) (d,0))
theorem uh(h:d.off=true):eI d S b N=(d,6):=if_pos h
theorem nY(a:d.off=false)(h:¬(Told (gm d S)/\Pg.cD (cut (gm d S))=0/\dU (gm d S)<N)):eI d S b N=(d,0):=by
 unfold eI Lr.ru;rw[if_neg (by rw[a];decide),if_neg h]
theorem pj(a:d.off=false)(h:Told (gm d S)/\Pg.cD (cut (gm d S))=0/\dU (gm d S)<N):eI d S b N=dx d S (b+4*dU (gm d S)) (Pg.form (Pg.cC (cut (gm d S))) (Pg.cZ (cut (gm d S)))):=by
 unfold eI Lr.ru;rw[if_neg (by rw[a];decide),if_pos h]
theorem ri(c:d.off=false)(h:qi S b N d f):eI d S b N=(d,0):=by
 refine nY c fun a=>?_;rw[mE fun j e=>h.quiet (da e)]at a;exact h.no _ _ ⟨a.1,rfl,a.2.1,rfl⟩ a.2.2
theorem Dq(f:Wl.aY n d)(g:gC n S b N)(hs:∀x∈gm d S,x<256):Op (Has S b N) n d (eI d S b N):=by
 cases ho:d.off with
 |true=>rw[uh ho];exact xy ho
 |false=>
  by_cases h:Told (gm d S)/\Pg.cD (cut (gm d S))=0/\dU (gm d S)<N
  ·rw[pj ho h];have e:∀x∈cut (gm d S),x<256:=fun x a=>by
    have a:=List.mem_of_mem_take a;obtain⟨i,-,c⟩:=List.mem_flatMap.1 a;exact jt hs i x (List.mem_of_mem_drop c)
   exact rh f ho g h.2.2 (by rw[Pg.bq,mM h.2.1]) (Pg.gA (Pg.pd e))
  ·rw[nY ho h];exact sy ho
theorem yZ{c:Nat->Po.Pg->Prop}(B:Wl.aY n d)(v:d.off=false)(C:gC n S b N)(h:sZ S b N d c):
 ((eI d S b N).2=0->∃f,(∀k,Po.cK (f k))/\(∀k,k<N->c k (f k))/\qi S b N (eI d S b N).1 f)/\
 ((eI d S b N).2≠0->∀r,sZ S b N (Dk.ay (eI d S b N).1 r) c):=by
 have s:∀i,Has S b N i->QS d i:=fun i z x u=>by rw[h.idle i z]at u;cases u
 have g:=mE (d:=d) (S:=S) fun j l=>s _ (da l);obtain⟨f,q,t,a⟩:=h.cB;rcases a with⟨a,p⟩|⟨m,hm,a,p⟩
 ·have e:eI d S b N=(d,0):=ri v ⟨h.idle,a,p⟩;rw[e];exact⟨fun _=>⟨f,q,t,h.idle,a,p⟩,fun e=>absurd rfl e⟩
 ·have hp:=a.2.1;have e:eI d S b N=dx d S (b+4*m) (Pg.form (f m).1 (f m).2):=by
   rw[pj v (by rw[g];exact⟨a.1,a.2.2.1,by rw[hp];exact hm⟩),g,hp,a.2.2.2]
  rw[e];have A:Fz S b N m (f m) d f:=⟨a,fun j l=>s _ (da l),fun k o _ j l=>s _ (cE o l),p⟩
  have hu:Po.cW f m (f m)=f:=by
   funext k
   unfold Po.cW;split
   ·next e=>rw[e]
   ·rfl
  obtain⟨y,w⟩:=nA B C A q (q m) hm;rw[hu]at y w;refine⟨fun h0=>⟨f,q,t,y h0⟩,fun h0 r=>?_⟩;obtain⟨i1,D,i2,i3,i4⟩:=w h0 r;exact⟨i1,D,i2,fun k o=>by rw[i3 k o];exact t k o,i4⟩
theorem DC(e:Wl.aY n d){p:Nat}(hp:p+4<=n){x:Po.Pg}(h:Home d p x):Po.cK x:=by
 have c:∀z∈hm d p,z<256:=fun z hz=>by
  have hs:∀i,i<n->∀z∈lv d i,z<256:=fun i g=>by
   have b:i<d.aP.length:=by have:=e.sz;unfold Dk.size at this;omega
   unfold lv;rw[List.getD_eq_getElem?_getD,List.getElem?_eq_getElem b,Option.getD_some];exact(e.ok.l1 _ (List.getElem_mem _)).2
  unfold hm at hz;rcases List.mem_append.1 hz with a|hz
  ·exact hs _ (by omega) z a
  rcases List.mem_append.1 hz with a|hz
  ·exact hs _ (by omega) z a
  rcases List.mem_append.1 hz with a|a
  ·exact hs _ (by omega) z a
  ·exact hs _ (by omega) z a
 rw[h.2];refine⟨?_,mM h.1,Pg.pd c⟩;show Pg.cC _<_;unfold Pg.cC;rw[if_pos h.1];have f:=aw.jz ((List.drop 4 (hm d p)).take 8) fun z hz=>c z (List.mem_of_mem_drop (List.mem_of_mem_take hz));have hl:((List.drop 4 (hm d p)).take 8).length<=8:=List.length_take_le _ _;have:(256:Nat)^((List.drop 4 (hm d p)).take 8).length<=256^8:=Nat.pow_le_pow_right (by decide) hl;have j:(256:Nat)^8=18446744073709551616:=by decide
 omega
theorem qi.ay(e:Wl.aY n d)(i:gC n S b N)(h:qi S b N d f)(c:List Nat):sZ S b N (Dk.ay d c) fun k x=>x=f k:=by
 have m:=i.base;have l:=i.spare;refine⟨fp e i c,fun k=>if k<N then f k else Po.blank,fun k=>?_,fun k a=>(show(if k<N then f k else Po.blank)=f k from if_pos a),Or.inl ⟨h.no.eq (gQ fun j g=>eK e c (by omega) (h.quiet (da g))),fun k a=>?_⟩⟩
 ·dsimp only;split
  ·next a=>exact DC e (by omega) (h.home k a)
  ·exact⟨by show(0:Nat)<_;decide,Pg.bU 500,Pg.jP 500⟩
 ·show Home _ _ (if k<N then f k else Po.blank);rw[if_pos a];exact(h.home k a).eq fun j g=>eK e c (by omega) (h.quiet (cE a g))
theorem qi.same{e:Dk.aq}(h:qi S b N d f)(hw:∀i,Has S b N i->wv e i=none)(hl:∀i,Has S b N i->lv e i=lv d i):qi S b N e f:=
 ⟨hw,h.no.eq (gQ fun j a=>hl _ (da a)),fun k c=>(h.home k c).eq fun j a=>hl _ (cE c a)⟩
theorem zn(hw:∀i,Has S b N i->wv d i=none)(hl:∀i,Has S b N i->lv d i=Dk.blank):qi S b N d fun _=>Po.blank:=by
 refine⟨hw,fun k x f _=>?_,fun k a=>?_⟩
 ·have h0:=(oA f.1).1;have c:=hl _ (da (S:=S) (b:=b) (N:=N) (j:=0) (by decide));rw[Nat.add_zero]at c;unfold sp at h0;rw[c]at h0;exact absurd h0 (by show¬(0:Nat)=112;decide)
 ·have e:hm d (b+4*k)=Pg.bm 512:=by
   have h0:=hl _ (cE (S:=S) (b:=b) a (show 0<4 by decide));rw[Nat.add_zero]at h0;unfold hm;rw[h0,hl _ (cE a (show 1<4 by decide)),hl _ (cE a (show 2<4 by decide)),hl _ (cE a (show 3<4 by decide))];unfold Dk.blank Pg.bm;rw[List.replicate_append_replicate,List.replicate_append_replicate,List.replicate_append_replicate]
  unfold Home;rw[e,Pg.iA,Pg.nC,Pg.nD];exact⟨rfl,rfl⟩
end
theorem Fe{s:Wl.S}{said:Nat}{d:Dk.aq}(h:Wl.Dv s said d){i:Nat}{b:List Nat}(e:i<Dk.size d)(f:Dk.fI b)(g:i<s.at_\/s.at_+s.count+2<=i):Wl.Dv s said (Dk.put d i b):=by
 have hf:=h.fits;have hl:i<d.waits.length:=by rw[h.ok.w];exact e
 refine⟨Dk.eT h.ok _ f,h.fits,h.hl,fun k c a hw=>?_,h.sl,fun k c a hw=>?_⟩
 ·rw[Wl.gE hl,if_neg (by omega)]at hw;exact h.hw k c a hw
 ·rw[Wl.gE hl,if_neg (by omega)]at hw;exact h.sw k c a hw
theorem Ro.dv{A:Nat->Prop}{n:Nat}{d e:Dk.aq}{s:Wl.S}{said:Nat}(h:Ro A n d e)(f:Wl.aY n d)(g:Wl.Dv s said d)(j:∀i,A i->i<s.at_\/s.at_+s.count+2<=i):Wl.Dv s said e:=by
 induction h with
 |refl=>exact g
 | @write e i b h1 hA1 hi hb ih=>
  have a:=h1.bG f;cases ho:e.off with
  |true=>rw[iY ho];exact ih
  |false=>
   rw[(Wl.dV a ho hi hb).1];exact(Fe ih (by rw[a.sz];exact hi) hb (j i hA1)).cj
 | @sync e h1 ih=>
  have a:=h1.bG f;cases ho:e.off with
  |true=>rw[jU ho];exact ih
  |false=>
   rcases Wl.gH a ho with⟨c,-,-⟩|⟨c,-,-⟩
   ·rw[c];exact ih.cj
   ·rw[c];exact ih.cj.last
end Go.Proofs.YtbpodmallknhfaaGreat.Rg
namespace Go.Proofs.YtbpodmallknhfaaGreat
open Go.RowKit
theorem vr{B c b:Nat}{d:Dk.aq}{w:World}(h:bh w B c b d)(f:d.off=true)(i:Int):
 Calls Tryz.prog 97 #[.pointer (some ⟨B,0,none⟩),.int .i64 i] w fun e w'=>∃u,e=.returned (.tuple #[u,.int .i64 6])/\Below w.heap.size w w':=by
 have a:=jY h i;rw[show Dk.read d i=([],6)from if_pos f]at a;exact a.mono fun _ _⟨u,he,_,g⟩=>⟨u,he,g⟩
set_option maxHeartbeats 3200000 in
set_option maxRecDepth 20000 in
theorem yg{w:World}{L B a c n m:Nat}{k:Wl.Kn}{pl P:Value}{d:Dk.aq}(h:aH w L k B a c pl P false)(O:bh w B n m d)(M:d.off=true)(r:1<=c)(p:c<=8192)(N:a<=65536)(g last:Nat)(t:¬DS B n m L):
 Calls Tryz.prog 147 #[.pointer (some ⟨L,0,none⟩),.int .u64 (g:Int),.int .u64 (last:Int)] w fun e w'=>e=.returned (.int .i64 6)/\bh w' B n m d/\Touch (ik B n m L) w w':=by
 have C:=Lib.hid h;have b:=Lib.hid (gn h g r p N);obtain⟨R,o⟩:∃s,s=a+2+g%(2*c)/2:=⟨_,rfl⟩
 rw[<-o]at b;have y:=Lib.hid O;have J:=Lib.hid M;have K:=Lib.hid t;clear h O M r p N t o;go_enter Tryz.func147,Tryz.ntmps147;go_wp2_with fail
 refine b.out.mono ?_;rintro e w1⟨rfl,q,rfl⟩;have l:=below_drewN w.heap.size w q;have D:=Lib.hid (C.out.below l);have z:=Lib.hid (y.out.below l);have H:Hid (Touch (ik B n m L) w (w.drewN q)):=(Touch.refl _ _).drewN q;clear b l;generalize w.drewN q=W1 at*
 have c4:=D.out.cell 4 (v:=.pointer (some ⟨B,0,none⟩)) rfl;go_wp2_with fail
 refine(vr z.out J.out _).mono ?_;rintro e w2⟨u,rfl,f⟩;have A:=Lib.hid (D.out.below f);have x:=Lib.hid (z.out.below f);have G:=Lib.hid (H.out.trans (Touch.aE f));clear f c4;go_wp2_with fail
 refine(gM A.out 6).mono ?_;rintro e S⟨rfl,F,j⟩;have Q:=Lib.hid (G.out.trans (j.mono fun i _ E=>Or.inr E));have I:=Lib.hid (x.out.bQ j (fun i E e=>K.out (e▸E)));clear F j;go_wp2_with fail
 go_ret;exact⟨rfl,I.out,Q.out⟩
def Ib(s:Wl.S)(said n B c b L:Nat)(pl f:Value)(d:Dk.aq)(w:World)(e:Ending)(w':World):Prop:=
 (∃a,e=.returned (.int .i64 0)/\bh w' B c b a/\Wl.Dv (Wl.flush s) said a/\Wl.il s.at_ s.count d a/\Wl.aY n a/\(Wl.Calm n d->Wl.Calm n a)/\aH w' L (Wl.kn s) B s.at_ s.count pl f false/\Touch (ik B c b L) w w')\/
 (¬Wl.Calm n d/\∃(k:Nat)(a:Dk.aq),e=.returned (.int .i64 (k:Int))/\k=6/\bh w' B c b a/\Wl.il s.at_ s.count d a/\Wl.aY n a/\Wl.Dv s said a/\Touch (ik B c b L) w w')
set_option maxHeartbeats 6400000 in
set_option maxRecDepth 20000 in
theorem th{w:World}{L B m1 m2 said n:Nat}{s:Wl.S}{pl:Value}{gw ow cw:Nat}{d:Dk.aq}(h:aH w L (Wl.kn s) B s.at_ s.count pl (.slice (some ⟨gw,ow,none⟩) (Wl.waits s).length cw) false)(hP:bh w B m1 m2 d)(hB:aV w (.slice (some ⟨gw,ow,none⟩) (Wl.waits s).length cw) (Wl.waits s))
 (hx:Wl.Ex s) (hD:Wl.Dv s said d) (hN:Wl.aY n d) (aL:s.ae<s.stop) (hs:s.stop<=1000000000000) (aS:¬DS B m1 m2 L) (aR:¬ik B m1 m2 L gw):
 Calls Tryz.prog 107 #[.pointer (some ⟨L,0,none⟩)] w fun e w'=>Ib s said n B m1 m2 L pl (.slice (some ⟨gw,ow,none⟩) (Wl.waits s).length cw) d w e w':=by
 have au:=Wl.eb hx.aQ;have hend:=iP h (by show s.ae+_<_;rw[au];omega);rw[show(Wl.kn s).ae+(Wl.waits s).length=s.stop by show s.ae+_=_;rw[au];omega]at hend;have ao:=Lib.hid hend;have aX:=Lib.hid h;have aU:=Lib.hid hP;have ar:=Lib.hid hB;have HX:=Lib.hid hx;have bj:=Lib.hid hD;have HN:=Lib.hid hN;have ad:=Lib.hid aL;have HS:=Lib.hid hs;have A:=Lib.hid aS;have bc:=Lib.hid aR;obtain⟨last,o⟩:∃l,l=Wl.fO s:=⟨_,rfl⟩
 have r:=Lib.hid o;obtain⟨z1,a7⟩:∃z,z=s.stop-1:=⟨_,rfl⟩
 have bp:IntKind.u64.wrap ((s.stop:Int)-1)=(z1:Int):=by rw[IntWalk.u64_in _ (by omega)];omega
 have bo:IntKind.u64.wrap ((z1:Int)/52)=(last:Int):=by unfold Wl.fO at o;rw[IntWalk.u64_in _ (by omega)];omega
 obtain⟨g0,aK⟩:∃g,g=s.ae/52:=⟨_,rfl⟩
 have bn:IntKind.u64.wrap ((s.ae:Int)/52)=(g0:Int):=by rw[IntWalk.u64_in _ (by omega)];omega
 have a2:=Lib.hid aK;have ab:Hid (last<=1000000000000):=by unfold Wl.fO at o;show _<=_;omega
 have bk:Hid (g0<=1000000000000):=by show _<=_;omega
 clear h hP hB hx hD hN aL hs aS aR au hend o aK a7;go_enter Tryz.func107,Tryz.ntmps107;go_wp2_with fail
 refine ao.out.mono ?_;rintro e w1⟨rfl,q,rfl⟩;have W:=below_drewN w.heap.size w q;have aZ:=Lib.hid (aX.out.below W);have bg:=Lib.hid (aU.out.below W);have bq:=Lib.hid (ar.out.below W);have bd:Hid (Touch (ik B m1 m2 L) w (w.drewN q)):=(Touch.refl _ _).drewN q;clear ao W;generalize w.drewN q=W1 at*
 have c1:=aZ.out.cell 1 (v:=.int .u64 (s.ae:Int)) rfl;go_wp2_with fail
 clear c1;go_loopw [4] (fun i wr=>∃(t:Nat)(d1:Dk.aq),i=.int .u64 (t:Int)/\g0<=t/\t<=last+2+g0/\Wl.Wr s said d1 t/\Wl.il s.at_ s.count d d1/\Wl.aY n d1/\(Wl.Calm n d->Wl.Calm n d1)/\bh wr B m1 m2 d1/\aH wr L (Wl.kn s) B s.at_ s.count pl (.slice (some ⟨gw,ow,none⟩) (Wl.waits s).length cw) false/\Touch (ik B m1 m2 L) w wr) (fun i _=>(last+1)-(intOf i).toNat)
 case atStart=>exact⟨g0,d,rfl,Nat.le_refl _,by omega,by rw[a2.out];exact Wl.Ax bj.out,Wl.il.refl _ _ _,HN.out,id,bg.out,aZ.out,bd.out⟩
 case round=>
  obtain⟨t,d1,rfl,aE,a,aA,aG,aI,aM,aF,aJ,aD⟩:=hrel;have Q:=Lib.hid aG;have D:=Lib.hid aA;have G:=Lib.hid aI;have T:=Lib.hid aM;have Z:=Lib.hid aF;have H:=Lib.hid aJ;have F:=Lib.hid aD;have O:Hid (g0<=t/\t<=last+2+g0):=⟨aE,a⟩
  clear aA aG aI aM aF aJ aD aE a;by_cases C:t<=last
  ·have p:(t:Int)<=(last:Int):=by omega
   have aa:=Lib.hid C;have a1:Hid (Wl.nS s t):=⟨by have h1:=O.out;have h2:=a2.out;omega,by have h1:=r.out;omega⟩
   have aj:=D.out.dv.fits;have aN:=HX.out.low;have V:=HX.out.high;have ag:=Z.out.own.size;cases hof:d1.off with
   |true=>
    have u:=yg H.out Z.out hof (by omega) V (by omega) t last A.out;have y:=Lib.hid u;have R:=Lib.hid hof;clear u hof aj aN V ag C;go_wp2_with fail
    refine y.out.mono ?_;rintro e w2⟨rfl,b,a⟩;have j:=Lib.hid b;have f:=Lib.hid (F.out.trans a);clear b a y;go_wp2_with fail
    go_ret;exact Or.inr ⟨(fun M=>by have:=(T.out M).off;rw[R.out]at this;cases this),6,d1,rfl,rfl,j.out,Q.out,G.out,D.out.dv,f.out⟩
   |false=>
    have aP:=F.out.bz ar.out (fun _ g' e=>by
     simp only[Value.ownBlock,Option.some.injEq]at e;subst e;exact bc.out)
    have u:=yh H.out Z.out aP hof (by omega) V (by omega) t last C ab.out (fun i h1 h2=>(⟨Nat.le_trans a1.out.low h1,by have:=r.out;omega⟩:Wl.nS s i).ok HX.out ad.out HS.out) A.out (by show s.ae<=_;have:=ad.out;have:=HS.out;omega);have y:=Lib.hid u;have R:=Lib.hid hof;have az:s.at_+2+t%(2*s.count)/2<n:=by
     have h1:=Wl.jo (n:=s.count) (h:=t) (by omega);have h2:=G.out.sz;omega
    have bf:=Lib.hid az;have bb:IntKind.u64.wrap ((t:Int)/2)=((t/2:Nat):Int):=by rw[IntWalk.u64_in _ (by have:=ab.out;omega)];omega
    obtain⟨t2,a⟩:∃n,n=t/2:=⟨_,rfl⟩
    rw[<-a]at bb;obtain⟨t4,ba⟩:∃n,n=t2*2:=⟨_,rfl⟩
    have bm:IntKind.u64.wrap ((t2:Int)*2)=(t4:Int):=by have:=ab.out;rw[IntWalk.u64_in _ (by omega)];omega
    obtain⟨t5,a8⟩:∃n,n=t4+2:=⟨_,rfl⟩
    have bl:IntKind.u64.wrap ((t4:Int)+2)=(t5:Int):=by have:=ab.out;rw[IntWalk.u64_in _ (by omega)];omega
    have Y:Hid (t5=t/2*2+2):=by show _=_;omega
    clear u hof aj aN V ag C aP az a ba a8;go_wp2_with fail
    refine y.out.mono ?_;rintro e w2⟨b',U,he,b,X,a⟩;rw[show(Wl.kn s).ae=s.ae from rfl,show(Wl.kn s).ai=s.ai from rfl,r.out]at U;obtain⟨aC,aB⟩:=Wl.dV G.out R.out bf.out U.sec;rw[aC]at he b X;have af:=(D.out.put HX.out ad.out HS.out a1.out U).cj;have aO:=fun M=>Wl.uM (T.out M) (s.at_+2+t%(2*s.count)/2) b';have ah:=(Q.out.put (i:=s.at_+2+t%(2*s.count)/2) ⟨by omega,by have:=Wl.jo (n:=s.count) (h:=t) (by have:=HX.out.low;omega);omega⟩ b').cj;generalize Dk.cj (Dk.put d1 (s.at_+2+t%(2*s.count)/2) b')=d2 at*
    dsimp only at he b X;have f:=Lib.hid (F.out.trans a);have j:=Lib.hid b;have aT:=Lib.hid aB;have ak:=Lib.hid af;have a6:=Lib.hid aO;have an:=Lib.hid ah;have k:=Lib.hid X;subst he;clear b a y U aC aB af aO X ah;cases hof2:d2.off with
    |true=>
     rw[hof2]at k;have aW:=Lib.hid hof2;clear hof2;go_wp2_with fail
     go_ret;exact Or.inr ⟨(fun M=>by have:=(a6.out M).off;rw[aW.out]at this;cases this),6,d2,rfl,rfl,j.out,an.out,aT.out,ak.out.dv,f.out⟩
    |false=>
     rw[hof2]at k;have ay:Hid (aH w2 L (Wl.kn s) B s.at_ s.count pl (.slice (some ⟨gw,ow,none⟩) (Wl.waits s).length cw) false):=k.out;clear k hof2;go_wp2_with fail
     go_roundw
     case rel=>exact⟨t5,d2,by go_num,by have h1:=O.out;have h2:=Y.out;omega,by have h1:=O.out;have h2:=Y.out;have h3:=aa.out;omega,by rw[Y.out];exact ak.out,an.out,aT.out,a6.out,j.out,ay.out,f.out⟩
     case measure=>simp[intOf];have h1:=aa.out;have h2:=Y.out;omega
  ·have p:¬(t:Int)<=(last:Int):=by omega
   have av:=D.out;have aa:Hid (Wl.fO s<t):=by show _<_;rw[<-r.out];omega
   have c4:=H.out.cell 4 (v:=.pointer (some ⟨B,0,none⟩)) rfl;have m:=iR Z.out;cases hof:d1.off with
   |true=>
    rw[show Dk.sync d1=(d1,6)from if_pos hof]at m;have x:=Lib.hid m;have R:=Lib.hid hof;clear m hof C av;go_wp2_with fail
    refine x.out.mono ?_;rintro e w2⟨rfl,b,a⟩;have j:=Lib.hid b;have k:=Lib.hid (H.out.al a A.out);have f:=Lib.hid (F.out.trans (a.mono fun i _ p=>Or.inl p));clear b a x c4;go_wp2_with fail
    refine(gM k.out 6).mono ?_;rintro e w3⟨rfl,E,c⟩;have P:=Lib.hid (j.out.bQ c (fun i p e=>A.out (e▸p)));have N:=Lib.hid (f.out.trans (c.mono fun i _ p=>Or.inr p));clear E c;go_wp2_with fail
    go_ret;exact Or.inr ⟨(fun M=>by have:=(T.out M).off;rw[R.out]at this;cases this),6,d1,rfl,rfl,P.out,Q.out,G.out,D.out.dv,N.out⟩
   |false=>
    rcases Wl.gH G.out hof with⟨K,J,I⟩|⟨K,J,I⟩
    ·rw[K]at m;have x:=Lib.hid m;have ax:=Lib.hid J;have aw:=Lib.hid I;clear m hof C av K J I;go_wp2_with fail
     refine x.out.mono ?_;rintro e w2⟨rfl,b,a⟩;have j:=Lib.hid b;have k:=Lib.hid (H.out.al a A.out);have f:=Lib.hid (F.out.trans (a.mono fun i _ p=>Or.inl p));clear b a x c4;go_wp2_with fail
     refine(gM k.out 6).mono ?_;rintro e w3⟨rfl,E,c⟩;have P:=Lib.hid (j.out.bQ c (fun i p e=>A.out (e▸p)));have N:=Lib.hid (f.out.trans (c.mono fun i _ p=>Or.inr p));clear E c;go_wp2_with fail
     go_ret;exact Or.inr ⟨fun M=>aw.out (T.out M),6,_,rfl,rfl,P.out,Q.out.cj,ax.out,D.out.cj.dv,N.out⟩
    ·rw[K]at m;have x:=Lib.hid m;have ax:=Lib.hid J;have aw:=Lib.hid I;clear m hof C av K J I;go_wp2_with fail
     refine x.out.mono ?_;rintro e w2⟨rfl,b,a⟩;have j:=Lib.hid b;have k:=Lib.hid (H.out.al a A.out);have f:=Lib.hid (F.out.trans (a.mono fun i _ p=>Or.inl p));clear b a x c4;go_wp2_with fail
     refine(ko k.out).mono ?_;rintro e w3⟨rfl,E,c⟩;have ay:=Lib.hid E;have P:=Lib.hid (j.out.bQ c (fun i p e=>A.out (e▸p)));have N:=Lib.hid (f.out.trans (c.mono fun i _ p=>Or.inr p));clear E c;go_wp2_with fail
     go_ret;exact Or.inl ⟨_,rfl,P.out,D.out.cj.done HX.out ad.out aa.out,Q.out.cj.last (Dk.mb G.out.ok),ax.out,fun M=>aw.out (T.out M),ay.out,N.out⟩
theorem oh(s:Wl.S)(h:Wl.Good s):Wl.waits (Wl.flush s)=[]:=by
 have a:=Wl.ef h;show(Wl.bytes s).drop (s.stop-s.start)=[]
 exact List.drop_eq_nil_of_le (by omega)
theorem qm:∀s:Wl.S,s.ae=s.stop->Wl.flush s=s
 |⟨_,_,_,_,_,_,_,_⟩,h=>by
  cases(show _=_ from h);rfl
def Iy(U V:Nat->Prop)(n B L:Nat)(d:Dk.aq)(s:Wl.S)(w:World)(e:Ending)(w':World):Prop:=
 (∃b c a,e=.returned (.int .i64 0)/\ij b c w' B L a (Wl.flush s)/\Wl.il s.at_ s.count d a/\Wl.aY n a/\(Wl.Calm n d->Wl.Calm n a)/\Touch (cY U V) w w'/\br U b w/\br V c w)\/
 (¬Wl.Calm n d/\∃k:Nat,∃b a,e=.returned (.int .i64 (k:Int))/\k=6/\gB b w' B a/\Wl.il s.at_ s.count d a/\Wl.aY n a/\(∀f,Wl.Hd (Dk.ay a f) s)/\Touch (cY U V) w w'/\br U b w)
set_option maxHeartbeats 3200000 in
set_option maxRecDepth 20000 in
theorem rQ{U V:Nat->Prop}{w:World}{B L:Nat}{d:Dk.aq}{n:Nat}{s:Wl.S}(h:ij U V w B L d s)(Y:Wl.aY n d)(hs:s.stop<=1000000000000):
 Calls Tryz.prog 78 #[.pointer (some ⟨L,0,none⟩)] w fun e w'=>Iy U V n B L d s w e w':=by
 have ad:=Lib.hid h;obtain⟨t,r,pl,wa,hm,rfl,hp,rfl,c,said,Z,hd⟩:=h;have W:=Lib.hid Z;have y:=np hm.log;obtain⟨p,cap,rfl⟩:=ot hm.D9;have c8:=hm.log.cell 8 (v:=.slice p (Wl.waits s).length cap) rfl;have M:=Wl.eb hm.ex.aQ;have u:=Lib.hid hm;have HN:=Lib.hid Y;have HS:=Lib.hid hs;by_cases h0:(Wl.waits s).length=0
 ·have O:Wl.flush s=s:=by
   have h2:=hm.ex.aQ.high;have:s.ae=s.stop:=by omega
   exact qm s this
  have aj:=Lib.hid O;rw[h0]at c8;clear hm hp c hd M Y hs O;go_enter Tryz.func78,Tryz.ntmps78;go_wp2_with (go_at_call 55;refine y.mono ?_;rintro e w'⟨rfl,rfl⟩)
  go_ret;exact Or.inl ⟨_,_,d,rfl,by rw[aj.out];exact ad.out,Wl.il.refl _ _ _,HN.out,id,.refl _ _,fun i a=>Or.inl a,fun i a=>Or.inl a⟩
 ·have aa:¬((Wl.waits s).length:Int)=0:=by omega
  have ar:(((Wl.waits s).length:Int)==0)=false:=by rw[beq_eq_false_iff_ne];exact aa
  rcases hm.D9.form with⟨-,e0⟩|⟨R,cw,o,-,ao,an,-⟩
  ·rw[e0]at h0;exact absurd rfl h0
  simp only[Value.slice.injEq,true_and]at o;obtain⟨rfl,rfl⟩:=o;have z:¬DS B t r L:=fun h=>c L h (Or.inl rfl);have P:¬ik B t r L R:=fun h=>by
   rcases h with h|h
   ·exact c R h (Or.inr (Or.inr rfl))
   ·exact hm.GN (by rw[<-h];rfl)
  have K:=th hm.log hp hm.D9.bz hm.ex hd Y (by have:=hm.ex.aQ.high;omega) hs z P;have C:=Lib.hid K;have X:=Lib.hid z;have J:=Lib.hid c;clear hm hp c hd M Y hs K z P;go_enter Tryz.func78,Tryz.ntmps78;go_upto_region 6 with(go_at_call 55;refine y.mono ?_;rintro e w'⟨rfl,rfl⟩)
  clear c8 y;go_wp2_with fail
  refine C.out.mono ?_;rintro e w1(⟨d',rfl,f,m,j,l,Q,A,b⟩|⟨N,k,d',rfl,hk,f,j,l,m,b⟩)
  ·have hend:=iP A (by show s.ae+_<_;rw[u.out.end_];have:=HS.out;omega);rw[show(Wl.kn s).ae+(Wl.waits s).length=s.stop from u.out.end_]at hend;have x:=Lib.hid hend;have ai:=Lib.hid A;have E:=Lib.hid f;have I:=Lib.hid m;have G:=Lib.hid l;have ak:=Lib.hid Q;have F:=Lib.hid j;have D:=Lib.hid b;clear hend A f m l Q j b C;go_wp2_with fail
   refine x.out.mono ?_;rintro e w2⟨rfl,q,rfl⟩;have H:Hid (aH (w1.drewN q) L (Wl.kn s) B s.at_ s.count pl (.slice (some ⟨R,0,none⟩) (Wl.waits s).length cap) false):=ai.out;have ag:=Lib.hid (E.out.below (below_drewN _ _ q));have ab:Hid (Touch (ik B t r L) w (w1.drewN q)):=D.out.drewN q;clear x;generalize w1.drewN q=w2 at*
   have f1:=aI H.out 1;have s1:aH (w2.setCell ⟨L,1,none⟩ (.int .u64 (s.stop:Int))) L (Wl.kn (Wl.flush s)) B s.at_ s.count pl (.slice (some ⟨R,0,none⟩) (Wl.waits s).length cap) false:=aT (i:=1) H.out _;have f8:=aI s1 8;have s8:aH ((w2.setCell ⟨L,1,none⟩ (.int .u64 (s.stop:Int))).setCell ⟨L,8,none⟩ (.slice none 0 0)) L (Wl.kn (Wl.flush s)) B s.at_ s.count pl (.slice none 0 0) false:=aT (i:=8) s1 _;have g1:=H.out.cell 1 (v:=.int .u64 (s.ae:Int)) rfl;have g8:=aH.cell s1 8 (v:=.slice (some ⟨R,0,none⟩) (Wl.waits s).length cap) rfl;have S8:=Lib.hid s8;have T:Hid (Touch (ik B t r L) w ((w2.setCell ⟨L,1,none⟩ (.int .u64 (s.stop:Int))).setCell ⟨L,8,none⟩ (.slice none 0 0))):=(ab.out.trans (.set L 1 _ (Or.inr rfl))).trans (.set L 8 _ (Or.inr rfl));have af:=Lib.hid ((ag.out.bQ (Touch.set (S:=(·=L)) L 1 (.int .u64 (s.stop:Int)) rfl) (fun i a e=>X.out (e▸a))).bQ (Touch.set (S:=(·=L)) L 8 (.slice none 0 0) rfl) (fun i a e=>X.out (e▸a)));clear s1 s8;go_wp2_with fail
   go_ret;refine Or.inl ⟨DS B t r,my L pl (.slice none 0 0),d',rfl,⟨t,r,pl,.slice none 0 0,⟨Wl.B9 u.out.ex,S8.out,?_,?_,u.out.Gb,(fun h=>by cases h),fun i a h=>by cases h⟩,rfl,af.out,rfl,fun i a o=>?_,said,W.out,I.out⟩,F.out,G.out,ak.out,T.out.mono fun i _ a=>?_,fun i a=>Or.inl a,fun i a=>Or.inl ?_⟩
   ·exact u.out.GK.al T.out (fun g hg hp=>by
     rcases hp with hp|hp
     ·exact J.out g hp (Or.inr (Or.inl hg))
     ·exact u.out.Gb (by rw[hg,hp]))
   ·rw[oh s u.out.ex.aQ];exact aM _ _
   ·rcases o with o|o|o
    ·exact J.out i a (Or.inl o)
    ·exact J.out i a (Or.inr (Or.inl o))
    ·cases o
   ·rcases a with a|a
    ·exact Or.inl a
    ·exact Or.inr (Or.inl a)
   ·rcases a with a|a|a
    ·exact Or.inl a
    ·exact Or.inr (Or.inl a)
    ·cases a
  ·have h1:¬(k:Int)=0:=by omega
   have h2:((k:Int)!=0)=true:=by simp;omega
   have E:=Lib.hid f;have I:=Lib.hid m;have G:=Lib.hid l;have D:=Lib.hid b;have HK:=Lib.hid hk;have F:=Lib.hid j;have ah:=Lib.hid N;clear f m l b hk N j C;go_wp2_with fail
   go_ret;refine Or.inr ⟨ah.out,k,DS B t r,d',rfl,HK.out,⟨t,r,E.out,rfl⟩,F.out,G.out,fun ps=>Wl.Hd.ay ⟨u.out.ex,said,W.out,I.out⟩ ps,D.out.mono fun i _ a=>?_,fun i a=>Or.inl a⟩;rcases a with a|a
   ·exact Or.inl a
   ·exact Or.inr (Or.inl a)
end Go.Proofs.YtbpodmallknhfaaGreat
