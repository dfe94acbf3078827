/- Parts of a proof. Conditions: as each row says. -/
import Derived.Test.YtbpodmallknhfaaGreatCr09
import Derived.Test.YtbpodmallknhfaaGreatCr21
import Derived.Test.YtbpodmallknhfaaGreatCr32
import Derived.Test.YtbpodmallknhfaaGreatCr25
import Derived.Test.YtbpodmallknhfaaGreatCr29
import Derived.Test.YtbpodmallknhfaaGreatCr31
import Derived.Test.YtbpodmallknhfaaGreatCr24
import Derived.Test.YtbpodmallknhfaaGreatCr19
import Derived.Test.YtbpodmallknhfaaGreatCr26
import Derived.BigQuiet
namespace Go.Proofs.YtbpodmallknhfaaGreat
open Go.RowKit
def sX(B S b N:Nat):Value:=.agg #[.pointer (some ⟨B,0,none⟩),.int .i64 (S:Int),.int .i64 (b:Int),.int .i64 (N:Int)]
def Ij(B S b N:Nat):Array Value:=#[.pointer (some ⟨B,0,none⟩),.int .i64 (S:Int),.int .i64 (b:Int),.int .i64 (N:Int)]
def fU(W:World)(Q B S b N:Nat):Prop:=W.heap[Q]?=some (.cells (Ij B S b N) 95 (0,0))
section
variable{W:World}{Q B S b N:Nat}
theorem fU.c0(h:fU W Q B S b N):W.cell? ⟨Q,0,none⟩=some (.pointer (some ⟨B,0,none⟩)):=ah h 0 rfl
theorem fU.c1(h:fU W Q B S b N):W.cell? ⟨Q,1,none⟩=some (.int .i64 (S:Int)):=ah h 1 rfl
theorem fU.c2(h:fU W Q B S b N):W.cell? ⟨Q,2,none⟩=some (.int .i64 (b:Int)):=ah h 2 rfl
theorem fU.c3(h:fU W Q B S b N):W.cell? ⟨Q,3,none⟩=some (.int .i64 (N:Int)):=ah h 3 rfl
theorem fU.below{a:World}(h:fU W Q B S b N)(c:Below W.heap.size W a):fU a Q B S b N:=(c.block Q (lt_of_block h)).trans h
theorem fU.al{a:World}{T:Nat->Prop}(h:fU W Q B S b N)(c:Touch T W a)(hs:¬T Q):fU a Q B S b N:=c.row h hs
end
theorem oN(w:World)(B S b N:Nat):∃W,W=w.alloc (.cells #[.pointer (some ⟨B,0,none⟩),.int .i64 (S:Int),.int .i64 (b:Int),.int .i64 (N:Int)] 95)/\fU W w.heap.size B S b N/\Below w.heap.size w W/\W.heap.size=w.heap.size+1:=
 ⟨_,rfl,heap_alloc_last _ _,(Below.refl _ _).alloc (Nat.le_refl _) _,by simp⟩
theorem BV(B S b N:Nat)(m:Int)(w:World):Calls Tryz.prog 71 #[sX B S b N,.int .i64 m] w fun e w'=>e=.returned (.bool (decide (0<=m/\m<(N:Int))))/\Below w.heap.size w w':=by
 obtain⟨W,j,d,i,-⟩:=oN w B S b N;obtain⟨Q,f⟩:∃Q,Q=w.heap.size:=⟨_,rfl⟩
 rw[<-f]at d;have c3:=d.c3;have g:=Lib.hid i;clear i d;unfold sX;go_enter Tryz.func71,Tryz.ntmps71;go_upto_region 1 with(fail)
 rw[<-j,<-f];clear j f;by_cases h0:0<=m
 ·by_cases a:m<(N:Int)
  ·have c:Hid (decide (0<=m/\m<(N:Int))=true):=decide_eq_true ⟨h0,a⟩;go_wp2_with fail
   go_ret;exact⟨by first|rfl|(rw[c.out];rfl)|simp[h0,a]|(simp[h0];omega),g.out⟩
  ·have c:Hid (decide (0<=m/\m<(N:Int))=false):=decide_eq_false fun h=>a h.2;have k:(N:Int)<=m:=by omega
   go_wp2_with fail
   go_ret;exact⟨by first|rfl|(rw[c.out];rfl)|simp[h0,a]|(simp[h0];omega),g.out⟩
 ·have c:Hid (decide (0<=m/\m<(N:Int))=false):=decide_eq_false fun h=>h0 h.1;have l:m<0:=by omega
  go_wp2_with fail
  go_ret;exact⟨by first|rfl|(rw[c.out];rfl)|simp[h0,a]|(simp[h0];omega),g.out⟩
def EA(d:Dk.aq)(S:Nat):Nat->List Nat
 |0=>[]
 |k+1=>EA d S k++Dk.sv d (S+k)
theorem oC(d:Dk.aq)(S:Nat):EA d S 5=Rg.gm d S:=by
 simp only[EA,Rg.gm,Nat.add_zero,List.nil_append,List.append_assoc]
theorem gg{n:Nat}{d:Dk.aq}(h:Wl.aY n d){i:Nat}(a:i<n):(Dk.sv d i).length=128/\∀x∈Dk.sv d i,x<256:=Wl.mo h.ok (by rw[h.sz];exact a)
theorem nV{n S:Nat}{d:Dk.aq}(h:Wl.aY n d):∀k,S+k<=n->(EA d S k).length=128*k
 |0,_=>rfl
 |k+1,hk=>by
  show(EA d S k++Dk.sv d (S+k)).length=_;rw[List.length_append,nV h k (by omega),(gg h (show S+k<n by omega)).1];omega
def Ig(d:Dk.aq)(S:Nat)(w:World)(e:Ending)(w':World):Prop:=∃u,e=.returned (.tuple #[u,.int .i64 ((if d.off then 6 else 0:Nat):Int)])/\Below w.heap.size w w'/\(d.off=false->Own w.heap.size w' u (Rg.gm d S))
set_option maxHeartbeats 3200000 in
set_option maxRecDepth 20000 in
theorem tx{w:World}{B m1 m2 n S b N:Nat}{d:Dk.aq}(U:bh w B m1 m2 d)(V:Wl.aY n d)(T:S+5<=n)(P:n<=65536):
 Calls Tryz.prog 69 #[sX B S b N] w fun e w'=>Ig d S w e w':=by
 obtain⟨W,R,D,p,r⟩:=oN w B S b N;obtain⟨Q,z⟩:∃Q,Q=w.heap.size:=⟨_,rfl⟩
 rw[<-z]at D;have HR:=Lib.hid D;have Z:=Lib.hid p;have HP:=Lib.hid (U.below p);have J:=Lib.hid V;have A:Hid (S+5<=n/\n<=65536):=⟨T,P⟩
 have HQ:=Lib.hid z;have G:=Lib.hid r;clear U p V T P D r;unfold sX;go_enter Tryz.func69,Tryz.ntmps69;go_upto_region 1 with(fail)
 rw[<-R,<-z];clear R z;go_wp2_with fail
 go_loopw [4,8] (fun v i wr=>∃K:Nat,K<=5/\i=.int .i64 K/\Own W.heap.size wr v (EA d S K)/\Below W.heap.size W wr/\(K=0\/d.off=false)) (fun _ i _=>5-(intOf i).toNat)
 case atStart=>exact⟨0,Nat.zero_le _,rfl,aM _ _,Below.refl _ _,Or.inl rfl⟩
 case round=>
  obtain⟨K,X,rfl,C,p,g⟩:=hrel;have Y:=Lib.hid C;have a:=Lib.hid p;have HO:=Lib.hid g;obtain⟨pv,cv,rfl,-,-,-⟩:=C.bz.form;clear C p g;have k:=HR.out.below a.out;have c0:=k.c0;have c1:=k.c1;clear k;by_cases m:K<5
  ·have q:Hid (K<5):=m;have hi:(K:Int)<5:=by omega
   have E:=IntWalk.i64_in ((S:Int)+(K:Int)) (by have:=A.out;omega);have l:=jY (HP.out.below a.out) ((S+K:Nat):Int);rw[Rg.gF J.out (i:=S+K) (by have:=A.out;omega)]at l;have y:=Lib.hid l;clear l X m;go_wp2_with fail
   rw[show(S:Int)+(K:Int)=((S+K:Nat):Int)by omega];refine y.out.mono ?_;rintro e w3⟨u,rfl,F,t⟩;obtain⟨pu,cu,rfl,-,-,-⟩:=F.bz.form;have HM:=Lib.hid F;have f:=Lib.hid t;clear F t y E;rcases Bool.eq_false_or_eq_true d.off with j|j
   ·have c:Hid (d.off=true):=j;rw[j,if_pos rfl];dsimp only;clear j;go_wp2_with fail
    go_ret2
    refine⟨_,by rw[c.out];rfl,Z.out.trans ((a.out.trans (f.out.mono a.out.size)).mono (by have:=G.out;omega)),fun e=>by rw[c.out]at e;cases e⟩
   ·have c:Hid (d.off=false):=j;have L:Hid (aV w3 (.slice pu (Dk.sv d (S+K)).length cu) (Dk.sv d (S+K))):=by
     have:=HM.out.bz;rw[j,if_neg (by decide)]at this;exact this
    rw[j,if_neg (by decide)];have HL:=Lib.hid (gg J.out (show S+K<n by have:=A.out;have:=q.out;omega)).1;have M:=Lib.hid (nV (S:=S) J.out K (by have:=A.out;have:=q.out;omega));have ab:=IntWalk.i64_in ((K:Int)+1) (by have:=q.out;omega);clear j;dsimp only;go_upto_region 8 with(fail)
    iterate 7 go_step
    refine aB rfl (.tmp 25) (.tmp 26) rfl W.heap.size _ (EA d S K) rfl (Y.out.below f.out) _ (Dk.sv d (S+K)) rfl L.out (by rw[HL.out,M.out];have:=q.out;omega) (by have h2:=a.out.size;have h3:=f.out.size;omega) ?_;intro v' w4 o s _;have I:=Lib.hid o;have O:=Lib.hid s;obtain⟨aa,ad,rfl,-,-,-⟩:=o.bz.form;clear o s;go_wp2_with fail
    go_roundw
    case rel=>refine⟨K+1,by have:=q.out;omega,by go_num,?_,(a.out.trans (f.out.mono a.out.size)).trans O.out,Or.inr c.out⟩;have h:=I.out;rw[List.length_append]at h;exact h
    case measure=>have:=q.out;simp[intOf];omega
  ·obtain rfl:K=5:=by omega
   have x:=HO.out.resolve_left (by decide);have H:Hid (d.off=false):=x;have hi:¬((5:Nat):Int)<5:=by decide
   clear m X x;go_wp2_with fail
   go_ret2
   refine⟨_,by rw[H.out];rfl,Z.out.trans (a.out.mono (by have:=G.out;omega)),fun _=>?_⟩;rw[<-oC];exact Y.out.from (by have:=G.out;omega)
theorem Rg.wL{n:Nat}{d:Dk.aq}(h:Wl.aY n d){p k:Nat}(hp:p<n)(a:d.off=false):Rg.bV d p (k+1)=if Dk.sv d p=Dk.blank then Rg.ke (Dk.write d (p:Int) Dk.blank) (fun e=>Rg.bV e (p+1) k)else Rg.bV d (p+1) k:=by
 show(if(Dk.read d (p:Int)).2≠0 then _ else _)=_;rw[Rg.nX h a hp];rfl
theorem Rg.zP{n:Nat}{d:Dk.aq}(h:Wl.aY n d){p k:Nat}(hp:p<n)(a:d.off=true):Rg.bV d p (k+1)=(d,6):=by
 show(if(Dk.read d (p:Int)).2≠0 then _ else _)=_;rw[Rg.gF h hp,a];rfl
def xn(B b a:Nat)(r:Dk.aq×Nat)(w:World)(e:Ending)(w':World):Prop:=e=.returned (.int .i64 ((r.2:Nat):Int))/\bh w' B b a r.1/\Touch (DS B b a) w w'
set_option maxHeartbeats 3200000 in
set_option maxRecDepth 20000 in
theorem Ci{w:World}{B m1 m2 n S b N m:Nat}{d:Dk.aq}(hP:bh w B m1 m2 d)(hN:Wl.aY n d)(ay:b+4*N<=n)(hm:m<N)(hn:n<=65536):
 Calls Tryz.prog 108 #[sX B S b N,.int .i64 (m:Int)] w fun e w'=>xn B m1 m2 (Rg.bV d (b+4*m) 4) w e w':=by
 obtain⟨W,hW,I,hb,ae⟩:=oN w B S b N;obtain⟨Q,hQ⟩:∃Q,Q=w.heap.size:=⟨_,rfl⟩
 rw[<-hQ]at I;obtain⟨F,hF⟩:∃F,F=b+4*m:=⟨_,rfl⟩
 rw[<-hF];have aI:=IntWalk.i64_in (4*(m:Int)) (by omega);have aH:IntKind.i64.wrap ((b:Int)+4*(m:Int))=(F:Int):=by rw[IntWalk.i64_in _ (by omega),hF];omega
 have ah:(Instr.makeSlice 57 (.int .i64 128) (.int .i64 128)).run Tryz.prog W=.ok (.slice (some ⟨W.heap.size,0,none⟩) 128 128) (W.alloc (.cells ((Pg.bm 128).map bv).toArray 5)):=fk 128 (by decide) W;have O:=j4 128 (by decide) W;have aL:=I.c2;have C:Below w.heap.size w (W.alloc (.cells ((Pg.bm 128).map bv).toArray 5)):=hb.alloc (by omega) _;obtain⟨W1,R⟩:∃W1,W1=W.alloc (.cells ((Pg.bm 128).map bv).toArray 5):=⟨_,rfl⟩
 rw[<-R]at ah O C;have HR:=Lib.hid (I.below (R▸(Below.refl _ W).alloc (Nat.le_refl _) _:Below W.heap.size W W1));have HB:=Lib.hid C;have HP:=Lib.hid (hP.below C);have HN:=Lib.hid hN;have HS:Hid (F+4<=n/\n<=65536):=by show _/\_;omega
 have HO:=Lib.hid O;have ax:=Lib.hid hP.lt;have ao:Hid (W.heap.size=w.heap.size+1/\Q=w.heap.size):=⟨ae,hQ⟩
 obtain⟨G,hG⟩:∃G,G=W.heap.size:=⟨_,rfl⟩
 have HG:=Lib.hid hG;rw[<-hG]at ah;clear hP hb hN ay hm hn I ae hF O C;unfold sX;go_enter Tryz.func108,Tryz.ntmps108;go_upto_region 1 with(fail)
 rw[<-hW,<-hQ];clear hW hQ R hG;go_wp2_with fail
 go_loopw [7] (fun i wr=>∃(K:Nat)(dk:Dk.aq),K<=4/\i=.int .i64 ((F+K:Nat):Int)/\bh wr B m1 m2 dk/\Wl.aY n dk/\Touch (DS B m1 m2) W1 wr/\Rg.bV d F 4=Rg.bV dk (F+K) (4-K)) (fun i _=>F+4-(intOf i).toNat)
 case atStart=>exact⟨0,d,Nat.zero_le _,rfl,HP.out,HN.out,Touch.refl _ _,rfl⟩
 case round=>
  obtain⟨K,dk,hK,rfl,hp,ag,ht,ai⟩:=hrel;have Y:=Lib.hid hp;have q:=Lib.hid ag;have HT:=Lib.hid ht;have D:=Lib.hid ai;have T:¬DS B m1 m2 Q:=fun h=>by have:=ax.out Q h;have:=ao.out;omega
  have U:¬DS B m1 m2 G:=fun h=>by have:=ax.out G h;have:=ao.out;have:=HG.out;omega
  have J:=HR.out.al ht T;have az:=Lib.hid J;have A:=J.c0;have aj:aV wr (.slice (some ⟨G,0,none⟩) 128 128) (Pg.bm 128):=by
   rw[HG.out];exact ht.bz HO.out.bz fun _ g e=>by
    simp only[Value.ownBlock,Option.some.injEq]at e;rw[<-e,<-HG.out];exact U
  have aC:=Lib.hid aj;have aF:=Lib.hid U;have aM:=Lib.hid T;have aJ:=IntWalk.i64_in ((F:Int)+4) (by have:=HS.out;omega);clear hp ag ht ai J aj U T;by_cases P:K<4
  ·have HK:Hid (K<4):=P;obtain⟨p,hp⟩:∃p,p=F+K:=⟨_,rfl⟩
   rw[<-hp];have a:=Lib.hid hp;have hi:(p:Int)<(F:Int)+4:=by omega
   have aK:=IntWalk.i64_in ((p:Int)+1) (by have:=HS.out;omega);have M:p<n:=by have:=HS.out;omega
   have L:=jY Y.out (p:Int);rw[Rg.gF q.out M]at L;have ar:=Lib.hid L;have X:Hid (p<n):=M;clear L hK P hp M;go_wp2_with fail
   refine ar.out.mono ?_;rintro e w3⟨u,rfl,hM,t⟩;obtain⟨pu,cu,rfl,-,-,-⟩:=hM.bz.form;have HM:=Lib.hid hM;have Z:=Lib.hid (Y.out.below t);have V:=Lib.hid (HT.out.trans (Touch.aE t));have aA:=Lib.hid (az.out.below t);have aw:=Lib.hid (aC.out.below t);clear hM t ar A;have j:4-K=(4-(K+1))+1:=by have:=HK.out;omega
   rcases Bool.eq_false_or_eq_true dk.off with z|z
   ·have c:Rg.bV d F 4=(dk,6):=by rw[D.out,<-a.out,j,Rg.zP q.out X.out z]
    have f:=Lib.hid c;rw[z,if_pos rfl];dsimp only;clear z c j;go_wp2_with fail
    go_ret;refine⟨by rw[f.out];rfl,by rw[f.out];exact Z.out,(Touch.aE HB.out).trans V.out⟩
   ·have l:=Rg.wL q.out (k:=4-(K+1)) X.out z;have aD:Hid (aV w3 (.slice pu (Dk.sv dk p).length cu) (Dk.sv dk p)):=by
     have:=HM.out.bz;rw[z,if_neg (by decide)]at this;exact this
    have o:=aG _ _ _ _ w3 aD.out aw.out;rw[z,if_neg (by decide)];dsimp only;by_cases hz:Dk.sv dk p=Dk.blank
    ·have s:Dk.sv dk p=Pg.bm 128:=hz;rw[decide_eq_true s]at o;have x:=Lib.hid o;have ab:=gD Z.out (p:Int) (.slice (some ⟨G,0,none⟩) 128 128) (Pg.bm 128) aw.out (fun _ g e=>by
      simp only[Value.ownBlock,Option.some.injEq]at e;rw[<-e];exact aF.out)
     have ak:=Lib.hid ab;rw[if_pos hz]at l;have af:Rg.Op (fun _=>True) n dk (Dk.write dk (p:Int) Dk.blank):=Rg.iX q.out trivial X.out Dk.cR;have aB:=Lib.hid af;have HC:Hid (Rg.bV d F 4=Rg.ke (Dk.write dk (p:Int) Dk.blank) fun e=>Rg.bV e (p+1) (4-(K+1))):=by show _=_;rw[D.out,<-a.out,j,l]
     have A:=aA.out.c0;clear o ab hz s z l af j;go_wp2_with fail
     refine x.out.mono ?_;rintro e w4⟨rfl,rfl⟩;clear x;go_wp2_with fail
     refine ak.out.mono ?_;rintro e w5⟨rfl,y,ad⟩;rw[show Pg.bm 128=Dk.blank from rfl]at y⊢;obtain⟨r,I⟩:∃r,r=Dk.write dk (p:Int) Dk.blank:=⟨_,rfl⟩
     rw[<-I]at y⊢;have aa:=HC.out;have v:=aB.out;rw[<-I]at aa v;have H:=Lib.hid aa;have av:=Lib.hid v;have au:=Lib.hid y;have an:=Lib.hid (V.out.trans ad);obtain⟨dr,er⟩:=r;clear y ad ak aa v I A;dsimp only;by_cases he:er=0
     ·subst he;have E:Hid (Rg.bV d F 4=Rg.bV dr (p+1) (4-(K+1))):=by show _=_;rw[H.out,Rg.et _ rfl]
      clear H;go_wp2_with fail
      go_roundw
      case rel=>exact⟨K+1,dr,by have:=HK.out;omega,by rw[show F+(K+1)=p+1 by have:=a.out;omega];go_num,au.out,av.out.ro.bG q.out,an.out,by rw[show F+(K+1)=p+1 by have:=a.out;omega];exact E.out⟩
      case measure=>have:=a.out;have:=HK.out;simp[intOf];omega
     ·have E:Hid (Rg.bV d F 4=(dr,er)):=by show _=_;rw[H.out,Rg.cF _ he]
      have h1:¬(er:Int)=0:=by omega
      have h2:((er:Int)!=0)=true:=by simp;omega
      clear H he;go_wp2_with fail
      go_ret;refine⟨by rw[E.out];rfl,by rw[E.out];exact au.out,(Touch.aE HB.out).trans an.out⟩
    ·have s:¬Dk.sv dk p=Pg.bm 128:=hz;rw[decide_eq_false s]at o;have x:=Lib.hid o;rw[if_neg hz]at l;have HC:Hid (Rg.bV d F 4=Rg.bV dk (p+1) (4-(K+1))):=by show _=_;rw[D.out,<-a.out,j,l]
     clear o hz s z l j;go_wp2_with fail
     refine x.out.mono ?_;rintro e w4⟨rfl,rfl⟩;clear x;go_wp2_with fail
     go_roundw
     case rel=>exact⟨K+1,dk,by have:=HK.out;omega,by rw[show F+(K+1)=p+1 by have:=a.out;omega];go_num,Z.out,q.out,V.out,by rw[show F+(K+1)=p+1 by have:=a.out;omega];exact HC.out⟩
     case measure=>have:=a.out;have:=HK.out;simp[intOf];omega
  ·obtain rfl:K=4:=by omega
   have c:Rg.bV d F 4=(dk,0):=by rw[D.out];rfl
   have f:=Lib.hid c;clear c P hK A;go_wp2_with fail
   go_ret;refine⟨by rw[f.out];rfl,by rw[f.out];exact Y.out,(Touch.aE HB.out).trans HT.out⟩
theorem Fl.map{b a:World->Prop}{i:Nat}{D:Nat->Bool}{w w':World}(h:Fl b a i D w)(f0:b w->b w')(f1:a w->a w'):Fl b a i D w':=⟨fun e=>f0 (h.s0 e),fun e=>f1 (h.s1 e)⟩
def DU(B b a Q S e:Nat)(i:Nat)(u:Value)(w:World):Prop:=
 match i with
 |0=>u=.pointer (some ⟨Q,0,none⟩)
 |1=>u=.pointer (some ⟨B,0,none⟩)
 |2=>u=.pointer (some ⟨Q,1,none⟩)
 |3=>u=.pointer (some ⟨Q,1,none⟩)
 |4=>u=.int .i64 (S:Int)
 |5=>∃G,u=.slice (some ⟨G,0,none⟩) 128 128/\¬DS B b a G/\aV w u (Pg.bm 128)
 |6=>u=.int .i64 (e:Int)
 |7=>u=.int .i64 (e:Int)
 |_=>True
theorem oM(w:World)(B S b N k:Nat)(u:Value):∃W,W=(w.alloc (.cells #[.pointer (some ⟨B,0,none⟩),.int .i64 (S:Int),.int .i64 (b:Int),.int .i64 (N:Int)] 95)).alloc (.cells #[.int .u64 (k:Int),u] 59)/\fU W w.heap.size B S b N/\W.heap[w.heap.size+1]?=some (.cells #[.int .u64 (k:Int),u] 59 (0,0))/\Below w.heap.size w W/\W.heap.size=w.heap.size+2:=by
 obtain⟨d,a,g,f,e⟩:=oN w B S b N;have c:=heap_alloc_last d (.cells #[.int .u64 (k:Int),u] 59);rw[e]at c;refine⟨_,rfl,?_,?_,?_,?_⟩
 ·rw[<-a];exact g.below ((Below.refl _ d).alloc (Nat.le_refl _) _)
 ·rw[<-a];exact c
 ·rw[<-a];exact f.alloc (by omega) _
 ·rw[<-a];simp;omega
theorem xG{n b N m:Nat}(a:b+4*N<=n)(hm:m<N):Pg.dW n (b:Int) (m:Int)=true/\Pg.place (b:Int) (m:Int)=b+4*m:=by
 refine⟨decide_eq_true ⟨by omega,by omega,by omega,?_⟩,by unfold Pg.place;omega⟩;rw[Int.tdiv_eq_ediv_of_nonneg (by omega)];omega
theorem Bb{n b N m:Nat}{d:Dk.aq}(e:Wl.aY n d)(c:b+4*N<=n)(hm:m<N){x:Po.Pg}(a:Po.cK x):Pg.write d (b:Int) (m:Int) x.1 x.2=Dk.jk d (b+4*m) (Dk.gh (Pg.form x.1 x.2)):=by
 obtain⟨g,f⟩:=xG c hm;unfold Pg.write;rw[if_neg (by rw[a.2.1];decide),e.sz,if_neg (by rw[g];decide),f]
set_option maxHeartbeats 3200000 in
set_option maxRecDepth 20000 in
theorem qN {w : World} {B C z n S b N m : Nat} {d : Dk.aq} (hP : bh w B C z d) (hN : Wl.aY n d) (ho : d.off = false) (hL : Rg.gC n S b N) (hm : m < N) (hn : n ≤ 65536) (x : Po.Pg) (u : Value) (hx : Po.cK x) (hB : aV w u x.2) (aU : ∀ g, u.ownBlock = some g → ¬ DS B C z g) :
    Calls Tryz.prog 72 #[sX B S b N, .int .i64 (m : Int), fZ x.1 u] w fun e w' => xn B C z (Rg.dx d S (b + 4 * m) (Pg.form x.1 x.2)) w e w' := by
  have aD := hL.base
  have hS := hL.spare
  have U := Rg.mN (A := fun _ => True) (Dk.gh (Pg.form x.1 x.2)) (p := b + 4 * m) hN ho (Dk.oI (by rw [Pg.bq, hx.2.1]) (Pg.gA hx.2.2)) (by rw [Dk.ir]; omega) (fun _ _ => trivial)
  obtain ⟨p, cap, hu, -, -, -⟩ := hB.form
  obtain ⟨W, hW, hr, P, hb, a8⟩ := oM w B S b N x.1 u
  obtain ⟨Q, hQ⟩ : ∃ Q, Q = w.heap.size := ⟨_, rfl⟩
  rw [← hQ] at hr P
  have F := hr.c0
  have aT := hr.c2
  have p0 := ah P 0 (v := .int .u64 (x.1 : Int)) rfl
  have p1 := ah P 1 (v := u) rfl
  have aF : ¬ DS B C z Q := fun h => by have := hP.lt Q h; omega
  have ak := tX (hP.below hb) (b : Int) (m : Int) x.1 u x.2 (by omega) hx.1 (hB.below hb)
  rw [Bb hN aD hm hx] at ak
  have aK := Lib.hid ak
  have HR := Lib.hid hr
  have HB := Lib.hid hb
  have av := Lib.hid aF
  have aP := Lib.hid U
  have HN := Lib.hid hN
  have HS : Hid (S < n) := by show _ < _; omega
  have X : Hid (Rg.dx d S (b + 4 * m) (Pg.form x.1 x.2) = Rg.ke (Dk.jk d (b + 4 * m) (Dk.gh (Pg.form x.1 x.2))) fun d => Rg.ke (Dk.sync d) fun d => Rg.ke (Dk.write d (S : Int) Dk.blank) Dk.sync) := rfl
  obtain ⟨V, an⟩ : ∃ V, V = Rg.dx d S (b + 4 * m) (Pg.form x.1 x.2) := ⟨_, rfl⟩
  rw [← an]
  have c := X.out
  rw [← an] at c
  obtain ⟨r1, T⟩ : ∃ r1, r1 = Dk.jk d (b + 4 * m) (Dk.gh (Pg.form x.1 x.2)) := ⟨_, rfl⟩
  rw [← T] at c
  have L := aK.out
  rw [← T] at L
  have O := aP.out
  rw [← T] at O
  have s := Lib.hid c
  have Y := Lib.hid L
  have aO := Lib.hid O
  clear aK X c L O aP an T ak U hb hr P hN aD hS hL hm hn hx hB aU hP aF
  subst hu
  unfold sX fZ
  go_enter Tryz.func72, Tryz.ntmps72
  go_upto_region 1 with (fail)
  rw [← hW, ← hQ]
  clear hW hQ
  obtain ⟨d1, e1⟩ := r1
  go_wp2_with fail
  refine Y.out.mono ?_
  rintro e w1 ⟨rfl, aB, ae⟩
  have aw := Lib.hid aB
  have ar := Lib.hid ae
  have au := Lib.hid (HR.out.al ae av.out)
  clear aB ae Y F aT p0 p1
  dsimp only
  by_cases he : e1 = 0
  case neg =>
    have a : Hid (V = (d1, e1)) := by show _ = _; rw [s.out, Rg.cF _ he]
    have h1 : ¬ (e1 : Int) = 0 := by omega
    have h2 : ((e1 : Int) != 0) = true := by simp; omega
    clear he
    go_wp2_with fail
    go_ret
    exact ⟨by rw [a.out]; rfl, by rw [a.out]; exact aw.out, (Touch.aE HB.out).trans ar.out⟩
  subst he
  have K : Hid (V = Rg.ke (Dk.sync d1) fun d => Rg.ke (Dk.write d (S : Int) Dk.blank) Dk.sync) := by show _ = _; rw [s.out, Rg.et _ rfl]
  have ao := aO.out.ro.bG HN.out
  have a6 := Lib.hid ao
  have E := Rg.jy (A := fun _ => True) ao
  have t := iR aw.out
  obtain ⟨r2, aj⟩ : ∃ r2, r2 = Dk.sync d1 := ⟨_, rfl⟩
  rw [← aj] at t E
  have r := K.out
  rw [← aj] at r
  have q := Lib.hid r
  have H := Lib.hid t
  have aN := Lib.hid E
  have F := au.out.c0
  clear s K r t E aj ao
  obtain ⟨d2, e2⟩ := r2
  go_wp2_with fail
  refine H.out.mono ?_
  rintro e w2 ⟨rfl, aA, ad⟩
  have aM := Lib.hid aA
  have aI := Lib.hid (ar.out.trans ad)
  have aZ := Lib.hid (au.out.al ad av.out)
  clear aA ad H F aw ar au
  dsimp only
  by_cases he : e2 = 0
  case neg =>
    have a : Hid (V = (d2, e2)) := by show _ = _; rw [q.out, Rg.cF _ he]
    have h1 : ¬ (e2 : Int) = 0 := by omega
    have h2 : ((e2 : Int) != 0) = true := by simp; omega
    clear he
    go_wp2_with fail
    go_ret
    exact ⟨by rw [a.out]; rfl, by rw [a.out]; exact aM.out, (Touch.aE HB.out).trans aI.out⟩
  subst he
  have J : Hid (V = Rg.ke (Dk.write d2 (S : Int) Dk.blank) Dk.sync) := by show _ = _; rw [q.out, Rg.et _ rfl]
  have a2 := Lib.hid (aN.out.ro.bG a6.out)
  have Z := Lib.hid (Rg.iX (A := fun _ => True) a2.out (i := S) trivial HS.out Dk.cR)
  obtain ⟨r3, ai⟩ : ∃ r3, r3 = Dk.write d2 (S : Int) Dk.blank := ⟨_, rfl⟩
  have o := J.out
  have M := Z.out
  rw [← ai] at o M
  have I := Lib.hid o
  have a7 := Lib.hid M
  have aJ := Lib.hid ai
  clear q J o Z M ai
  go_upto_region 7 with (fail)
  refine Ord.walk (DU B C z Q S r3.2) (fun D _ w' => Fl (fun w => bh w B C z d2 ∧ fU w Q B S b N ∧ Touch (DS B C z) W w) (fun w => bh w B C z r3.1 ∧ fU w Q B S b N ∧ Touch (DS B C z) W w) 6 D w') (Touch (DS B C z)) (by kernel_rfl) (by kernel_rfl) ?fr ?hfr ?hT (fun xs => Fl.first ⟨aM.out.below (Below.refl _ _).kH, aZ.out.below (Below.refl _ _).kH, aI.out.drew⟩) ?he ?hend
  case hfr =>
    intro xs
    simp only [Ord.fill, Act.put, List.setIfInBounds_toArray, List.set_cons_zero, List.set_cons_succ]
    rfl
  case hT =>
    intro k v wa wb ht y
    rcases k with _ | _ | _ | _ | _ | _ | _ | _ | k
    · exact y
    · exact y
    · exact y
    · exact y
    · exact y
    · obtain ⟨G, h1, h2, h3⟩ := y
      exact ⟨G, h1, h2, ht.bz h3 fun _ g e => by
        rw [h1] at e
        simp only [Value.ownBlock, Option.some.injEq] at e
        rw [← e]; exact h2⟩
    · exact y
    · exact y
    · trivial
  case he =>
        iterate 7 (refine Ord.aa (fun D xs w2 hD hC hP hR f K' l => ?_) ?_; rotate_left)
        rotate_left
        ·
          clear f
          go_simp
          exact l _ _ ⟨_, rfl, Touch.refl _ _, hR.skip 0 (by decide), rfl⟩
        ·
          have q0 := Ord.ab _ f 0 (by decide)
          simp only [DU] at q0
          simp only [q0] at l ⊢
          clear f
          have ag := hR.any (R := fun w => fU w Q B S b N) (fun _ h => h.2.1) (fun _ h => h.2.1)
          have hc := ag.c0
          go_simp
          exact l _ _ ⟨_, rfl, Touch.refl _ _, hR.skip 1 (by decide), rfl⟩
        ·
          clear f
          go_simp
          exact l _ _ ⟨_, rfl, Touch.refl _ _, hR.skip 2 (by decide), rfl⟩
        ·
          have q2 := Ord.ab _ f 2 (by decide)
          simp only [DU] at q2
          simp only [q2] at l ⊢
          clear f
          go_simp
          exact l _ _ ⟨_, rfl, Touch.refl _ _, hR.skip 3 (by decide), rfl⟩
        ·
          have q3 := Ord.ab _ f 3 (by decide)
          simp only [DU] at q3
          simp only [q3] at l ⊢
          clear f
          have ag := hR.any (R := fun w => fU w Q B S b N) (fun _ h => h.2.1) (fun _ h => h.2.1)
          have hc := ag.c1
          go_simp
          exact l _ _ ⟨_, rfl, Touch.refl _ _, hR.skip 4 (by decide), rfl⟩
        ·
          clear f
          have aS := hR.any (R := fun w => ∀ i, DS B C z i → i < w.heap.size) (fun _ h => h.1.lt) (fun _ h => h.1.lt)
          have ba : (Instr.makeSlice 57 (.int .i64 128) (.int .i64 128)).run Tryz.prog w2 = .ok (.slice (some ⟨w2.heap.size, 0, none⟩) 128 128) (w2.alloc (.cells ((Pg.bm 128).map bv).toArray 5)) := fk 128 (by decide) w2
          have aR := j4 128 (by decide) w2
          have j : Below w2.heap.size w2 (w2.alloc (.cells ((Pg.bm 128).map bv).toArray 5)) := (Below.refl _ w2).alloc (Nat.le_refl _) _
          go_simp
          exact l _ _ ⟨_, rfl, Touch.aE j, (hR.map (w' := w2.alloc (.cells ((Pg.bm 128).map bv).toArray 5)) (fun h => ⟨h.1.below j, h.2.1.below j, h.2.2.trans (Touch.aE j)⟩) (fun h => ⟨h.1.below j, h.2.1.below j, h.2.2.trans (Touch.aE j)⟩)).skip 5 (by decide), w2.heap.size, rfl, fun h => Nat.lt_irrefl _ (aS _ h), aR.bz⟩
        ·
          have q1 := Ord.ab _ f 1 (by decide)
          simp only [DU] at q1
          have q4 := Ord.ab _ f 4 (by decide)
          simp only [DU] at q4
          simp only [q1, q4] at l ⊢
          have q5 := Ord.ab _ f 5 (by decide)
          simp only [DU] at q5
          obtain ⟨G, q5, hG, aG⟩ := q5
          simp only [q5] at l ⊢
          rw [q5] at aG
          clear f
          have h0 := hR.s0 hD
          have aQ := gD h0.1 (S : Int) _ (Pg.bm 128) aG (fun _ g e => by
  simp only [Value.ownBlock, Option.some.injEq] at e
  subst e
  exact hG)
          go_simp
          refine aQ.mono ?_
          rintro e w3 ⟨rfl, aC, af⟩
          have e0 : Dk.write d2 (S : Int) (Pg.bm 128) = r3 := aJ.out.symm
          rw [e0] at aC ⊢
          exact l _ _ ⟨_, rfl, af, hR.flip ⟨aC, h0.2.1.al af av.out, h0.2.2.trans af⟩, rfl⟩
        refine Ord.aa (fun D xs w2 hD hC hP hR f K' l => ?_) ?_
        ·
          have q6 := Ord.ab _ f 6 (by decide)
          simp only [DU] at q6
          simp only [q6] at l ⊢
          clear f
          go_simp
          exact l _ _ ⟨_, rfl, Touch.refl _ _, hR.skip 7 (by decide), rfl⟩
        exact Ord.az
  case hend =>
    intro D xs w9 hR y
    have h9 := hR.s1 (y 6 (by decide)).1
    have e7 := (y 7 (by decide)).2
    simp only [DU] at e7
    rw [e7]
    generalize xs 0 = y0
    generalize xs 1 = y1
    generalize xs 2 = y2
    generalize xs 3 = y3
    generalize xs 4 = y4
    generalize xs 5 = y5
    generalize xs 6 = y6
    have aL := Lib.hid h9.1
    have aX := Lib.hid h9.2.1
    have aH := Lib.hid h9.2.2
    clear y hR h9 e7 aJ
    obtain ⟨d3, e3⟩ := r3
    dsimp only
    by_cases he : e3 = 0
    case neg =>
      have a : Hid (V = (d3, e3)) := by show _ = _; rw [I.out, Rg.cF _ he]
      have h1 : ¬ (e3 : Int) = 0 := by omega
      have h2 : ((e3 : Int) != 0) = true := by simp; omega
      clear he
      go_wp2_with fail
      go_ret
      exact ⟨by rw [a.out]; rfl, by rw [a.out]; exact aL.out, (Touch.aE HB.out).trans aH.out⟩
    subst he
    have a : Hid (V = Dk.sync d3) := by show _ = _; rw [I.out, Rg.et _ rfl]
    have t := iR aL.out
    have H := Lib.hid t
    have F := aX.out.c0
    clear t
    go_wp2_with fail
    refine H.out.mono ?_
    rintro e w8 ⟨rfl, ay, ax⟩
    have a1 := Lib.hid ay
    have aW := Lib.hid (aH.out.trans ax)
    clear ay ax H F
    go_wp2_with fail
    go_ret
    exact ⟨by rw [a.out]; rfl, by rw [a.out]; exact a1.out, (Touch.aE HB.out).trans aW.out⟩
theorem aV.G1{w:World}{g cap:Nat}{l:List Nat}(h:aV w (.slice (some ⟨g,0,none⟩) 640 cap) l)(hl:l.length=640)(i:Nat)(c:i<5):aV w (.slice (some ⟨g,i*128,none⟩) 128 (cap-i*128)) (Rg.part 128 l i):=by
 have a:=h.ic (i*128) hl (by omega);rw[Nat.zero_add]at a;have hd:(l.drop (i*128)).length=640-i*128:=by simp;omega
 rw[<-hd]at a;have b:=a.take 128 (by rw[hd];omega);rw[Nat.mul_comm i 128]at b⊢;exact b
theorem Rg.vI(b:List Nat){i:Nat}(a:i<5):(Rg.gR b).drop i=Rg.part 128 b i::(Rg.gR b).drop (i+1):=by
 rcases i with _|_|_|_|_|i
 ·rfl
 ·rfl
 ·rfl
 ·rfl
 ·rfl
 ·omega
theorem Dk.CP{d:Dk.aq}{a:Nat}{x:List Nat}{r:List (List Nat)}(h:(Dk.write d (a:Int) x).2=0):Dk.jk d a (x::r)=Dk.jk (Dk.write d (a:Int) x).1 (a+1) r:=by
 show(if(Dk.write d (a:Int) x).2≠0 then _ else _)=_;rw[if_neg (by omega)]
theorem Dk.yc{d:Dk.aq}{a:Nat}{x:List Nat}{r:List (List Nat)}(h:(Dk.write d (a:Int) x).2≠0):Dk.jk d a (x::r)=Dk.write d (a:Int) x:=by
 show(if(Dk.write d (a:Int) x).2≠0 then _ else _)=_;rw[if_pos h]
def Gz(B b a:Nat)(d:Dk.aq)(S m:Nat)(fm:List Nat)(w:World)(e:Ending)(w':World):Prop:=∃t:Nat,t<256/\t∉Rg.sI (Rg.gm d S) 10/\xn B b a (Rg.sD d S (Rg.laid fm (Rg.tag m t))) w e w'
def uW(B Q S g c K e:Nat)(i:Nat)(u:Value)(_:World):Prop:=
 match i with
 |0=>u=.pointer (some ⟨Q,0,none⟩)
 |1=>u=.pointer (some ⟨B,0,none⟩)
 |2=>u=.pointer (some ⟨Q,1,none⟩)
 |3=>u=.pointer (some ⟨Q,1,none⟩)
 |4=>u=.int .i64 (S:Int)
 |5=>u=.int .i64 (K:Int)
 |6=>u=.int .i64 ((S+K:Nat):Int)
 |7=>u=.slice (some ⟨g,0,none⟩) 640 c
 |8=>u=.int .i64 (K:Int)
 |9=>u=.int .i64 ((K*128:Nat):Int)
 |10=>u=.int .i64 (K:Int)
 |11=>u=.int .i64 ((K+1:Nat):Int)
 |12=>u=.int .i64 (((K+1)*128:Nat):Int)
 |13=>u=.slice (some ⟨g,K*128,none⟩) 128 (c-K*128)
 |14=>u=.int .i64 (e:Int)
 |15=>u=.int .i64 (e:Int)
 |_=>True
set_option maxHeartbeats 3200000 in
set_option maxRecDepth 20000 in
theorem E0 {w : World} {B A z n S b N m : Nat} {d : Dk.aq} (M : bh w B A z d) (hN : Wl.aY n d) (ho : d.off = false) (hL : Rg.gC n S b N) (hm : m < N) (hn : n ≤ 65536) (x : Po.Pg) (u : Value) (hx : Po.cK x) (hB : aV w u x.2) :
    Calls Tryz.prog 109 #[sX B S b N, .int .i64 (m : Int), fZ x.1 u] w fun e w' => Gz B A z d S m (Pg.form x.1 x.2) w e w' := by
  have H := hL.base
  have hS := hL.spare
  have bn : m < 65536 := by omega
  obtain ⟨p, cap, hu, -, -, -⟩ := hB.form
  obtain ⟨W, hW, hr, ag, hb, bk⟩ := oM w B S b N x.1 u
  obtain ⟨Q, hQ⟩ : ∃ Q, Q = w.heap.size := ⟨_, rfl⟩
  rw [← hQ] at hr ag
  have aN : ¬ DS B A z Q := fun h => by have := M.lt Q h; omega
  have aT := Lib.hid (tx (M.below hb) hN hS hn (b := b) (N := N))
  have bj := Lib.hid (hB.below hb)
  have HX := Lib.hid hx
  have X := Lib.hid hr
  have aW := Lib.hid ag
  have HB := Lib.hid hb
  have aX := Lib.hid aN
  have HP := Lib.hid (M.below hb)
  have HN := Lib.hid hN
  have HO := Lib.hid ho
  have HS : Hid (S + 5 ≤ n ∧ n ≤ 65536 ∧ m < 65536) := by show _ ∧ _ ∧ _; omega
  have bd := Lib.hid (M.below hb).lt
  have V : Hid ((Rg.gm d S).length = 640) := by show _ = _; rw [← oC, nV hN 5 hS]
  have L : Hid ((Pg.form x.1 x.2).length = 512) := by show _ = _; rw [Pg.bq, hx.2.1]
  have aj := hr.c0
  clear M hN ho hL H hS bn hm hn hx hB hb hr ag aN bk
  subst hu
  unfold sX fZ
  go_enter Tryz.func109, Tryz.ntmps109
  go_upto_region 1 with (fail)
  rw [← hW, ← hQ]
  clear hW hQ aj
  have bs : W.cell? ⟨Q, 0, none⟩ = some (.pointer (some ⟨B, 0, none⟩)) := X.out.c0
  have bw := X.out.c1
  have bu := X.out.c2
  have bt := X.out.c3
  go_wp2_with fail
  refine aT.out.mono ?_
  rintro e w1 ⟨us, rfl, T, hO⟩
  have hO := hO HO.out
  obtain ⟨g, c, aD, F, I, o, G, -⟩ := gT hO (by rw [V.out]; decide)
  rw [V.out] at aD o
  subst aD
  rw [HO.out, if_neg (by decide)]
  have a7 := Lib.hid hO
  have q := Lib.hid T
  have l := aW.out
  have l : w1.heap[Q + 1]? = some (.cells #[.int .u64 (x.1 : Int), .slice p x.2.length cap] 59 (0, 0)) := (T.block (Q + 1) (lt_of_block l)).trans l
  have p0 := ah l 0 (v := .int .u64 (x.1 : Int)) rfl
  have p1 := ah l 1 (v := .slice p x.2.length cap) rfl
  have ak := Bc.bytes x.1 (.slice p x.2.length cap) x.2 w1 HX.out.1 (bj.out.below T)
  rw [if_pos HX.out.2.1, if_pos HX.out.2.1] at ak
  have bf := Lib.hid ak
  clear ak hO T l aT F I o G bs bw bu bt
  go_wp2_with fail
  refine bf.out.mono ?_
  rintro e w2 ⟨ub, rfl, ar, an⟩
  obtain ⟨g2, c2, aG, F, I, o, G, -⟩ := gT ar (by rw [L.out]; decide)
  rw [L.out] at aG o
  subst aG
  have a6 := Lib.hid ar
  have E := Lib.hid an
  have hfr := zu g 0 c (Rg.gm d S) w2 (a7.out.bz.below an) V.out
  have bb := Lib.hid hfr
  clear hfr ar an bf p0 p1 F I o G
  go_wp2_with fail
  refine bb.out.mono ?_
  rintro e w3 ⟨t, ht, aH, rfl, aM⟩
  have HT := Lib.hid ht
  have aO := Lib.hid aH
  have C := Lib.hid aM
  have aP := Lib.hid (xt m t HS.out.2.2 ht w3)
  clear ht aH aM bb
  go_wp2_with fail
  refine aP.out.mono ?_
  rintro e w4 ⟨ut, rfl, ao, H⟩
  obtain ⟨pt, ct, aC, -, -, -⟩ := ao.bz.form
  rw [Rg.cp] at aC
  subst aC
  have a8 := Lib.hid (um g2 0 c2 pt ct (Pg.form x.1 x.2) (Rg.tag m t) w4 ((a6.out.bz.below C.out).below H) L.out ao.bz (Rg.cp m t))
  have ad := Lib.hid H
  clear ao H aP
  go_wp2_with fail
  refine a8.out.mono ?_
  rintro e w5 ⟨ul, rfl, U, aL⟩
  have Y : Hid ((Rg.laid (Pg.form x.1 x.2) (Rg.tag m t)).length = 640) := Rg.eJ (Rg.cp m t) L.out
  have bE : Hid (∀ y ∈ Rg.laid (Pg.form x.1 x.2) (Rg.tag m t), y < 256) := Rg.oc (Rg.rZ HT.out) (Pg.gA HX.out.2.2)
  obtain ⟨s, hs⟩ : ∃ s, s = Rg.laid (Pg.form x.1 x.2) (Rg.tag m t) := ⟨_, rfl⟩
  rw [← hs] at U Y bE
  obtain ⟨g5, c5, aF, F, I, o, G, -⟩ := gT U (by rw [Y.out]; decide)
  rw [Y.out] at aF o
  subst aF
  have Z : Hid (Below W.heap.size W w5) := (((q.out.trans (E.out.mono q.out.size)).trans (C.out.mono (Nat.le_trans q.out.size E.out.size))).trans (ad.out.mono (Nat.le_trans (Nat.le_trans q.out.size E.out.size) C.out.size))).trans (aL.mono (Nat.le_trans (Nat.le_trans (Nat.le_trans q.out.size E.out.size) C.out.size) ad.out.size))
  have bG : Hid (640 ≤ c5) := o
  have ba : Hid (¬ DS B A z g5) := fun h => by
    have h1 := bd.out g5 h
    have h2 := q.out.size
    have h3 := E.out.size
    have h4 := C.out.size
    have h5 := ad.out.size
    omega
  have bD := Lib.hid U.bz
  have bC := Lib.hid (HP.out.below Z.out)
  have bA := Lib.hid (X.out.below Z.out)
  have aS := Lib.hid hs
  have bg : Hid (Touch (DS B A z) w w5) := (Touch.aE HB.out).trans (Touch.aE Z.out)
  clear U aL hs F I o G q E C ad a8 a7 a6 bj aW X HP Z HB bd V L
  have ae : Hid (∀ e' w', xn B A z (Rg.sD d S s) w e' w' → Gz B A z d S m (Pg.form x.1 x.2) w e' w') := fun e' w' h => ⟨t, HT.out, aO.out, by rw [← aS.out]; exact h⟩
  clear HT aO aS
  go_wp2_with fail
  go_loopw [35] (fun i wr => ∃ (K : Nat) (dk : Dk.aq), K ≤ 5 ∧ i = .int .i64 K ∧ bh wr B A z dk ∧ Touch (DS B A z) w5 wr ∧ Dk.jk d S (Rg.gR s) = Dk.jk dk (S + K) ((Rg.gR s).drop K)) (fun i _ => 5 - (intOf i).toNat)
  case atStart => exact ⟨0, d, Nat.zero_le _, rfl, bC.out, .refl _ _, rfl⟩
  case round =>
    obtain ⟨K, dk, j, rfl, M, hT, he⟩ := hrel
    have HP := Lib.hid M
    have au := Lib.hid hT
    have HE := Lib.hid he
    have X := Lib.hid (bA.out.al hT aX.out)
    clear M hT he
    by_cases P : K < 5
    · have HK := Lib.hid P
      have hi : (K : Int) < 5 := by omega
      have br := IntWalk.i64_in ((K : Int) * 128) (by omega)
      have bI := IntWalk.i64_in ((K : Int) + 1) (by omega)
      have bp := IntWalk.i64_in (((K : Int) + 1) * 128) (by omega)
      have bo := IntWalk.i64_in ((S : Int) + (K : Int)) (by have := HS.out; omega)
      have bl : 0 ≤ (K : Int) * 128 ∧ (K : Int) * 128 ≤ ((K : Int) + 1) * 128 := by omega
      have bH := Lib.hid ((au.out.bz bD.out (fun _ g' e hd => by
        simp only [Value.ownBlock, Option.some.injEq] at e
        subst e
        exact ba.out hd)).G1 Y.out K P)
      have aJ := Rg.vI s HK.out
      have O := Dk.CP (d := dk) (a := S + K) (x := Rg.part 128 s K) (r := (Rg.gR s).drop (K + 1))
      have hend := Dk.yc (d := dk) (a := S + K) (x := Rg.part 128 s K) (r := (Rg.gR s).drop (K + 1))
      rw [← aJ, ← HE.out] at O hend
      obtain ⟨r, hr⟩ : ∃ r, r = Dk.write dk ((S + K : Nat) : Int) (Rg.part 128 s K) := ⟨_, rfl⟩
      rw [← hr] at O hend
      have aU := Lib.hid hr
      have a2 := Lib.hid O
      have bc := Lib.hid hend
      have bF := Lib.hid (show (K + 1) * 128 ≤ c5 by have := bG.out; omega)
      clear O hend hr aJ j P HE
      go_upto_region 11 with (fail)
      refine Ord.walk (uW B Q S g5 c5 K r.2) (fun D _ w' => Fl (fun w => bh w B A z dk ∧ fU w Q B S b N ∧ Touch (DS B A z) w5 w ∧ aV w (.slice (some ⟨g5, K * 128, none⟩) 128 (c5 - K * 128)) (Rg.part 128 s K)) (fun w => bh w B A z r.1 ∧ fU w Q B S b N ∧ Touch (DS B A z) w5 w) 14 D w') (Touch (DS B A z)) (by kernel_rfl) (by kernel_rfl) ?fr ?hfr ?hT (fun xs => Fl.first ⟨HP.out.below (Below.refl _ _).kH, X.out.below (Below.refl _ _).kH, au.out.drew, bH.out.below (Below.refl _ _).kH⟩) ?he ?hend
      case hfr =>
        intro xs
        simp only [Ord.fill, Act.put, List.setIfInBounds_toArray, List.set_cons_zero, List.set_cons_succ]
        rfl
      case hT =>
        intro k v wa wb ht hF
        exact hF
      case he =>
        iterate 15 (refine Ord.aa (fun D xs w2 hD hC M hR f K' j => ?_) ?_; rotate_left)
        rotate_left
        ·
          clear f
          go_simp
          exact j _ _ ⟨_, rfl, Touch.refl _ _, hR.skip 0 (by decide), rfl⟩
        ·
          have q0 := Ord.ab _ f 0 (by decide)
          simp only [uW] at q0
          simp only [q0] at j ⊢
          clear f
          have ai := hR.any (R := fun w => fU w Q B S b N) (fun _ h => h.2.1) (fun _ h => h.2.1)
          have hc := ai.c0
          go_simp
          exact j _ _ ⟨_, rfl, Touch.refl _ _, hR.skip 1 (by decide), rfl⟩
        ·
          clear f
          go_simp
          exact j _ _ ⟨_, rfl, Touch.refl _ _, hR.skip 2 (by decide), rfl⟩
        ·
          have q2 := Ord.ab _ f 2 (by decide)
          simp only [uW] at q2
          simp only [q2] at j ⊢
          clear f
          go_simp
          exact j _ _ ⟨_, rfl, Touch.refl _ _, hR.skip 3 (by decide), rfl⟩
        ·
          have q3 := Ord.ab _ f 3 (by decide)
          simp only [uW] at q3
          simp only [q3] at j ⊢
          clear f
          have ai := hR.any (R := fun w => fU w Q B S b N) (fun _ h => h.2.1) (fun _ h => h.2.1)
          have hc := ai.c1
          go_simp
          exact j _ _ ⟨_, rfl, Touch.refl _ _, hR.skip 4 (by decide), rfl⟩
        ·
          clear f
          go_simp
          exact j _ _ ⟨_, rfl, Touch.refl _ _, hR.skip 5 (by decide), rfl⟩
        ·
          have q4 := Ord.ab _ f 4 (by decide)
          simp only [uW] at q4
          have q5 := Ord.ab _ f 5 (by decide)
          simp only [uW] at q5
          simp only [q4, q5] at j ⊢
          clear f
          go_simp
          exact j _ _ ⟨_, rfl, Touch.refl _ _, hR.skip 6 (by decide), rfl⟩
        ·
          clear f
          go_simp
          exact j _ _ ⟨_, rfl, Touch.refl _ _, hR.skip 7 (by decide), rfl⟩
        ·
          clear f
          go_simp
          exact j _ _ ⟨_, rfl, Touch.refl _ _, hR.skip 8 (by decide), rfl⟩
        ·
          have q8 := Ord.ab _ f 8 (by decide)
          simp only [uW] at q8
          simp only [q8] at j ⊢
          clear f
          go_simp
          exact j _ _ ⟨_, rfl, Touch.refl _ _, hR.skip 9 (by decide), rfl⟩
        ·
          clear f
          go_simp
          exact j _ _ ⟨_, rfl, Touch.refl _ _, hR.skip 10 (by decide), rfl⟩
        ·
          have aA := Ord.ab _ f 10 (by decide)
          simp only [uW] at aA
          simp only [aA] at j ⊢
          clear f
          go_simp
          exact j _ _ ⟨_, rfl, Touch.refl _ _, hR.skip 11 (by decide), rfl⟩
        ·
          have ay := Ord.ab _ f 11 (by decide)
          simp only [uW] at ay
          simp only [ay] at j ⊢
          clear f
          go_simp
          exact j _ _ ⟨_, rfl, Touch.refl _ _, hR.skip 12 (by decide), rfl⟩
        ·
          have q7 := Ord.ab _ f 7 (by decide)
          simp only [uW] at q7
          have q9 := Ord.ab _ f 9 (by decide)
          simp only [uW] at q9
          have ax := Ord.ab _ f 12 (by decide)
          simp only [uW] at ax
          simp only [q7, q9, ax] at j ⊢
          clear f
          have bJ := bF.out
          go_simp
          rw [if_pos (by omega), if_pos (by omega), if_neg (by omega), show (((K : Int) + 1) * 128).toNat - ((K : Int) * 128).toNat = 128 by omega, show ((K : Int) * 128).toNat = K * 128 by omega]
          exact j _ _ ⟨_, rfl, Touch.refl _ _, hR.skip 13 (by decide), rfl⟩
        ·
          have q1 := Ord.ab _ f 1 (by decide)
          simp only [uW] at q1
          have q6 := Ord.ab _ f 6 (by decide)
          simp only [uW] at q6
          have aw := Ord.ab _ f 13 (by decide)
          simp only [uW] at aw
          simp only [q1, q6, aw] at j ⊢
          clear f
          have h0 := hR.s0 hD
          have aB := gD h0.1 ((S + K : Nat) : Int) _ (Rg.part 128 s K) h0.2.2.2 (fun _ g e => by
  simp only [Value.ownBlock, Option.some.injEq] at e
  subst e
  exact ba.out)
          rw [← aU.out] at aB
          go_simp
          refine aB.mono ?_
          rintro e w3 ⟨rfl, bm, af⟩
          exact j _ _ ⟨_, rfl, af, hR.flip ⟨bm, h0.2.1.al af aX.out, h0.2.2.1.trans af⟩, rfl⟩
        refine Ord.aa (fun D xs w2 hD hC M hR f K' j => ?_) ?_
        ·
          have av := Ord.ab _ f 14 (by decide)
          simp only [uW] at av
          simp only [av] at j ⊢
          clear f
          go_simp
          exact j _ _ ⟨_, rfl, Touch.refl _ _, hR.skip 15 (by decide), rfl⟩
        exact Ord.az
      case hend =>
        intro D xs w9 hR hF
        have h9 := hR.s1 (hF 14 (by decide)).1
        have e7 := (hF 15 (by decide)).2
        simp only [uW] at e7
        rw [e7]
        generalize xs 0 = y0
        generalize xs 1 = y1
        generalize xs 2 = y2
        generalize xs 3 = y3
        generalize xs 4 = y4
        generalize xs 5 = y5
        generalize xs 6 = y6
        generalize xs 7 = y7
        generalize xs 8 = y8
        generalize xs 9 = y9
        generalize xs 10 = y10
        generalize xs 11 = y11
        generalize xs 12 = y12
        generalize xs 13 = y13
        generalize xs 14 = y14
        have aZ := Lib.hid h9.1
        have aQ := Lib.hid h9.2.2
        clear hF hR h9 e7 aU br bp bo bl
        obtain ⟨d3, e3⟩ := r
        dsimp only
        by_cases he : e3 = 0
        case neg =>
          have J : Hid (Rg.sD d S s = (d3, e3)) := by show Rg.ke _ _ = _; rw [bc.out he, Rg.cF _ he]
          have h1 : ¬ (e3 : Int) = 0 := by omega
          have h2 : ((e3 : Int) != 0) = true := by simp; omega
          clear he
          go_wp2_with fail
          go_ret
          exact ae.out _ _ ⟨by rw [J.out]; rfl, by rw [J.out]; exact aZ.out, bg.out.trans aQ.out⟩
        subst he
        have a1 := Lib.hid (a2.out rfl)
        clear a2 bc
        go_wp2_with fail
        go_roundw
        case rel => exact ⟨K + 1, d3, HK.out, by go_num, aZ.out, aQ.out, a1.out⟩
        case measure => have := HK.out; simp [intOf]; omega
    · obtain rfl : K = 5 := by omega
      have J : Hid (Rg.sD d S s = Dk.sync dk) := by show Rg.ke _ _ = _; rw [HE.out]; exact Rg.et _ rfl
      have aR := Lib.hid (iR HP.out)
      have aj := X.out.c0
      clear P j HE
      go_wp2_with fail
      refine aR.out.mono ?_
      rintro e w8 ⟨rfl, aK, aI⟩
      have bB := Lib.hid aK
      have bx := Lib.hid (au.out.trans aI)
      clear aK aI aR aj
      go_wp2_with fail
      go_ret
      exact ae.out _ _ ⟨by rw [J.out]; rfl, by rw [J.out]; exact bB.out, bg.out.trans bx.out⟩
theorem Rg.wB(s:List Nat)(m:Nat):(Rg.sI s m).length=m:=by unfold Rg.sI;rw[List.length_map,List.length_range]
theorem Rg.yy(s:List Nat):∃t:Nat,t<256/\t∉Rg.sI s 10:=by
 refine Classical.byContradiction fun h=>?_;have:=Rg.xa 256 (Rg.sI s 10) fun j b=>Classical.byContradiction fun a=>h ⟨j,b,a⟩;rw[Rg.wB]at this;omega
theorem Rg.zO{n S b N m:Nat}{d:Dk.aq}{f:Nat->Po.Pg}(g:Wl.aY n d)(i:Rg.gC n S b N)(h:Rg.qi S b N d f)(hm:m<N):Rg.gm (Rg.bV d (b+4*m) 4).1 S=Rg.sp d S:=by
 have k:=i.base;obtain⟨c1,c2⟩:=Rg.kM 4 g (p:=b+4*m) (by omega) fun j c=>h.quiet (Rg.cE (S:=S) hm c);rw[Rg.mE fun j c x a=>?_]
 ·exact Rg.gQ fun j _=>c1 _
 ·rcases c2 (S+j)with e|⟨-,-,e⟩
  ·rw[e,h.idle _ (Rg.da c)]at a;cases a
  ·rw[e]at a;cases a;exact(c1 _).symm
def G7(B c a:Nat)(d:Dk.aq)(S b m:Nat)(fm:List Nat)(w:World)(e:Ending)(w':World):Prop:=∃t:Nat,t<256/\t∉Rg.sI (Rg.sp d S) 10/\xn B c a (Rg.dB d S (b+4*m) fm (Rg.laid fm (Rg.tag m t))) w e w'
set_option maxHeartbeats 3200000 in
set_option maxRecDepth 20000 in
theorem td{w:World}{B m1 m2 n S b N m:Nat}{d:Dk.aq}{f:Nat->Po.Pg}(hP:bh w B m1 m2 d)(hN:Wl.aY n d)(hW:Rg.qi S b N d f)(hL:Rg.gC n S b N)(hm:m<N)(hn:n<=65536)(x:Po.Pg)(u:Value)(hx:Po.cK x)(hB:aV w u x.2)(ao:∀g,u.ownBlock=some g->¬DS B m1 m2 g):
 Calls Tryz.prog 79 #[sX B S b N,.int .i64 (m:Int),fZ x.1 u] w fun e w'=>G7 B m1 m2 d S b m (Pg.form x.1 x.2) w e w':=by
 have ai:=hL.base;have q:=Rg.zO hN hL hW hm;have P:Rg.Op (Rg.Has S b N) n d (Rg.bV d (b+4*m) 4):=Rg.l8 4 hN (by decide) (by omega) fun j hj=>Rg.cE hm hj;obtain⟨p,cap,hu,-,-,-⟩:=hB.form;obtain⟨W,aj,M,L,hb,aF⟩:=oM w B S b N x.1 u;obtain⟨Q,hQ⟩:∃Q,Q=w.heap.size:=⟨_,rfl⟩
 rw[<-hQ]at M L;have ak:¬DS B m1 m2 Q:=fun h=>by have:=hP.lt Q h;omega
 have an:¬DS B m1 m2 (Q+1):=fun h=>by have:=hP.lt (Q+1) h;omega
 obtain⟨r1,D⟩:∃r1,r1=Rg.bV d (b+4*m) 4:=⟨_,rfl⟩
 have C:=Ci (hP.below hb) hN ai hm hn (S:=S);rw[<-D]at q P C;have C:=Lib.hid C;have av:=Lib.hid q;have aA:=Lib.hid P;have HX:=Lib.hid hx;have HR:=Lib.hid M;have aw:=Lib.hid L;have HB:=Lib.hid hb;have aD:=Lib.hid (hB.below hb);have ab:=Lib.hid ao;have ax:=Lib.hid ak;have ay:=Lib.hid an;have HN:=Lib.hid hN;have HL:=Lib.hid hL;have F:Hid (m<N/\n<=65536):=⟨hm,hn⟩
 have X:Hid (∀fm nb,r1.2≠0->Rg.dB d S (b+4*m) fm nb=r1):=fun fm nb h=>by unfold Rg.dB;rw[<-D];exact Rg.cF _ h
 have V:Hid (∀fm nb,r1.2=0->Rg.dB d S (b+4*m) fm nb=Rg.ke (Rg.sD r1.1 S nb) fun d=>Rg.dx d S (b+4*m) fm):=fun fm nb h=>by unfold Rg.dB;rw[<-D];exact Rg.et _ h
 have s:=M.c0;have A:=M.c1;have z:=M.c2;have y:=M.c3;clear hP hN hW hL ai hm hn hx hB ao hb M L ak an aF q P D;subst hu;unfold sX fZ;go_enter Tryz.func79,Tryz.ntmps79;go_upto_region 1 with(fail)
 rw[<-aj,<-hQ];clear aj hQ;go_wp2_with fail
 refine C.out.mono ?_;rintro e w1⟨rfl,ag,o⟩;have aa:=Lib.hid ag;have Y:=Lib.hid o;have k:=Lib.hid (HR.out.al o ax.out);have H:w1.heap[Q+1]?=some (.cells #[.int .u64 (x.1:Int),.slice p x.2.length cap] 59 (0,0)):=o.row aw.out ay.out;have i:=Lib.hid H;have ad:=Lib.hid (o.bz aD.out (fun _=>ab.out));obtain⟨d1,e1⟩:=r1;dsimp only;clear ag o H C s A z y HR aw aD;by_cases he:e1=0
 case neg=>
  obtain⟨t,ht,c⟩:=Rg.yy (Rg.sp d S);have Z:=Lib.hid (And.intro ht c);have a:=Lib.hid (X.out (Pg.form x.1 x.2) (Rg.laid (Pg.form x.1 x.2) (Rg.tag m t)) he);have h1:¬(e1:Int)=0:=by omega
  have h2:((e1:Int)!=0)=true:=by simp;omega
  clear he ht c X V;go_wp2_with fail
  go_ret;exact⟨t,Z.out.1,Z.out.2,by rw[a.out];rfl,by rw[a.out];exact aa.out,(Touch.aE HB.out).trans Y.out⟩
 subst he;have T:=aA.out.ro.bG HN.out;have R:=aA.out.on rfl;have aC:=Lib.hid (E0 aa.out T R HL.out F.out.1 F.out.2 x _ HX.out ad.out);have aB:=Lib.hid T;have aI:=Lib.hid R;have s:=k.out.c0;have A:=k.out.c1;have z:=k.out.c2;have y:=k.out.c3;have p0:=ah i.out 0 (v:=.int .u64 (x.1:Int)) rfl;have p1:=ah i.out 1 (v:=.slice p x.2.length cap) rfl;clear T R X;go_wp2_with fail
 refine aC.out.mono ?_;rintro e w2⟨t,ht,c,rfl,O,l⟩;have c:t∉Rg.sI (Rg.sp d S) 10:=by rw[<-av.out];exact c
 have r:=Rg.Bl (S:=S) aB.out aI.out HL.out (nb:=Rg.laid (Pg.form x.1 x.2) (Rg.tag m t)) (Rg.eJ (Rg.cp m t) (by rw[Pg.bq,HX.out.2.1])) (Rg.oc (Rg.rZ ht) (Pg.gA HX.out.2.2));have K:=V.out (Pg.form x.1 x.2) (Rg.laid (Pg.form x.1 x.2) (Rg.tag m t)) trivial;generalize Rg.sD d1 S (Rg.laid (Pg.form x.1 x.2) (Rg.tag m t))=r2 at O r K⊢;have Z:=Lib.hid (And.intro ht c);have az:=Lib.hid O;have ar:=Lib.hid (Y.out.trans l);have E:=Lib.hid (k.out.al l ax.out);have G:w2.heap[Q+1]?=some (.cells #[.int .u64 (x.1:Int),.slice p x.2.length cap] 59 (0,0)):=l.row i.out ay.out;have I:=Lib.hid G;have aJ:=Lib.hid (l.bz ad.out (fun _=>ab.out));have U:=Lib.hid K;have J:=Lib.hid r;obtain⟨d2,e2⟩:=r2;dsimp only;clear O l G K r aC s A z y p0 p1 ht c V k i ad aa Y;by_cases he:e2=0
 case neg=>
  have a:Hid (Rg.dB d S (b+4*m) (Pg.form x.1 x.2) (Rg.laid (Pg.form x.1 x.2) (Rg.tag m t))=(d2,e2)):=by show _=_;rw[U.out,Rg.cF _ he]
  have h1:¬(e2:Int)=0:=by omega
  have h2:((e2:Int)!=0)=true:=by simp;omega
  clear he;go_wp2_with fail
  go_ret;exact⟨t,Z.out.1,Z.out.2,by rw[a.out];rfl,by rw[a.out];exact az.out,(Touch.aE HB.out).trans ar.out⟩
 subst he;have a:Hid (Rg.dB d S (b+4*m) (Pg.form x.1 x.2) (Rg.laid (Pg.form x.1 x.2) (Rg.tag m t))=Rg.dx d2 S (b+4*m) (Pg.form x.1 x.2)):=by show _=_;rw[U.out,Rg.et _ rfl]
 have au:=Lib.hid (qN az.out (J.out.ro.bG aB.out) (J.out.on rfl) HL.out F.out.1 F.out.2 x _ HX.out aJ.out ab.out);have s:=E.out.c0;have A:=E.out.c1;have z:=E.out.c2;have y:=E.out.c3;have p0:=ah I.out 0 (v:=.int .u64 (x.1:Int)) rfl;have p1:=ah I.out 1 (v:=.slice p x.2.length cap) rfl;clear U;go_wp2_with fail
 refine au.out.mono ?_;rintro e w3⟨rfl,af,ae⟩;have aH:=Lib.hid af;have aG:=Lib.hid (ar.out.trans ae);clear af ae au s A z y p0 p1;go_wp2_with fail
 go_ret;exact⟨t,Z.out.1,Z.out.2,by rw[a.out];rfl,by rw[a.out];exact aH.out,(Touch.aE HB.out).trans aG.out⟩
theorem Rg.Fm{n S:Nat}{d:Dk.aq}(b:Wl.aY n d)(f:S+5<=n)(h:Pg.cD (Rg.cut (Rg.gm d S))=0):Po.cK (Pg.cC (Rg.cut (Rg.gm d S)),Pg.cZ (Rg.cut (Rg.gm d S))):=by
 have hs:∀x∈Rg.gm d S,x<256:=by
  intro x a;unfold Rg.gm at a;rcases List.mem_append.1 a with a|a
  ·exact(gg b (by omega)).2 x a
  rcases List.mem_append.1 a with a|a
  ·exact(gg b (by omega)).2 x a
  rcases List.mem_append.1 a with a|a
  ·exact(gg b (by omega)).2 x a
  rcases List.mem_append.1 a with a|a
  ·exact(gg b (by omega)).2 x a
  ·exact(gg b (by omega)).2 x a
 have c:∀x∈Rg.cut (Rg.gm d S),x<256:=fun x a=>by
  have a:=List.mem_of_mem_take a;obtain⟨i,-,e⟩:=List.mem_flatMap.1 a;exact Rg.jt hs i x (List.mem_of_mem_drop e)
 refine⟨?_,Rg.mM h,Pg.pd c⟩;show Pg.cC _<_;unfold Pg.cC;rw[if_pos h];have a:=aw.jz ((List.drop 4 (Rg.cut (Rg.gm d S))).take 8) fun z hz=>c z (List.mem_of_mem_drop (List.mem_of_mem_take hz));have hl:((List.drop 4 (Rg.cut (Rg.gm d S))).take 8).length<=8:=List.length_take_le _ _;have:(256:Nat)^((List.drop 4 (Rg.cut (Rg.gm d S))).take 8).length<=256^8:=Nat.pow_le_pow_right (by decide) hl;have g:(256:Nat)^8=18446744073709551616:=by decide
 omega
set_option maxHeartbeats 3200000 in
set_option maxRecDepth 20000 in
theorem Du{w:World}{B m1 m2 n S b N:Nat}{d:Dk.aq}(hP:bh w B m1 m2 d)(hN:Wl.aY n d)(hL:Rg.gC n S b N)(hn:n<=65536):
 Calls Tryz.prog 46 #[sX B S b N] w fun e w'=>xn B m1 m2 (Rg.eI d S b N) w e w':=by
 have hS:=hL.spare;obtain⟨W,hW,H,hb,ao⟩:=oN w B S b N;obtain⟨Q,hQ⟩:∃Q,Q=w.heap.size:=⟨_,rfl⟩
 rw[<-hQ]at H;have O:=Lib.hid (tx (hP.below hb) hN hS hn (b:=b) (N:=N));have HR:=Lib.hid H;have HB:=Lib.hid hb;have HP:=Lib.hid (hP.below hb);have HN:=Lib.hid hN;have HL:=Lib.hid hL;have az:Hid (n<=65536):=hn;have aA:=Lib.hid (hP.below hb).lt;have M:Hid ((Rg.gm d S).length=640):=by show _=_;rw[<-oC,nV hN 5 hS]
 have j:=H.c0;have o:=H.c1;have m:=H.c2;have l:=H.c3;clear hP hN hL hn hS hb H ao;unfold sX;go_enter Tryz.func46,Tryz.ntmps46;go_upto_region 1 with(fail)
 rw[<-hW,<-hQ];clear hW hQ;go_wp2_with fail
 refine O.out.mono ?_;rintro e w1⟨us,rfl,s,T⟩;have C:=Lib.hid s;have ax:=Lib.hid (HR.out.below s);have al:=Lib.hid (HP.out.below s);rcases Bool.eq_false_or_eq_true d.off with E|E
 ·have a:Hid (Rg.eI d S b N=(d,6)):=Rg.uh E;rw[E,if_pos rfl];clear E T s O j o m l;go_wp2_with fail
  go_ret;exact⟨by rw[a.out];rfl,by rw[a.out];exact al.out,(Touch.aE HB.out).trans (Touch.aE C.out)⟩
 have T:=T E;obtain⟨g,c,X,ar,av,ad,au,-⟩:=gT T (by rw[M.out];decide);rw[M.out]at X ad;subst X;rw[E,if_neg (by decide)];have HO:=Lib.hid E;have ae:=Lib.hid (yi g 0 c (Rg.gm d S) w1 T.bz M.out);clear E T s O j o m l ar av ad au;go_wp2_with fail
 refine ae.out.mono ?_;rintro e w2⟨k,v,u,ok,rfl,⟨pu,U,cu,rfl⟩,J,hy,aa⟩;obtain⟨K,t⟩:∃K,K=w2.alloc (.cells #[.int .u64 (v:Int),.slice pu U cu] 59):=⟨_,rfl⟩
 obtain⟨R,hR⟩:∃R,R=w2.heap.size:=⟨_,rfl⟩
 have I:Below w2.heap.size w2 K:=by rw[t];exact(Below.refl _ _).alloc (Nat.le_refl _) _
 have i:Below w1.heap.size w1 K:=J.trans (I.mono J.size);have D:K.heap[R]?=some (.cells #[.int .u64 (v:Int),.slice pu U cu] 59 (0,0)):=by rw[t,hR];exact heap_alloc_last _ _
 have V:ok=true->Rg.Told (Rg.gm d S)/\Pg.cD (Rg.cut (Rg.gm d S))=0/\k=Rg.dU (Rg.gm d S)/\v=Pg.cC (Rg.cut (Rg.gm d S))/\Own w1.heap.size K (.slice pu U cu) (Pg.cZ (Rg.cut (Rg.gm d S))):=fun e=>by
  obtain⟨h1,h2,h3,h4,h5⟩:=hy e;exact⟨h1,h2,h3,h4,h5.below I⟩
 have an:=Lib.hid i;have HY:=Lib.hid V;have P:=Lib.hid aa;have y:=Lib.hid (ax.out.below i);have ak:=Lib.hid (al.out.below i);have F:=Lib.hid D;have G:=Lib.hid (BV B S b N (k:Int) K);clear J hy V aa ae I i D;unfold fZ;rcases Bool.eq_false_or_eq_true ok with q|q
 case inr=>
  have a:Hid (Rg.eI d S b N=(d,0)):=Rg.nY HO.out fun h=>P.out q ⟨h.1,h.2.1⟩;subst q;clear HY P;go_wp2_with fail
  go_ret;rw[<-t];exact⟨by rw[a.out];rfl,by rw[a.out];exact ak.out,(Touch.aE HB.out).trans ((Touch.aE C.out).trans (Touch.aE an.out))⟩
 obtain⟨h1,h2,h3,h4,h5⟩:=HY.out q;subst q;have L:=Lib.hid (And.intro h1 h2);have HK:=Lib.hid h3;have HV:=Lib.hid h4;have HU:=Lib.hid h5;clear h1 h2 h3 h4 h5 HY P;have j:=y.out.c0;have o:=y.out.c1;have m:=y.out.c2;have l:=y.out.c3;go_upto_region 5 with(fail)
 rw[<-t,<-hR];clear t hR;go_wp2_with fail
 refine G.out.mono ?_;rintro e w4⟨rfl,f⟩;have aB:=Lib.hid f;have A:=Lib.hid (y.out.below f);have aj:=Lib.hid (ak.out.below f);have af:=Lib.hid (HU.out.below f);have p:w4.heap[R]?=some (.cells #[.int .u64 (v:Int),.slice pu U cu] 59 (0,0)):=(f.block R (lt_of_block F.out)).trans F.out;have x:=Lib.hid p;have ag:Hid (Touch (DS B m1 m2) w w4):=(Touch.aE HB.out).trans ((Touch.aE C.out).trans ((Touch.aE an.out).trans (Touch.aE f)));clear f p G j o m l;by_cases r:k<N
 case neg=>
  have a:Hid (Rg.eI d S b N=(d,0)):=Rg.nY HO.out fun h=>r (by rw[HK.out];exact h.2.2);rw[decide_eq_false (show¬(0<=(k:Int)/\(k:Int)<(N:Int))by omega)];clear r;go_wp2_with fail
  go_ret;exact⟨by rw[a.out];rfl,by rw[a.out];exact aj.out,ag.out⟩
 have ab:Rg.eI d S b N=Rg.dx d S (b+4*k) (Pg.form v (Pg.cZ (Rg.cut (Rg.gm d S)))):=by
  rw[Rg.pj HO.out ⟨L.out.1,L.out.2,by rw[<-HK.out];exact r⟩,<-HK.out,<-HV.out]
 have z:=qN aj.out HN.out HO.out HL.out r az.out (Pg.cC (Rg.cut (Rg.gm d S)),Pg.cZ (Rg.cut (Rg.gm d S))) _ (Rg.Fm HN.out HL.out.spare L.out.2) af.out.bz fun g' e hd=>iV af.out e (by have:=aA.out g' hd;have:=C.out.size;omega);dsimp only at z;rw[<-HV.out,<-ab]at z;have ai:=Lib.hid z;rw[decide_eq_true (show 0<=(k:Int)/\(k:Int)<(N:Int)by omega)];have j:=A.out.c0;have o:=A.out.c1;have m:=A.out.c2;have l:=A.out.c3;have p0:=ah x.out 0 (v:=.int .u64 (v:Int)) rfl;have p1:=ah x.out 1 (v:=.slice pu U cu) rfl;clear z ab r;go_wp2_with fail
 refine ai.out.mono ?_;rintro e w5⟨rfl,Z,Y⟩;have ay:=Lib.hid Z;have aw:=Lib.hid (ag.out.trans Y);clear Z Y ai j o m l p0 p1;go_wp2_with fail
 go_ret;exact⟨rfl,ay.out,aw.out⟩
def Hl:Value:=.agg #[.pointer none,.int .i64 0,.int .i64 0,.int .i64 0]
def GS(B:Nat)(a:Po.Ar):Value:=.agg #[.pointer (some ⟨B,0,none⟩),.int .i64 a.spare,.int .i64 a.base,.int .i64 a.cB]
theorem dX(tmps:Array Value)(w:World)(g:Nat)(h f d c e:Value)(h0:tmps.getD 4 undef=.pointer (some ⟨g,0,none⟩))(k:tmps.getD 5 undef=e)
 (r0:w.heap[g]?=some (.cells #[h,f,d,c] 95 (0,0))):
 (results Tryz.f45 tmps).run Tryz.prog w=.ok (.tuple #[.agg #[h,f,d,c],e]) w:=by
 have j:Tryz.f45.results=#[.cell 4 95,.tmp 5]:=rfl;have b:tmps[4]?.getD undef=.pointer (some ⟨g,0,none⟩):=by simpa using h0
 have a:tmps[5]?.getD undef=e:=by simpa using k
 have i:=run_loadVar_row (P:=Tryz.prog) w g 95 _ _ _ _ r0 Tryz.underlying95 rfl (by kernel_rfl);simp[results,j,b,a,asAddr,i]
theorem BF(a:Po.Ar)(w:World):∃W,W=(w.alloc (.cells #[.int .i64 a.spare,.int .i64 a.base,.int .i64 a.cB] 46)).alloc (.cells #[.pointer none,.int .i64 0,.int .i64 0,.int .i64 0] 95)/\
 W.heap[w.heap.size]?=some (.cells #[.int .i64 a.spare,.int .i64 a.base,.int .i64 a.cB] 46 (0,0))/\W.heap[w.heap.size+1]?=some (.cells #[.pointer none,.int .i64 0,.int .i64 0,.int .i64 0] 95 (0,0))/\Below w.heap.size w W:=by
 have e:=heap_alloc_last w (.cells #[.int .i64 a.spare,.int .i64 a.base,.int .i64 a.cB] 46);have d:Below w.heap.size w (w.alloc (.cells #[.int .i64 a.spare,.int .i64 a.base,.int .i64 a.cB] 46)):=(Below.refl _ _).alloc (Nat.le_refl _) _;have hs:(w.alloc (.cells #[.int .i64 a.spare,.int .i64 a.base,.int .i64 a.cB] 46)).heap.size=w.heap.size+1:=by simp
 generalize w.alloc (.cells #[.int .i64 a.spare,.int .i64 a.base,.int .i64 a.cB] 46)=W1 at*
 have c:=heap_alloc_last W1 (.cells #[.pointer none,.int .i64 0,.int .i64 0,.int .i64 0] 95);rw[hs]at c;have b:Below W1.heap.size W1 (W1.alloc (.cells #[.pointer none,.int .i64 0,.int .i64 0,.int .i64 0] 95)):=(Below.refl _ _).alloc (Nat.le_refl _) _;exact⟨_,rfl,(b.block _ (by omega)).trans e,c,d.trans (b.mono (by omega))⟩
theorem fN(w:World)(G:Nat)(j g f e d c b a:Value)(h:w.heap[G]?=some (.cells #[j,g,f,e] 95 (0,0))):
 ((((w.setCell ⟨G,0,none⟩ d).setCell ⟨G,1,none⟩ c).setCell ⟨G,2,none⟩ b).setCell ⟨G,3,none⟩ a).heap[G]?=some (.cells #[d,c,b,a] 95 (0,0))/\
 Touch (fun k=>k=G) w ((((w.setCell ⟨G,0,none⟩ d).setCell ⟨G,1,none⟩ c).setCell ⟨G,2,none⟩ b).setCell ⟨G,3,none⟩ a):=by
 refine⟨?_,(((Touch.set (S:=fun k=>k=G) G 0 _ rfl).trans (Touch.set G 1 _ rfl)).trans (Touch.set G 2 _ rfl)).trans (Touch.set G 3 _ rfl)⟩;have h0:=aT (i:=0) h d;have m:=aT (i:=1) h0 c;have l:=aT (i:=2) m b;exact aT (i:=3) l a
theorem AF(x p:Int)(hp:1<=p):x.tdiv 4<p↔x<4*p:=by
 rcases Int.le_total 0 x with h|h
 ·rw[Int.tdiv_eq_ediv_of_nonneg h];omega
 ·have e:x.tdiv 4= -((-x).tdiv 4):=by rw[Int.neg_tdiv,Int.neg_neg]
  rw[e,Int.tdiv_eq_ediv_of_nonneg (by omega)];omega
theorem AG(x:Int)(a: -9223372036854775808<=x/\x<=9223372036854775807): -9223372036854775808<=x.tdiv 4/\x.tdiv 4<=9223372036854775807:=by
 rcases Int.le_total 0 x with h|h
 ·rw[Int.tdiv_eq_ediv_of_nonneg h];omega
 ·have e:x.tdiv 4= -((-x).tdiv 4):=by rw[Int.neg_tdiv,Int.neg_neg]
  rw[e,Int.tdiv_eq_ediv_of_nonneg (by omega)];omega
theorem Touch.one{G n:Nat}{w w':World}(h:Touch (fun k=>k=G) w w')(a:n<=G)(hw:G<w.heap.size):Below n w w':=h.below (fun k b=>by omega) (by omega)
def Hr(B n:Nat)(a:Po.Ar)(w:World)(e:Ending)(w':World):Prop:=Below w.heap.size w w'/\(a.Fits n->e=.returned (.tuple #[GS B a,.int .i64 0]))/\(¬a.Fits n->e=.returned (.tuple #[Hl,.int .i64 2]))
set_option maxHeartbeats 12800000 in
set_option maxRecDepth 20000 in
theorem rq{w:World}{B N M n:Nat}{d:Dk.aq}(I:bh w B N M d)(hs:Dk.size d=n)(x:1<=n)(X:n<=65536)(a:Po.Ar)(F:CI a):Calls Tryz.prog 45 #[.pointer (some ⟨B,0,none⟩),xo a] w fun e w'=>Hr B n a w e w':=by
 obtain⟨W,H,l,hR,y⟩:=BF a w;have z:=fJ (I.below y);rw[hs]at z;have K:=Lib.hid z;have a0:=ah l 0 (v:=.int .i64 a.spare) rfl;have a1:=ah l 1 (v:=.int .i64 a.base) rfl;have a2:=ah l 2 (v:=.int .i64 a.cB) rfl;have c0:=ah hR 0 (v:=.pointer none) rfl;have c1:=ah hR 1 (v:=.int .i64 0) rfl;have c2:=ah hR 2 (v:=.int .i64 0) rfl;have c3:=ah hR 3 (v:=.int .i64 0) rfl;have f0:=aI hR 0;have f1:=aI hR 1;have f2:=aI hR 2;have f3:=aI hR 3;have f:=Lib.hid hR;have i:=Lib.hid y;obtain⟨G,q⟩:∃G,G=w.heap.size+1:=⟨_,rfl⟩
 obtain⟨A,r⟩:∃A,A=w.heap.size:=⟨_,rfl⟩
 have m:=Lib.hid q;have aa:=Lib.hid r;rw[<-q]at f c0 c1 c2 c3 f0 f1 f2 f3;rw[<-r]at a0 a1 a2;have L:=Lib.hid F;have k:Hid (1<=n/\n<=65536):=⟨x,X⟩
 have V:((n:Int)==0)=false:=by simp;omega
 have U:=IntWalk.i64_in ((n:Int)-5) (by omega);clear l hR y I hs F z;obtain⟨sp,b,c⟩:=a;have g:Hid (∀e w',Below w.heap.size w w'->(Po.Ar.Fits n ⟨sp,b,c⟩->e=.returned (.tuple #[GS B ⟨sp,b,c⟩,.int .i64 0]))->(¬Po.Ar.Fits n ⟨sp,b,c⟩->e=.returned (.tuple #[Hl,.int .i64 2]))->Hr B n ⟨sp,b,c⟩ w e w'):=fun e w' s p C=>⟨s,p,C⟩
 unfold xo;dsimp only at*
 go_enter Tryz.func45,Tryz.ntmps45;go_upto_region 1 with(fail)
 rw[<-H,<-q,<-r];clear H q r;go_wp2_with fail
 refine K.out.mono ?_;rintro e w1⟨rfl,rfl⟩;clear K;have E:¬(n:Int)=0:=by omega
 by_cases h0:sp<0
 case pos=>
  go_wp2_with fail
  obtain⟨hz,j⟩:=fN w1 G _ _ _ _ (.pointer none) (.int .i64 0) (.int .i64 0) (.int .i64 0) f.out;refine bodyPost_ret (dX _ _ G _ _ _ _ _ rfl rfl hz) rfl ?_;refine g.out _ _ (i.out.trans (j.one (by have:=m.out;have:=i.out.size;omega) (lt_of_block f.out))) (fun hf=>?_) fun _=>rfl;exact absurd hf (by unfold Po.Ar.Fits;dsimp only;omega)
 have k0:¬(sp<0):=h0;by_cases s:(n:Int)-5<sp
 case pos=>
  go_wp2_with fail
  obtain⟨hz,j⟩:=fN w1 G _ _ _ _ (.pointer none) (.int .i64 0) (.int .i64 0) (.int .i64 0) f.out;refine bodyPost_ret (dX _ _ G _ _ _ _ _ rfl rfl hz) rfl ?_;refine g.out _ _ (i.out.trans (j.one (by have:=m.out;have:=i.out.size;omega) (lt_of_block f.out))) (fun hf=>?_) fun _=>rfl;exact absurd hf (by unfold Po.Ar.Fits;dsimp only;omega)
 have k1:¬((n:Int)-5<sp):=s;by_cases p:b<0
 case pos=>
  go_wp2_with fail
  obtain⟨hz,j⟩:=fN w1 G _ _ _ _ (.pointer none) (.int .i64 0) (.int .i64 0) (.int .i64 0) f.out;refine bodyPost_ret (dX _ _ G _ _ _ _ _ rfl rfl hz) rfl ?_;refine g.out _ _ (i.out.trans (j.one (by have:=m.out;have:=i.out.size;omega) (lt_of_block f.out))) (fun hf=>?_) fun _=>rfl;exact absurd hf (by unfold Po.Ar.Fits;dsimp only;omega)
 have k2:¬(b<0):=p;by_cases C:c<1
 case pos=>
  go_wp2_with fail
  obtain⟨hz,j⟩:=fN w1 G _ _ _ _ (.pointer none) (.int .i64 0) (.int .i64 0) (.int .i64 0) f.out;refine bodyPost_ret (dX _ _ G _ _ _ _ _ rfl rfl hz) rfl ?_;refine g.out _ _ (i.out.trans (j.one (by have:=m.out;have:=i.out.size;omega) (lt_of_block f.out))) (fun hf=>?_) fun _=>rfl;exact absurd hf (by unfold Po.Ar.Fits;dsimp only;omega)
 have k3:¬(c<1):=C;have Q:=IntWalk.i64_in ((n:Int)-b) (by have:=k.out;have:=L.out.2.1;unfold qF at this;dsimp only at this;omega);have P:IntKind.i64.wrap (((n:Int)-b).tdiv 4)=((n:Int)-b).tdiv 4:=IntWalk.i64_in _ (AG _ (by have s:=k.out;have p:=L.out.2.1;unfold qF at p;dsimp only at p;omega));have o:=AF ((n:Int)-b) c (by omega);have u:(n:Int)-b<4*c->((n:Int)-b).tdiv 4<c:=o.2;have t:((n:Int)-b).tdiv 4<c->(n:Int)-b<4*c:=o.1;have D:=Lib.hid t;clear o;by_cases J:((n:Int)-b).tdiv 4<c
 case pos=>
  go_wp2_with fail
  obtain⟨hz,j⟩:=fN w1 G _ _ _ _ (.pointer none) (.int .i64 0) (.int .i64 0) (.int .i64 0) f.out;refine bodyPost_ret (dX _ _ G _ _ _ _ _ rfl rfl hz) rfl ?_;refine g.out _ _ (i.out.trans (j.one (by have:=m.out;have:=i.out.size;omega) (lt_of_block f.out))) (fun hf=>?_) fun _=>rfl;exact absurd hf (by unfold Po.Ar.Fits;dsimp only;have:=D.out J;omega)
 have O:¬(((n:Int)-b).tdiv 4<c):=J;have k5:4*c<=(n:Int)-b:=by have:=fun h=>O (u h);omega
 have T:=IntWalk.i64_in (4*c) (by have:=k.out;omega);have S:=IntWalk.i64_in (b+4*c) (by have:=k.out;omega);have R:=IntWalk.i64_in (sp+5) (by have:=k.out;omega);by_cases Z:sp<b+4*c
 ·by_cases Y:b<sp+5
  ·go_wp2_with fail
   obtain⟨hz,j⟩:=fN w1 G _ _ _ _ (.pointer none) (.int .i64 0) (.int .i64 0) (.int .i64 0) f.out;refine bodyPost_ret (dX _ _ G _ _ _ _ _ rfl rfl hz) rfl ?_;refine g.out _ _ (i.out.trans (j.one (by have:=m.out;have:=i.out.size;omega) (lt_of_block f.out))) (fun hf=>?_) fun _=>rfl;exact absurd hf (by unfold Po.Ar.Fits;dsimp only;omega)
  ·have k7:¬(b<sp+5):=Y;go_wp2_with fail
   obtain⟨hz,j⟩:=fN w1 G _ _ _ _ (.pointer (some ⟨B,0,none⟩)) (.int .i64 sp) (.int .i64 b) (.int .i64 c) f.out;refine bodyPost_ret (dX _ _ G _ _ _ _ _ rfl rfl hz) rfl ?_;refine g.out _ _ (i.out.trans (j.one (by have:=m.out;have:=i.out.size;omega) (lt_of_block f.out))) (fun _=>rfl) fun hf=>?_;exact absurd (by unfold Po.Ar.Fits;dsimp only;omega) hf
 ·have k6:¬(sp<b+4*c):=Z;go_wp2_with fail
  obtain⟨hz,j⟩:=fN w1 G _ _ _ _ (.pointer (some ⟨B,0,none⟩)) (.int .i64 sp) (.int .i64 b) (.int .i64 c) f.out;refine bodyPost_ret (dX _ _ G _ _ _ _ _ rfl rfl hz) rfl ?_;refine g.out _ _ (i.out.trans (j.one (by have:=m.out;have:=i.out.size;omega) (lt_of_block f.out))) (fun _=>rfl) fun hf=>?_;exact absurd (by unfold Po.Ar.Fits;dsimp only;omega) hf
def kO(S b N:Nat):Po.Ar:=⟨S,b,N⟩
theorem kJ{n S b N:Nat}:(kO S b N).Fits n↔Rg.gC n S b N:=by
 unfold kO Po.Ar.Fits;dsimp only;constructor
 ·rintro⟨g,f,e,d,c,a⟩;exact⟨by omega,by omega,by omega,by omega⟩
 ·intro h;have:=h.one;have:=h.spare;have:=h.base;have:=h.apart;omega
theorem Cr{n:Nat}{a:Po.Ar}(h:a.Fits n):∃S b N,a=kO S b N:=by
 obtain⟨x,y,z⟩:=a;obtain⟨i,d,c,g,f,e⟩:=h;dsimp only at*
 obtain⟨S,rfl⟩:=Int.eq_ofNat_of_zero_le d;obtain⟨b,rfl⟩:=Int.eq_ofNat_of_zero_le c;obtain⟨N,rfl⟩:=Int.eq_ofNat_of_zero_le (show(0:Int)<=z by omega);exact⟨S,b,N,rfl⟩
theorem uj(a:Po.Ar)(w:World):∃W,W=w.alloc (.cells #[.int .i64 a.spare,.int .i64 a.base,.int .i64 a.cB] 46)/\
 W.heap[w.heap.size]?=some (.cells #[.int .i64 a.spare,.int .i64 a.base,.int .i64 a.cB] 46 (0,0))/\Below w.heap.size w W:=⟨_,rfl,heap_alloc_last _ _,(Below.refl _ _).alloc (Nat.le_refl _) _⟩
set_option maxHeartbeats 3200000 in
set_option maxRecDepth 20000 in
theorem uV{w:World}{B E D n S b N:Nat}{d:Dk.aq}(t:bh w B E D d)(u:Wl.aY n d)(hf:(kO S b N).Fits n)(r:n<=65536):Calls Tryz.prog 19 #[.pointer (some ⟨B,0,none⟩),xo (kO S b N)] w fun e w'=>xn B E D (Rg.eI d S b N) w e w':=by
 have h:=kJ.1 hf;obtain⟨W,G,q,p⟩:=uj (kO S b N) w;have hs:=h.spare;have j:=rq (t.below p) u.sz (by omega) r (kO S b N) ⟨⟨by unfold kO;dsimp only;omega,by unfold kO;dsimp only;omega⟩,⟨by unfold kO;dsimp only;have:=h.base;omega,by unfold kO;dsimp only;have:=h.base;omega⟩,⟨by unfold kO;dsimp only;have:=h.base;omega,by unfold kO;dsimp only;have:=h.base;omega⟩⟩;have a0:=ah q 0 (v:=.int .i64 (S:Int)) rfl;have J:=ah q 1 (v:=.int .i64 (b:Int)) rfl;have I:=ah q 2 (v:=.int .i64 (N:Int)) rfl;have o:=Lib.hid j;have O:=Lib.hid hf;have M:=Lib.hid h;have L:=Lib.hid u;have z:Hid (n<=65536):=r;have K:=Lib.hid (t.below p);have C:=Lib.hid p;clear t u hf r h q p hs j;unfold xo;go_enter Tryz.func19,Tryz.ntmps19;go_upto_region 1 with(fail)
 rw[<-G];clear G;go_wp2_with fail
 refine o.out.mono ?_;rintro e w1⟨c,he,-⟩;have he:=he O.out;subst he;have P:=Lib.hid c;obtain⟨W2,f⟩:∃W2,W2=w1.alloc (.cells #[.pointer (some ⟨B,0,none⟩),.int .i64 (S:Int),.int .i64 (b:Int),.int .i64 (N:Int)] 95):=⟨_,rfl⟩
 have g:Below w1.heap.size w1 W2:=by rw[f];exact(Below.refl _ _).alloc (Nat.le_refl _) _
 have a:fU W2 w1.heap.size B S b N:=by rw[f];exact heap_alloc_last _ _
 have H:=Lib.hid (Du ((K.out.below c).below g) L.out M.out z.out);have A:Hid (Below w.heap.size w W2):=(C.out.trans (c.mono C.out.size)).trans (g.mono (Nat.le_trans C.out.size c.size));have i:=a.c0;have m:=a.c1;have l:=a.c2;have k:=a.c3;obtain⟨Q,s⟩:∃Q,Q=w1.heap.size:=⟨_,rfl⟩
 rw[<-s]at i m l k;clear c g a o a0 J I;unfold GS kO;dsimp only;go_upto_region 2 with(fail)
 rw[<-f,<-s];clear f s;go_wp2_with fail
 refine H.out.mono ?_;rintro e w3⟨rfl,hp,F⟩;have y:=Lib.hid hp;have x:=Lib.hid F;clear hp F H i m l k;go_wp2_with fail
 go_ret;exact⟨rfl,y.out,(Touch.aE A.out).trans x.out⟩
structure Fr where
 aA:Nat
 bj:Nat
 u:Value
 pins:Nat
 bo:Bool
 first:Nat
 used:Bool
def Fr.zero:Fr:=⟨0,0,.slice none 0 0,0,false,0,false⟩
def pI(f:Fr):List Value:=[.int .i64 (f.aA:Int),.int .u64 (f.bj:Int),f.u,.int .i64 (f.pins:Int),.bool f.bo,.int .u64 (f.first:Int),.bool f.used]
def ml(F:List Fr):List Value:=F.flatMap pI
def fa(F:List Fr)(i:Nat):Fr:=F.getD i Fr.zero
theorem cr(F:List Fr){i:Nat}(a:i<F.length)(f:Fr)(j:Nat):fa (F.set i f) j=if j=i then f else fa F j:=by
 unfold fa;by_cases h:j=i
 ·subst h;rw[if_pos rfl,List.getD_eq_getElem?_getD,List.getElem?_set_self a];rfl
 ·rw[if_neg h,List.getD_eq_getElem?_getD,List.getElem?_set_ne (Ne.symm h),<-List.getD_eq_getElem?_getD]
theorem fQ:∀F:List Fr,(ml F).length=F.length*7
 | []=>rfl
 |h::l=>by
  have:=fQ l;simp only[ml,List.flatMap_cons,List.length_append,List.length_cons]at*
  simp only[pI,List.length_cons,List.length_nil];omega
theorem xO:∀(F:List Fr)(i j:Nat),i<F.length->j<7->(ml F)[i*7+j]?=(pI (fa F i))[j]?
 | [],i,j,h,_=>by simp at h
 |x::l,0,j,_,hj=>by
  show(pI x++ml l)[0*7+j]?=(pI x)[j]?
  rw[List.getElem?_append_left (by show 0*7+j<7;omega),Nat.zero_mul,Nat.zero_add]
 |x::l,i+1,j,h,hj=>by
  have a:=xO l i j (by simpa using h) hj;show(pI x++ml l)[(i+1)*7+j]?=(pI (fa l i))[j]?
  rw[List.getElem?_append_right (by show 7<=(i+1)*7+j;omega),show(i+1)*7+j-(pI x).length=i*7+j by show(i+1)*7+j-7=_;omega];exact a
theorem uE:∀(F:List Fr)(i j:Nat)(v:Value)(f:Fr),i<F.length->j<7->pI f=(pI (fa F i)).set j v->(ml F).set (i*7+j) v=ml (F.set i f)
 | [],i,j,v,f,h,_,_=>by simp at h
 |x::l,0,j,v,f,_,hj,e=>by
  show(pI x++ml l).set (0*7+j) v=pI f++ml l;rw[Nat.zero_mul,Nat.zero_add,List.set_append_left _ _ (show j<(pI x).length from hj)];have e:pI f=(pI x).set j v:=e;rw[e]
 |x::l,i+1,j,v,f,h,hj,e=>by
  have a:=uE l i j v f (by simpa using h) hj e;show(pI x++ml l).set ((i+1)*7+j) v=pI x++ml (l.set i f);rw[List.set_append_right _ _ (by show 7<=(i+1)*7+j;omega),show(i+1)*7+j-(pI x).length=i*7+j by show(i+1)*7+j-7=_;omega,a]
def Am(B S b N L aN hand mp:Nat)(F:List Fr):List Value:=
 [.pointer (some ⟨B,0,none⟩),.int .i64 (S:Int),.int .i64 (b:Int),.int .i64 (N:Int),.pointer (some ⟨L,0,none⟩)]++(ml F++[.int .i64 (aN:Int),.int .i64 (hand:Int),.map (some mp)])
structure aO(w:World)(P B S b N L aN hand mp:Nat)(F:List Fr):Prop where
 len:F.length=64
 row:w.heap[P]?=some (.cells (Am B S b N L aN hand mp F).toArray 100 (0,0))
section
variable{w w':World}{P B S b N L aN hand mp:Nat}{F:List Fr}
theorem aO.lt(h:aO w P B S b N L aN hand mp F):P<w.heap.size:=lt_of_block h.row
theorem aO.al{T:Nat->Prop}(h:aO w P B S b N L aN hand mp F)(a:Touch T w w')(hs:¬T P):aO w' P B S b N L aN hand mp F:=⟨h.len,a.row h.row hs⟩
theorem aO.below(h:aO w P B S b N L aN hand mp F)(a:Below w.heap.size w w'):aO w' P B S b N L aN hand mp F:=⟨h.len,(a.block P h.lt).trans h.row⟩
theorem aO.cell(h:aO w P B S b N L aN hand mp F)(i:Nat){v:Value}(a:(Am B S b N L aN hand mp F)[i]?=some v):w.cell? ⟨P,i,none⟩=some v:=ah h.row i (by rw[List.getElem?_toArray];exact a)
theorem aO.free(h:aO w P B S b N L aN hand mp F)(i:Nat):w.frozen? ⟨P,i,none⟩=false:=aI h.row i
theorem aO.c0(h:aO w P B S b N L aN hand mp F):w.cell? ⟨P,0,none⟩=some (.pointer (some ⟨B,0,none⟩)):=h.cell 0 rfl
theorem aO.c1(h:aO w P B S b N L aN hand mp F):w.cell? ⟨P,1,none⟩=some (.int .i64 (S:Int)):=h.cell 1 rfl
theorem aO.c2(h:aO w P B S b N L aN hand mp F):w.cell? ⟨P,2,none⟩=some (.int .i64 (b:Int)):=h.cell 2 rfl
theorem aO.c3(h:aO w P B S b N L aN hand mp F):w.cell? ⟨P,3,none⟩=some (.int .i64 (N:Int)):=h.cell 3 rfl
theorem aO.c4(h:aO w P B S b N L aN hand mp F):w.cell? ⟨P,4,none⟩=some (.pointer (some ⟨L,0,none⟩)):=h.cell 4 rfl
theorem so(h:F.length=64)(j:Nat):(Am B S b N L aN hand mp F)[453+j]?=[.int .i64 (aN:Int),.int .i64 (hand:Int),Value.map (some mp)][j]?:=by
 have hl:=fQ F;unfold Am;rw[List.getElem?_append_right (by show 5<=453+j;omega),List.getElem?_append_right (by rw[hl];show _<=453+j-5;omega),show 453+j- [Value.pointer (some ⟨B,0,none⟩),.int .i64 (S:Int),.int .i64 (b:Int),.int .i64 (N:Int),.pointer (some ⟨L,0,none⟩)].length-(ml F).length=j by rw[hl];show 453+j-5-_=j;omega]
theorem aO.Fs(h:aO w P B S b N L aN hand mp F):w.cell? ⟨P,453,none⟩=some (.int .i64 (aN:Int)):=h.cell 453 (so h.len 0)
theorem aO.Gr(h:aO w P B S b N L aN hand mp F):w.cell? ⟨P,454,none⟩=some (.int .i64 (hand:Int)):=h.cell 454 (so h.len 1)
theorem aO.qC(h:aO w P B S b N L aN hand mp F):w.cell? ⟨P,455,none⟩=some (.map (some mp)):=h.cell 455 (so h.len 2)
theorem aO.fr(h:aO w P B S b N L aN hand mp F){i:Nat}(d:i<64)(j:Nat)(c:j<7){v:Value}(a:(pI (fa F i))[j]?=some v):w.cell? ⟨P,5+i*7+j,none⟩=some v:=by
 refine h.cell _ ?_;have hl:=fQ F;unfold Am;rw[List.getElem?_append_right (by show 5<=5+i*7+j;omega),show 5+i*7+j- [Value.pointer (some ⟨B,0,none⟩),.int .i64 (S:Int),.int .i64 (b:Int),.int .i64 (N:Int),.pointer (some ⟨L,0,none⟩)].length=i*7+j by show 5+i*7+j-5=_;omega,List.getElem?_append_left (by rw[hl,h.len];omega),xO F i j (by rw[h.len];exact d) c];exact a
theorem aO.set(h:aO w P B S b N L aN hand mp F){i:Nat}(c:i<64)(j:Nat)(a:j<7)(v:Value)(f:Fr)(e:pI f=(pI (fa F i)).set j v):aO (w.setCell ⟨P,5+i*7+j,none⟩ v) P B S b N L aN hand mp (F.set i f):=by
 refine⟨by rw[List.length_set];exact h.len,?_⟩;rw[aT h.row];have hl:=fQ F;have d:(Am B S b N L aN hand mp F).set (5+i*7+j) v=Am B S b N L aN hand mp (F.set i f):=by
  unfold Am;rw[List.set_append_right _ _ (by show 5<=5+i*7+j;omega),show 5+i*7+j- [Value.pointer (some ⟨B,0,none⟩),.int .i64 (S:Int),.int .i64 (b:Int),.int .i64 (N:Int),.pointer (some ⟨L,0,none⟩)].length=i*7+j by show 5+i*7+j-5=_;omega,List.set_append_left _ _ (by rw[hl,h.len];omega),uE F i j v f (by rw[h.len];exact c) a e]
 rw[<-d];simp
theorem aO.CW(h:aO w P B S b N L aN hand mp F)(k:Nat):aO (w.setCell ⟨P,454,none⟩ (.int .i64 (k:Int))) P B S b N L aN k mp F:=by
 refine⟨h.len,?_⟩;rw[aT h.row];have hl:=fQ F;have a:(Am B S b N L aN hand mp F).set 454 (.int .i64 (k:Int))=Am B S b N L aN k mp F:=by
  unfold Am;rw[List.set_append_right _ _ (by show 5<=454;omega),show 454- [Value.pointer (some ⟨B,0,none⟩),.int .i64 (S:Int),.int .i64 (b:Int),.int .i64 (N:Int),.pointer (some ⟨L,0,none⟩)].length=449 from rfl,List.set_append_right _ _ (by rw[hl,h.len];decide),show 449-(ml F).length=1 by rw[hl,h.len]];rfl
 rw[<-a];simp
end
theorem gy(H:List (Option Nat)):(cJ H).length=H.countP Option.isSome:=by
 have a:∀(L:List (Option (List Nat)))(i:Nat),(Dk.cO i L).length=L.countP Option.isSome:=fun L=>by
  induction L with
  |nil=>intro i;rfl
  |cons x r ih=>
   intro i;cases x with
   |none=>simp[Dk.cO,ih]
   |some b=>simp[Dk.cO,ih]
 unfold cJ;rw[a,rj]
theorem dd(H:List (Option Nat))(k:Nat):k∈cJ H↔H.getD k none≠none:=by
 have j:∀(L:List (Option (List Nat)))(i:Nat),(k∈Dk.cO i L↔i<=k/\L.getD (k-i) none≠none):=fun L=>by
  induction L with
  |nil=>intro i;simp[Dk.cO]
  |cons x r ih=>
   intro i;have f:∀y:Option (List Nat),i<k->(y::r).getD (k-i) none=r.getD (k-(i+1)) none:=fun y h=>by rw[show k-i=(k-(i+1))+1 by omega];rfl
   cases x with
   |none=>
    simp only[Dk.cO,ih];constructor
    ·rintro⟨g,a⟩;exact⟨by omega,by rw[f _ (by omega)];exact a⟩
    ·rintro⟨g,a⟩;rcases Nat.lt_or_ge i k with d|d
     ·rw[f _ d]at a;exact⟨d,a⟩
     ·rw[show k-i=0 by omega]at a;exact absurd rfl a
   |some b=>
    simp only[Dk.cO,List.mem_cons,ih];constructor
    ·rintro(rfl|⟨g,a⟩)
     ·exact⟨Nat.le_refl _,by rw[Nat.sub_self];intro c;cases c⟩
     ·exact⟨by omega,by rw[f _ (by omega)];exact a⟩
    ·rintro⟨g,a⟩;rcases Nat.lt_or_ge i k with d|d
     ·rw[f _ d]at a;exact Or.inr ⟨d,a⟩
     ·exact Or.inl (by omega)
 unfold cJ;rw[j,Nat.sub_zero];unfold sW;constructor
 ·rintro⟨-,h⟩e;rw[List.getD_eq_getElem?_getD,List.getElem?_map]at h;rw[List.getD_eq_getElem?_getD]at e;cases hx:H[k]? with
  |none=>rw[hx]at h;exact h rfl
  |some x=>
   rw[hx]at h e;cases x with
   |none=>exact h rfl
   |some y=>cases e
 ·intro h;refine⟨Nat.zero_le _,fun e=>h ?_⟩;rw[List.getD_eq_getElem?_getD,List.getElem?_map]at e;rw[List.getD_eq_getElem?_getD];cases hx:H[k]? with
  |none=>rfl
  |some x=>
   rw[hx]at e;cases x with
   |none=>rfl
   |some y=>cases e
theorem oW{w:World}{P B S b N L aN hand mp:Nat}{F:List Fr}(h:aO w P B S b N L aN hand mp F):Calls Tryz.prog 38 #[.pointer (some ⟨P,0,none⟩)] w fun e w'=>e=.returned (.bool false)/\w'=w:=by
 have c0:=h.c0;clear h;go_enter Tryz.func38,Tryz.ntmps38;go_wp2_with fail
 go_ret;exact⟨rfl,rfl⟩
def wZ(N:Nat)(n:Int):Nat:=if 0<=n/\n<(N:Int)then 0 else 2
theorem iz{w:World}{P B S b N L aN hand mp:Nat}{F:List Fr}(h:aO w P B S b N L aN hand mp F)(n:Int):Calls Tryz.prog 47 #[.pointer (some ⟨P,0,none⟩),.int .i64 n] w fun e w'=>e=.returned (.int .i64 (wZ N n:Int))/\Below w.heap.size w w':=by
 have f:=oW h;have c:=BV B S b N n w;unfold sX at c;have c0:=h.c0;have c1:=h.c1;have c2:=h.c2;have c3:=h.c3;have i:=Lib.hid f;have j:=Lib.hid c;clear h f c;go_enter Tryz.func47,Tryz.ntmps47;go_wp2_with fail
 refine i.out.mono ?_;rintro e w1⟨rfl,rfl⟩;clear i;go_wp2_with fail
 refine j.out.mono ?_;rintro e w2⟨rfl,g⟩;have k:=Lib.hid g;clear g j c0 c1 c2 c3;by_cases a:0<=n/\n<(N:Int)
 ·rw[decide_eq_true a];have d:Hid (wZ N n=0):=if_pos a;clear a;go_wp2_with fail
  go_ret;exact⟨by rw[d.out];rfl,k.out⟩
 ·rw[decide_eq_false a];have d:Hid (wZ N n=2):=if_neg a;clear a;go_wp2_with fail
  go_ret;exact⟨by rw[d.out];rfl,k.out⟩
def DI(P:Nat):Option Nat->Value
 |some i=>.pointer (some ⟨P,5+i*7,none⟩)
 |none=>.pointer none
set_option maxHeartbeats 1600000 in
theorem iy{w:World}{P B S b N L aN hand mp:Nat}{F:List Fr}{H:List (Option Nat)}(h:aO w P B S b N L aN hand mp F)(hm:dJ w mp H)(n:Int)(a: -9223372036854775808<=n/\n<=9223372036854775807):
 Calls Tryz.prog 41 #[.pointer (some ⟨P,0,none⟩),.int .i64 n] w fun e w'=>e=.returned (DI P (hz H n))/\w'=w:=by
 have c5:=h.qC;have hl:=hm.look_ok a.1 a.2;have hs:∀i,hz H n=some i->i<64:=fun i c=>hm.small a.1 a.2 c;clear h hm a;generalize hz H n=x at*
 cases x with
 |none=>
  clear hs;go_enter Tryz.func41,Tryz.ntmps41;go_wp2_with fail
  go_ret;exact⟨rfl,rfl⟩
 |some i=>
  have c:=hs i rfl;have d:(i:Int)<64:=by omega
  clear hs;go_enter Tryz.func41,Tryz.ntmps41;go_wp2_with fail
  go_ret;exact⟨rfl,rfl⟩
theorem Br{a c:Nat}(h:0<c):(a%c+1)%c=(a+1)%c:=by rw[Nat.add_mod (a%c),Nat.mod_mod,<-Nat.add_mod]
theorem ph{hand j c:Nat}:(hand+(c+j))%c=(hand+j)%c:=by rw[show hand+(c+j)=(hand+j)+c by omega,Nat.add_mod_right]
theorem Dt{hand c a:Nat}(d:hand<c)(b:a<c):∃j,c<=j/\j<2*c/\(hand+j)%c=a:=by
 rcases Nat.lt_or_ge a hand with h|h
 ·refine⟨c+(a+c-hand),by omega,by omega,?_⟩;rw[ph,show hand+(a+c-hand)=a+c by omega,Nat.add_mod_right,Nat.mod_eq_of_lt b]
 ·refine⟨c+(a-hand),by omega,by omega,?_⟩;rw[ph,show hand+(a-hand)=a by omega,Nat.mod_eq_of_lt b]
def fW(F a:List Fr):Prop:=∀j,∃x,fa a j={fa F j with used:=x}
theorem fW.refl(F:List Fr):fW F F:=fun j=>⟨_,rfl⟩
theorem fW.set{F a:List Fr}(h:fW F a){i:Nat}(c:i<a.length)(x:Bool):fW F (a.set i {fa a i with used:=x}):=fun j=>by
 rw[cr a c];by_cases e:j=i
 ·subst e;obtain⟨y,b⟩:=h j;exact⟨x,by rw[if_pos rfl,b]⟩
 ·rw[if_neg e];exact h j
theorem fW.pins{F a:List Fr}(h:fW F a)(j:Nat):(fa a j).pins=(fa F j).pins:=by obtain⟨x,e⟩:=h j;rw[e]
def Ii(P B S b N L aN mp:Nat)(F:List Fr)(h:Nat)(w:World)(e:Ending)(w':World):Prop:=
 ∃(i a:Nat)(ok:Bool)(c:List Fr),e=.returned (.tuple #[.int .i64 (i:Int),.bool ok])/\aO w' P B S b N L aN a mp c/\a<aN/\fW F c/\(∀j,aN<=j->fa c j=fa F j)/\Touch (·=P) w w'/\
  (h<aN->i=h/\ok=true/\c=F)/\(¬h<aN->(ok=true->i<aN/\(fa F i).pins=0)/\(ok=false->∀j,j<aN->(fa F j).pins≠0))
def Hk(P B S b N L aN mp:Nat)(F:List Fr)(hand:Nat)(w0:World)(i:Value)(wr:World):Prop:=
 ∃(t:Nat)(a:List Fr),t<=2*aN/\i=.int .i64 (t:Int)/\aO wr P B S b N L aN ((hand+t)%aN) mp a/\fW F a/\(∀j,aN<=j->fa a j=fa F j)/\Touch (·=P) w0 wr/\(∀j,j<t->j<aN->(fa a ((hand+j)%aN)).used=false)/\(∀j,aN<=j->j<t->(fa F ((hand+j)%aN)).pins≠0)
set_option maxHeartbeats 3200000 in
set_option maxRecDepth 20000 in
theorem oV{w:World}{P B S b N L aN hand mp:Nat}{F:List Fr}{H:List (Option Nat)}(h:aO w P B S b N L aN hand mp F)(hm:dJ w mp H)(ad:1<=aN)(hc:aN<=64)(hh:hand<aN)(O:H.countP Option.isSome<=aN):
 Calls Tryz.prog 73 #[.pointer (some ⟨P,0,none⟩)] w fun e w'=>Ii P B S b N L aN mp F (H.countP Option.isSome) w e w':=by
 have c3:=h.Fs;have c5:=h.qC;have q:=fun n=>(show dJ (w.drewN n) mp H from hm.al ((Touch.refl (fun _=>False) w).drewN n) id).jA;have J:=hm.jA;have HR:=Lib.hid h;have m:Hid (1<=aN/\aN<=64/\hand<aN):=⟨ad,hc,hh⟩
 obtain⟨k,hk⟩:∃k,k=H.countP Option.isSome:=⟨_,rfl⟩
 rw[<-hk]at J q O⊢;clear hm hk h ad hc hh;by_cases f:k<aN
 case pos=>
  have hi:(k:Int)<(aN:Int):=by omega
  have D:=Lib.hid f;clear f O;go_enter Tryz.func73,Tryz.ntmps73;go_upto_region 1 with(fail)
  go_quiet (fail)
  have aa:=q nq;have s:Hid (aO (w.drewN nq) P B S b N L aN hand mp F):=HR.out.al ((Touch.refl (fun _=>False) w).drewN nq) id;have U:Hid (Touch (·=P) w (w.drewN nq)):=(Touch.refl _ w).drewN nq;clear q J c3 c5;generalize w.drewN nq=wq at*
  have c5:=s.out.qC;go_wp2_with fail
  go_ret2
  exact⟨k,hand,true,F,rfl,s.out,m.out.2.2,fW.refl F,(fun _ _=>rfl),U.out,fun _=>⟨rfl,rfl,rfl⟩,fun h=>absurd D.out h⟩
 have hi:¬(k:Int)<(aN:Int):=by omega
 have D:Hid (¬k<aN):=f;have aq:=IntWalk.i64_in (2*(aN:Int)) (by have:=m.out;omega);clear f O;go_enter Tryz.func73,Tryz.ntmps73;go_upto_region 1 with(fail)
 go_quiet (fail)
 have aa:=q nq;have s:Hid (aO (w.drewN nq) P B S b N L aN hand mp F):=HR.out.al ((Touch.refl (fun _=>False) w).drewN nq) id;have U:Hid (Touch (·=P) w (w.drewN nq)):=(Touch.refl _ w).drewN nq;clear q J c3 c5 aa;generalize w.drewN nq=wq at*
 have c3:=s.out.Fs;go_wp2_with fail
 clear c3;go_loopw [26] (fun i wr=>Hk P B S b N L aN mp F hand w i wr) (fun i _=>2*aN-(intOf i).toNat)
 case atStart=>exact⟨0,F,Nat.zero_le _,rfl,by rw[Nat.add_zero,Nat.mod_eq_of_lt m.out.2.2];exact s.out,fW.refl F,(fun _ _=>rfl),U.out,fun j K=>absurd K (Nat.not_lt_zero j),fun j _ K=>absurd K (Nat.not_lt_zero j)⟩
 case round=>
  obtain⟨t,y,ht,rfl,c,A,G,z,hu,hp⟩:=hrel;have x:=Lib.hid G;clear G;have I:=Lib.hid c;have W:=Lib.hid A;have au:=Lib.hid z;have HU:=Lib.hid hu;have ae:=Lib.hid hp;by_cases f:t<2*aN
  case neg=>
   obtain rfl:t=2*aN:=by omega
   have ao:¬((2*aN:Nat):Int)<2*(aN:Int):=by omega
   clear c A z hu hp f ht;go_wp2_with fail
   go_ret2
   refine⟨0,_,false,y,rfl,I.out,Nat.mod_lt _ (by have:=m.out;omega),W.out,x.out,au.out,fun h=>absurd h D.out,fun _=>⟨(fun e=>by cases e),fun _ j K=>?_⟩⟩;obtain⟨j',T,l,R⟩:=Dt m.out.2.2 K;rw[<-R];exact ae.out j' T l
  have HT:=Lib.hid f;have ao:(t:Int)<2*(aN:Int):=by omega
  obtain⟨hd,r⟩:∃hd,hd=(hand+t)%aN:=⟨_,rfl⟩
  have ab:hd<aN:=by rw[r];exact Nat.mod_lt _ (by have:=m.out;omega)
  rw[<-r]at c I;have Y:=Lib.hid r;have C:hd<64:=by have:=m.out;omega
  have ay:(hd:Int)<64:=by omega
  have E:=Lib.hid C;have ah:=Lib.hid ab;have c3:=c.Fs;have c4:=c.Gr;have f4:=c.free 454;have an:=IntWalk.i64_in ((hd:Int)+1) (by omega);obtain⟨l,M⟩:∃l,l=(hd+1)%aN:=⟨_,rfl⟩
  have ak:((hd:Int)+1)%(aN:Int)=(l:Int):=by rw[M];norm_cast
  have aj:¬(aN:Int)=0:=by have:=m.out;omega
  have ag:Hid (l=(hand+(t+1))%aN):=by show _=_;rw[M,r,Br (by have:=m.out;omega),Nat.add_assoc]
  have a:=c.CW l;have V:Hid (Touch (·=P) w (wr.setCell ⟨P,454,none⟩ (.int .i64 (l:Int)))):=z.trans (Touch.set P 454 _ rfl);obtain⟨W2,Q⟩:∃W2,W2=wr.setCell ⟨P,454,none⟩ (.int .i64 (l:Int)):=⟨_,rfl⟩
  rw[<-Q]at a V;have d:=Lib.hid a;have g3:=a.fr C 3 (by decide) (v:=.int .i64 ((fa y hd).pins:Int)) rfl;have g6:=a.fr C 6 (by decide) (v:=.bool (fa y hd).used) rfl;have k6:=a.free (5+hd*7+6);have Z:=A.pins hd;have af:=Lib.hid Z;clear c A z hu hp f ht r M a Z ab C;go_upto_region 7 with(fail)
  rw[<-Q];clear c3 c4 f4 Q an ak aj aq;have o:=d.out.set E.out 6 (by decide) (.bool false) {fa y hd with used:=false} rfl;have p:(aN<=t->(fa F hd).pins≠0)->Hk P B S b N L aN mp F hand w (.int .i64 ((t+1:Nat):Int)) (W2.setCell ⟨P,5+hd*7+6,none⟩ (.bool false)):=fun ai=>by
   refine⟨t+1,_,HT.out,rfl,by rw[<-ag.out];exact o,W.out.set (by rw[d.out.len];exact E.out) false,(fun j K=>by rw[cr y (by rw[d.out.len];exact E.out),if_neg (by have:=ah.out;omega)];exact x.out j K),V.out.trans (Touch.set P _ _ rfl),fun j T l=>?_,fun j T l=>?_⟩
   ·rw[cr y (by rw[d.out.len];exact E.out)];by_cases e:(hand+j)%aN=hd
    ·rw[if_pos e]
    ·rw[if_neg e];refine HU.out j ?_ l;rcases Nat.lt_or_ge j t with R|R
     ·exact R
     ·exact absurd (by rw[Y.out,show j=t by omega]) e
   ·rcases Nat.lt_or_ge j t with R|R
    ·exact ae.out j T R
    ·have e:j=t:=by omega
     rw[e,<-Y.out];exact ai (by omega)
  have u:=Lib.hid p;have ax:=IntWalk.i64_in ((t:Int)+1) (by have:=m.out;have:=HT.out;omega);clear p o;by_cases g:(fa y hd).pins=0
  ·rw[g]at g3;cases hus:(fa y hd).used with
   |false=>
    rw[hus]at g6;have X:Hid ((fa F hd).pins=0):=by show _=_;rw[<-af.out];exact g
    clear g hus;go_wp2_with fail
    go_ret2
    exact⟨hd,l,true,y,rfl,d.out,by rw[ag.out];exact Nat.mod_lt _ (by have:=m.out;omega),W.out,x.out,V.out,fun h=>absurd h D.out,fun _=>⟨fun _=>⟨ah.out,X.out⟩,fun e=>by cases e⟩⟩
   |true=>
    have ar:=Lib.hid hus;rw[hus]at g6;clear g hus;go_wp2_with fail
    go_roundw
    case rel=>
     refine u.out fun h=>?_;have T:=HU.out (t-aN) (by have:=m.out;omega) (by have:=HT.out;omega);rw[<-ph,show aN+(t-aN)=t by omega,<-Y.out,ar.out]at T;cases T
    case measure=>have:=HT.out;simp[intOf];omega
  ·have X:Hid ((fa F hd).pins≠0):=by show _≠_;rw[<-af.out];exact g
   have aw:¬((fa y hd).pins:Int)=0:=by omega
   have av:(((fa y hd).pins:Int)==0)=false:=by simp;omega
   clear g;go_wp2_with fail
   go_roundw
   case rel=>exact u.out fun _=>X.out
   case measure=>have:=HT.out;simp[intOf];omega
structure Ah(w:World)(s:Po.S)(f:Fr):Prop where
 bj:f.bj=(s.now f.aA).1
 body:aV w f.u (s.now f.aA).2
 pins:s.pins f.aA=f.pins
 first:s.first f.aA=if f.bo then some f.first else none
 fl:f.first<18446744073709551616
structure eh(w:World)(B L P S b N hand mp:Nat)(F:List Fr)(H:List (Option Nat))(s:Po.S):Prop where
 row:aO w P B S b N L s.aC hand mp F
 map:dJ w mp H
 hlen:H.length=N
 ar:s.ar=kO S b N
 aN:1<=s.aC/\s.aC<=64
 hand:hand<s.aC
 held:s.held=cJ H
 nR:∀k i,H.getD k none=some i->i<s.held.length/\(fa F i).aA=k
 jN:∀i,i<s.held.length->H.getD (fa F i).aA none=some i
 fr:∀i,i<s.held.length->Ah w s (fa F i)
 rest:∀i,s.held.length<=i->fa F i=Fr.zero
 aQ:Po.Good s
 n16:N<=16384
 ne:P≠mp
 zS:∀i g,(fa F i).u.ownBlock=some g->g≠P/\g≠mp
def eQ(P mp:Nat)(F:List Fr)(i:Nat):Prop:=i=P\/i=mp\/∃j,(fa F j).u.ownBlock=some i
def jO(X:Nat->Prop)(w:World)(B L P:Nat)(s:Po.S):Prop:=∃S b N hand mp F H,eh w B L P S b N hand mp F H s/\X=eQ P mp F
section
variable{w w':World}{B L P S b N hand mp:Nat}{F:List Fr}{H:List (Option Nat)}{s:Po.S}
theorem Ah.al{T:Nat->Prop}{f:Fr}(h:Ah w s f)(a:Touch T w w')(hs:∀g,f.u.ownBlock=some g->¬T g):Ah w' s f:=⟨h.bj,a.bz h.body (fun _=>hs),h.pins,h.first,h.fl⟩
theorem eh.bQ{T:Nat->Prop}(h:eh w B L P S b N hand mp F H s)(a:Touch T w w')(hs:∀i,eQ P mp F i->¬T i):eh w' B L P S b N hand mp F H s:=
 ⟨h.row.al a (hs P (Or.inl rfl)),h.map.al a (hs mp (Or.inr (Or.inl rfl))),h.hlen,h.ar,h.aN,h.hand,h.held,h.nR,h.jN,fun i c=>(h.fr i c).al a fun g d=>hs g (Or.inr (Or.inr ⟨i,d⟩)),h.rest,h.aQ,h.n16,h.ne,h.zS⟩
theorem aV.ju{v:Value}{l:List Nat}(h:aV w v l)(h0:0<l.length):∀g,v.ownBlock=some g->g<w.heap.size:=fun g a=>by
 obtain⟨p,cap,b,-,-,hp⟩:=h.form;obtain⟨d,off,rfl,c⟩:=hp h0;rw[b]at a;simp only[Value.ownBlock,Option.some.injEq]at a;rw[<-a];exact kA (c 0 h0)
theorem eh.lt(h:eh w B L P S b N hand mp F H s):∀i,eQ P mp F i->i<w.heap.size:=by
 rintro i(rfl|rfl|⟨j,a⟩)
 ·exact h.row.lt
 ·exact h.map.lt
 ·rcases Nat.lt_or_ge j s.held.length with hl|hl
  ·have c:=(h.fr j hl).body;exact c.ju (by rw[(h.aQ.ok _).2.1];decide) i a
  ·rw[h.rest j hl]at a;cases a
theorem eh.bounds(h:eh w B L P S b N hand mp F H s):s.held.length<=s.aC/\H.countP Option.isSome=s.held.length:=⟨h.aQ.qg,by rw[h.held,gy]⟩
structure cX(U V:Nat->Prop)(w:World)(B L P S b N hand mp:Nat)(F:List Fr)(H:List (Option Nat))(n:Nat)(d:Dk.aq)(lg:Wl.S)(s:Po.S):Prop where
 log:ij U V w B L d lg
 pm:eh w B L P S b N hand mp F H s
 dW:Rg.gC n S b N
 hw:Rg.qi S b N d s.bJ
 off:∀i,cY U V i->¬eQ P mp F i
 im:Po.xe lg s
 kf:∀i,Rg.Has S b N i->i<lg.at_\/lg.at_+lg.count+2<=i
 bG:Wl.aY n d
 n16:n<=65536
theorem cX.bQ{T:Nat->Prop}{U V:Nat->Prop}{n:Nat}{d:Dk.aq}{lg:Wl.S}(h:cX U V w B L P S b N hand mp F H n d lg s)(a:Touch T w w')(hs:∀i,cY U V i->¬T i)(hp:∀i,eQ P mp F i->¬T i):cX U V w' B L P S b N hand mp F H n d lg s:=
 ⟨dS h.log a hs,h.pm.bQ a hp,h.dW,h.hw,h.off,h.im,h.kf,h.bG,h.n16⟩
theorem cX.below{U V:Nat->Prop}{n:Nat}{d:Dk.aq}{lg:Wl.S}(h:cX U V w B L P S b N hand mp F H n d lg s)(c:Below w.heap.size w w'):cX U V w' B L P S b N hand mp F H n d lg s:=
 h.bQ (T:=fun i=>w.heap.size<=i) (.dC c fun _ _ h=>h) (fun i a=>by have:=fg h.log i a;omega) fun i a=>by have:=h.pm.lt i a;omega
theorem sT{S b N:Nat}{d j:Dk.aq}{f:Nat->Po.Pg}{at_ c:Nat}(h:Rg.qi S b N d f)(e:Wl.il at_ c d j)(g:∀i,Rg.Has S b N i->i<at_\/at_+c+2<=i):Rg.qi S b N j f:=
 h.same (fun i a=>(e i (g i a) (h.idle i a)).1) fun i a=>(e i (g i a) (h.idle i a)).2
end
end Go.Proofs.YtbpodmallknhfaaGreat
