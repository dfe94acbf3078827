/- Parts of a proof. Conditions: as each row says. -/
import Derived.Test.YtbpodmallknhfaaGreatPl09
import Derived.Test.YtbpodmallknhfaaGreatPl24
import Derived.Test.YtbpodmallknhfaaGreatPl33
import Derived.Test.YtbpodmallknhfaaGreatPl27
import Derived.Test.YtbpodmallknhfaaGreatPl31
import Derived.Test.YtbpodmallknhfaaGreatPl32
import Derived.Test.YtbpodmallknhfaaGreatPl26
import Derived.Test.YtbpodmallknhfaaGreatPl19
import Derived.Test.YtbpodmallknhfaaGreatPl28
import Derived.BigQuiet
namespace Go.Proofs.YtbpodmallknhfaaGreat
open Go.RowKit
def rW(B S b N:Nat):Value:=.agg #[.pointer (some ⟨B,0,none⟩),.int .i64 (S:Int),.int .i64 (b:Int),.int .i64 (N:Int)]
def Gn(B S b N:Nat):Array Value:=#[.pointer (some ⟨B,0,none⟩),.int .i64 (S:Int),.int .i64 (b:Int),.int .i64 (N:Int)]
def fT(W:World)(Q B S b N:Nat):Prop:=W.heap[Q]?=some (.cells (Gn B S b N) 95 (0,0))
section
variable{W:World}{Q B S b N:Nat}
theorem fT.c0(h:fT W Q B S b N):W.cell? ⟨Q,0,none⟩=some (.pointer (some ⟨B,0,none⟩)):=ah h 0 rfl
theorem fT.c1(h:fT W Q B S b N):W.cell? ⟨Q,1,none⟩=some (.int .i64 (S:Int)):=ah h 1 rfl
theorem fT.c2(h:fT W Q B S b N):W.cell? ⟨Q,2,none⟩=some (.int .i64 (b:Int)):=ah h 2 rfl
theorem fT.c3(h:fT W Q B S b N):W.cell? ⟨Q,3,none⟩=some (.int .i64 (N:Int)):=ah h 3 rfl
theorem fT.below{a:World}(h:fT W Q B S b N)(c:Below W.heap.size W a):fT a Q B S b N:=(c.block Q (GN h)).trans h
theorem fT.aj{a:World}{T:Nat->Prop}(h:fT W Q B S b N)(c:Touch T W a)(hs:¬T Q):fT a Q B S b N:=c.row h hs
end
theorem nV(w:World)(B S b N:Nat):∃W,W=w.alloc (.cells #[.pointer (some ⟨B,0,none⟩),.int .i64 (S:Int),.int .i64 (b:Int),.int .i64 (N:Int)] 95)/\fT W w.heap.size B S b N/\Below w.heap.size w W/\W.heap.size=w.heap.size+1:=
 ⟨_,rfl,GM _ _,(GF _ _).alloc (GH _) _,by simp⟩
theorem A5(B S b N:Nat)(m:Int)(w:World):Calls Tryz.prog 71 #[rW B S b N,.int .i64 m] w fun e w'=>e=.returned (.bool (decide (0<=m/\m<(N:Int))))/\Below w.heap.size w w':=by
 obtain⟨W,j,d,i,-⟩:=nV w B S b N;obtain⟨Q,f⟩:∃Q,Q=w.heap.size:=⟨_,rfl⟩
 rw[<-f]at d;have c3:=d.c3;have g:=GD i;clear i d;unfold rW;go_enter Tryz.func71,Tryz.ntmps71;go_upto_region 1 with(fail)
 rw[<-j,<-f];clear j f;by_cases h0:0<=m
 ·by_cases a:m<(N:Int)
  ·have c:Hid (decide (0<=m/\m<(N:Int))=true):=GK ⟨h0,a⟩;go_wp2_with fail
   go_ret;exact⟨by first|rfl|(rw[c.out];rfl)|simp[h0,a]|(simp[h0];omega),g.out⟩
  ·have c:Hid (decide (0<=m/\m<(N:Int))=false):=GY fun h=>a h.2;have k:(N:Int)<=m:=by omega
   go_wp2_with fail
   go_ret;exact⟨by first|rfl|(rw[c.out];rfl)|simp[h0,a]|(simp[h0];omega),g.out⟩
 ·have c:Hid (decide (0<=m/\m<(N:Int))=false):=GY fun h=>h0 h.1;have l:m<0:=by omega
  go_wp2_with fail
  go_ret;exact⟨by first|rfl|(rw[c.out];rfl)|simp[h0,a]|(simp[h0];omega),g.out⟩
def Df(d:Dk.ak)(S:Nat):Nat->List Nat
 |0=>[]
 |k+1=>Df d S k++Dk.sv d (S+k)
theorem nK(d:Dk.ak)(S:Nat):Df d S 5=Rg.iG d S:=by
 simp only[Df,Rg.iG,Ia,Hg,G3]
theorem kL{n:Nat}{d:Dk.ak}(h:Wl.aX n d){i:Nat}(a:i<n):(Dk.sv d i).length=128/\∀x∈Dk.sv d i,x<256:=Wl.rM h.ok (by rw[h.sz];exact a)
theorem na{n S:Nat}{d:Dk.ak}(h:Wl.aX n d):∀k,S+k<=n->(Df d S k).length=128*k
 |0,_=>rfl
 |k+1,hk=>by
  show(Df d S k++Dk.sv d (S+k)).length=_;rw[GI,na h k (by omega),(kL h (show S+k<n by omega)).1];omega
def Gl(d:Dk.ak)(S:Nat)(w:World)(e:Ending)(w':World):Prop:=∃u,e=.returned (.tuple #[u,.int .i64 ((if d.off then 6 else 0:Nat):Int)])/\Below w.heap.size w w'/\(d.off=false->Own w.heap.size w' u (Rg.iG d S))
set_option maxHeartbeats 3200000 in
set_option maxRecDepth 20000 in
theorem su{w:World}{B m1 m2 n S b N:Nat}{d:Dk.ak}(T:bc w B m1 m2 d)(U:Wl.aX n d)(R:S+5<=n)(O:n<=65536):
 Calls Tryz.prog 69 #[rW B S b N] w fun e w'=>Gl d S w e w':=by
 obtain⟨W,P,C,o,q⟩:=nV w B S b N;obtain⟨Q,y⟩:∃Q,Q=w.heap.size:=⟨_,rfl⟩
 rw[<-y]at C;have HR:=GD C;have Y:=GD o;have HP:=GD (T.below o);have I:=GD U;have z:Hid (S+5<=n/\n<=65536):=⟨R,O⟩
 have HQ:=GD y;have F:=GD q;clear T o U R O C q;unfold rW;go_enter Tryz.func69,Tryz.ntmps69;go_upto_region 1 with(fail)
 rw[<-P,<-y];clear P y;go_wp2_with fail
 go_loopw [4,8] (fun v i wr=>∃K:Nat,K<=5/\i=.int .i64 K/\Own W.heap.size wr v (Df d S K)/\Below W.heap.size W wr/\(K=0\/d.off=false)) (fun _ i _=>5-(intOf i).toNat)
 case atStart=>exact⟨0,G7 _,rfl,cU _ _,GF _ _,GJ rfl⟩
 case round=>
  obtain⟨K,V,rfl,A,o,g⟩:=hrel;have X:=GD A;have a:=GD o;have HO:=GD g;obtain⟨pv,cv,rfl,-,-,-⟩:=A.aP.form;clear A o g;have k:=HR.out.below a.out;have c0:=k.c0;have c1:=k.c1;clear k;by_cases hlt:K<5
  ·have p:Hid (K<5):=hlt;have hi:(K:Int)<5:=by omega
   have D:=GW ((S:Int)+(K:Int)) (by have:=z.out;omega);have l:=jI (HP.out.below a.out) ((S+K:Nat):Int);rw[Rg.gH I.out (i:=S+K) (by have:=z.out;omega)]at l;have x:=GD l;clear l V hlt;go_wp2_with fail
   rw[show(S:Int)+(K:Int)=((S+K:Nat):Int)by omega];refine x.out.mono ?_;rintro e Z⟨u,rfl,E,s⟩;obtain⟨pu,cu,rfl,-,-,-⟩:=E.aP.form;have HM:=GD E;have f:=GD s;clear E s x D;rcases ID d.off with j|j
   ·have c:Hid (d.off=true):=j;rw[j,GU rfl];dsimp only;clear j;go_wp2_with fail
    go_ret2
    refine⟨_,by rw[c.out];rfl,Y.out.trans ((a.out.trans (f.out.mono a.out.size)).mono (by have:=F.out;omega)),fun e=>by rw[c.out]at e;cases e⟩
   ·have c:Hid (d.off=false):=j;have J:Hid (aJ Z (.slice pu (Dk.sv d (S+K)).length cu) (Dk.sv d (S+K))):=by
     have:=HM.out.aP;rw[j,GQ (by decide)]at this;exact this
    rw[j,GQ (by decide)];have HL:=GD (kL I.out (show S+K<n by have:=z.out;have:=p.out;omega)).1;have L:=GD (na (S:=S) I.out K (by have:=z.out;have:=p.out;omega));have ab:=GW ((K:Int)+1) (by have:=p.out;omega);clear j;dsimp only;go_upto_region 8 with(fail)
    iterate 7 go_step
    refine aA rfl (.tmp 25) (.tmp 26) rfl W.heap.size _ (Df d S K) rfl (X.out.below f.out) _ (Dk.sv d (S+K)) rfl J.out (by rw[HL.out,L.out];have:=p.out;omega) (by have h2:=a.out.size;have h3:=f.out.size;omega) ?_;intro v' w4 m r _;have H:=GD m;have M:=GD r;obtain⟨aa,ad,rfl,-,-,-⟩:=m.aP.form;clear m r;go_wp2_with fail
    go_roundw
    case rel=>refine⟨K+1,by have:=p.out;omega,by go_num,?_,(a.out.trans (f.out.mono a.out.size)).trans M.out,GL c.out⟩;have h:=H.out;rw[GI]at h;exact h
    case measure=>have:=p.out;simp[intOf];omega
  ·obtain rfl:K=5:=by omega
   have t:=HO.out.resolve_left (by decide);have G:Hid (d.off=false):=t;have hi:¬((5:Nat):Int)<5:=by decide
   clear hlt V t;go_wp2_with fail
   go_ret2
   refine⟨_,by rw[G.out];rfl,Y.out.trans (a.out.mono (by have:=F.out;omega)),fun _=>?_⟩;rw[<-nK];exact X.out.from (by have:=F.out;omega)
theorem Rg.vI{n:Nat}{d:Dk.ak}(h:Wl.aX n d){p k:Nat}(hp:p<n)(a:d.off=false):Rg.bL d p (k+1)=if Dk.sv d p=Dk.blank then Rg.jV (Dk.write d (p:Int) Dk.blank) (fun e=>Rg.bL e (p+1) k)else Rg.bL d (p+1) k:=by
 show(if(Dk.read d (p:Int)).2≠0 then _ else _)=_;rw[Rg.nh h a hp];rfl
theorem Rg.yz{n:Nat}{d:Dk.ak}(h:Wl.aX n d){p k:Nat}(hp:p<n)(a:d.off=true):Rg.bL d p (k+1)=(d,6):=by
 show(if(Dk.read d (p:Int)).2≠0 then _ else _)=_;rw[Rg.gH h hp,a];rfl
def we(B b a:Nat)(r:Dk.ak×Nat)(w:World)(e:Ending)(w':World):Prop:=e=.returned (.int .i64 ((r.2:Nat):Int))/\bc w' B b a r.1/\Touch (DS B b a) w w'
set_option maxHeartbeats 3200000 in
set_option maxRecDepth 20000 in
theorem Bk{w:World}{B m1 m2 n S b N m:Nat}{d:Dk.ak}(hP:bc w B m1 m2 d)(hN:Wl.aX n d)(ay:b+4*N<=n)(hm:m<N)(hn:n<=65536):
 Calls Tryz.prog 108 #[rW B S b N,.int .i64 (m:Int)] w fun e w'=>we B m1 m2 (Rg.bL d (b+4*m) 4) w e w':=by
 obtain⟨W,hW,I,hb,ad⟩:=nV w B S b N;obtain⟨Q,hQ⟩:∃Q,Q=w.heap.size:=⟨_,rfl⟩
 rw[<-hQ]at I;obtain⟨F,hF⟩:∃F,F=b+4*m:=⟨_,rfl⟩
 rw[<-hF];have aH:=GW (4*(m:Int)) (by omega);have aF:IntKind.i64.wrap ((b:Int)+4*(m:Int))=(F:Int):=by rw[GW _ (by omega),hF];omega
 have ag:(Instr.makeSlice 57 (.int .i64 128) (.int .i64 128)).run Tryz.prog W=.ok (.slice (some ⟨W.heap.size,0,none⟩) 128 128) (W.alloc (.cells ((Pg.aY 128).map bv).toArray 5)):=fz 128 (by decide) W;have O:=jM 128 (by decide) W;have aL:=I.c2;have C:Below w.heap.size w (W.alloc (.cells ((Pg.aY 128).map bv).toArray 5)):=hb.alloc (by omega) _;obtain⟨W1,P⟩:∃W1,W1=W.alloc (.cells ((Pg.aY 128).map bv).toArray 5):=⟨_,rfl⟩
 rw[<-P]at ag O C;have HR:=GD (I.below (P▸(GF _ W).alloc (GH _) _:Below W.heap.size W W1));have HB:=GD C;have HP:=GD (hP.below C);have HN:=GD hN;have HS:Hid (F+4<=n/\n<=65536):=by show _/\_;omega
 have HO:=GD O;have aw:=GD hP.lt;have ao:Hid (W.heap.size=w.heap.size+1/\Q=w.heap.size):=⟨ad,hQ⟩
 obtain⟨G,hG⟩:∃G,G=W.heap.size:=⟨_,rfl⟩
 have HG:=GD hG;rw[<-hG]at ag;clear hP hb hN ay hm hn I ad hF O C;unfold rW;go_enter Tryz.func108,Tryz.ntmps108;go_upto_region 1 with(fail)
 rw[<-hW,<-hQ];clear hW hQ P hG;go_wp2_with fail
 go_loopw [7] (fun i wr=>∃(K:Nat)(dk:Dk.ak),K<=4/\i=.int .i64 ((F+K:Nat):Int)/\bc wr B m1 m2 dk/\Wl.aX n dk/\Touch (DS B m1 m2) W1 wr/\Rg.bL d F 4=Rg.bL dk (F+K) (4-K)) (fun i _=>F+4-(intOf i).toNat)
 case atStart=>exact⟨0,d,G7 _,rfl,HP.out,HN.out,Touch.refl _ _,rfl⟩
 case round=>
  obtain⟨K,dk,hK,rfl,hp,af,ht,ah⟩:=hrel;have X:=GD hp;have q:=GD af;have HT:=GD ht;have D:=GD ah;have R:¬DS B m1 m2 Q:=fun h=>by have:=aw.out Q h;have:=ao.out;omega
  have T:¬DS B m1 m2 G:=fun h=>by have:=aw.out G h;have:=ao.out;have:=HG.out;omega
  have J:=HR.out.aj ht R;have az:=GD J;have A:=J.c0;have ai:aJ wr (.slice (some ⟨G,0,none⟩) 128 128) (Pg.aY 128):=by
   rw[HG.out];exact ht.aP HO.out.aP fun _ g e=>by
    simp only[Value.ownBlock,GO]at e;rw[<-e,<-HG.out];exact T
  have aC:=GD ai;have aE:=GD T;have aM:=GD R;have aI:=GW ((F:Int)+4) (by have:=HS.out;omega);clear hp af ht ah J ai T R;by_cases hlt:K<4
  ·have HK:Hid (K<4):=hlt;obtain⟨p,hp⟩:∃p,p=F+K:=⟨_,rfl⟩
   rw[<-hp];have a:=GD hp;have hi:(p:Int)<(F:Int)+4:=by omega
   have aK:=GW ((p:Int)+1) (by have:=HS.out;omega);have M:p<n:=by have:=HS.out;omega
   have L:=jI X.out (p:Int);rw[Rg.gH q.out M]at L;have aq:=GD L;have V:Hid (p<n):=M;clear L hK hlt hp M;go_wp2_with fail
   refine aq.out.mono ?_;rintro e w3⟨u,rfl,hM,t⟩;obtain⟨pu,cu,rfl,-,-,-⟩:=hM.aP.form;have HM:=GD hM;have Y:=GD (X.out.below t);have U:=GD (HT.out.trans (Touch.ax t));have aA:=GD (az.out.below t);have av:=GD (aC.out.below t);clear hM t aq A;have j:4-K=(4-(K+1))+1:=by have:=HK.out;omega
   rcases ID dk.off with z|z
   ·have c:Rg.bL d F 4=(dk,6):=by rw[D.out,<-a.out,j,Rg.yz q.out V.out z]
    have f:=GD c;rw[z,GU rfl];dsimp only;clear z c j;go_wp2_with fail
    go_ret;refine⟨by rw[f.out];rfl,by rw[f.out];exact Y.out,(Touch.ax HB.out).trans U.out⟩
   ·have l:=Rg.vI q.out (k:=4-(K+1)) V.out z;have aD:Hid (aJ w3 (.slice pu (Dk.sv dk p).length cu) (Dk.sv dk p)):=by
     have:=HM.out.aP;rw[z,GQ (by decide)]at this;exact this
    have o:=aG _ _ _ _ w3 aD.out av.out;rw[z,GQ (by decide)];dsimp only;by_cases hz:Dk.sv dk p=Dk.blank
    ·have s:Dk.sv dk p=Pg.aY 128:=hz;rw[GK s]at o;have x:=GD o;have aa:=gF Y.out (p:Int) (.slice (some ⟨G,0,none⟩) 128 128) (Pg.aY 128) av.out (fun _ g e=>by
      simp only[Value.ownBlock,GO]at e;rw[<-e];exact aE.out)
     have al:=GD aa;rw[GU hz]at l;have ae:Rg.Op (fun _=>True) n dk (Dk.write dk (p:Int) Dk.blank):=Rg.iQ q.out trivial V.out Dk.cP;have aB:=GD ae;have HC:Hid (Rg.bL d F 4=Rg.jV (Dk.write dk (p:Int) Dk.blank) fun e=>Rg.bL e (p+1) (4-(K+1))):=by show _=_;rw[D.out,<-a.out,j,l]
     have A:=aA.out.c0;clear o aa hz s z l ae j;go_wp2_with fail
     refine x.out.mono ?_;rintro e w4⟨rfl,rfl⟩;clear x;go_wp2_with fail
     refine al.out.mono ?_;rintro e w5⟨rfl,y,ab⟩;rw[show Pg.aY 128=Dk.blank from rfl]at y⊢;obtain⟨r,I⟩:∃r,r=Dk.write dk (p:Int) Dk.blank:=⟨_,rfl⟩
     rw[<-I]at y⊢;have Z:=HC.out;have v:=aB.out;rw[<-I]at Z v;have H:=GD Z;have au:=GD v;have ar:=GD y;have an:=GD (U.out.trans ab);obtain⟨dr,er⟩:=r;clear y ab al Z v I A;dsimp only;by_cases he:er=0
     ·subst he;have E:Hid (Rg.bL d F 4=Rg.bL dr (p+1) (4-(K+1))):=by show _=_;rw[H.out,Rg.eo _ rfl]
      clear H;go_wp2_with fail
      go_roundw
      case rel=>exact⟨K+1,dr,by have:=HK.out;omega,by rw[show F+(K+1)=p+1 by have:=a.out;omega];go_num,ar.out,au.out.ro.cy q.out,an.out,by rw[show F+(K+1)=p+1 by have:=a.out;omega];exact E.out⟩
      case measure=>have:=a.out;have:=HK.out;simp[intOf];omega
     ·have E:Hid (Rg.bL d F 4=(dr,er)):=by show _=_;rw[H.out,Rg.cH _ he]
      have h1:¬(er:Int)=0:=by omega
      have h2:((er:Int)!=0)=true:=by simp;omega
      clear H he;go_wp2_with fail
      go_ret;refine⟨by rw[E.out];rfl,by rw[E.out];exact ar.out,(Touch.ax HB.out).trans an.out⟩
    ·have s:¬Dk.sv dk p=Pg.aY 128:=hz;rw[GY s]at o;have x:=GD o;rw[GQ hz]at l;have HC:Hid (Rg.bL d F 4=Rg.bL dk (p+1) (4-(K+1))):=by show _=_;rw[D.out,<-a.out,j,l]
     clear o hz s z l j;go_wp2_with fail
     refine x.out.mono ?_;rintro e w4⟨rfl,rfl⟩;clear x;go_wp2_with fail
     go_roundw
     case rel=>exact⟨K+1,dk,by have:=HK.out;omega,by rw[show F+(K+1)=p+1 by have:=a.out;omega];go_num,Y.out,q.out,U.out,by rw[show F+(K+1)=p+1 by have:=a.out;omega];exact HC.out⟩
     case measure=>have:=a.out;have:=HK.out;simp[intOf];omega
  ·obtain rfl:K=4:=by omega
   have c:Rg.bL d F 4=(dk,0):=by rw[D.out];rfl
   have f:=GD c;clear c hlt hK A;go_wp2_with fail
   go_ret;refine⟨by rw[f.out];rfl,by rw[f.out];exact X.out,(Touch.ax HB.out).trans HT.out⟩
theorem Fl.map{b a:World->Prop}{i:Nat}{D:Nat->Bool}{w w':World}(h:Fl b a i D w)(f0:b w->b w')(f1:a w->a w'):Fl b a i D w':=⟨fun e=>f0 (h.s0 e),fun e=>f1 (h.s1 e)⟩
def CB(B b a Q S e:Nat)(i:Nat)(u:Value)(w:World):Prop:=
 match i with
 |0=>u=.pointer (some ⟨Q,0,none⟩)
 |1=>u=.pointer (some ⟨B,0,none⟩)
 |2=>u=.pointer (some ⟨Q,1,none⟩)
 |3=>u=.pointer (some ⟨Q,1,none⟩)
 |4=>u=.int .i64 (S:Int)
 |5=>∃G,u=.slice (some ⟨G,0,none⟩) 128 128/\¬DS B b a G/\aJ w u (Pg.aY 128)
 |6=>u=.int .i64 (e:Int)
 |7=>u=.int .i64 (e:Int)
 |_=>True
theorem nU(w:World)(B S b N k:Nat)(u:Value):∃W,W=(w.alloc (.cells #[.pointer (some ⟨B,0,none⟩),.int .i64 (S:Int),.int .i64 (b:Int),.int .i64 (N:Int)] 95)).alloc (.cells #[.int .u64 (k:Int),u] 59)/\fT W w.heap.size B S b N/\W.heap[w.heap.size+1]?=some (.cells #[.int .u64 (k:Int),u] 59 (0,0))/\Below w.heap.size w W/\W.heap.size=w.heap.size+2:=by
 obtain⟨W1,a,f,e,d⟩:=nV w B S b N;have c:=GM W1 (.cells #[.int .u64 (k:Int),u] 59);rw[d]at c;refine⟨_,rfl,?_,?_,?_,?_⟩
 ·rw[<-a];exact f.below ((GF _ W1).alloc (GH _) _)
 ·rw[<-a];exact c
 ·rw[<-a];exact e.alloc (by omega) _
 ·rw[<-a];simp;omega
theorem wF{n b N m:Nat}(a:b+4*N<=n)(hm:m<N):Pg.dV n (b:Int) (m:Int)=true/\Pg.place (b:Int) (m:Int)=b+4*m:=by
 refine⟨GK ⟨by omega,by omega,by omega,?_⟩,by unfold Pg.place;omega⟩;rw[Il (by omega)];omega
theorem Ap{n b N m:Nat}{d:Dk.ak}(e:Wl.aX n d)(c:b+4*N<=n)(hm:m<N){x:Po.Pg}(a:Po.cX x):Pg.write d (b:Int) (m:Int) x.1 x.2=Dk.jc d (b+4*m) (Dk.fX (Pg.form x.1 x.2)):=by
 obtain⟨g,f⟩:=wF c hm;unfold Pg.write;rw[GQ (by rw[a.2.1];decide),e.sz,GQ (by rw[g];decide),f]
set_option maxHeartbeats 3200000 in
set_option maxRecDepth 20000 in
theorem qd {w : World} {B C z n S b N m : Nat} {d : Dk.ak} (hP : bc w B C z d) (hN : Wl.aX n d) (ho : d.off = false) (hL : Rg.il n S b N) (hm : m < N) (hn : n ≤ 65536) (x : Po.Pg) (u : Value) (hx : Po.cX x) (hB : aJ w u x.2) (aV : ∀ g, u.ownBlock = some g → ¬ DS B C z g) :
    Calls Tryz.prog 72 #[rW B S b N, .int .i64 (m : Int), ed x.1 u] w fun e w' => we B C z (Rg.dB d S (b + 4 * m) (Pg.form x.1 x.2)) w e w' := by
  have aE := hL.base
  have hS := hL.spare
  have U := Rg.mm (A := fun _ => True) (Dk.fX (Pg.form x.1 x.2)) (p := b + 4 * m) hN ho (Dk.nQ (by rw [Pg.bP, hx.2.1]) (Pg.iA hx.2.2)) (by rw [Dk.ir]; omega) (fun _ _ => trivial)
  obtain ⟨p, cap, hu, -, -, -⟩ := hB.form
  obtain ⟨W, hW, hr, P, hb, ba⟩ := nU w B S b N x.1 u
  obtain ⟨Q, hQ⟩ : ∃ Q, Q = w.heap.size := ⟨_, rfl⟩
  rw [← hQ] at hr P
  have F := hr.c0
  have aU := hr.c2
  have p0 := ah P 0 (v := .int .u64 (x.1 : Int)) rfl
  have p1 := ah P 1 (v := u) rfl
  have aF : ¬ DS B C z Q := fun h => by have := hP.lt Q h; omega
  have an := sY (hP.below hb) (b : Int) (m : Int) x.1 u x.2 (by omega) hx.1 (hB.below hb)
  rw [Ap hN aE hm hx] at an
  have aL := GD an
  have HR := GD hr
  have HB := GD hb
  have av := GD aF
  have aR := GD U
  have HN := GD hN
  have HS : Hid (S < n) := by show _ < _; omega
  have X : Hid (Rg.dB d S (b + 4 * m) (Pg.form x.1 x.2) = Rg.jV (Dk.jc d (b + 4 * m) (Dk.fX (Pg.form x.1 x.2))) fun d => Rg.jV (Dk.sync d) fun d => Rg.jV (Dk.write d (S : Int) Dk.blank) Dk.sync) := rfl
  obtain ⟨V, ao⟩ : ∃ V, V = Rg.dB d S (b + 4 * m) (Pg.form x.1 x.2) := ⟨_, rfl⟩
  rw [← ao]
  have c := X.out
  rw [← ao] at c
  obtain ⟨r1, T⟩ : ∃ r1, r1 = Dk.jc d (b + 4 * m) (Dk.fX (Pg.form x.1 x.2)) := ⟨_, rfl⟩
  rw [← T] at c
  have L := aL.out
  rw [← T] at L
  have O := aR.out
  rw [← T] at O
  have s := GD c
  have Y := GD L
  have aQ := GD O
  clear aL X c L O aR ao T an U hb hr P hN aE hS hL hm hn hx hB aV hP aF
  subst hu
  unfold rW ed
  go_enter Tryz.func72, Tryz.ntmps72
  go_upto_region 1 with (fail)
  rw [← hW, ← hQ]
  clear hW hQ
  obtain ⟨d1, e1⟩ := r1
  go_wp2_with fail
  refine Y.out.mono ?_
  rintro e w1 ⟨rfl, aC, ae⟩
  have aw := GD aC
  have ar := GD ae
  have au := GD (HR.out.aj ae av.out)
  clear aC ae Y F aU p0 p1
  dsimp only
  by_cases he : e1 = 0
  case neg =>
    have a : Hid (V = (d1, e1)) := by show _ = _; rw [s.out, Rg.cH _ he]
    have h1 : ¬ (e1 : Int) = 0 := by omega
    have h2 : ((e1 : Int) != 0) = true := by simp; omega
    clear he
    go_wp2_with fail
    go_ret
    exact ⟨by rw [a.out]; rfl, by rw [a.out]; exact aw.out, (Touch.ax HB.out).trans ar.out⟩
  subst he
  have K : Hid (V = Rg.jV (Dk.sync d1) fun d => Rg.jV (Dk.write d (S : Int) Dk.blank) Dk.sync) := by show _ = _; rw [s.out, Rg.eo _ rfl]
  have aq := aQ.out.ro.cy HN.out
  have a7 := GD aq
  have E := Rg.ji (A := fun _ => True) aq
  have t := jE aw.out
  obtain ⟨r2, al⟩ : ∃ r2, r2 = Dk.sync d1 := ⟨_, rfl⟩
  rw [← al] at t E
  have r := K.out
  rw [← al] at r
  have q := GD r
  have H := GD t
  have aO := GD E
  have F := au.out.c0
  clear s K r t E al aq
  obtain ⟨d2, e2⟩ := r2
  go_wp2_with fail
  refine H.out.mono ?_
  rintro e w2 ⟨rfl, aB, ad⟩
  have aN := GD aB
  have aI := GD (ar.out.trans ad)
  have a1 := GD (au.out.aj ad av.out)
  clear aB ad H F aw ar au
  dsimp only
  by_cases he : e2 = 0
  case neg =>
    have a : Hid (V = (d2, e2)) := by show _ = _; rw [q.out, Rg.cH _ he]
    have h1 : ¬ (e2 : Int) = 0 := by omega
    have h2 : ((e2 : Int) != 0) = true := by simp; omega
    clear he
    go_wp2_with fail
    go_ret
    exact ⟨by rw [a.out]; rfl, by rw [a.out]; exact aN.out, (Touch.ax HB.out).trans aI.out⟩
  subst he
  have J : Hid (V = Rg.jV (Dk.write d2 (S : Int) Dk.blank) Dk.sync) := by show _ = _; rw [q.out, Rg.eo _ rfl]
  have a6 := GD (aO.out.ro.cy a7.out)
  have Z := GD (Rg.iQ (A := fun _ => True) a6.out (i := S) trivial HS.out Dk.cP)
  obtain ⟨r3, ai⟩ : ∃ r3, r3 = Dk.write d2 (S : Int) Dk.blank := ⟨_, rfl⟩
  have o := J.out
  have M := Z.out
  rw [← ai] at o M
  have I := GD o
  have a8 := GD M
  have aK := GD ai
  clear q J o Z M ai
  go_upto_region 7 with (fail)
  refine Ord.walk (CB B C z Q S r3.2) (fun D _ w' => Fl (fun w => bc w B C z d2 ∧ fT w Q B S b N ∧ Touch (DS B C z) W w) (fun w => bc w B C z r3.1 ∧ fT w Q B S b N ∧ Touch (DS B C z) W w) 6 D w') (Touch (DS B C z)) (by kernel_rfl) (by kernel_rfl) ?fr ?hfr ?hT (fun xs => Fl.first ⟨aN.out.below (GF _ _).ij, a1.out.below (GF _ _).ij, aI.out.drew⟩) ?he ?hend
  case hfr =>
    intro xs
    simp only [Ord.fill, Act.put, GP, GX, GV]
    rfl
  case hT =>
    intro k v wa wb ht y
    rcases k with _ | _ | _ | _ | _ | _ | _ | _ | k
    · exact y
    · exact y
    · exact y
    · exact y
    · exact y
    · obtain ⟨G, h1, h2, h3⟩ := y
      exact ⟨G, h1, h2, ht.aP h3 fun _ g e => by
        rw [h1] at e
        simp only [Value.ownBlock, GO] at e
        rw [← e]; exact h2⟩
    · exact y
    · exact y
    · trivial
  case he =>
        iterate 7 (refine Ord.aa (fun D xs w2 hD hC hP hR f K' l => ?_) ?_; rotate_left)
        rotate_left
        ·
          clear f
          go_simp
          exact l _ _ ⟨_, rfl, Touch.refl _ _, hR.skip 0 (by decide), rfl⟩
        ·
          have q0 := Ord.ab _ f 0 (by decide)
          simp only [CB] at q0
          simp only [q0] at l ⊢
          clear f
          have ag := hR.any (R := fun w => fT w Q B S b N) (fun _ h => h.2.1) (fun _ h => h.2.1)
          have hc := ag.c0
          go_simp
          exact l _ _ ⟨_, rfl, Touch.refl _ _, hR.skip 1 (by decide), rfl⟩
        ·
          clear f
          go_simp
          exact l _ _ ⟨_, rfl, Touch.refl _ _, hR.skip 2 (by decide), rfl⟩
        ·
          have q2 := Ord.ab _ f 2 (by decide)
          simp only [CB] at q2
          simp only [q2] at l ⊢
          clear f
          go_simp
          exact l _ _ ⟨_, rfl, Touch.refl _ _, hR.skip 3 (by decide), rfl⟩
        ·
          have q3 := Ord.ab _ f 3 (by decide)
          simp only [CB] at q3
          simp only [q3] at l ⊢
          clear f
          have ag := hR.any (R := fun w => fT w Q B S b N) (fun _ h => h.2.1) (fun _ h => h.2.1)
          have hc := ag.c1
          go_simp
          exact l _ _ ⟨_, rfl, Touch.refl _ _, hR.skip 4 (by decide), rfl⟩
        ·
          clear f
          have hlt := hR.any (R := fun w => ∀ i, DS B C z i → i < w.heap.size) (fun _ h => h.1.lt) (fun _ h => h.1.lt)
          have bb : (Instr.makeSlice 57 (.int .i64 128) (.int .i64 128)).run Tryz.prog w2 = .ok (.slice (some ⟨w2.heap.size, 0, none⟩) 128 128) (w2.alloc (.cells ((Pg.aY 128).map bv).toArray 5)) := fz 128 (by decide) w2
          have aT := jM 128 (by decide) w2
          have j : Below w2.heap.size w2 (w2.alloc (.cells ((Pg.aY 128).map bv).toArray 5)) := (GF _ w2).alloc (GH _) _
          go_simp
          exact l _ _ ⟨_, rfl, Touch.ax j, (hR.map (w' := w2.alloc (.cells ((Pg.aY 128).map bv).toArray 5)) (fun h => ⟨h.1.below j, h.2.1.below j, h.2.2.trans (Touch.ax j)⟩) (fun h => ⟨h.1.below j, h.2.1.below j, h.2.2.trans (Touch.ax j)⟩)).skip 5 (by decide), w2.heap.size, rfl, fun h => Jc _ (hlt _ h), aT.aP⟩
        ·
          have q1 := Ord.ab _ f 1 (by decide)
          simp only [CB] at q1
          have q4 := Ord.ab _ f 4 (by decide)
          simp only [CB] at q4
          simp only [q1, q4] at l ⊢
          have q5 := Ord.ab _ f 5 (by decide)
          simp only [CB] at q5
          obtain ⟨G, q5, hG, aG⟩ := q5
          simp only [q5] at l ⊢
          rw [q5] at aG
          clear f
          have h0 := hR.s0 hD
          have aS := gF h0.1 (S : Int) _ (Pg.aY 128) aG (fun _ g e => by
  simp only [Value.ownBlock, GO] at e
  subst e
  exact hG)
          go_simp
          refine aS.mono ?_
          rintro e w3 ⟨rfl, aD, af⟩
          have e0 : Dk.write d2 (S : Int) (Pg.aY 128) = r3 := aK.out.symm
          rw [e0] at aD ⊢
          exact l _ _ ⟨_, rfl, af, hR.flip ⟨aD, h0.2.1.aj af av.out, h0.2.2.trans af⟩, rfl⟩
        refine Ord.aa (fun D xs w2 hD hC hP hR f K' l => ?_) ?_
        ·
          have q6 := Ord.ab _ f 6 (by decide)
          simp only [CB] at q6
          simp only [q6] at l ⊢
          clear f
          go_simp
          exact l _ _ ⟨_, rfl, Touch.refl _ _, hR.skip 7 (by decide), rfl⟩
        exact Ord.ay
  case hend =>
    intro D xs w9 hR y
    have h9 := hR.s1 (y 6 (by decide)).1
    have e7 := (y 7 (by decide)).2
    simp only [CB] at e7
    rw [e7]
    generalize xs 0 = y0
    generalize xs 1 = y1
    generalize xs 2 = y2
    generalize xs 3 = y3
    generalize xs 4 = y4
    generalize xs 5 = y5
    generalize xs 6 = y6
    have aM := GD h9.1
    have aZ := GD h9.2.1
    have aH := GD h9.2.2
    clear y hR h9 e7 aK
    obtain ⟨d3, e3⟩ := r3
    dsimp only
    by_cases he : e3 = 0
    case neg =>
      have a : Hid (V = (d3, e3)) := by show _ = _; rw [I.out, Rg.cH _ he]
      have h1 : ¬ (e3 : Int) = 0 := by omega
      have h2 : ((e3 : Int) != 0) = true := by simp; omega
      clear he
      go_wp2_with fail
      go_ret
      exact ⟨by rw [a.out]; rfl, by rw [a.out]; exact aM.out, (Touch.ax HB.out).trans aH.out⟩
    subst he
    have a : Hid (V = Dk.sync d3) := by show _ = _; rw [I.out, Rg.eo _ rfl]
    have t := jE aM.out
    have H := GD t
    have F := aZ.out.c0
    clear t
    go_wp2_with fail
    refine H.out.mono ?_
    rintro e w8 ⟨rfl, aA, az⟩
    have a2 := GD aA
    have aW := GD (aH.out.trans az)
    clear aA az H F
    go_wp2_with fail
    go_ret
    exact ⟨by rw [a.out]; rfl, by rw [a.out]; exact a2.out, (Touch.ax HB.out).trans aW.out⟩
theorem aJ.FB{w:World}{g cap:Nat}{l:List Nat}(h:aJ w (.slice (some ⟨g,0,none⟩) 640 cap) l)(hl:l.length=640)(i:Nat)(d:i<5):aJ w (.slice (some ⟨g,i*128,none⟩) 128 (cap-i*128)) (Rg.part 128 l i):=by
 have a:=h.ic (i*128) hl (by omega);rw[H8]at a;have b:(l.drop (i*128)).length=640-i*128:=by simp;omega
 rw[<-b]at a;have c:=a.take 128 (by rw[b];omega);rw[Nat.mul_comm i 128]at c⊢;exact c
theorem Rg.uP(b:List Nat){i:Nat}(a:i<5):(Rg.gR b).drop i=Rg.part 128 b i::(Rg.gR b).drop (i+1):=by
 rcases i with _|_|_|_|_|i
 ·rfl
 ·rfl
 ·rfl
 ·rfl
 ·rfl
 ·omega
theorem Dk.BO{d:Dk.ak}{a:Nat}{x:List Nat}{r:List (List Nat)}(h:(Dk.write d (a:Int) x).2=0):Dk.jc d a (x::r)=Dk.jc (Dk.write d (a:Int) x).1 (a+1) r:=by
 show(if(Dk.write d (a:Int) x).2≠0 then _ else _)=_;rw[GQ (by omega)]
theorem Dk.xe{d:Dk.ak}{a:Nat}{x:List Nat}{r:List (List Nat)}(h:(Dk.write d (a:Int) x).2≠0):Dk.jc d a (x::r)=Dk.write d (a:Int) x:=by
 show(if(Dk.write d (a:Int) x).2≠0 then _ else _)=_;rw[GU h]
def E1(B b a:Nat)(d:Dk.ak)(S m:Nat)(fm:List Nat)(w:World)(e:Ending)(w':World):Prop:=∃t:Nat,t<256/\t∉Rg.rG (Rg.iG d S) 10/\we B b a (Rg.rA d S (Rg.laid fm (Rg.tag m t))) w e w'
def tO(B Q S g c K e:Nat)(i:Nat)(u:Value)(_:World):Prop:=
 match i with
 |0=>u=.pointer (some ⟨Q,0,none⟩)
 |1=>u=.pointer (some ⟨B,0,none⟩)
 |2=>u=.pointer (some ⟨Q,1,none⟩)
 |3=>u=.pointer (some ⟨Q,1,none⟩)
 |4=>u=.int .i64 (S:Int)
 |5=>u=.int .i64 (K:Int)
 |6=>u=.int .i64 ((S+K:Nat):Int)
 |7=>u=.slice (some ⟨g,0,none⟩) 640 c
 |8=>u=.int .i64 (K:Int)
 |9=>u=.int .i64 ((K*128:Nat):Int)
 |10=>u=.int .i64 (K:Int)
 |11=>u=.int .i64 ((K+1:Nat):Int)
 |12=>u=.int .i64 (((K+1)*128:Nat):Int)
 |13=>u=.slice (some ⟨g,K*128,none⟩) 128 (c-K*128)
 |14=>u=.int .i64 (e:Int)
 |15=>u=.int .i64 (e:Int)
 |_=>True
set_option maxHeartbeats 3200000 in
set_option maxRecDepth 20000 in
theorem DM {w : World} {B A z n S b N m : Nat} {d : Dk.ak} (M : bc w B A z d) (hN : Wl.aX n d) (ho : d.off = false) (hL : Rg.il n S b N) (hm : m < N) (hn : n ≤ 65536) (x : Po.Pg) (u : Value) (hx : Po.cX x) (hB : aJ w u x.2) :
    Calls Tryz.prog 109 #[rW B S b N, .int .i64 (m : Int), ed x.1 u] w fun e w' => E1 B A z d S m (Pg.form x.1 x.2) w e w' := by
  have H := hL.base
  have hS := hL.spare
  have bn : m < 65536 := by omega
  obtain ⟨p, cap, hu, -, -, -⟩ := hB.form
  obtain ⟨W, hW, hr, af, hb, bk⟩ := nU w B S b N x.1 u
  obtain ⟨Q, hQ⟩ : ∃ Q, Q = w.heap.size := ⟨_, rfl⟩
  rw [← hQ] at hr af
  have aN : ¬ DS B A z Q := fun h => by have := M.lt Q h; omega
  have aU := GD (su (M.below hb) hN hS hn (b := b) (N := N))
  have bj := GD (hB.below hb)
  have HX := GD hx
  have V := GD hr
  have aW := GD af
  have HB := GD hb
  have aY := GD aN
  have HP := GD (M.below hb)
  have HN := GD hN
  have HO := GD ho
  have HS : Hid (S + 5 ≤ n ∧ n ≤ 65536 ∧ m < 65536) := by show _ ∧ _ ∧ _; omega
  have bf := GD (M.below hb).lt
  have U : Hid ((Rg.iG d S).length = 640) := by show _ = _; rw [← nK, na hN 5 hS]
  have L : Hid ((Pg.form x.1 x.2).length = 512) := by show _ = _; rw [Pg.bP, hx.2.1]
  have ai := hr.c0
  clear M hN ho hL H hS bn hm hn hx hB hb hr af aN bk
  subst hu
  unfold rW ed
  go_enter Tryz.func109, Tryz.ntmps109
  go_upto_region 1 with (fail)
  rw [← hW, ← hQ]
  clear hW hQ ai
  have br : W.cell? ⟨Q, 0, none⟩ = some (.pointer (some ⟨B, 0, none⟩)) := V.out.c0
  have bu := V.out.c1
  have bt := V.out.c2
  have bs := V.out.c3
  go_wp2_with fail
  refine aU.out.mono ?_
  rintro e w1 ⟨us, rfl, P, hO⟩
  have hO := hO HO.out
  obtain ⟨g, c, aD, F, I, o, G, -⟩ := gU hO (by rw [U.out]; decide)
  rw [U.out] at aD o
  subst aD
  rw [HO.out, GQ (by decide)]
  have a7 := GD hO
  have q := GD P
  have l := aW.out
  have l : w1.heap[Q + 1]? = some (.cells #[.int .u64 (x.1 : Int), .slice p x.2.length cap] 59 (0, 0)) := (P.block (Q + 1) (GN l)).trans l
  have p0 := ah l 0 (v := .int .u64 (x.1 : Int)) rfl
  have p1 := ah l 1 (v := .slice p x.2.length cap) rfl
  have al := Aq.bytes x.1 (.slice p x.2.length cap) x.2 w1 HX.out.1 (bj.out.below P)
  rw [GU HX.out.2.1, GU HX.out.2.1] at al
  have bg := GD al
  clear al hO P l aU F I o G br bu bt bs
  go_wp2_with fail
  refine bg.out.mono ?_
  rintro e w2 ⟨ub, rfl, aq, an⟩
  obtain ⟨g2, c2, aF, F, I, o, G, -⟩ := gU aq (by rw [L.out]; decide)
  rw [L.out] at aF o
  subst aF
  have a6 := GD aq
  have E := GD an
  have hfr := yg g 0 c (Rg.iG d S) w2 (a7.out.aP.below an) U.out
  have bb := GD hfr
  clear hfr aq an bg p0 p1 F I o G
  go_wp2_with fail
  refine bb.out.mono ?_
  rintro e w3 ⟨t, ht, aG, rfl, aM⟩
  have HT := GD ht
  have aO := GD aG
  have C := GD aM
  have aQ := GD (wk m t HS.out.2.2 ht w3)
  clear ht aG aM bb
  go_wp2_with fail
  refine aQ.out.mono ?_
  rintro e w4 ⟨ut, rfl, ao, H⟩
  obtain ⟨pt, ct, aC, -, -, -⟩ := ao.aP.form
  rw [Rg.bZ] at aC
  subst aC
  have a8 := GD (tj g2 0 c2 pt ct (Pg.form x.1 x.2) (Rg.tag m t) w4 ((a6.out.aP.below C.out).below H) L.out ao.aP (Rg.bZ m t))
  have Z := GD H
  clear ao H aQ
  go_wp2_with fail
  refine a8.out.mono ?_
  rintro e w5 ⟨ul, rfl, T, aL⟩
  have X : Hid ((Rg.laid (Pg.form x.1 x.2) (Rg.tag m t)).length = 640) := Rg.eL (Rg.bZ m t) L.out
  have bC : Hid (∀ y ∈ Rg.laid (Pg.form x.1 x.2) (Rg.tag m t), y < 256) := Rg.nj (Rg.qV HT.out) (Pg.iA HX.out.2.2)
  obtain ⟨s, hs⟩ : ∃ s, s = Rg.laid (Pg.form x.1 x.2) (Rg.tag m t) := ⟨_, rfl⟩
  rw [← hs] at T X bC
  obtain ⟨g5, c5, aE, F, I, o, G, -⟩ := gU T (by rw [X.out]; decide)
  rw [X.out] at aE o
  subst aE
  have Y : Hid (Below W.heap.size W w5) := (((q.out.trans (E.out.mono q.out.size)).trans (C.out.mono (GR q.out.size E.out.size))).trans (Z.out.mono (GR (GR q.out.size E.out.size) C.out.size))).trans (aL.mono (GR (GR (GR q.out.size E.out.size) C.out.size) Z.out.size))
  have bE : Hid (640 ≤ c5) := o
  have ba : Hid (¬ DS B A z g5) := fun h => by
    have h1 := bf.out g5 h
    have h2 := q.out.size
    have h3 := E.out.size
    have h4 := C.out.size
    have h5 := Z.out.size
    omega
  have bB := GD T.aP
  have bA := GD (HP.out.below Y.out)
  have bx := GD (V.out.below Y.out)
  have aT := GD hs
  have bh : Hid (Touch (DS B A z) w w5) := (Touch.ax HB.out).trans (Touch.ax Y.out)
  clear T aL hs F I o G q E C Z a8 a7 a6 bj aW V HP Y HB bf U L
  have ad : Hid (∀ e' w', we B A z (Rg.rA d S s) w e' w' → E1 B A z d S m (Pg.form x.1 x.2) w e' w') := fun e' w' h => ⟨t, HT.out, aO.out, by rw [← aT.out]; exact h⟩
  clear HT aO aT
  go_wp2_with fail
  go_loopw [35] (fun i wr => ∃ (K : Nat) (dk : Dk.ak), K ≤ 5 ∧ i = .int .i64 K ∧ bc wr B A z dk ∧ Touch (DS B A z) w5 wr ∧ Dk.jc d S (Rg.gR s) = Dk.jc dk (S + K) ((Rg.gR s).drop K)) (fun i _ => 5 - (intOf i).toNat)
  case atStart => exact ⟨0, d, G7 _, rfl, bA.out, .refl _ _, rfl⟩
  case round =>
    obtain ⟨K, dk, j, rfl, M, hT, he⟩ := hrel
    have HP := GD M
    have ar := GD hT
    have HE := GD he
    have V := GD (bx.out.aj hT aY.out)
    clear M hT he
    by_cases hlt : K < 5
    · have HK := GD hlt
      have hi : (K : Int) < 5 := by omega
      have bq := GW ((K : Int) * 128) (by omega)
      have bG := GW ((K : Int) + 1) (by omega)
      have bp := GW (((K : Int) + 1) * 128) (by omega)
      have bo := GW ((S : Int) + (K : Int)) (by have := HS.out; omega)
      have bl : 0 ≤ (K : Int) * 128 ∧ (K : Int) * 128 ≤ ((K : Int) + 1) * 128 := by omega
      have bF := GD ((ar.out.aP bB.out (fun _ g' e hd => by
        simp only [Value.ownBlock, GO] at e
        subst e
        exact ba.out hd)).FB X.out K hlt)
      have aI := Rg.uP s HK.out
      have O := Dk.BO (d := dk) (a := S + K) (x := Rg.part 128 s K) (r := (Rg.gR s).drop (K + 1))
      have hend := Dk.xe (d := dk) (a := S + K) (x := Rg.part 128 s K) (r := (Rg.gR s).drop (K + 1))
      rw [← aI, ← HE.out] at O hend
      obtain ⟨r, hr⟩ : ∃ r, r = Dk.write dk ((S + K : Nat) : Int) (Rg.part 128 s K) := ⟨_, rfl⟩
      rw [← hr] at O hend
      have aV := GD hr
      have a2 := GD O
      have bd := GD hend
      have bD := GD (show (K + 1) * 128 ≤ c5 by have := bE.out; omega)
      clear O hend hr aI j hlt HE
      go_upto_region 11 with (fail)
      refine Ord.walk (tO B Q S g5 c5 K r.2) (fun D _ w' => Fl (fun w => bc w B A z dk ∧ fT w Q B S b N ∧ Touch (DS B A z) w5 w ∧ aJ w (.slice (some ⟨g5, K * 128, none⟩) 128 (c5 - K * 128)) (Rg.part 128 s K)) (fun w => bc w B A z r.1 ∧ fT w Q B S b N ∧ Touch (DS B A z) w5 w) 14 D w') (Touch (DS B A z)) (by kernel_rfl) (by kernel_rfl) ?fr ?hfr ?hT (fun xs => Fl.first ⟨HP.out.below (GF _ _).ij, V.out.below (GF _ _).ij, ar.out.drew, bF.out.below (GF _ _).ij⟩) ?he ?hend
      case hfr =>
        intro xs
        simp only [Ord.fill, Act.put, GP, GX, GV]
        rfl
      case hT =>
        intro k v wa wb ht hF
        exact hF
      case he =>
        iterate 15 (refine Ord.aa (fun D xs w2 hD hC M hR f K' j => ?_) ?_; rotate_left)
        rotate_left
        ·
          clear f
          go_simp
          exact j _ _ ⟨_, rfl, Touch.refl _ _, hR.skip 0 (by decide), rfl⟩
        ·
          have q0 := Ord.ab _ f 0 (by decide)
          simp only [tO] at q0
          simp only [q0] at j ⊢
          clear f
          have ag := hR.any (R := fun w => fT w Q B S b N) (fun _ h => h.2.1) (fun _ h => h.2.1)
          have hc := ag.c0
          go_simp
          exact j _ _ ⟨_, rfl, Touch.refl _ _, hR.skip 1 (by decide), rfl⟩
        ·
          clear f
          go_simp
          exact j _ _ ⟨_, rfl, Touch.refl _ _, hR.skip 2 (by decide), rfl⟩
        ·
          have q2 := Ord.ab _ f 2 (by decide)
          simp only [tO] at q2
          simp only [q2] at j ⊢
          clear f
          go_simp
          exact j _ _ ⟨_, rfl, Touch.refl _ _, hR.skip 3 (by decide), rfl⟩
        ·
          have q3 := Ord.ab _ f 3 (by decide)
          simp only [tO] at q3
          simp only [q3] at j ⊢
          clear f
          have ag := hR.any (R := fun w => fT w Q B S b N) (fun _ h => h.2.1) (fun _ h => h.2.1)
          have hc := ag.c1
          go_simp
          exact j _ _ ⟨_, rfl, Touch.refl _ _, hR.skip 4 (by decide), rfl⟩
        ·
          clear f
          go_simp
          exact j _ _ ⟨_, rfl, Touch.refl _ _, hR.skip 5 (by decide), rfl⟩
        ·
          have q4 := Ord.ab _ f 4 (by decide)
          simp only [tO] at q4
          have q5 := Ord.ab _ f 5 (by decide)
          simp only [tO] at q5
          simp only [q4, q5] at j ⊢
          clear f
          go_simp
          exact j _ _ ⟨_, rfl, Touch.refl _ _, hR.skip 6 (by decide), rfl⟩
        ·
          clear f
          go_simp
          exact j _ _ ⟨_, rfl, Touch.refl _ _, hR.skip 7 (by decide), rfl⟩
        ·
          clear f
          go_simp
          exact j _ _ ⟨_, rfl, Touch.refl _ _, hR.skip 8 (by decide), rfl⟩
        ·
          have q8 := Ord.ab _ f 8 (by decide)
          simp only [tO] at q8
          simp only [q8] at j ⊢
          clear f
          go_simp
          exact j _ _ ⟨_, rfl, Touch.refl _ _, hR.skip 9 (by decide), rfl⟩
        ·
          clear f
          go_simp
          exact j _ _ ⟨_, rfl, Touch.refl _ _, hR.skip 10 (by decide), rfl⟩
        ·
          have aA := Ord.ab _ f 10 (by decide)
          simp only [tO] at aA
          simp only [aA] at j ⊢
          clear f
          go_simp
          exact j _ _ ⟨_, rfl, Touch.refl _ _, hR.skip 11 (by decide), rfl⟩
        ·
          have az := Ord.ab _ f 11 (by decide)
          simp only [tO] at az
          simp only [az] at j ⊢
          clear f
          go_simp
          exact j _ _ ⟨_, rfl, Touch.refl _ _, hR.skip 12 (by decide), rfl⟩
        ·
          have q7 := Ord.ab _ f 7 (by decide)
          simp only [tO] at q7
          have q9 := Ord.ab _ f 9 (by decide)
          simp only [tO] at q9
          have aw := Ord.ab _ f 12 (by decide)
          simp only [tO] at aw
          simp only [q7, q9, aw] at j ⊢
          clear f
          have bH := bD.out
          go_simp
          rw [GU (by omega), GU (by omega), GQ (by omega), show (((K : Int) + 1) * 128).toNat - ((K : Int) * 128).toNat = 128 by omega, show ((K : Int) * 128).toNat = K * 128 by omega]
          exact j _ _ ⟨_, rfl, Touch.refl _ _, hR.skip 13 (by decide), rfl⟩
        ·
          have q1 := Ord.ab _ f 1 (by decide)
          simp only [tO] at q1
          have q6 := Ord.ab _ f 6 (by decide)
          simp only [tO] at q6
          have av := Ord.ab _ f 13 (by decide)
          simp only [tO] at av
          simp only [q1, q6, av] at j ⊢
          clear f
          have h0 := hR.s0 hD
          have aB := gF h0.1 ((S + K : Nat) : Int) _ (Rg.part 128 s K) h0.2.2.2 (fun _ g e => by
  simp only [Value.ownBlock, GO] at e
  subst e
  exact ba.out)
          rw [← aV.out] at aB
          go_simp
          refine aB.mono ?_
          rintro e w3 ⟨rfl, bm, ae⟩
          exact j _ _ ⟨_, rfl, ae, hR.flip ⟨bm, h0.2.1.aj ae aY.out, h0.2.2.1.trans ae⟩, rfl⟩
        refine Ord.aa (fun D xs w2 hD hC M hR f K' j => ?_) ?_
        ·
          have au := Ord.ab _ f 14 (by decide)
          simp only [tO] at au
          simp only [au] at j ⊢
          clear f
          go_simp
          exact j _ _ ⟨_, rfl, Touch.refl _ _, hR.skip 15 (by decide), rfl⟩
        exact Ord.ay
      case hend =>
        intro D xs w9 hR hF
        have h9 := hR.s1 (hF 14 (by decide)).1
        have e7 := (hF 15 (by decide)).2
        simp only [tO] at e7
        rw [e7]
        generalize xs 0 = y0
        generalize xs 1 = y1
        generalize xs 2 = y2
        generalize xs 3 = y3
        generalize xs 4 = y4
        generalize xs 5 = y5
        generalize xs 6 = y6
        generalize xs 7 = y7
        generalize xs 8 = y8
        generalize xs 9 = y9
        generalize xs 10 = y10
        generalize xs 11 = y11
        generalize xs 12 = y12
        generalize xs 13 = y13
        generalize xs 14 = y14
        have aZ := GD h9.1
        have aR := GD h9.2.2
        clear hF hR h9 e7 aV bq bp bo bl
        obtain ⟨d3, e3⟩ := r
        dsimp only
        by_cases he : e3 = 0
        case neg =>
          have J : Hid (Rg.rA d S s = (d3, e3)) := by show Rg.jV _ _ = _; rw [bd.out he, Rg.cH _ he]
          have h1 : ¬ (e3 : Int) = 0 := by omega
          have h2 : ((e3 : Int) != 0) = true := by simp; omega
          clear he
          go_wp2_with fail
          go_ret
          exact ad.out _ _ ⟨by rw [J.out]; rfl, by rw [J.out]; exact aZ.out, bh.out.trans aR.out⟩
        subst he
        have a1 := GD (a2.out rfl)
        clear a2 bd
        go_wp2_with fail
        go_roundw
        case rel => exact ⟨K + 1, d3, HK.out, by go_num, aZ.out, aR.out, a1.out⟩
        case measure => have := HK.out; simp [intOf]; omega
    · obtain rfl : K = 5 := by omega
      have J : Hid (Rg.rA d S s = Dk.sync dk) := by show Rg.jV _ _ = _; rw [HE.out]; exact Rg.eo _ rfl
      have aS := GD (jE HP.out)
      have ai := V.out.c0
      clear hlt j HE
      go_wp2_with fail
      refine aS.out.mono ?_
      rintro e w8 ⟨rfl, aK, aH⟩
      have bz := GD aK
      have bw := GD (ar.out.trans aH)
      clear aK aH aS ai
      go_wp2_with fail
      go_ret
      exact ad.out _ _ ⟨by rw [J.out]; rfl, by rw [J.out]; exact bz.out, bh.out.trans bw.out⟩
theorem Rg.vy(s:List Nat)(m:Nat):(Rg.rG s m).length=m:=by unfold Rg.rG;rw[Hb,List.length_range]
theorem Rg.xu(s:List Nat):∃t:Nat,t<256/\t∉Rg.rG s 10:=by
 refine Classical.byContradiction fun h=>?_;have:=Rg.vR 256 (Rg.rG s 10) fun j b=>Classical.byContradiction fun a=>h ⟨j,b,a⟩;rw[Rg.vy]at this;omega
theorem Rg.yy{n S b N m:Nat}{d:Dk.ak}{f:Nat->Po.Pg}(g:Wl.aX n d)(i:Rg.il n S b N)(h:Rg.pS S b N d f)(hm:m<N):Rg.iG (Rg.bL d (b+4*m) 4).1 S=Rg.sp d S:=by
 have k:=i.base;obtain⟨c1,c2⟩:=Rg.kr 4 g (p:=b+4*m) (by omega) fun j c=>h.quiet (Rg.cK (S:=S) hm c);rw[Rg.pZ fun j c x a=>?_]
 ·exact Rg.im fun j _=>c1 _
 ·rcases c2 (S+j)with e|⟨-,-,e⟩
  ·rw[e,h.idle _ (Rg.dE c)]at a;cases a
  ·rw[e]at a;cases a;exact(c1 _).symm
def FN(B c a:Nat)(d:Dk.ak)(S b m:Nat)(fm:List Nat)(w:World)(e:Ending)(w':World):Prop:=∃t:Nat,t<256/\t∉Rg.rG (Rg.sp d S) 10/\we B c a (Rg.du d S (b+4*m) fm (Rg.laid fm (Rg.tag m t))) w e w'
set_option maxHeartbeats 3200000 in
set_option maxRecDepth 20000 in
theorem sf{w:World}{B m1 m2 n S b N m:Nat}{d:Dk.ak}{f:Nat->Po.Pg}(hP:bc w B m1 m2 d)(hN:Wl.aX n d)(hW:Rg.pS S b N d f)(hL:Rg.il n S b N)(hm:m<N)(hn:n<=65536)(x:Po.Pg)(u:Value)(hx:Po.cX x)(hB:aJ w u x.2)(aq:∀g,u.ownBlock=some g->¬DS B m1 m2 g):
 Calls Tryz.prog 79 #[rW B S b N,.int .i64 (m:Int),ed x.1 u] w fun e w'=>FN B m1 m2 d S b m (Pg.form x.1 x.2) w e w':=by
 have ai:=hL.base;have q:=Rg.yy hN hL hW hm;have P:Rg.Op (Rg.Has S b N) n d (Rg.bL d (b+4*m) 4):=Rg.lD 4 hN (by decide) (by omega) fun j hj=>Rg.cK hm hj;obtain⟨p,cap,hu,-,-,-⟩:=hB.form;obtain⟨W,al,M,L,hb,aF⟩:=nU w B S b N x.1 u;obtain⟨Q,hQ⟩:∃Q,Q=w.heap.size:=⟨_,rfl⟩
 rw[<-hQ]at M L;have an:¬DS B m1 m2 Q:=fun h=>by have:=hP.lt Q h;omega
 have ao:¬DS B m1 m2 (Q+1):=fun h=>by have:=hP.lt (Q+1) h;omega
 obtain⟨r1,D⟩:∃r1,r1=Rg.bL d (b+4*m) 4:=⟨_,rfl⟩
 have C:=Bk (hP.below hb) hN ai hm hn (S:=S);rw[<-D]at q P C;have C:=GD C;have av:=GD q;have aB:=GD P;have HX:=GD hx;have HR:=GD M;have aw:=GD L;have HB:=GD hb;have aE:=GD (hB.below hb);have ab:=GD aq;have ay:=GD an;have az:=GD ao;have HN:=GD hN;have HL:=GD hL;have F:Hid (m<N/\n<=65536):=⟨hm,hn⟩
 have X:Hid (∀fm nb,r1.2≠0->Rg.du d S (b+4*m) fm nb=r1):=fun fm nb h=>by unfold Rg.du;rw[<-D];exact Rg.cH _ h
 have V:Hid (∀fm nb,r1.2=0->Rg.du d S (b+4*m) fm nb=Rg.jV (Rg.rA r1.1 S nb) fun d=>Rg.dB d S (b+4*m) fm):=fun fm nb h=>by unfold Rg.du;rw[<-D];exact Rg.eo _ h
 have s:=M.c0;have A:=M.c1;have z:=M.c2;have y:=M.c3;clear hP hN hW hL ai hm hn hx hB aq hb M L an ao aF q P D;subst hu;unfold rW ed;go_enter Tryz.func79,Tryz.ntmps79;go_upto_region 1 with(fail)
 rw[<-al,<-hQ];clear al hQ;go_wp2_with fail
 refine C.out.mono ?_;rintro e w1⟨rfl,ag,o⟩;have aa:=GD ag;have Y:=GD o;have k:=GD (HR.out.aj o ay.out);have H:w1.heap[Q+1]?=some (.cells #[.int .u64 (x.1:Int),.slice p x.2.length cap] 59 (0,0)):=o.row aw.out az.out;have i:=GD H;have ad:=GD (o.aP aE.out (fun _=>ab.out));obtain⟨d1,e1⟩:=r1;dsimp only;clear ag o H C s A z y HR aw aE;by_cases he:e1=0
 case neg=>
  obtain⟨t,ht,c⟩:=Rg.xu (Rg.sp d S);have Z:=GD (And.intro ht c);have a:=GD (X.out (Pg.form x.1 x.2) (Rg.laid (Pg.form x.1 x.2) (Rg.tag m t)) he);have h1:¬(e1:Int)=0:=by omega
  have h2:((e1:Int)!=0)=true:=by simp;omega
  clear he ht c X V;go_wp2_with fail
  go_ret;exact⟨t,Z.out.1,Z.out.2,by rw[a.out];rfl,by rw[a.out];exact aa.out,(Touch.ax HB.out).trans Y.out⟩
 subst he;have T:=aB.out.ro.cy HN.out;have R:=aB.out.on rfl;have aD:=GD (DM aa.out T R HL.out F.out.1 F.out.2 x _ HX.out ad.out);have aC:=GD T;have aI:=GD R;have s:=k.out.c0;have A:=k.out.c1;have z:=k.out.c2;have y:=k.out.c3;have p0:=ah i.out 0 (v:=.int .u64 (x.1:Int)) rfl;have p1:=ah i.out 1 (v:=.slice p x.2.length cap) rfl;clear T R X;go_wp2_with fail
 refine aD.out.mono ?_;rintro e w2⟨t,ht,c,rfl,O,l⟩;have c:t∉Rg.rG (Rg.sp d S) 10:=by rw[<-av.out];exact c
 have r:=Rg.AA (S:=S) aC.out aI.out HL.out (nb:=Rg.laid (Pg.form x.1 x.2) (Rg.tag m t)) (Rg.eL (Rg.bZ m t) (by rw[Pg.bP,HX.out.2.1])) (Rg.nj (Rg.qV ht) (Pg.iA HX.out.2.2));have K:=V.out (Pg.form x.1 x.2) (Rg.laid (Pg.form x.1 x.2) (Rg.tag m t)) trivial;generalize Rg.rA d1 S (Rg.laid (Pg.form x.1 x.2) (Rg.tag m t))=r2 at O r K⊢;have Z:=GD (And.intro ht c);have aA:=GD O;have ar:=GD (Y.out.trans l);have E:=GD (k.out.aj l ay.out);have G:w2.heap[Q+1]?=some (.cells #[.int .u64 (x.1:Int),.slice p x.2.length cap] 59 (0,0)):=l.row i.out az.out;have I:=GD G;have aK:=GD (l.aP ad.out (fun _=>ab.out));have U:=GD K;have J:=GD r;obtain⟨d2,e2⟩:=r2;dsimp only;clear O l G K r aD s A z y p0 p1 ht c V k i ad aa Y;by_cases he:e2=0
 case neg=>
  have a:Hid (Rg.du d S (b+4*m) (Pg.form x.1 x.2) (Rg.laid (Pg.form x.1 x.2) (Rg.tag m t))=(d2,e2)):=by show _=_;rw[U.out,Rg.cH _ he]
  have h1:¬(e2:Int)=0:=by omega
  have h2:((e2:Int)!=0)=true:=by simp;omega
  clear he;go_wp2_with fail
  go_ret;exact⟨t,Z.out.1,Z.out.2,by rw[a.out];rfl,by rw[a.out];exact aA.out,(Touch.ax HB.out).trans ar.out⟩
 subst he;have a:Hid (Rg.du d S (b+4*m) (Pg.form x.1 x.2) (Rg.laid (Pg.form x.1 x.2) (Rg.tag m t))=Rg.dB d2 S (b+4*m) (Pg.form x.1 x.2)):=by show _=_;rw[U.out,Rg.eo _ rfl]
 have au:=GD (qd aA.out (J.out.ro.cy aC.out) (J.out.on rfl) HL.out F.out.1 F.out.2 x _ HX.out aK.out ab.out);have s:=E.out.c0;have A:=E.out.c1;have z:=E.out.c2;have y:=E.out.c3;have p0:=ah I.out 0 (v:=.int .u64 (x.1:Int)) rfl;have p1:=ah I.out 1 (v:=.slice p x.2.length cap) rfl;clear U;go_wp2_with fail
 refine au.out.mono ?_;rintro e w3⟨rfl,af,ae⟩;have aH:=GD af;have aG:=GD (ar.out.trans ae);clear af ae au s A z y p0 p1;go_wp2_with fail
 go_ret;exact⟨t,Z.out.1,Z.out.2,by rw[a.out];rfl,by rw[a.out];exact aH.out,(Touch.ax HB.out).trans aG.out⟩
theorem Rg.DZ{n S:Nat}{d:Dk.ak}(b:Wl.aX n d)(f:S+5<=n)(h:Pg.cJ (Rg.cut (Rg.iG d S))=0):Po.cX (Pg.cG (Rg.cut (Rg.iG d S)),Pg.cY (Rg.cut (Rg.iG d S))):=by
 have hs:∀x∈Rg.iG d S,x<256:=by
  intro x a;unfold Rg.iG at a;rcases List.mem_append.1 a with a|a
  ·exact(kL b (by omega)).2 x a
  rcases List.mem_append.1 a with a|a
  ·exact(kL b (by omega)).2 x a
  rcases List.mem_append.1 a with a|a
  ·exact(kL b (by omega)).2 x a
  rcases List.mem_append.1 a with a|a
  ·exact(kL b (by omega)).2 x a
  ·exact(kL b (by omega)).2 x a
 have c:∀x∈Rg.cut (Rg.iG d S),x<256:=fun x a=>by
  have a:=Hl a;obtain⟨i,-,e⟩:=List.mem_flatMap.1 a;exact Rg.j8 hs i x (Ht e)
 refine⟨?_,Rg.qm h,Pg.tc c⟩;show Pg.cG _<_;unfold Pg.cG;rw[GU h];have a:=aH.oz ((List.drop 4 (Rg.cut (Rg.iG d S))).take 8) fun z hz=>c z (Ht (Hl hz));have hl:((List.drop 4 (Rg.cut (Rg.iG d S))).take 8).length<=8:=List.length_take_le _ _;have:(256:Nat)^((List.drop 4 (Rg.cut (Rg.iG d S))).take 8).length<=256^8:=I4 (by decide) hl;have g:(256:Nat)^8=18446744073709551616:=by decide
 omega
set_option maxHeartbeats 3200000 in
set_option maxRecDepth 20000 in
theorem Ci{w:World}{B m1 m2 n S b N:Nat}{d:Dk.ak}(hP:bc w B m1 m2 d)(hN:Wl.aX n d)(hL:Rg.il n S b N)(hn:n<=65536):
 Calls Tryz.prog 46 #[rW B S b N] w fun e w'=>we B m1 m2 (Rg.ju d S b N) w e w':=by
 have hS:=hL.spare;obtain⟨W,hW,H,hb,aq⟩:=nV w B S b N;obtain⟨Q,hQ⟩:∃Q,Q=w.heap.size:=⟨_,rfl⟩
 rw[<-hQ]at H;have O:=GD (su (hP.below hb) hN hS hn (b:=b) (N:=N));have HR:=GD H;have HB:=GD hb;have HP:=GD (hP.below hb);have HN:=GD hN;have HL:=GD hL;have aA:Hid (n<=65536):=hn;have aB:=GD (hP.below hb).lt;have M:Hid ((Rg.iG d S).length=640):=by show _=_;rw[<-nK,na hN 5 hS]
 have j:=H.c0;have o:=H.c1;have m:=H.c2;have l:=H.c3;clear hP hN hL hn hS hb H aq;unfold rW;go_enter Tryz.func46,Tryz.ntmps46;go_upto_region 1 with(fail)
 rw[<-hW,<-hQ];clear hW hQ;go_wp2_with fail
 refine O.out.mono ?_;rintro e w1⟨us,rfl,s,T⟩;have C:=GD s;have ay:=GD (HR.out.below s);have an:=GD (HP.out.below s);rcases ID d.off with E|E
 ·have a:Hid (Rg.ju d S b N=(d,6)):=Rg.AL E;rw[E,GU rfl];clear E T s O j o m l;go_wp2_with fail
  go_ret;exact⟨by rw[a.out];rfl,by rw[a.out];exact an.out,(Touch.ax HB.out).trans (Touch.ax C.out)⟩
 have T:=T E;obtain⟨g,c,X,ar,av,ad,au,-⟩:=gU T (by rw[M.out];decide);rw[M.out]at X ad;subst X;rw[E,GQ (by decide)];have HO:=GD E;have ae:=GD (xj g 0 c (Rg.iG d S) w1 T.aP M.out);clear E T s O j o m l ar av ad au;go_wp2_with fail
 refine ae.out.mono ?_;rintro e w2⟨k,v,u,ok,rfl,⟨pu,U,cu,rfl⟩,J,hy,aa⟩;obtain⟨K,t⟩:∃K,K=w2.alloc (.cells #[.int .u64 (v:Int),.slice pu U cu] 59):=⟨_,rfl⟩
 obtain⟨R,hR⟩:∃R,R=w2.heap.size:=⟨_,rfl⟩
 have I:Below w2.heap.size w2 K:=by rw[t];exact(GF _ _).alloc (GH _) _
 have i:Below w1.heap.size w1 K:=J.trans (I.mono J.size);have D:K.heap[R]?=some (.cells #[.int .u64 (v:Int),.slice pu U cu] 59 (0,0)):=by rw[t,hR];exact GM _ _
 have V:ok=true->Rg.Told (Rg.iG d S)/\Pg.cJ (Rg.cut (Rg.iG d S))=0/\k=Rg.ej (Rg.iG d S)/\v=Pg.cG (Rg.cut (Rg.iG d S))/\Own w1.heap.size K (.slice pu U cu) (Pg.cY (Rg.cut (Rg.iG d S))):=fun e=>by
  obtain⟨h1,h2,h3,h4,h5⟩:=hy e;exact⟨h1,h2,h3,h4,h5.below I⟩
 have ao:=GD i;have HY:=GD V;have P:=GD aa;have y:=GD (ay.out.below i);have al:=GD (an.out.below i);have F:=GD D;have G:=GD (A5 B S b N (k:Int) K);clear J hy V aa ae I i D;unfold ed;rcases ID ok with q|q
 case inr=>
  have a:Hid (Rg.ju d S b N=(d,0)):=Rg.ry HO.out fun h=>P.out q ⟨h.1,h.2.1⟩;subst q;clear HY P;go_wp2_with fail
  go_ret;rw[<-t];exact⟨by rw[a.out];rfl,by rw[a.out];exact al.out,(Touch.ax HB.out).trans ((Touch.ax C.out).trans (Touch.ax ao.out))⟩
 obtain⟨h1,h2,h3,h4,h5⟩:=HY.out q;subst q;have L:=GD (And.intro h1 h2);have HK:=GD h3;have HV:=GD h4;have HU:=GD h5;clear h1 h2 h3 h4 h5 HY P;have j:=y.out.c0;have o:=y.out.c1;have m:=y.out.c2;have l:=y.out.c3;go_upto_region 5 with(fail)
 rw[<-t,<-hR];clear t hR;go_wp2_with fail
 refine G.out.mono ?_;rintro e w4⟨rfl,f⟩;have aC:=GD f;have A:=GD (y.out.below f);have aj:=GD (al.out.below f);have af:=GD (HU.out.below f);have p:w4.heap[R]?=some (.cells #[.int .u64 (v:Int),.slice pu U cu] 59 (0,0)):=(f.block R (GN F.out)).trans F.out;have x:=GD p;have ag:Hid (Touch (DS B m1 m2) w w4):=(Touch.ax HB.out).trans ((Touch.ax C.out).trans ((Touch.ax ao.out).trans (Touch.ax f)));clear f p G j o m l;by_cases r:k<N
 case neg=>
  have a:Hid (Rg.ju d S b N=(d,0)):=Rg.ry HO.out fun h=>r (by rw[HK.out];exact h.2.2);rw[GY (show¬(0<=(k:Int)/\(k:Int)<(N:Int))by omega)];clear r;go_wp2_with fail
  go_ret;exact⟨by rw[a.out];rfl,by rw[a.out];exact aj.out,ag.out⟩
 have ab:Rg.ju d S b N=Rg.dB d S (b+4*k) (Pg.form v (Pg.cY (Rg.cut (Rg.iG d S)))):=by
  rw[Rg.AK HO.out ⟨L.out.1,L.out.2,by rw[<-HK.out];exact r⟩,<-HK.out,<-HV.out]
 have z:=qd aj.out HN.out HO.out HL.out r aA.out (Pg.cG (Rg.cut (Rg.iG d S)),Pg.cY (Rg.cut (Rg.iG d S))) _ (Rg.DZ HN.out HL.out.spare L.out.2) af.out.aP fun g' e hd=>iP af.out e (by have:=aB.out g' hd;have:=C.out.size;omega);dsimp only at z;rw[<-HV.out,<-ab]at z;have ai:=GD z;rw[GK (show 0<=(k:Int)/\(k:Int)<(N:Int)by omega)];have j:=A.out.c0;have o:=A.out.c1;have m:=A.out.c2;have l:=A.out.c3;have p0:=ah x.out 0 (v:=.int .u64 (v:Int)) rfl;have p1:=ah x.out 1 (v:=.slice pu U cu) rfl;clear z ab r;go_wp2_with fail
 refine ai.out.mono ?_;rintro e w5⟨rfl,Z,Y⟩;have az:=GD Z;have aw:=GD (ag.out.trans Y);clear Z Y ai j o m l p0 p1;go_wp2_with fail
 go_ret;exact⟨rfl,az.out,aw.out⟩
def FZ:Value:=.agg #[.pointer none,.int .i64 0,.int .i64 0,.int .i64 0]
def Fq(B:Nat)(a:Po.Ar):Value:=.agg #[.pointer (some ⟨B,0,none⟩),.int .i64 a.spare,.int .i64 a.base,.int .i64 a.cg]
theorem dW(tmps:Array Value)(w:World)(g:Nat)(h f d c e:Value)(h0:tmps.getD 4 undef=.pointer (some ⟨g,0,none⟩))(k:tmps.getD 5 undef=e)
 (r0:w.heap[g]?=some (.cells #[h,f,d,c] 95 (0,0))):
 (results Tryz.f45 tmps).run Tryz.prog w=.ok (.tuple #[.agg #[h,f,d,c],e]) w:=by
 have j:Tryz.f45.results=#[.cell 4 95,.tmp 5]:=rfl;have b:tmps[4]?.getD undef=.pointer (some ⟨g,0,none⟩):=by simpa using h0
 have a:tmps[5]?.getD undef=e:=by simpa using k
 have i:=run_loadVar_row (P:=Tryz.prog) w g 95 _ _ _ _ r0 Tryz.underlying95 rfl (by kernel_rfl);simp[results,j,b,a,asAddr,i]
theorem AS(a:Po.Ar)(w:World):∃W,W=(w.alloc (.cells #[.int .i64 a.spare,.int .i64 a.base,.int .i64 a.cg] 46)).alloc (.cells #[.pointer none,.int .i64 0,.int .i64 0,.int .i64 0] 95)/\
 W.heap[w.heap.size]?=some (.cells #[.int .i64 a.spare,.int .i64 a.base,.int .i64 a.cg] 46 (0,0))/\W.heap[w.heap.size+1]?=some (.cells #[.pointer none,.int .i64 0,.int .i64 0,.int .i64 0] 95 (0,0))/\Below w.heap.size w W:=by
 have e:=GM w (.cells #[.int .i64 a.spare,.int .i64 a.base,.int .i64 a.cg] 46);have d:Below w.heap.size w (w.alloc (.cells #[.int .i64 a.spare,.int .i64 a.base,.int .i64 a.cg] 46)):=(GF _ _).alloc (GH _) _;have hs:(w.alloc (.cells #[.int .i64 a.spare,.int .i64 a.base,.int .i64 a.cg] 46)).heap.size=w.heap.size+1:=by simp
 generalize w.alloc (.cells #[.int .i64 a.spare,.int .i64 a.base,.int .i64 a.cg] 46)=W1 at*
 have c:=GM W1 (.cells #[.pointer none,.int .i64 0,.int .i64 0,.int .i64 0] 95);rw[hs]at c;have b:Below W1.heap.size W1 (W1.alloc (.cells #[.pointer none,.int .i64 0,.int .i64 0,.int .i64 0] 95)):=(GF _ _).alloc (GH _) _;exact⟨_,rfl,(b.block _ (by omega)).trans e,c,d.trans (b.mono (by omega))⟩
theorem fN(w:World)(G:Nat)(j g f e d c b a:Value)(h:w.heap[G]?=some (.cells #[j,g,f,e] 95 (0,0))):
 ((((w.setCell ⟨G,0,none⟩ d).setCell ⟨G,1,none⟩ c).setCell ⟨G,2,none⟩ b).setCell ⟨G,3,none⟩ a).heap[G]?=some (.cells #[d,c,b,a] 95 (0,0))/\
 Touch (fun k=>k=G) w ((((w.setCell ⟨G,0,none⟩ d).setCell ⟨G,1,none⟩ c).setCell ⟨G,2,none⟩ b).setCell ⟨G,3,none⟩ a):=by
 refine⟨?_,(((Touch.set (S:=fun k=>k=G) G 0 _ rfl).trans (Touch.set G 1 _ rfl)).trans (Touch.set G 2 _ rfl)).trans (Touch.set G 3 _ rfl)⟩;have h0:=aN (i:=0) h d;have m:=aN (i:=1) h0 c;have l:=aN (i:=2) m b;exact aN (i:=3) l a
theorem zk(x p:Int)(hp:1<=p):x.tdiv 4<p↔x<4*p:=by
 rcases Int.le_total 0 x with h|h
 ·rw[Il h];omega
 ·have e:x.tdiv 4= -((-x).tdiv 4):=by rw[Int.neg_tdiv,Int.neg_neg]
  rw[e,Il (by omega)];omega
theorem zl(x:Int)(a: -9223372036854775808<=x/\x<=9223372036854775807): -9223372036854775808<=x.tdiv 4/\x.tdiv 4<=9223372036854775807:=by
 rcases Int.le_total 0 x with h|h
 ·rw[Il h];omega
 ·have e:x.tdiv 4= -((-x).tdiv 4):=by rw[Int.neg_tdiv,Int.neg_neg]
  rw[e,Il (by omega)];omega
theorem Touch.one{G n:Nat}{w w':World}(h:Touch (fun k=>k=G) w w')(a:n<=G)(hw:G<w.heap.size):Below n w w':=h.below (fun k b=>by omega) (by omega)
def F9(B n:Nat)(a:Po.Ar)(w:World)(e:Ending)(w':World):Prop:=Below w.heap.size w w'/\(a.Fits n->e=.returned (.tuple #[Fq B a,.int .i64 0]))/\(¬a.Fits n->e=.returned (.tuple #[FZ,.int .i64 2]))
set_option maxHeartbeats 12800000 in
set_option maxRecDepth 20000 in
theorem qx{w:World}{B N M n:Nat}{d:Dk.ak}(I:bc w B N M d)(hs:Dk.size d=n)(x:1<=n)(X:n<=65536)(a:Po.Ar)(F:CM a):Calls Tryz.prog 45 #[.pointer (some ⟨B,0,none⟩),yR a] w fun e w'=>F9 B n a w e w':=by
 obtain⟨W,H,l,hR,y⟩:=AS a w;have z:=iq (I.below y);rw[hs]at z;have K:=GD z;have a0:=ah l 0 (v:=.int .i64 a.spare) rfl;have a1:=ah l 1 (v:=.int .i64 a.base) rfl;have a2:=ah l 2 (v:=.int .i64 a.cg) rfl;have c0:=ah hR 0 (v:=.pointer none) rfl;have c1:=ah hR 1 (v:=.int .i64 0) rfl;have c2:=ah hR 2 (v:=.int .i64 0) rfl;have c3:=ah hR 3 (v:=.int .i64 0) rfl;have f0:=aC hR 0;have f1:=aC hR 1;have f2:=aC hR 2;have f3:=aC hR 3;have f:=GD hR;have i:=GD y;obtain⟨G,q⟩:∃G,G=w.heap.size+1:=⟨_,rfl⟩
 obtain⟨A,r⟩:∃A,A=w.heap.size:=⟨_,rfl⟩
 have m:=GD q;have aa:=GD r;rw[<-q]at f c0 c1 c2 c3 f0 f1 f2 f3;rw[<-r]at a0 a1 a2;have L:=GD F;have k:Hid (1<=n/\n<=65536):=⟨x,X⟩
 have V:((n:Int)==0)=false:=by simp;omega
 have U:=GW ((n:Int)-5) (by omega);clear l hR y I hs F z;obtain⟨sp,b,c⟩:=a;have g:Hid (∀e w',Below w.heap.size w w'->(Po.Ar.Fits n ⟨sp,b,c⟩->e=.returned (.tuple #[Fq B ⟨sp,b,c⟩,.int .i64 0]))->(¬Po.Ar.Fits n ⟨sp,b,c⟩->e=.returned (.tuple #[FZ,.int .i64 2]))->F9 B n ⟨sp,b,c⟩ w e w'):=fun e w' s p C=>⟨s,p,C⟩
 unfold yR;dsimp only at*
 go_enter Tryz.func45,Tryz.ntmps45;go_upto_region 1 with(fail)
 rw[<-H,<-q,<-r];clear H q r;go_wp2_with fail
 refine K.out.mono ?_;rintro e w1⟨rfl,rfl⟩;clear K;have E:¬(n:Int)=0:=by omega
 by_cases h0:sp<0
 case pos=>
  go_wp2_with fail
  obtain⟨hz,j⟩:=fN w1 G _ _ _ _ (.pointer none) (.int .i64 0) (.int .i64 0) (.int .i64 0) f.out;refine bodyPost_ret (dW _ _ G _ _ _ _ _ rfl rfl hz) rfl ?_;refine g.out _ _ (i.out.trans (j.one (by have:=m.out;have:=i.out.size;omega) (GN f.out))) (fun hf=>?_) fun _=>rfl;exact absurd hf (by unfold Po.Ar.Fits;dsimp only;omega)
 have k0:¬(sp<0):=h0;by_cases s:(n:Int)-5<sp
 case pos=>
  go_wp2_with fail
  obtain⟨hz,j⟩:=fN w1 G _ _ _ _ (.pointer none) (.int .i64 0) (.int .i64 0) (.int .i64 0) f.out;refine bodyPost_ret (dW _ _ G _ _ _ _ _ rfl rfl hz) rfl ?_;refine g.out _ _ (i.out.trans (j.one (by have:=m.out;have:=i.out.size;omega) (GN f.out))) (fun hf=>?_) fun _=>rfl;exact absurd hf (by unfold Po.Ar.Fits;dsimp only;omega)
 have k1:¬((n:Int)-5<sp):=s;by_cases p:b<0
 case pos=>
  go_wp2_with fail
  obtain⟨hz,j⟩:=fN w1 G _ _ _ _ (.pointer none) (.int .i64 0) (.int .i64 0) (.int .i64 0) f.out;refine bodyPost_ret (dW _ _ G _ _ _ _ _ rfl rfl hz) rfl ?_;refine g.out _ _ (i.out.trans (j.one (by have:=m.out;have:=i.out.size;omega) (GN f.out))) (fun hf=>?_) fun _=>rfl;exact absurd hf (by unfold Po.Ar.Fits;dsimp only;omega)
 have k2:¬(b<0):=p;by_cases C:c<1
 case pos=>
  go_wp2_with fail
  obtain⟨hz,j⟩:=fN w1 G _ _ _ _ (.pointer none) (.int .i64 0) (.int .i64 0) (.int .i64 0) f.out;refine bodyPost_ret (dW _ _ G _ _ _ _ _ rfl rfl hz) rfl ?_;refine g.out _ _ (i.out.trans (j.one (by have:=m.out;have:=i.out.size;omega) (GN f.out))) (fun hf=>?_) fun _=>rfl;exact absurd hf (by unfold Po.Ar.Fits;dsimp only;omega)
 have k3:¬(c<1):=C;have Q:=GW ((n:Int)-b) (by have:=k.out;have:=L.out.2.1;unfold bF at this;dsimp only at this;omega);have P:IntKind.i64.wrap (((n:Int)-b).tdiv 4)=((n:Int)-b).tdiv 4:=GW _ (zl _ (by have s:=k.out;have p:=L.out.2.1;unfold bF at p;dsimp only at p;omega));have o:=zk ((n:Int)-b) c (by omega);have u:(n:Int)-b<4*c->((n:Int)-b).tdiv 4<c:=o.2;have t:((n:Int)-b).tdiv 4<c->(n:Int)-b<4*c:=o.1;have D:=GD t;clear o;by_cases J:((n:Int)-b).tdiv 4<c
 case pos=>
  go_wp2_with fail
  obtain⟨hz,j⟩:=fN w1 G _ _ _ _ (.pointer none) (.int .i64 0) (.int .i64 0) (.int .i64 0) f.out;refine bodyPost_ret (dW _ _ G _ _ _ _ _ rfl rfl hz) rfl ?_;refine g.out _ _ (i.out.trans (j.one (by have:=m.out;have:=i.out.size;omega) (GN f.out))) (fun hf=>?_) fun _=>rfl;exact absurd hf (by unfold Po.Ar.Fits;dsimp only;have:=D.out J;omega)
 have O:¬(((n:Int)-b).tdiv 4<c):=J;have k5:4*c<=(n:Int)-b:=by have:=fun h=>O (u h);omega
 have T:=GW (4*c) (by have:=k.out;omega);have S:=GW (b+4*c) (by have:=k.out;omega);have R:=GW (sp+5) (by have:=k.out;omega);by_cases Z:sp<b+4*c
 ·by_cases Y:b<sp+5
  ·go_wp2_with fail
   obtain⟨hz,j⟩:=fN w1 G _ _ _ _ (.pointer none) (.int .i64 0) (.int .i64 0) (.int .i64 0) f.out;refine bodyPost_ret (dW _ _ G _ _ _ _ _ rfl rfl hz) rfl ?_;refine g.out _ _ (i.out.trans (j.one (by have:=m.out;have:=i.out.size;omega) (GN f.out))) (fun hf=>?_) fun _=>rfl;exact absurd hf (by unfold Po.Ar.Fits;dsimp only;omega)
  ·have k7:¬(b<sp+5):=Y;go_wp2_with fail
   obtain⟨hz,j⟩:=fN w1 G _ _ _ _ (.pointer (some ⟨B,0,none⟩)) (.int .i64 sp) (.int .i64 b) (.int .i64 c) f.out;refine bodyPost_ret (dW _ _ G _ _ _ _ _ rfl rfl hz) rfl ?_;refine g.out _ _ (i.out.trans (j.one (by have:=m.out;have:=i.out.size;omega) (GN f.out))) (fun _=>rfl) fun hf=>?_;exact absurd (by unfold Po.Ar.Fits;dsimp only;omega) hf
 ·have k6:¬(sp<b+4*c):=Z;go_wp2_with fail
  obtain⟨hz,j⟩:=fN w1 G _ _ _ _ (.pointer (some ⟨B,0,none⟩)) (.int .i64 sp) (.int .i64 b) (.int .i64 c) f.out;refine bodyPost_ret (dW _ _ G _ _ _ _ _ rfl rfl hz) rfl ?_;refine g.out _ _ (i.out.trans (j.one (by have:=m.out;have:=i.out.size;omega) (GN f.out))) (fun _=>rfl) fun hf=>?_;exact absurd (by unfold Po.Ar.Fits;dsimp only;omega) hf
def kv(S b N:Nat):Po.Ar:=⟨S,b,N⟩
theorem kj{n S b N:Nat}:(kv S b N).Fits n↔Rg.il n S b N:=by
 unfold kv Po.Ar.Fits;dsimp only;constructor
 ·rintro⟨g,f,e,d,c,a⟩;exact⟨by omega,by omega,by omega,by omega⟩
 ·intro h;have:=h.one;have:=h.spare;have:=h.base;have:=h.apart;omega
theorem Bu{n:Nat}{a:Po.Ar}(h:a.Fits n):∃S b N,a=kv S b N:=by
 obtain⟨x,y,z⟩:=a;obtain⟨i,d,c,g,f,e⟩:=h;dsimp only at*
 obtain⟨S,rfl⟩:=Int.eq_ofNat_of_zero_le d;obtain⟨b,rfl⟩:=Int.eq_ofNat_of_zero_le c;obtain⟨N,rfl⟩:=Int.eq_ofNat_of_zero_le (show(0:Int)<=z by omega);exact⟨S,b,N,rfl⟩
theorem th(a:Po.Ar)(w:World):∃W,W=w.alloc (.cells #[.int .i64 a.spare,.int .i64 a.base,.int .i64 a.cg] 46)/\
 W.heap[w.heap.size]?=some (.cells #[.int .i64 a.spare,.int .i64 a.base,.int .i64 a.cg] 46 (0,0))/\Below w.heap.size w W:=⟨_,rfl,GM _ _,(GF _ _).alloc (GH _) _⟩
set_option maxHeartbeats 3200000 in
set_option maxRecDepth 20000 in
theorem BB{w:World}{B E D n S b N:Nat}{d:Dk.ak}(t:bc w B E D d)(u:Wl.aX n d)(hf:(kv S b N).Fits n)(r:n<=65536):Calls Tryz.prog 19 #[.pointer (some ⟨B,0,none⟩),yR (kv S b N)] w fun e w'=>we B E D (Rg.ju d S b N) w e w':=by
 have h:=kj.1 hf;obtain⟨W,G,q,p⟩:=th (kv S b N) w;have hs:=h.spare;have j:=qx (t.below p) u.sz (by omega) r (kv S b N) ⟨⟨by unfold kv;dsimp only;omega,by unfold kv;dsimp only;omega⟩,⟨by unfold kv;dsimp only;have:=h.base;omega,by unfold kv;dsimp only;have:=h.base;omega⟩,⟨by unfold kv;dsimp only;have:=h.base;omega,by unfold kv;dsimp only;have:=h.base;omega⟩⟩;have a0:=ah q 0 (v:=.int .i64 (S:Int)) rfl;have J:=ah q 1 (v:=.int .i64 (b:Int)) rfl;have I:=ah q 2 (v:=.int .i64 (N:Int)) rfl;have o:=GD j;have O:=GD hf;have M:=GD h;have L:=GD u;have z:Hid (n<=65536):=r;have K:=GD (t.below p);have C:=GD p;clear t u hf r h q p hs j;unfold yR;go_enter Tryz.func19,Tryz.ntmps19;go_upto_region 1 with(fail)
 rw[<-G];clear G;go_wp2_with fail
 refine o.out.mono ?_;rintro e w1⟨c,he,-⟩;have he:=he O.out;subst he;have P:=GD c;obtain⟨W2,f⟩:∃W2,W2=w1.alloc (.cells #[.pointer (some ⟨B,0,none⟩),.int .i64 (S:Int),.int .i64 (b:Int),.int .i64 (N:Int)] 95):=⟨_,rfl⟩
 have g:Below w1.heap.size w1 W2:=by rw[f];exact(GF _ _).alloc (GH _) _
 have a:fT W2 w1.heap.size B S b N:=by rw[f];exact GM _ _
 have H:=GD (Ci ((K.out.below c).below g) L.out M.out z.out);have A:Hid (Below w.heap.size w W2):=(C.out.trans (c.mono C.out.size)).trans (g.mono (GR C.out.size c.size));have i:=a.c0;have m:=a.c1;have l:=a.c2;have k:=a.c3;obtain⟨Q,s⟩:∃Q,Q=w1.heap.size:=⟨_,rfl⟩
 rw[<-s]at i m l k;clear c g a o a0 J I;unfold Fq kv;dsimp only;go_upto_region 2 with(fail)
 rw[<-f,<-s];clear f s;go_wp2_with fail
 refine H.out.mono ?_;rintro e R⟨rfl,hp,F⟩;have y:=GD hp;have x:=GD F;clear hp F H i m l k;go_wp2_with fail
 go_ret;exact⟨rfl,y.out,(Touch.ax A.out).trans x.out⟩
structure Fr where
 aw:Nat
 bl:Nat
 u:Value
 pins:Nat
 aD:Bool
 first:Nat
 used:Bool
def Fr.zero:Fr:=⟨0,0,.slice none 0 0,0,false,0,false⟩
def oT(f:Fr):List Value:=[.int .i64 (f.aw:Int),.int .u64 (f.bl:Int),f.u,.int .i64 (f.pins:Int),.bool f.aD,.int .u64 (f.first:Int),.bool f.used]
def lP(F:List Fr):List Value:=F.flatMap oT
def fa(F:List Fr)(i:Nat):Fr:=F.getD i Fr.zero
theorem bW(F:List Fr){i:Nat}(a:i<F.length)(f:Fr)(j:Nat):fa (F.set i f) j=if j=i then f else fa F j:=by
 unfold fa;by_cases h:j=i
 ·subst h;rw[GU rfl,GG,Ix a];rfl
 ·rw[GQ h,GG,Iw (H4 h),<-GG]
theorem fR:∀F:List Fr,(lP F).length=F.length*7
 | []=>rfl
 |h::l=>by
  have:=fR l;simp only[lP,Ha,GI,G2]at*
  simp only[oT,G2,Hz];omega
theorem wN:∀(F:List Fr)(i j:Nat),i<F.length->j<7->(lP F)[i*7+j]?=(oT (fa F i))[j]?
 | [],i,j,h,_=>by simp at h
 |x::l,0,j,_,hj=>by
  show(oT x++lP l)[0*7+j]?=(oT x)[j]?
  rw[Ig (by show 0*7+j<7;omega),Nat.zero_mul,H8]
 |x::l,i+1,j,h,hj=>by
  have a:=wN l i j (by simpa using h) hj;show(oT x++lP l)[(i+1)*7+j]?=(oT (fa l i))[j]?
  rw[Hy (by show 7<=(i+1)*7+j;omega),show(i+1)*7+j-(oT x).length=i*7+j by show(i+1)*7+j-7=_;omega];exact a
theorem tv:∀(F:List Fr)(i j:Nat)(v:Value)(f:Fr),i<F.length->j<7->oT f=(oT (fa F i)).set j v->(lP F).set (i*7+j) v=lP (F.set i f)
 | [],i,j,v,f,h,_,_=>by simp at h
 |x::l,0,j,v,f,_,hj,e=>by
  show(oT x++lP l).set (0*7+j) v=oT f++lP l;rw[Nat.zero_mul,H8,List.set_append_left _ _ (show j<(oT x).length from hj)];have e:oT f=(oT x).set j v:=e;rw[e]
 |x::l,i+1,j,v,f,h,hj,e=>by
  have a:=tv l i j v f (by simpa using h) hj e;show(oT x++lP l).set ((i+1)*7+j) v=oT x++lP (l.set i f);rw[Jd _ _ (by show 7<=(i+1)*7+j;omega),show(i+1)*7+j-(oT x).length=i*7+j by show(i+1)*7+j-7=_;omega,a]
def yS(B S b N L aS hand mp:Nat)(F:List Fr):List Value:=
 [.pointer (some ⟨B,0,none⟩),.int .i64 (S:Int),.int .i64 (b:Int),.int .i64 (N:Int),.pointer (some ⟨L,0,none⟩)]++(lP F++[.int .i64 (aS:Int),.int .i64 (hand:Int),.map (some mp)])
structure aF(w:World)(P B S b N L aS hand mp:Nat)(F:List Fr):Prop where
 len:F.length=64
 row:w.heap[P]?=some (.cells (yS B S b N L aS hand mp F).toArray 100 (0,0))
section
variable{w w':World}{P B S b N L aS hand mp:Nat}{F:List Fr}
theorem aF.lt(h:aF w P B S b N L aS hand mp F):P<w.heap.size:=GN h.row
theorem aF.aj{T:Nat->Prop}(h:aF w P B S b N L aS hand mp F)(a:Touch T w w')(hs:¬T P):aF w' P B S b N L aS hand mp F:=⟨h.len,a.row h.row hs⟩
theorem aF.below(h:aF w P B S b N L aS hand mp F)(a:Below w.heap.size w w'):aF w' P B S b N L aS hand mp F:=⟨h.len,(a.block P h.lt).trans h.row⟩
theorem aF.cell(h:aF w P B S b N L aS hand mp F)(i:Nat){v:Value}(a:(yS B S b N L aS hand mp F)[i]?=some v):w.cell? ⟨P,i,none⟩=some v:=ah h.row i (by rw[List.getElem?_toArray];exact a)
theorem aF.free(h:aF w P B S b N L aS hand mp F)(i:Nat):w.frozen? ⟨P,i,none⟩=false:=aC h.row i
theorem aF.c0(h:aF w P B S b N L aS hand mp F):w.cell? ⟨P,0,none⟩=some (.pointer (some ⟨B,0,none⟩)):=h.cell 0 rfl
theorem aF.c1(h:aF w P B S b N L aS hand mp F):w.cell? ⟨P,1,none⟩=some (.int .i64 (S:Int)):=h.cell 1 rfl
theorem aF.c2(h:aF w P B S b N L aS hand mp F):w.cell? ⟨P,2,none⟩=some (.int .i64 (b:Int)):=h.cell 2 rfl
theorem aF.c3(h:aF w P B S b N L aS hand mp F):w.cell? ⟨P,3,none⟩=some (.int .i64 (N:Int)):=h.cell 3 rfl
theorem aF.c4(h:aF w P B S b N L aS hand mp F):w.cell? ⟨P,4,none⟩=some (.pointer (some ⟨L,0,none⟩)):=h.cell 4 rfl
theorem ri(h:F.length=64)(j:Nat):(yS B S b N L aS hand mp F)[453+j]?=[.int .i64 (aS:Int),.int .i64 (hand:Int),Value.map (some mp)][j]?:=by
 have hl:=fR F;unfold yS;rw[Hy (by show 5<=453+j;omega),Hy (by rw[hl];show _<=453+j-5;omega),show 453+j- [Value.pointer (some ⟨B,0,none⟩),.int .i64 (S:Int),.int .i64 (b:Int),.int .i64 (N:Int),.pointer (some ⟨L,0,none⟩)].length-(lP F).length=j by rw[hl];show 453+j-5-_=j;omega]
theorem aF.D5(h:aF w P B S b N L aS hand mp F):w.cell? ⟨P,453,none⟩=some (.int .i64 (aS:Int)):=h.cell 453 (ri h.len 0)
theorem aF.ES(h:aF w P B S b N L aS hand mp F):w.cell? ⟨P,454,none⟩=some (.int .i64 (hand:Int)):=h.cell 454 (ri h.len 1)
theorem aF.pk(h:aF w P B S b N L aS hand mp F):w.cell? ⟨P,455,none⟩=some (.map (some mp)):=h.cell 455 (ri h.len 2)
theorem aF.fr(h:aF w P B S b N L aS hand mp F){i:Nat}(d:i<64)(j:Nat)(c:j<7){v:Value}(a:(oT (fa F i))[j]?=some v):w.cell? ⟨P,5+i*7+j,none⟩=some v:=by
 refine h.cell _ ?_;have hl:=fR F;unfold yS;rw[Hy (by show 5<=5+i*7+j;omega),show 5+i*7+j- [Value.pointer (some ⟨B,0,none⟩),.int .i64 (S:Int),.int .i64 (b:Int),.int .i64 (N:Int),.pointer (some ⟨L,0,none⟩)].length=i*7+j by show 5+i*7+j-5=_;omega,Ig (by rw[hl,h.len];omega),wN F i j (by rw[h.len];exact d) c];exact a
theorem aF.set(h:aF w P B S b N L aS hand mp F){i:Nat}(c:i<64)(j:Nat)(a:j<7)(v:Value)(f:Fr)(e:oT f=(oT (fa F i)).set j v):aF (w.setCell ⟨P,5+i*7+j,none⟩ v) P B S b N L aS hand mp (F.set i f):=by
 refine⟨by rw[G4];exact h.len,?_⟩;rw[aN h.row];have hl:=fR F;have d:(yS B S b N L aS hand mp F).set (5+i*7+j) v=yS B S b N L aS hand mp (F.set i f):=by
  unfold yS;rw[Jd _ _ (by show 5<=5+i*7+j;omega),show 5+i*7+j- [Value.pointer (some ⟨B,0,none⟩),.int .i64 (S:Int),.int .i64 (b:Int),.int .i64 (N:Int),.pointer (some ⟨L,0,none⟩)].length=i*7+j by show 5+i*7+j-5=_;omega,List.set_append_left _ _ (by rw[hl,h.len];omega),tv F i j v f (by rw[h.len];exact c) a e]
 rw[<-d];simp
theorem aF.BR(h:aF w P B S b N L aS hand mp F)(k:Nat):aF (w.setCell ⟨P,454,none⟩ (.int .i64 (k:Int))) P B S b N L aS k mp F:=by
 refine⟨h.len,?_⟩;rw[aN h.row];have hl:=fR F;have a:(yS B S b N L aS hand mp F).set 454 (.int .i64 (k:Int))=yS B S b N L aS k mp F:=by
  unfold yS;rw[Jd _ _ (by show 5<=454;omega),show 454- [Value.pointer (some ⟨B,0,none⟩),.int .i64 (S:Int),.int .i64 (b:Int),.int .i64 (N:Int),.pointer (some ⟨L,0,none⟩)].length=449 from rfl,Jd _ _ (by rw[hl,h.len];decide),show 449-(lP F).length=1 by rw[hl,h.len]];rfl
 rw[<-a];simp
end
theorem eX(H:List (Option Nat)):(bO H).length=H.countP Option.isSome:=by
 have a:∀(L:List (Option (List Nat)))(i:Nat),(Dk.eK i L).length=L.countP Option.isSome:=fun L=>by
  induction L with
  |nil=>intro i;rfl
  |cons x r ih=>
   intro i;cases x with
   |none=>simp[Dk.eK,ih]
   |some b=>simp[Dk.eK,ih]
 unfold bO;rw[a,qp]
theorem cE(H:List (Option Nat))(k:Nat):k∈bO H↔H.getD k none≠none:=by
 have j:∀(L:List (Option (List Nat)))(i:Nat),(k∈Dk.eK i L↔i<=k/\L.getD (k-i) none≠none):=fun L=>by
  induction L with
  |nil=>intro i;simp[Dk.eK]
  |cons x r ih=>
   intro i;have f:∀y:Option (List Nat),i<k->(y::r).getD (k-i) none=r.getD (k-(i+1)) none:=fun y h=>by rw[show k-i=(k-(i+1))+1 by omega];rfl
   cases x with
   |none=>
    simp only[Dk.eK,ih];constructor
    ·rintro⟨g,a⟩;exact⟨by omega,by rw[f _ (by omega)];exact a⟩
    ·rintro⟨g,a⟩;rcases Hi i k with d|d
     ·rw[f _ d]at a;exact⟨d,a⟩
     ·rw[show k-i=0 by omega]at a;exact absurd rfl a
   |some b=>
    simp only[Dk.eK,IX,ih];constructor
    ·rintro(rfl|⟨g,a⟩)
     ·exact⟨GH _,by rw[Nat.sub_self];intro c;cases c⟩
     ·exact⟨by omega,by rw[f _ (by omega)];exact a⟩
    ·rintro⟨g,a⟩;rcases Hi i k with d|d
     ·rw[f _ d]at a;exact GL ⟨d,a⟩
     ·exact GJ (by omega)
 unfold bO;rw[j,Nat.sub_zero];unfold lZ;constructor
 ·rintro⟨-,h⟩e;rw[GG,Je]at h;rw[GG]at e;cases hx:H[k]? with
  |none=>rw[hx]at h;exact h rfl
  |some x=>
   rw[hx]at h e;cases x with
   |none=>exact h rfl
   |some y=>cases e
 ·intro h;refine⟨G7 _,fun e=>h ?_⟩;rw[GG,Je]at e;rw[GG];cases hx:H[k]? with
  |none=>rfl
  |some x=>
   rw[hx]at e;cases x with
   |none=>rfl
   |some y=>cases e
theorem fw{w:World}{P B S b N L aS hand mp:Nat}{F:List Fr}(h:aF w P B S b N L aS hand mp F):Calls Tryz.prog 38 #[.pointer (some ⟨P,0,none⟩)] w fun e w'=>e=.returned (.bool false)/\w'=w:=by
 have c0:=h.c0;clear h;go_enter Tryz.func38,Tryz.ntmps38;go_wp2_with fail
 go_ret;exact⟨rfl,rfl⟩
def pz(N:Nat)(n:Int):Nat:=if 0<=n/\n<(N:Int)then 0 else 2
theorem dz{w:World}{P B S b N L aS hand mp:Nat}{F:List Fr}(h:aF w P B S b N L aS hand mp F)(n:Int):Calls Tryz.prog 47 #[.pointer (some ⟨P,0,none⟩),.int .i64 n] w fun e w'=>e=.returned (.int .i64 (pz N n:Int))/\Below w.heap.size w w':=by
 have f:=fw h;have c:=A5 B S b N n w;unfold rW at c;have c0:=h.c0;have c1:=h.c1;have c2:=h.c2;have c3:=h.c3;have i:=GD f;have j:=GD c;clear h f c;go_enter Tryz.func47,Tryz.ntmps47;go_wp2_with fail
 refine i.out.mono ?_;rintro e w1⟨rfl,rfl⟩;clear i;go_wp2_with fail
 refine j.out.mono ?_;rintro e w2⟨rfl,g⟩;have k:=GD g;clear g j c0 c1 c2 c3;by_cases a:0<=n/\n<(N:Int)
 ·rw[GK a];have d:Hid (pz N n=0):=GU a;clear a;go_wp2_with fail
  go_ret;exact⟨by rw[d.out];rfl,k.out⟩
 ·rw[GY a];have d:Hid (pz N n=2):=GQ a;clear a;go_wp2_with fail
  go_ret;exact⟨by rw[d.out];rfl,k.out⟩
def wO(P:Nat):Option Nat->Value
 |some i=>.pointer (some ⟨P,5+i*7,none⟩)
 |none=>.pointer none
set_option maxHeartbeats 1600000 in
theorem dT{w:World}{P B S b N L aS hand mp:Nat}{F:List Fr}{H:List (Option Nat)}(h:aF w P B S b N L aS hand mp F)(hm:dm w mp H)(n:Int)(a: -9223372036854775808<=n/\n<=9223372036854775807):
 Calls Tryz.prog 41 #[.pointer (some ⟨P,0,none⟩),.int .i64 n] w fun e w'=>e=.returned (wO P (hz H n))/\w'=w:=by
 have c5:=h.pk;have hl:=hm.look_ok a.1 a.2;have hs:∀i,hz H n=some i->i<64:=fun i c=>hm.small a.1 a.2 c;clear h hm a;generalize hz H n=x at*
 cases x with
 |none=>
  clear hs;go_enter Tryz.func41,Tryz.ntmps41;go_wp2_with fail
  go_ret;exact⟨rfl,rfl⟩
 |some i=>
  have c:=hs i rfl;have d:(i:Int)<64:=by omega
  clear hs;go_enter Tryz.func41,Tryz.ntmps41;go_wp2_with fail
  go_ret;exact⟨rfl,rfl⟩
theorem AI{a c:Nat}(h:0<c):(a%c+1)%c=(a+1)%c:=by rw[Nat.add_mod (a%c),Nat.mod_mod,<-Nat.add_mod]
theorem oB{hand j c:Nat}:(hand+(c+j))%c=(hand+j)%c:=by rw[show hand+(c+j)=(hand+j)+c by omega,Nat.add_mod_right]
theorem Cg{hand c a:Nat}(d:hand<c)(b:a<c):∃j,c<=j/\j<2*c/\(hand+j)%c=a:=by
 rcases Hi a hand with h|h
 ·refine⟨c+(a+c-hand),by omega,by omega,?_⟩;rw[oB,show hand+(a+c-hand)=a+c by omega,Nat.add_mod_right,IP b]
 ·refine⟨c+(a-hand),by omega,by omega,?_⟩;rw[oB,show hand+(a-hand)=a by omega,IP b]
def fU(F a:List Fr):Prop:=∀j,∃x,fa a j={fa F j with used:=x}
theorem fU.refl(F:List Fr):fU F F:=fun j=>⟨_,rfl⟩
theorem fU.set{F a:List Fr}(h:fU F a){i:Nat}(c:i<a.length)(x:Bool):fU F (a.set i {fa a i with used:=x}):=fun j=>by
 rw[bW a c];by_cases e:j=i
 ·subst e;obtain⟨y,b⟩:=h j;exact⟨x,by rw[GU rfl,b]⟩
 ·rw[GQ e];exact h j
theorem fU.pins{F a:List Fr}(h:fU F a)(j:Nat):(fa a j).pins=(fa F j).pins:=by obtain⟨x,e⟩:=h j;rw[e]
def Gm(P B S b N L aS mp:Nat)(F:List Fr)(h:Nat)(w:World)(e:Ending)(w':World):Prop:=
 ∃(i a:Nat)(ok:Bool)(c:List Fr),e=.returned (.tuple #[.int .i64 (i:Int),.bool ok])/\aF w' P B S b N L aS a mp c/\a<aS/\fU F c/\(∀j,aS<=j->fa c j=fa F j)/\Touch (·=P) w w'/\
  (h<aS->i=h/\ok=true/\c=F)/\(¬h<aS->(ok=true->i<aS/\(fa F i).pins=0)/\(ok=false->∀j,j<aS->(fa F j).pins≠0))
def FY(P B S b N L aS mp:Nat)(F:List Fr)(hand:Nat)(w0:World)(i:Value)(wr:World):Prop:=
 ∃(t:Nat)(a:List Fr),t<=2*aS/\i=.int .i64 (t:Int)/\aF wr P B S b N L aS ((hand+t)%aS) mp a/\fU F a/\(∀j,aS<=j->fa a j=fa F j)/\Touch (·=P) w0 wr/\(∀j,j<t->j<aS->(fa a ((hand+j)%aS)).used=false)/\(∀j,aS<=j->j<t->(fa F ((hand+j)%aS)).pins≠0)
set_option maxHeartbeats 3200000 in
set_option maxRecDepth 20000 in
theorem oe{w:World}{P B S b N L aS hand mp:Nat}{F:List Fr}{H:List (Option Nat)}(h:aF w P B S b N L aS hand mp F)(hm:dm w mp H)(ad:1<=aS)(hc:aS<=64)(hh:hand<aS)(O:H.countP Option.isSome<=aS):
 Calls Tryz.prog 73 #[.pointer (some ⟨P,0,none⟩)] w fun e w'=>Gm P B S b N L aS mp F (H.countP Option.isSome) w e w':=by
 have c3:=h.D5;have c5:=h.pk;have q:=fun n=>(show dm (w.drewN n) mp H from hm.aj ((Touch.refl (fun _=>False) w).drewN n) id).jj;have J:=hm.jj;have HR:=GD h;have m:Hid (1<=aS/\aS<=64/\hand<aS):=⟨ad,hc,hh⟩
 obtain⟨k,hk⟩:∃k,k=H.countP Option.isSome:=⟨_,rfl⟩
 rw[<-hk]at J q O⊢;clear hm hk h ad hc hh;by_cases hlt:k<aS
 case pos=>
  have hi:(k:Int)<(aS:Int):=by omega
  have D:=GD hlt;clear hlt O;go_enter Tryz.func73,Tryz.ntmps73;go_upto_region 1 with(fail)
  go_quiet (fail)
  have aa:=q nq;have s:Hid (aF (w.drewN nq) P B S b N L aS hand mp F):=HR.out.aj ((Touch.refl (fun _=>False) w).drewN nq) id;have U:Hid (Touch (·=P) w (w.drewN nq)):=(Touch.refl _ w).drewN nq;clear q J c3 c5;generalize w.drewN nq=wq at*
  have c5:=s.out.pk;go_wp2_with fail
  go_ret2
  exact⟨k,hand,true,F,rfl,s.out,m.out.2.2,fU.refl F,(fun _ _=>rfl),U.out,fun _=>⟨rfl,rfl,rfl⟩,fun h=>absurd D.out h⟩
 have hi:¬(k:Int)<(aS:Int):=by omega
 have D:Hid (¬k<aS):=hlt;have aq:=GW (2*(aS:Int)) (by have:=m.out;omega);clear hlt O;go_enter Tryz.func73,Tryz.ntmps73;go_upto_region 1 with(fail)
 go_quiet (fail)
 have aa:=q nq;have s:Hid (aF (w.drewN nq) P B S b N L aS hand mp F):=HR.out.aj ((Touch.refl (fun _=>False) w).drewN nq) id;have U:Hid (Touch (·=P) w (w.drewN nq)):=(Touch.refl _ w).drewN nq;clear q J c3 c5 aa;generalize w.drewN nq=wq at*
 have c3:=s.out.D5;go_wp2_with fail
 clear c3;go_loopw [26] (fun i wr=>FY P B S b N L aS mp F hand w i wr) (fun i _=>2*aS-(intOf i).toNat)
 case atStart=>exact⟨0,F,G7 _,rfl,by rw[Ia,IP m.out.2.2];exact s.out,fU.refl F,(fun _ _=>rfl),U.out,fun j K=>absurd K (Ii j),fun j _ K=>absurd K (Ii j)⟩
 case round=>
  obtain⟨t,y,ht,rfl,c,A,G,z,hu,hp⟩:=hrel;have x:=GD G;clear G;have I:=GD c;have W:=GD A;have au:=GD z;have HU:=GD hu;have ae:=GD hp;by_cases hlt:t<2*aS
  case neg=>
   obtain rfl:t=2*aS:=by omega
   have ao:¬((2*aS:Nat):Int)<2*(aS:Int):=by omega
   clear c A z hu hp hlt ht;go_wp2_with fail
   go_ret2
   refine⟨0,_,false,y,rfl,I.out,Nat.mod_lt _ (by have:=m.out;omega),W.out,x.out,au.out,fun h=>absurd h D.out,fun _=>⟨(fun e=>by cases e),fun _ j K=>?_⟩⟩;obtain⟨j',T,l,R⟩:=Cg m.out.2.2 K;rw[<-R];exact ae.out j' T l
  have HT:=GD hlt;have ao:(t:Int)<2*(aS:Int):=by omega
  obtain⟨d,r⟩:∃d,d=(hand+t)%aS:=⟨_,rfl⟩
  have ab:d<aS:=by rw[r];exact Nat.mod_lt _ (by have:=m.out;omega)
  rw[<-r]at c I;have Y:=GD r;have C:d<64:=by have:=m.out;omega
  have ay:(d:Int)<64:=by omega
  have E:=GD C;have ah:=GD ab;have c3:=c.D5;have c4:=c.ES;have f4:=c.free 454;have an:=GW ((d:Int)+1) (by omega);obtain⟨l,M⟩:∃l,l=(d+1)%aS:=⟨_,rfl⟩
  have al:((d:Int)+1)%(aS:Int)=(l:Int):=by rw[M];norm_cast
  have ak:¬(aS:Int)=0:=by have:=m.out;omega
  have ag:Hid (l=(hand+(t+1))%aS):=by show _=_;rw[M,r,AI (by have:=m.out;omega),Nat.add_assoc]
  have a:=c.BR l;have V:Hid (Touch (·=P) w (wr.setCell ⟨P,454,none⟩ (.int .i64 (l:Int)))):=z.trans (Touch.set P 454 _ rfl);obtain⟨W2,Q⟩:∃W2,W2=wr.setCell ⟨P,454,none⟩ (.int .i64 (l:Int)):=⟨_,rfl⟩
  rw[<-Q]at a V;have f:=GD a;have g3:=a.fr C 3 (by decide) (v:=.int .i64 ((fa y d).pins:Int)) rfl;have g6:=a.fr C 6 (by decide) (v:=.bool (fa y d).used) rfl;have k6:=a.free (5+d*7+6);have Z:=A.pins d;have af:=GD Z;clear c A z hu hp hlt ht r M a Z ab C;go_upto_region 7 with(fail)
  rw[<-Q];clear c3 c4 f4 Q an al ak aq;have o:=f.out.set E.out 6 (by decide) (.bool false) {fa y d with used:=false} rfl;have p:(aS<=t->(fa F d).pins≠0)->FY P B S b N L aS mp F hand w (.int .i64 ((t+1:Nat):Int)) (W2.setCell ⟨P,5+d*7+6,none⟩ (.bool false)):=fun ai=>by
   refine⟨t+1,_,HT.out,rfl,by rw[<-ag.out];exact o,W.out.set (by rw[f.out.len];exact E.out) false,(fun j K=>by rw[bW y (by rw[f.out.len];exact E.out),GQ (by have:=ah.out;omega)];exact x.out j K),V.out.trans (Touch.set P _ _ rfl),fun j T l=>?_,fun j T l=>?_⟩
   ·rw[bW y (by rw[f.out.len];exact E.out)];by_cases e:(hand+j)%aS=d
    ·rw[GU e]
    ·rw[GQ e];refine HU.out j ?_ l;rcases Hi j t with R|R
     ·exact R
     ·exact absurd (by rw[Y.out,show j=t by omega]) e
   ·rcases Hi j t with R|R
    ·exact ae.out j T R
    ·have e:j=t:=by omega
     rw[e,<-Y.out];exact ai (by omega)
  have u:=GD p;have ax:=GW ((t:Int)+1) (by have:=m.out;have:=HT.out;omega);clear p o;by_cases g:(fa y d).pins=0
  ·rw[g]at g3;cases hus:(fa y d).used with
   |false=>
    rw[hus]at g6;have X:Hid ((fa F d).pins=0):=by show _=_;rw[<-af.out];exact g
    clear g hus;go_wp2_with fail
    go_ret2
    exact⟨d,l,true,y,rfl,f.out,by rw[ag.out];exact Nat.mod_lt _ (by have:=m.out;omega),W.out,x.out,V.out,fun h=>absurd h D.out,fun _=>⟨fun _=>⟨ah.out,X.out⟩,fun e=>by cases e⟩⟩
   |true=>
    have ar:=GD hus;rw[hus]at g6;clear g hus;go_wp2_with fail
    go_roundw
    case rel=>
     refine u.out fun h=>?_;have T:=HU.out (t-aS) (by have:=m.out;omega) (by have:=HT.out;omega);rw[<-oB,show aS+(t-aS)=t by omega,<-Y.out,ar.out]at T;cases T
    case measure=>have:=HT.out;simp[intOf];omega
  ·have X:Hid ((fa F d).pins≠0):=by show _≠_;rw[<-af.out];exact g
   have aw:¬((fa y d).pins:Int)=0:=by omega
   have av:(((fa y d).pins:Int)==0)=false:=by simp;omega
   clear g;go_wp2_with fail
   go_roundw
   case rel=>exact u.out fun _=>X.out
   case measure=>have:=HT.out;simp[intOf];omega
structure yN(w:World)(s:Po.S)(f:Fr):Prop where
 bl:f.bl=(s.now f.aw).1
 body:aJ w f.u (s.now f.aw).2
 pins:s.pins f.aw=f.pins
 first:s.first f.aw=if f.aD then some f.first else none
 fl:f.first<18446744073709551616
structure dN(w:World)(B L P S b N hand mp:Nat)(F:List Fr)(H:List (Option Nat))(s:Po.S):Prop where
 row:aF w P B S b N L s.ao hand mp F
 map:dm w mp H
 hlen:H.length=N
 ar:s.ar=kv S b N
 aS:1<=s.ao/\s.ao<=64
 hand:hand<s.ao
 held:s.held=bO H
 jx:∀k i,H.getD k none=some i->i<s.held.length/\(fa F i).aw=k
 jw:∀i,i<s.held.length->H.getD (fa F i).aw none=some i
 fr:∀i,i<s.held.length->yN w s (fa F i)
 rest:∀i,s.held.length<=i->fa F i=Fr.zero
 aI:Po.Good s
 n16:N<=16384
 ne:P≠mp
 yD:∀i g,(fa F i).u.ownBlock=some g->g≠P/\g≠mp
def dI(P mp:Nat)(F:List Fr)(i:Nat):Prop:=i=P\/i=mp\/∃j,(fa F j).u.ownBlock=some i
def dM(X:Nat->Prop)(w:World)(B L P:Nat)(s:Po.S):Prop:=∃S b N hand mp F H,dN w B L P S b N hand mp F H s/\X=dI P mp F
section
variable{w w':World}{B L P S b N hand mp:Nat}{F:List Fr}{H:List (Option Nat)}{s:Po.S}
theorem yN.aj{T:Nat->Prop}{f:Fr}(h:yN w s f)(a:Touch T w w')(hs:∀g,f.u.ownBlock=some g->¬T g):yN w' s f:=⟨h.bl,a.aP h.body (fun _=>hs),h.pins,h.first,h.fl⟩
theorem dN.bq{T:Nat->Prop}(h:dN w B L P S b N hand mp F H s)(a:Touch T w w')(hs:∀i,dI P mp F i->¬T i):dN w' B L P S b N hand mp F H s:=
 ⟨h.row.aj a (hs P (GJ rfl)),h.map.aj a (hs mp (GL (GJ rfl))),h.hlen,h.ar,h.aS,h.hand,h.held,h.jx,h.jw,fun i c=>(h.fr i c).aj a fun g d=>hs g (GL (GL ⟨i,d⟩)),h.rest,h.aI,h.n16,h.ne,h.yD⟩
theorem aJ.jg{v:Value}{l:List Nat}(h:aJ w v l)(h0:0<l.length):∀g,v.ownBlock=some g->g<w.heap.size:=fun g a=>by
 obtain⟨p,cap,b,-,-,hp⟩:=h.form;obtain⟨d,off,rfl,c⟩:=hp h0;rw[b]at a;simp only[Value.ownBlock,GO]at a;rw[<-a];exact kf (c 0 h0)
theorem dN.lt(h:dN w B L P S b N hand mp F H s):∀i,dI P mp F i->i<w.heap.size:=by
 rintro i(rfl|rfl|⟨j,a⟩)
 ·exact h.row.lt
 ·exact h.map.lt
 ·rcases Hi j s.held.length with hl|hl
  ·have c:=(h.fr j hl).body;exact c.jg (by rw[(h.aI.ok _).2.1];decide) i a
  ·rw[h.rest j hl]at a;cases a
theorem dN.bounds(h:dN w B L P S b N hand mp F H s):s.held.length<=s.ao/\H.countP Option.isSome=s.held.length:=⟨h.aI.lS,by rw[h.held,eX]⟩
structure cB(U V:Nat->Prop)(w:World)(B L P S b N hand mp:Nat)(F:List Fr)(H:List (Option Nat))(n:Nat)(d:Dk.ak)(lg:Wl.S)(s:Po.S):Prop where
 log:jW U V w B L d lg
 pm:dN w B L P S b N hand mp F H s
 dV:Rg.il n S b N
 hw:Rg.pS S b N d s.bH
 off:∀i,cr U V i->¬dI P mp F i
 fY:Po.vU lg s
 kz:∀i,Rg.Has S b N i->i<lg.at_\/lg.at_+lg.count+2<=i
 cy:Wl.aX n d
 n16:n<=65536
theorem cB.bq{T:Nat->Prop}{U V:Nat->Prop}{n:Nat}{d:Dk.ak}{lg:Wl.S}(h:cB U V w B L P S b N hand mp F H n d lg s)(a:Touch T w w')(hs:∀i,cr U V i->¬T i)(hp:∀i,dI P mp F i->¬T i):cB U V w' B L P S b N hand mp F H n d lg s:=
 ⟨dO h.log a hs,h.pm.bq a hp,h.dV,h.hw,h.off,h.fY,h.kz,h.cy,h.n16⟩
theorem cB.below{U V:Nat->Prop}{n:Nat}{d:Dk.ak}{lg:Wl.S}(h:cB U V w B L P S b N hand mp F H n d lg s)(c:Below w.heap.size w w'):cB U V w' B L P S b N hand mp F H n d lg s:=
 h.bq (T:=fun i=>w.heap.size<=i) (.ez c fun _ _ h=>h) (fun i a=>by have:=dG h.log i a;omega) fun i a=>by have:=h.pm.lt i a;omega
theorem xc{S b N:Nat}{d j:Dk.ak}{f:Nat->Po.Pg}{at_ c:Nat}(h:Rg.pS S b N d f)(e:Wl.l6 at_ c d j)(g:∀i,Rg.Has S b N i->i<at_\/at_+c+2<=i):Rg.pS S b N j f:=
 h.same (fun i a=>(e i (g i a) (h.idle i a)).1) fun i a=>(e i (g i a) (h.idle i a)).2
end
end Go.Proofs.YtbpodmallknhfaaGreat
