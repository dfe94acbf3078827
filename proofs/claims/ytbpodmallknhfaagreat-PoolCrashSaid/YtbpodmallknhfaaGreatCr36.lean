/- Parts of a proof. Conditions: as each row says. -/
import Derived.Test.YtbpodmallknhfaaGreatCr35
import Derived.Test.YtbpodmallknhfaaGreatCr19
import Derived.Test.YtbpodmallknhfaaGreatCr29
import Derived.Test.YtbpodmallknhfaaGreatCr31
import Derived.Test.YtbpodmallknhfaaGreatCr14
import Derived.RangeFuncLeaves
import Derived.RangeFuncBox
import Derived.RangeFuncFrom
import Derived.RangeFuncWrites
import Derived.RangeFuncCalls
import Derived.Maps.AppendAt
namespace Go.Proofs.YtbpodmallknhfaaGreat
open Go.RowKit
def tW(U V:Nat->Prop)(w:World)(B L:Nat)(d:Dk.aq)(lg:Wl.S):Prop:=ij U V w B L d lg/\lg.start≠0
def DG(d:Dk.aq)(lg:Wl.S):Prop:=Wl.Hd d lg/\lg.start≠0
def gS(d:Dk.aq)(a:Po.Ar)(f:Nat->Po.Pg):Prop:=∃S b N,a=kO S b N/\Rg.gC (Dk.size d) S b N/\Rg.qi S b N d f
def sn(d:Dk.aq)(a:Po.Ar)(c:Nat->Po.Pg->Prop):Prop:=∃S b N,a=kO S b N/\Rg.gC (Dk.size d) S b N/\Rg.sZ S b N d c
theorem DP{S b N c a d:Nat}(h:kO S b N=kO c a d):S=c/\b=a/\N=d:=by
 unfold kO at h;injection h with g f e
 exact⟨Int.ofNat_inj.1 g,Int.ofNat_inj.1 f,Int.ofNat_inj.1 e⟩
theorem mT{S b N i:Nat}:(kO S b N).Has i↔Rg.Has S b N i:=by
 unfold kO Po.Ar.Has Rg.Has;dsimp only;omega
theorem sr{U V:Nat->Prop}{w:World}{B L:Nat}{d:Dk.aq}{lg:Wl.S}(h:ij U V w B L d lg):Dk.size d<=65536:=by
 obtain⟨e,c,pl,b,-,-,a,-⟩:=h;exact a.own.size
theorem tV{U V:Nat->Prop}{w:World}{B L:Nat}{d:Dk.aq}{lg:Wl.S}(h:ij U V w B L d lg):Dk.Ok d:=by
 obtain⟨e,c,pl,b,-,-,a,-⟩:=h;exact a.own.ok
theorem tO{U V X:Nat->Prop}{w:World}{B L P n:Nat}{d:Dk.aq}{lg:Wl.S}{s:Po.S}(h:iq tW jO gS U V X w B L P d lg s)(c:Wl.aY n d):∃S b N hand mp F H,cX U V w B L P S b N hand mp F H n d lg s/\X=eQ P mp F:=by
 obtain⟨S,b,N,hand,mp,F,H,a,f⟩:=h.own;obtain⟨l,k,m,e,g,hw⟩:=h.eu;obtain⟨rfl,rfl,rfl⟩:=DP (a.ar.symm.trans e);rw[c.sz]at g;refine⟨S,b,N,hand,mp,F,H,⟨h.log.1,a,g,hw,by rw[<-f];exact h.off,h.im,fun i j=>h.kf i ?_,c,by rw[<-c.sz];exact sr h.log.1⟩,f⟩;rw[a.ar];exact mT.2 j
theorem Eb{U V:Nat->Prop}{w:World}{B L P S b N hand mp n:Nat}{F:List Fr}{H:List (Option Nat)}{d:Dk.aq}{lg:Wl.S}{s:Po.S}(h:cX U V w B L P S b N hand mp F H n d lg s)(a:lg.start≠0):iq tW jO gS U V (eQ P mp F) w B L P d lg s:=
 ⟨⟨h.log,a⟩,⟨S,b,N,hand,mp,F,H,h.pm,rfl⟩,⟨S,b,N,h.pm.ar,by rw[h.bG.sz];exact h.dW,h.hw⟩,h.off,h.im,fun i c=>h.kf i (by rw[h.pm.ar]at c;exact mT.1 c)⟩
theorem nU{U V f d:Nat->Prop}{w w':World}{B L P S b N hand mp n:Nat}{F g:List Fr}{H1:List (Option Nat)}{d1:Dk.aq}{a:Wl.S}{s1:Po.S}(h:cX f d w' B L P S b N hand mp g H1 n d1 a s1)(l:Touch (fun j=>cY U V j\/j=P\/j=mp) w w')(hu:br U f w)(k:br V d w)(i:br (eQ P mp F) (eQ P mp g) w)(c:a.start≠0):
 fz tW jO gS U V (eQ P mp F) w B L P w' d1 a s1:=
 ⟨f,d,eQ P mp g,Eb h c,l.mono fun j _ e=>(by
  rcases e with(e|e)|e|e
  ·exact Or.inl e
  ·exact Or.inr (Or.inl e)
  ·exact Or.inr (Or.inr (Or.inl e))
  ·exact Or.inr (Or.inr (Or.inr (Or.inl e)))),hu,k,i⟩
theorem zr{X a:Nat->Prop}{w:World}(h:a=X):br X a w:=fun j b=>Or.inl (by rw[<-h];exact b)
theorem A8{X T:Nat->Prop}{w w':World}{B L P:Nat}{s:Po.S}(h:jO X w B L P s)(a:Touch T w w')(hs:∀i,X i->¬T i):jO X w' B L P s:=by
 obtain⟨S,b,N,hand,mp,F,H,c,rfl⟩:=h;exact⟨S,b,N,hand,mp,F,H,c.bQ a hs,rfl⟩
theorem EW{X:Nat->Prop}{w:World}{B L P:Nat}{s:Po.S}(h:jO X w B L P s):∀i,X i->i<w.heap.size:=by
 obtain⟨S,b,N,hand,mp,F,H,a,rfl⟩:=h;exact a.lt
theorem A9{X:Nat->Prop}{w:World}{B L P:Nat}{s:Po.S}(h:jO X w B L P s):Po.Good s:=by
 obtain⟨S,b,N,hand,mp,F,H,a,rfl⟩:=h;exact a.aQ
theorem pY(d:Dk.aq)(n:Int):(Dk.arm d n).1.aP=d.aP/\(Dk.arm d n).1.waits=d.waits/\Dk.size (Dk.arm d n).1=Dk.size d:=by
 unfold Dk.arm;split
 ·exact⟨rfl,rfl,rfl⟩
 ·split
  ·exact⟨rfl,rfl,rfl⟩
  ·exact⟨rfl,rfl,rfl⟩
theorem yL{d:Dk.aq}{a:Po.Ar}{f:Nat->Po.Pg}(n:Int)(h:gS d a f):gS (Dk.arm d n).1 a f:=by
 obtain⟨S,b,N,e,g,hw⟩:=h;obtain⟨l,k,j⟩:=pY d n;exact⟨S,b,N,e,by rw[j];exact g,hw.same (fun i c=>by unfold Rg.wv;rw[k];exact hw.idle i c) fun i _=>by unfold Rg.lv;rw[l]⟩
theorem tP{d:Dk.aq}{a:Po.Ar}{f:Nat->Po.Pg}{n:Nat}(c:List Nat)(g:Wl.aY n d)(h:gS d a f):sn (Dk.ay d c) a fun k x=>x=f k:=by
 obtain⟨S,b,N,e,i,hw⟩:=h;rw[g.sz]at i;exact⟨S,b,N,e,by rw[(g.ay c).sz];exact i,hw.ay g i c⟩
theorem yK{d g:Dk.aq}{a:Po.Ar}{f:Nat->Po.Pg}{at_ count:Nat}(h:gS d a f)(l:Po.ve a at_ count)(j:Po.il at_ count d g)(hs:Dk.size g=Dk.size d):gS g a f:=by
 obtain⟨S,b,N,e,m,hw⟩:=h;subst e;exact⟨S,b,N,rfl,by rw[hs];exact m,sT hw (at_:=at_) (c:=count) j fun i k=>l i (mT.2 k)⟩
theorem tQ{d:Dk.aq}{a:Po.Ar}{n:Nat}(hs:Dk.size d=n)(hf:a.Fits n)(h:∀i,a.Has i->d.waits.getD i none=none/\d.aP.getD i []=Dk.blank):gS d a fun _=>Po.blank:=by
 obtain⟨S,b,N,rfl⟩:=Cr hf;exact⟨S,b,N,rfl,by rw[hs];exact kJ.1 hf,Rg.zn (fun i c=>(h i (mT.2 c)).1) fun i c=>(h i (mT.2 c)).2⟩
theorem EX{U V X:Nat->Prop}{w:World}{B L P n:Nat}{d:Dk.aq}{lg:Wl.S}{s:Po.S}(m:Nat)(h:iq tW jO gS U V X w B L P d lg s)(hC:Wl.Calm n d)(hs:lg.stop<=1000000000000)(hm:(m:Int)<s.ar.cB)(hf:Po.jJ s m):
 Calls Tryz.prog 20 #[.pointer (some ⟨P,0,none⟩),.int .i64 (m:Int)] w fun e w'=>
 ∃u D c x,e=.returned (.tuple #[fZ (s.now m).1 u,.int .i64 0])/\Own w.heap.size w' u (s.now m).2/\nk tW jO gS U V X w B L P w' D c x u/\Wl.Calm n D/\Po.Lf lg c/\Po.qb s x/\m∈x.held/\((∀k,s.first k=none)->D=d/\c=lg):=by
 obtain⟨S,b,N,hand,mp,F,H,q,rfl⟩:=tO h (Wl.jh hC (tV h.log.1));rw[q.pm.ar]at hm;refine(yO q hC hs (by have hm:(m:Int)<(N:Int):=hm;omega) hf).mono ?_;rintro e w'⟨u,i,C,T,H1,R,Q,d1,y,s1,M,K,⟨W,I,p,A,a,o,l,E,v,t,r,f⟩,z⟩;obtain⟨U2,V2,X2,g1,g2,g3,Z,Y⟩:=nU a E v t r (by rw[l.start];exact h.log.2);refine⟨u,d1,y,s1,M,K,⟨R,Q,eQ P mp T,Eb a (by rw[l.start];exact h.log.2),E.mono fun j _ e=>(by
  rcases e with(e|e)|e|e
  ·exact Or.inl e
  ·exact Or.inr (Or.inl e)
  ·exact Or.inr (Or.inr (Or.inl e))
  ·exact Or.inr (Or.inr (Or.inr (Or.inl e)))),v,t,r,fun g J e=>?_⟩,o hC,l,A,p,f⟩
 obtain⟨G,O⟩:=z g J;rcases e with e|e|e
 ·exact G (Or.inl e)
 ·exact G (Or.inr e)
 ·exact O e
theorem EV{U V X:Nat->Prop}{w:World}{B L P n:Nat}{d:Dk.aq}{lg:Wl.S}{s:Po.S}(m:Nat)(h:iq tW jO gS U V X w B L P d lg s)(hC:Wl.Calm n d)(hs:lg.stop<=1000000000000)(hm:(m:Int)<s.ar.cB)(hf:Po.jJ s m)(hp:s.pins m<=1000000):
 Calls Tryz.prog 23 #[.pointer (some ⟨P,0,none⟩),.int .i64 (m:Int)] w fun e w'=>
 e=.returned (.int .i64 0)/\∃t c r,fz tW jO gS U V X w B L P w' t c r/\Wl.Calm n t/\Po.Lf lg c/\Po.Pinned s m r:=by
 obtain⟨S,b,N,hand,mp,F,H,i,rfl⟩:=tO h (Wl.jh hC (tV h.log.1));rw[i.pm.ar]at hm;refine(yN i hC hs (by have hm:(m:Int)<(N:Int):=hm;omega) hf hp).mono ?_;rintro e w'⟨q,z,H1,y,x,d1,j,s1,v,g,a,f,k,u,p,o,l⟩;exact⟨v,d1,j,s1,nU g u p o l (by rw[f.start];exact h.log.2),a hC,f,k⟩
theorem EU{U V X:Nat->Prop}{w:World}{B L P n:Nat}{d:Dk.aq}{lg:Wl.S}{s:Po.S}(m:Nat)(x:Po.Pg)(u:Value)(h:iq tW jO gS U V X w B L P d lg s)(R:Wl.aY n d)(hs:lg.stop<=1000000000000)(hm:(m:Int)<s.ar.cB)(hf:Po.jJ s m)(O:Po.cK x)(T:aV w u x.2)(hl:x.1<lg.stop):
 Calls Tryz.prog 21 #[.pointer (some ⟨P,0,none⟩),.int .i64 (m:Int),fZ x.1 u] w fun e w'=>
 (∃f a I,e=.returned (.int .i64 0)/\fz tW jO gS U V X w B L P w' f a I/\Wl.aY n f/\(Wl.Calm n d->Wl.Calm n f)/\Po.Lf lg a/\Po.rJ s m x I)\/
 (¬Wl.Calm n d/\e=.returned (.int .i64 6)/\∃r f a c,gB r w' B f/\Wl.aY n f/\Touch (eO U V X) w w'/\br U r w/\Po.Lf lg a/\(∀k x,c k x->(x=s.bJ k\/x=s.now k)/\x.1<a.ae)/\∀o,DG (Dk.ay f o) a/\sn (Dk.ay f o) s.ar c):=by
 obtain⟨S,b,N,hand,mp,F,H,i,rfl⟩:=tO h R;have q:=i.pm.ar;rw[q]at hm;refine(vQ i (fun _=>hs) (by have hm:(m:Int)<(N:Int):=hm;omega) x u O T fun _=>hl).mono ?_;intro e w' W;rcases W with⟨E,F1,H1,U1,V1,d1,t,s1,G,g,l,p,v,-,Q,D,C,A⟩|⟨y,-⟩|⟨z,G,r,f,a,c,e2,M,e4,Z,K,Y,J⟩
 ·exact Or.inl ⟨d1,t,s1,G,nU g Q D C A (by rw[p.start];exact h.log.2),g.bG,l,p,v⟩
 ·exact absurd hf y
 ·refine Or.inr ⟨z,G,r,f,a,c,e2,M,e4.mono fun j _ e=>?_,Z,K,Y,fun o=>⟨⟨(J o).1,by rw[K.start];exact h.log.2⟩,S,b,N,q,by rw[(M.ay o).sz];exact i.dW,(J o).2⟩⟩;rcases e with(e|e)|e|e
  ·exact Or.inl e
  ·exact Or.inr (Or.inl e)
  ·exact Or.inr (Or.inr (Or.inl e))
  ·exact Or.inr (Or.inr (Or.inr (Or.inl e)))
theorem Ba{U V X:Nat->Prop}{w:World}{B L P n:Nat}{d:Dk.aq}{lg:Wl.S}{s:Po.S}(m:Nat)(h:iq tW jO gS U V X w B L P d lg s)(M:Wl.aY n d)(hs:lg.stop<=1000000000000)(hm:(m:Int)<s.ar.cB):
 Calls Tryz.prog 25 #[.pointer (some ⟨P,0,none⟩),.int .i64 (m:Int)] w fun e w'=>
 (∃f a E,e=.returned (.int .i64 0)/\fz tW jO gS U V X w B L P w' f a E/\Wl.aY n f/\(Wl.Calm n d->Wl.Calm n f)/\Po.Lf lg a/\Po.mA s m E)\/
 (¬Wl.Calm n d/\e=.returned (.int .i64 6)/\∃r f a c,gB r w' B f/\Wl.aY n f/\Touch (eO U V X) w w'/\br U r w/\Po.Lf lg a/\(∀k x,c k x->(x=s.bJ k\/x=s.now k)/\x.1<a.ae)/\∀o,DG (Dk.ay f o) a/\sn (Dk.ay f o) s.ar c):=by
 obtain⟨S,b,N,hand,mp,F,H,i,rfl⟩:=tO h M;have q:=i.pm.ar;rw[q]at hm;refine(tS i hs (by have hm:(m:Int)<(N:Int):=hm;omega)).mono ?_;intro e w' O;rcases O with⟨C,F1,H1,Z,Y,d1,t,s1,D,g,l,p,u,K,A,z,y⟩|⟨v,D,r,f,a,c,W,J,T,R,I,Q,G⟩
 ·exact Or.inl ⟨d1,t,s1,D,nU g (K.mono fun j _ e=>e.elim Or.inl fun e=>Or.inr (Or.inl e)) A z (zr y) (by rw[p.start];exact h.log.2),g.bG,l,p,u⟩
 ·refine Or.inr ⟨v,D,r,f,a,c,W,J,T.mono fun j _ e=>?_,R,I,Q,fun o=>⟨⟨(G o).1,by rw[I.start];exact h.log.2⟩,S,b,N,q,by rw[(J.ay o).sz];exact i.dW,(G o).2⟩⟩;rcases e with(e|e)|e
  ·exact Or.inl e
  ·exact Or.inr (Or.inl e)
  ·exact Or.inr (Or.inr (Or.inl e))
theorem EC{n S:Nat}{d:Dk.aq}(b:Wl.aY n d)(c:S+5<=n):∀x∈Rg.gm d S,x<256:=by
 intro x a;unfold Rg.gm at a;rcases List.mem_append.1 a with a|a
 ·exact(gg b (by omega)).2 x a
 rcases List.mem_append.1 a with a|a
 ·exact(gg b (by omega)).2 x a
 rcases List.mem_append.1 a with a|a
 ·exact(gg b (by omega)).2 x a
 rcases List.mem_append.1 a with a|a
 ·exact(gg b (by omega)).2 x a
 ·exact(gg b (by omega)).2 x a
theorem Dg{U V:Nat->Prop}{w:World}{B L n:Nat}{d:Dk.aq}{lg:Wl.S}{a:Po.Ar}{f:Nat->Po.Pg}(h:tW U V w B L d lg)(hC:Wl.Calm n d)(hf:a.Fits n)(hw:gS d a f):
 Calls Tryz.prog 19 #[.pointer (some ⟨B,0,none⟩),xo a] w fun e w'=>e=.returned (.int .i64 0)/\∃s i,tW s V w' B L i lg/\Wl.Calm n i/\gS i a f/\Touch U w w'/\br U s w:=by
 have g:=h.2;have h:=h.1;obtain⟨S,b,N,rfl,v,hw⟩:=hw;have o:=Wl.jh hC (tV h);have c:=sr h;obtain⟨l,k,pl,t,A,q,z,y,p,x⟩:=h;refine(uV z o hf (by rw[<-o.sz];exact c)).mono ?_;rintro e w'⟨r,hp,m⟩;have hm:=Rg.ri hC.off hw;rw[hm]at r hp;subst y;refine⟨r,DS B l k,d,⟨⟨l,k,pl,t,A.bQ m fun j u hd=>p j hd (by rw[q];exact u),q,hp,rfl,p,x⟩,g⟩,hC,⟨S,b,N,rfl,v,hw⟩,m,fun _ h=>Or.inl h⟩
theorem qt{U:Nat->Prop}{w:World}{B n:Nat}{d:Dk.aq}{lg:Wl.S}{a:Po.Ar}{c:Nat->Po.Pg->Prop}(h:gB U w B d)(o:Wl.aY n d)(H:d.off=false)(hf:a.Fits n)(K:Po.ve a lg.at_ lg.count)(L:DG d lg)(hp:sn d a c):
 Calls Tryz.prog 19 #[.pointer (some ⟨B,0,none⟩),xo a] w fun e w'=>
 (e=.returned (.int .i64 0)/\∃v g f,gB v w' B g/\Wl.aY n g/\g.off=false/\DG g lg/\gS g a f/\(∀k,Po.cK (f k))/\(∀k:Nat,(k:Int)<a.cB->c k (f k))/\Touch U w w'/\br U v w)\/
 (¬Wl.Calm n d/\∃k:Nat,∃v g,e=.returned (.int .i64 (k:Int))/\k≠0/\gB v w' B g/\Wl.aY n g/\(∀p,DG (Dk.ay g p) lg/\sn (Dk.ay g p) a c)/\Touch U w w'/\br U v w):=by
 obtain⟨S,b,N,rfl,q,hp⟩:=hp;obtain⟨y,x,G,rfl⟩:=h;have z:=G.own.size;rw[o.sz]at q;have j:=Rg.Dq o q (EC o q.spare);have s:=Rg.yZ o H q hp;obtain⟨⟨D,said,t,A⟩,r⟩:=L;have m:=j.ro.dv o A fun i I=>K i (mT.2 I);have l:=j.ro.bG o;refine(uV G o hf (by rw[<-o.sz];exact z)).mono ?_;rintro e w'⟨C,u,E⟩;by_cases h0:(Rg.eI d S b N).2=0
 ·obtain⟨f,f1,f2,f3⟩:=s.1 h0;rw[h0]at C;exact Or.inl ⟨C,DS B y x,_,f,⟨y,x,u,rfl⟩,l,j.on h0,⟨⟨D,said,t,m⟩,r⟩,⟨S,b,N,rfl,by rw[l.sz];exact q,f3⟩,f1,fun k F=>f2 k (by have F:(k:Int)<(N:Int):=F;omega),E,fun _ h=>Or.inl h⟩
 ·exact Or.inr ⟨fun J=>h0 (j.calm J).1,_,DS B y x,_,C,h0,⟨y,x,u,rfl⟩,l,fun p=>⟨⟨Wl.Hd.ay ⟨D,said,t,m⟩ p,r⟩,S,b,N,rfl,by rw[(l.ay p).sz];exact q,s.2 h0 p⟩,E,fun _ h=>Or.inl h⟩
theorem wu(N:Nat):cJ (List.replicate N none)=[]:=by
 refine List.eq_nil_of_length_eq_zero ?_;rw[gy];simp
theorem sL(i:Nat):fa (List.replicate 64 Fr.zero) i=Fr.zero:=by
 unfold fa;exact Dk.cU _ _ _
theorem te{V:Nat->Prop}{U:Nat->Prop}{w:World}{B L:Nat}{d:Dk.aq}{lg:Wl.S}(h:ij U V w B L d lg):∃pl a,aH w L (Wl.kn lg) B lg.at_ lg.count pl a false:=by
 obtain⟨e,c,pl,a,b,-⟩:=h;exact⟨pl,a,b.log⟩
theorem Dh{U V:Nat->Prop}{w:World}{B L n:Nat}{d:Dk.aq}{lg:Wl.S}{a:Po.Ar}{f:Nat->Po.Pg}(fr:Nat)(h:tW U V w B L d lg)(hC:Wl.Calm n d)(hf:a.Fits n)(q:∀k,Po.cK (f k))(v:1<=fr)(C:fr<=64):
 Calls Tryz.prog 18 #[.pointer (some ⟨B,0,none⟩),.pointer (some ⟨L,0,none⟩),xo a,.int .i64 (fr:Int)] w fun e w'=>
 ∃P X,e=.returned (.tuple #[.pointer (some ⟨P,0,none⟩),.int .i64 0])/\jO X w' B L P (Po.fresh f fr a)/\(∀i,X i->w.heap.size<=i)/\Below w.heap.size w w':=by
 have p:=h.2;have h:=h.1;obtain⟨S,b,N,rfl⟩:=Cr hf;have A:=Wl.jh hC (tV h);have c:=sr h;have F:=kJ.1 hf;have u:=F.base;obtain⟨pl,I,o⟩:=te h;obtain⟨K,J,-,-,-,-,G,-⟩:=h;rw[A.sz]at c;refine(vS G A hf c o p fr ⟨v,C⟩).mono ?_;rintro e w'⟨P,mp,H,l,m,E,s,r,D⟩;have M:(Po.fresh f fr (kO S b N)).held=[]:=rfl;refine⟨P,eQ P mp (List.replicate 64 Fr.zero),H,⟨S,b,N,0,mp,_,_,⟨l,m,List.length_replicate,rfl,⟨v,C⟩,v,by rw[wu];rfl,fun k i x=>?_,fun i t=>absurd t (Nat.not_lt_zero i),fun i t=>absurd t (Nat.not_lt_zero i),fun i _=>sL i,Po.lx q,by omega,r,fun i g z=>?_⟩,rfl⟩,?_,D⟩
 ·rw[Dk.cU]at x;cases x
 ·rw[sL]at z;cases z
 ·rintro i(rfl|rfl|⟨j,y⟩)
  ·exact E
  ·exact s
  ·rw[sL]at y;cases y
section
variable{U V X:Nat->Prop}{w:World}{B L P n:Nat}{d:Dk.aq}{lg:Wl.S}{s:Po.S}
theorem Df(m:Nat)(h:iq tW jO gS U V X w B L P d lg s)(hC:Wl.Calm n d)(hm:(m:Int)<s.ar.cB):Calls Tryz.prog 12 #[.pointer (some ⟨P,0,none⟩),.int .i64 (m:Int)] w fun e w'=>e=.returned (.int .i64 (s.pins m:Int))/\∃q,w'=w.drewN q:=by
 obtain⟨S,b,N,hand,mp,F,H,a,-⟩:=tO h (Wl.jh hC (tV h.log.1));rw[a.pm.ar]at hm;refine(vR a (by have hm:(m:Int)<(N:Int):=hm;omega)).mono ?_;rintro e w'⟨f,c⟩;exact⟨f,0,c⟩
end
theorem sd(s:Wl.S)(x:Lr.R):(Wl.dA s x).1.start=s.start:=by
 unfold Wl.dA;by_cases h:Lr.oe (Wl.bf s x)
 ·rw[Lr.ed h];split<;>rfl
 ·rw[Lr.dN h]
theorem Bf:cQ gB tW jO DG gS sn where
 Ed:=Az
 He:=Ep
 Ff:=fun h=>by
  obtain⟨q,p,b,-⟩:=h;exact b.own.ok
 qX:=fun h s hs=>⟨dS h.1 s hs,h.2⟩
 Dl:=fun h=>fg h.1
 dev:=fun h=>Er h.1
 BA:=fun h=>CR (Ay h.1)
 xz:=A8
 GM:=EW
 ud:=A9
 BJ:=fun h z y hs _ _=>yK h z y hs
 ur:=fun _ hs hf h=>tQ hs hf h
 new:=Eo
 make:=fun{U w B n}a c h hf=>(tg (a:Int) (c:Int) h Wl.lB ⟨by omega,by have:=hf.2.2.2;have:=(show Dk.size (Dk.fresh n n)<=65536 by obtain⟨q,p,A,-⟩:=h;exact A.own.size);have:=(Wl.lB (n:=n)).sz;have:=hf.1;omega⟩ ⟨by omega,by have:=hf.2.1;omega⟩).mono fun e w' i=>by
  obtain⟨L,H,l,G,b,d,k,j,F,E,D⟩:=i.1 hf;exact⟨L,H,l,G,b,⟨d,by show(52:Nat)≠0;decide⟩,j,k,F,E,D⟩
 append:=fun x o n u c t h v hf _ hs=>(yf x o n u c t h.1 v hf hs).mono fun e w' i=>by
  obtain⟨b,l,d,k,j⟩:=i;exact⟨b,l,⟨d,by rw[sd];exact h.2⟩,k,j⟩
 end_:=fun h hs=>CS (Ay h.1) hs
 Ge:=fun h hC hf _ _ hw=>Dg h hC hf hw
 mQ:=fun fr h hC hf _ _ f b d=>Dh fr h hC hf f b d
 get:=fun m h hC hs hm hf=>EX m h hC hs hm hf
 put:=fun m x u h g hs hm hf r C hl=>EU m x u h g hs hm hf r C hl
 Hb:=fun m h hC hs hm hf hp=>EV m h hC hs hm hf hp
 pins:=fun m h hC hm _=>Df m h hC hm
 flush:=fun m h g hs hm=>Ba m h g hs hm
theorem EY{U:Nat->Prop}{w:World}{B:Nat}{d:Dk.aq}(n:Int)(h:gB U w B d):Calls Tryz.prog 28 #[.pointer (some ⟨B,0,none⟩),.int .i64 n] w fun e w'=>
 e=.returned (.int .i64 ((Dk.arm d n).2:Nat))/\∃c,gB c w' B (Dk.arm d n).1/\Touch U w w'/\br U c w:=by
 obtain⟨b,a,g,rfl⟩:=h;refine(xW g n).mono ?_;rintro e w'⟨i,hp,f⟩;exact⟨i,DS B b a,⟨b,a,hp,rfl⟩,f,fun _ h=>Or.inl h⟩
theorem yM{d:Dk.aq}{a:Po.Ar}{c:Nat->Po.Pg->Prop}(n:Int)(h:sn d a c):sn (Dk.arm d n).1 a c:=by
 obtain⟨S,b,N,e,t,s,hp⟩:=h;obtain⟨w,v,u⟩:=pY d n;have hl:∀i,Rg.lv (Dk.arm d n).1 i=Rg.lv d i:=fun i=>by unfold Rg.lv;rw[w]
 have hs:Rg.sp (Dk.arm d n).1 S=Rg.sp d S:=Rg.gQ fun j _=>hl _;have q:∀p x,Rg.Home d p x->Rg.Home (Dk.arm d n).1 p x:=fun p x r=>r.eq fun j _=>hl _;refine⟨S,b,N,e,by rw[u];exact t,fun i o=>by unfold Rg.wv;rw[v];exact s i o,?_⟩;obtain⟨f,f1,f2,f3⟩:=hp;refine⟨f,f1,f2,?_⟩;rcases f3 with⟨f3,f4⟩|⟨m,hm,f3,f4⟩
 ·exact Or.inl ⟨f3.eq hs,fun k l=>q _ _ (f4 k l)⟩
 ·exact Or.inr ⟨m,hm,by rw[hs];exact f3,fun k l g=>q _ _ (f4 k l g)⟩
theorem DF{d:Dk.aq}{lg:Wl.S}(n:Int)(h:DG d lg):DG (Dk.arm d n).1 lg:=by
 obtain⟨⟨f,said,c,a⟩,b⟩:=h;obtain⟨i,g,j⟩:=pY d n;refine⟨⟨f,said,c,a.same ?_ i g⟩,b⟩;have e:=a.ok;unfold Dk.arm;split
 ·exact e
 ·split
  ·exact e
  ·cases e;constructor<;>assumption
theorem EZ:xf gB tW DG gS sn where
 uA:=fun a h=>⟨ql a h.1,h.2⟩
 uq:=fun a f h=>tP a f h
 BK:=fun h he=>by
  obtain⟨S,b,N,rfl,u,r,p,s⟩:=h;exact⟨S,b,N,rfl,u,r,p,fun k q=>by rw[<-he k (by show(k:Int)<(N:Int);omega)];exact s k q⟩
 wo:=yL
 wA:=DF
 BL:=yM
 arm:=fun n h=>(Es n h.1).mono fun _ _⟨e,l,j,i,g⟩=>⟨e,l,⟨j,h.2⟩,i,g⟩
 Fk:=EY
 ay:=fun v a h w m=>AA v a h w m
 open_:=fun h hC hf c d hs=>(tf h hC hf c.1 d hs).mono fun e w' x=>by
  obtain⟨k,L,l,F,E,j,i,g,D,C,B,A,z,y⟩:=x;exact⟨k,L,l,F,E,j,i,g,⟨D,c.2⟩,B,C,A,z,y⟩
 ln:=fun h f o hf _ t c hp _=>qt h f o hf t c hp
end Go.Proofs.YtbpodmallknhfaaGreat
