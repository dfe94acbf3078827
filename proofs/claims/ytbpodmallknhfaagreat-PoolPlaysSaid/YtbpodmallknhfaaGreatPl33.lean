/- Parts of a proof. Conditions: as each row says. -/
import Derived.Test.YtbpodmallknhfaaGreatPl19
import Derived.Test.YtbpodmallknhfaaGreatPl32
import Derived.Test.YtbpodmallknhfaaGreatPl09
import Derived.Test.YtbpodmallknhfaaGreatPl24
import Derived.Test.YtbpodmallknhfaaGreatPl30
namespace Go.Proofs.YtbpodmallknhfaaGreat.Rg
open Go.Proofs.YtbpodmallknhfaaGreat
theorem As{l:List Nat}(hl:l.length=640)(a:∀x∈l,x<256){j:Nat}(b:j<5):Dk.gi (part 128 l j):=⟨eI (by omega),j8 a j⟩
theorem dZ(b:List Nat):(gR b).length=5:=rfl
theorem mb{l:List Nat}(hl:l.length=640)(b:∀x∈l,x<256):∀s∈gR l,Dk.gi s:=by
 intro s hs;obtain⟨j,a,rfl⟩:=List.mem_map.1 hs;exact As hl b (List.mem_range.1 a)
theorem sD(b:List Nat){j:Nat}(a:j<5):(gR b).getD j []=part 128 b j:=by
 obtain rfl|rfl|rfl|rfl|rfl:j=0\/j=1\/j=2\/j=3\/j=4:=by omega
 all_goals rfl
section
variable{n S b N:Nat}{d:Dk.ak}{f:Nat->Po.Pg}
theorem xS(f:Wl.aX n d)(l:d.off=false)(g:il n S b N){m:Nat}(hm:m<N){fm:List Nat}(hl:fm.length=512)(o:∀x∈fm,x<256):Op (Has S b N) n d (dB d S (b+4*m) fm):=by
 have p:=g.spare;have q:=g.base;have k:Op (Has S b N) n d (Dk.jc d (b+4*m) (Dk.fX fm)):=mm _ f l (Dk.nQ hl o) (by rw[Dk.ir];omega) fun j e=>cK hm (by rw[Dk.ir]at e;exact e);refine k.jV fun h0=>?_;have c:=k.ro.cy f;generalize Dk.jc d (b+4*m) (Dk.fX fm)=r1 at*
 have i:Op (Has S b N) n r1.1 (Dk.sync r1.1):=ji c;refine i.jV fun h0=>?_;have a:=i.ro.cy c;generalize Dk.sync r1.1=r2 at*
 have h:Op (Has S b N) n r2.1 (Dk.write r2.1 (S:Int) Dk.blank):=iQ a (GJ (by omega)) (by omega) Dk.cP;exact h.jV fun h0=>ji (h.ro.cy a)
theorem AA(c:Wl.aX n d)(f:d.off=false)(h:il n S b N){nb:List Nat}(hl:nb.length=640)(g:∀x∈nb,x<256):Op (Has S b N) n d (rA d S nb):=by
 have i:=h.spare;have e:Op (Has S b N) n d (Dk.jc d S (gR nb)):=mm _ c f (mb hl g) (by rw[dZ];omega) fun j a=>dE (by rw[dZ]at a;exact a);exact e.jV fun h0=>ji (e.ro.cy c)
theorem xR(k:Wl.aX n d)(g:il n S b N){m:Nat}(hm:m<N){fm nb:List Nat}(hl:fm.length=512)(o:∀x∈fm,x<256)(e:nb.length=640)(f:∀x∈nb,x<256):Op (Has S b N) n d (du d S (b+4*m) fm nb):=by
 have p:=g.base;have i:Op (Has S b N) n d (bL d (b+4*m) 4):=lD 4 k (by decide) (by omega) fun j l=>cK hm l;refine i.jV fun h0=>?_;have a:=i.ro.cy k;have c:=i.on h0;generalize bL d (b+4*m) 4=r1 at*
 have h:=AA a c g e f;refine h.jV fun h0=>?_;exact xS (h.ro.cy a) (h.on h0) g hm hl o
theorem ue{m t:Nat}{y:Po.Pg}(V:Wl.aX n d)(B:il n S b N)(h:pS S b N d f)(hf:∀k,Po.cX (f k))(D:Po.cX y)(hm:m<N)(Y:m<65536)(ht:t<256)(O:t∉rG (sp d S) 10):
 ((du d S (b+4*m) (Pg.form y.1 y.2) (laid (Pg.form y.1 y.2) (tag m t))).2=0->pS S b N (du d S (b+4*m) (Pg.form y.1 y.2) (laid (Pg.form y.1 y.2) (tag m t))).1 (Po.cI f m y))/\
 ((du d S (b+4*m) (Pg.form y.1 y.2) (laid (Pg.form y.1 y.2) (tag m t))).2≠0->∀z,uc S b N (Dk.aQ (du d S (b+4*m) (Pg.form y.1 y.2) (laid (Pg.form y.1 y.2) (tag m t))).1 z) fun k x=>x=f k\/(k=m/\x=y)):=by
 have hS:=B.spare;have hB:=B.base;have ab:=B.apart;have U:(Pg.form y.1 y.2).length=512:=by rw[Pg.bP,D.2.1]
 have s:=eL (t:=tag m t) (b:=Pg.form y.1 y.2) (bZ m t) U;have H:=nj (qV (n:=m) ht) (Pg.iA (n:=y.1) D.2.2);have M:=nC (t:=t) D Y;have aa:= @En.aQ n S b N;unfold du;have c0:Op (Has S b N) n d (bL d (b+4*m) 4):=lD 4 V (by decide) (by omega) fun j c=>cK hm c;obtain⟨c1,c2⟩:=kr 4 V (by omega) fun j c=>h.quiet (cK (S:=S) hm c);have v:=c0.ro.cy V;generalize bL d (b+4*m) 4=r1 at*
 generalize R:laid (Pg.form y.1 y.2) (tag m t)=nb at*
 have G:∀i,Has S b N i->QS r1.1 i:=fun i T x a=>by
  rcases c2 i with e|⟨-,-,e⟩
  ·rw[e,h.idle i T]at a;cases a
  ·rw[e]at a;cases a;exact(c1 i).symm
 have r:sp r1.1 S=sp d S:=im fun j _=>c1 _;have w:En S b N nb r1.1 f:=⟨h.no.eq r,fun j c x a=>GJ (G _ (dE c) x a),fun k l j c=>G _ (cK l c),fun k l=>(h.home k l).eq fun j _=>c1 _⟩
 have g:∀{e:Dk.ak},Wl.aX n e->sp e S=sp d S->En S b N nb e f->∀z,uc S b N (Dk.aQ e z) fun k x=>x=f k\/(k=m/\x=y):=fun{e}he P E z=>by
  rw[<-R]at E;exact E.aQ he B hf D hm Y (by rw[P];exact O) z
 by_cases K:r1.2=0
 case neg=>rw[cH _ K];exact⟨fun e=>absurd e K,fun _=>g v r w⟩
 rw[eo _ K];have Q:=c0.on K;unfold rA;obtain⟨w1,w2,W⟩:=qM (gR nb) (d:=r1.1) (p:=S) v (mb s H) (by rw[dZ];omega);have u:Wl.aX n (Dk.jc r1.1 S (gR nb)).1:=(mm (A:=Has S b N) (gR nb) v Q (mb s H) (by rw[dZ];omega) fun j c=>dE (by rw[dZ]at c;exact c)).ro.cy v;generalize Dk.jc r1.1 S (gR nb)=r2 at*
 rw[dZ]at w2 W;have o:sp r2.1 S=sp d S:=(im fun j _=>w1 _).trans r;have q:En S b N nb r2.1 f:=by
  refine⟨h.no.eq o,fun j c x a=>?_,fun k l j c x a=>?_,fun k l=>(w.home k l).eq fun j _=>w1 _⟩
  ·rw[w1];rcases w2 (S+j)with e|⟨e1,e2,L⟩
   ·rw[e]at a;exact w.spare j c x a
   ·rw[L,sD nb (by omega),show S+j-S=j by omega]at a;cases a;exact GL rfl
  ·rw[w1];rcases w2 (b+4*k+j)with e|⟨e1,e2,-⟩
   ·rw[e]at a;exact w.quiet k l j c x a
   ·omega
 have I:=(ji (A:=Has S b N) u).ro.cy u;have Z:∀{k},k<n->QS r2.1 k->(Dk.sync r2.1).2=0->lv (Dk.sync r2.1).1 k=lv r2.1 k/\wv (Dk.sync r2.1).1 k=none:=fun l hq h0=>kK u h0 l hq;obtain⟨s1,s2⟩:=ll u;by_cases J:r2.2=0
 case neg=>
  rw[cH Dk.sync J,cH _ J];exact⟨fun e=>absurd e J,fun _=>g u o q⟩
 rw[eo Dk.sync J];have hw:=W J;generalize Dk.sync r2.1=r3 at*
 by_cases C:r3.2=0
 case neg=>
  rw[cH _ C];have e:=s2 C;refine⟨fun e=>absurd e C,fun _=>g I ((im fun j _=>(e _).1).trans o) ⟨h.no.eq ((im fun j _=>(e _).1).trans o),fun j c x a=>?_,fun k l j c x a=>?_,fun k l=>(q.home k l).eq fun j _=>(e _).1⟩⟩
  ·rw[(e _).2]at a;rw[(e _).1];exact q.spare j c x a
  ·rw[(e _).2]at a;rw[(e _).1];exact q.quiet k l j c x a
 rw[eo _ C];have L:=s1 C;have F:sp r3.1 S=nb:=zN s fun j c=>by
  rw[(L (S+j) (by omega)).1,hw,GU (by omega),sD nb (by omega),show S+j-S=j by omega];rfl
 have X:∀i,Has S b N i->wv r3.1 i=none:=fun i T=>(L i (B.has T)).2;have hW:Em S b N m y r3.1 f:=⟨by rw[F];exact M,fun j c x a=>(by rw[X _ (dE c)]at a;cases a),fun k l _ j c x a=>(by rw[X _ (cK l c)]at a;cases a),fun k l _=>(q.home k l).eq fun j c=>(Z (by omega) (q.quiet k l j c) C).1⟩
 obtain⟨g1,g2⟩:=sy I B hW hf D hm;refine⟨g1,fun h0 z=>(g2 h0 z).mono fun k x a=>?_⟩;unfold Po.cI at a;by_cases e:k=m
 ·rw[GU e]at a;exact GL ⟨e,a⟩
 ·rw[GQ e]at a;exact GJ a
def iG(d:Dk.ak)(S:Nat):List Nat:=Dk.sv d S++(Dk.sv d (S+1)++(Dk.sv d (S+2)++(Dk.sv d (S+3)++Dk.sv d (S+4))))
theorem pZ(h:∀j,j<5->QS d (S+j)):iG d S=sp d S:=by
 have h0:=h 0 (by decide);rw[Ia]at h0;unfold iG sp;rw[gQ h0,gQ (h 1 (by decide)),gQ (h 2 (by decide)),gQ (h 3 (by decide)),gQ (h 4 (by decide))]
noncomputable def ju(d:Dk.ak)(S b N:Nat):Dk.ak×Nat:=
 Lr.rC (d.off=true) (d,6) (Lr.rC (Told (iG d S)/\Pg.cJ (cut (iG d S))=0/\ej (iG d S)<N) (dB d S (b+4*ej (iG d S)) (Pg.form (Pg.cG (cut (iG d S))) (Pg.cY (cut (iG d S))))) (d,0))
theorem AL(h:d.off=true):ju d S b N=(d,6):=GU h
theorem ry(a:d.off=false)(h:¬(Told (iG d S)/\Pg.cJ (cut (iG d S))=0/\ej (iG d S)<N)):ju d S b N=(d,0):=by
 unfold ju Lr.rC;rw[GQ (by rw[a];decide),GQ h]
theorem AK(a:d.off=false)(h:Told (iG d S)/\Pg.cJ (cut (iG d S))=0/\ej (iG d S)<N):ju d S b N=dB d S (b+4*ej (iG d S)) (Pg.form (Pg.cG (cut (iG d S))) (Pg.cY (cut (iG d S)))):=by
 unfold ju Lr.rC;rw[GQ (by rw[a];decide),GU h]
theorem xV(c:d.off=false)(h:pS S b N d f):ju d S b N=(d,0):=by
 refine ry c fun a=>?_;rw[pZ fun j e=>h.quiet (dE e)]at a;exact h.no _ _ ⟨a.1,rfl,a.2.1,rfl⟩ a.2.2
theorem Cp(e:Wl.aX n d){p:Nat}(hp:p+4<=n){x:Po.Pg}(h:Home d p x):Po.cX x:=by
 have c:∀z∈hm d p,z<256:=fun z hz=>by
  have hs:∀i,i<n->∀z∈lv d i,z<256:=fun i g=>by
   have b:i<d.aL.length:=by have:=e.sz;unfold Dk.size at this;omega
   unfold lv;rw[GG,GS b,IH];exact(e.ok.l1 _ (Ie _)).2
  unfold hm at hz;rcases List.mem_append.1 hz with a|hz
  ·exact hs _ (by omega) z a
  rcases List.mem_append.1 hz with a|hz
  ·exact hs _ (by omega) z a
  rcases List.mem_append.1 hz with a|a
  ·exact hs _ (by omega) z a
  ·exact hs _ (by omega) z a
 rw[h.2];refine⟨?_,qm h.1,Pg.tc c⟩;show Pg.cG _<_;unfold Pg.cG;rw[GU h.1];have f:=aH.oz ((List.drop 4 (hm d p)).take 8) fun z hz=>c z (Ht (Hl hz));have hl:((List.drop 4 (hm d p)).take 8).length<=8:=List.length_take_le _ _;have:(256:Nat)^((List.drop 4 (hm d p)).take 8).length<=256^8:=I4 (by decide) hl;have j:(256:Nat)^8=18446744073709551616:=by decide
 omega
theorem pS.aQ(e:Wl.aX n d)(i:il n S b N)(h:pS S b N d f)(c:List Nat):uc S b N (Dk.aQ d c) fun k x=>x=f k:=by
 have m:=i.base;have l:=i.spare;refine⟨fC e i c,fun k=>if k<N then f k else Po.blank,fun k=>?_,fun k a=>(show(if k<N then f k else Po.blank)=f k from GU a),GJ ⟨h.no.eq (im fun j g=>eM e c (by omega) (h.quiet (dE g))),fun k a=>?_⟩⟩
 ·dsimp only;split
  ·next a=>exact Cp e (by omega) (h.home k a)
  ·exact⟨by show(0:Nat)<_;decide,Pg.bQ 500,Pg.jy 500⟩
 ·show Home _ _ (if k<N then f k else Po.blank);rw[GU a];exact(h.home k a).eq fun j g=>eM e c (by omega) (h.quiet (cK a g))
theorem pS.same{e:Dk.ak}(h:pS S b N d f)(hw:∀i,Has S b N i->wv e i=none)(hl:∀i,Has S b N i->lv e i=lv d i):pS S b N e f:=
 ⟨hw,h.no.eq (im fun j a=>hl _ (dE a)),fun k c=>(h.home k c).eq fun j a=>hl _ (cK c a)⟩
theorem ya(hw:∀i,Has S b N i->wv d i=none)(hl:∀i,Has S b N i->lv d i=Dk.blank):pS S b N d fun _=>Po.blank:=by
 refine⟨hw,fun k x f _=>?_,fun k a=>?_⟩
 ·have h0:=(nJ f.1).1;have c:=hl _ (dE (S:=S) (b:=b) (N:=N) (j:=0) (by decide));rw[Ia]at c;unfold sp at h0;rw[c]at h0;exact absurd h0 (by show¬(0:Nat)=112;decide)
 ·have e:hm d (b+4*k)=Pg.aY 512:=by
   have h0:=hl _ (cK (S:=S) (b:=b) a (show 0<4 by decide));rw[Ia]at h0;unfold hm;rw[h0,hl _ (cK a (show 1<4 by decide)),hl _ (cK a (show 2<4 by decide)),hl _ (cK a (show 3<4 by decide))];unfold Dk.blank Pg.aY;rw[List.replicate_append_replicate,List.replicate_append_replicate,List.replicate_append_replicate]
  unfold Home;rw[e,Pg.iy,Pg.mR,Pg.mS];exact⟨rfl,rfl⟩
end
theorem DX{s:Wl.S}{said:Nat}{d:Dk.ak}(h:Wl.Dv s said d){i:Nat}{b:List Nat}(e:i<Dk.size d)(f:Dk.gi b)(g:i<s.at_\/s.at_+s.count+2<=i):Wl.Dv s said (Dk.put d i b):=by
 have hf:=h.fits;have hl:i<d.waits.length:=by rw[h.ok.w];exact e
 refine⟨Dk.eU h.ok _ f,h.fits,h.hl,fun k c a hw=>?_,h.sl,fun k c a hw=>?_⟩
 ·rw[Wl.gG hl,GQ (by omega)]at hw;exact h.hw k c a hw
 ·rw[Wl.gG hl,GQ (by omega)]at hw;exact h.sw k c a hw
theorem Ro.dv{A:Nat->Prop}{n:Nat}{d e:Dk.ak}{s:Wl.S}{said:Nat}(h:Ro A n d e)(f:Wl.aX n d)(g:Wl.Dv s said d)(j:∀i,A i->i<s.at_\/s.at_+s.count+2<=i):Wl.Dv s said e:=by
 induction h with
 |refl=>exact g
 | @write e i b h1 hA1 hi hb ih=>
  have a:=h1.cy f;cases ho:e.off with
  |true=>rw[iR ho];exact ih
  |false=>
   rw[(Wl.dU a ho hi hb).1];exact(DX ih (by rw[a.sz];exact hi) hb (j i hA1)).bX
 | @sync e h1 ih=>
  have a:=h1.cy f;cases ho:e.off with
  |true=>rw[jD ho];exact ih
  |false=>
   rcases Wl.gK a ho with⟨c,-,-⟩|⟨c,-,-⟩
   ·rw[c];exact ih.bX
   ·rw[c];exact ih.bX.last
end Go.Proofs.YtbpodmallknhfaaGreat.Rg
namespace Go.Proofs.YtbpodmallknhfaaGreat
open Go.RowKit
theorem ui{B c b:Nat}{d:Dk.ak}{w:World}(h:bc w B c b d)(f:d.off=true)(i:Int):
 Calls Tryz.prog 97 #[.pointer (some ⟨B,0,none⟩),.int .i64 i] w fun e w'=>∃u,e=.returned (.tuple #[u,.int .i64 6])/\Below w.heap.size w w':=by
 have a:=jI h i;rw[show Dk.read d i=([],6)from GU f]at a;exact a.mono fun _ _⟨u,he,_,g⟩=>⟨u,he,g⟩
set_option maxHeartbeats 3200000 in
set_option maxRecDepth 20000 in
theorem xh{w:World}{L B a c n m:Nat}{k:Wl.Kn}{pl P:Value}{d:Dk.ak}(h:aR w L k B a c pl P false)(O:bc w B n m d)(M:d.off=true)(r:1<=c)(p:c<=8192)(N:a<=65536)(g last:Nat)(t:¬DS B n m L):
 Calls Tryz.prog 147 #[.pointer (some ⟨L,0,none⟩),.int .u64 (g:Int),.int .u64 (last:Int)] w fun e w'=>e=.returned (.int .i64 6)/\bc w' B n m d/\Touch (jr B n m L) w w':=by
 have C:=GD h;have b:=GD (jd h g r p N);obtain⟨R,o⟩:∃s,s=a+2+g%(2*c)/2:=⟨_,rfl⟩
 rw[<-o]at b;have y:=GD O;have J:=GD M;have K:=GD t;clear h O M r p N t o;go_enter Tryz.func147,Tryz.ntmps147;go_wp2_with fail
 refine b.out.mono ?_;rintro e w1⟨rfl,q,rfl⟩;have l:=below_drewN w.heap.size w q;have D:=GD (C.out.below l);have z:=GD (y.out.below l);have H:Hid (Touch (jr B n m L) w (w.drewN q)):=(Touch.refl _ _).drewN q;clear b l;generalize w.drewN q=W1 at*
 have c4:=D.out.cell 4 (v:=.pointer (some ⟨B,0,none⟩)) rfl;go_wp2_with fail
 refine(ui z.out J.out _).mono ?_;rintro e w2⟨u,rfl,f⟩;have A:=GD (D.out.below f);have x:=GD (z.out.below f);have G:=GD (H.out.trans (Touch.ax f));clear f c4;go_wp2_with fail
 refine(gN A.out 6).mono ?_;rintro e S⟨rfl,F,j⟩;have Q:=GD (G.out.trans (j.mono fun i _ E=>GL E));have I:=GD (x.out.bq j (fun i E e=>K.out (e▸E)));clear F j;go_wp2_with fail
 go_ret;exact⟨rfl,I.out,Q.out⟩
def Gj(s:Wl.S)(said n B c b L:Nat)(pl f:Value)(d:Dk.ak)(w:World)(e:Ending)(w':World):Prop:=
 (∃a,e=.returned (.int .i64 0)/\bc w' B c b a/\Wl.Dv (Wl.flush s) said a/\Wl.l6 s.at_ s.count d a/\Wl.aX n a/\(Wl.Calm n d->Wl.Calm n a)/\aR w' L (Wl.kn s) B s.at_ s.count pl f false/\Touch (jr B c b L) w w')\/
 (¬Wl.Calm n d/\∃(k:Nat)(a:Dk.ak),e=.returned (.int .i64 (k:Int))/\k=6/\bc w' B c b a/\Wl.l6 s.at_ s.count d a/\Wl.aX n a/\Wl.Dv s said a/\Touch (jr B c b L) w w')
set_option maxHeartbeats 6400000 in
set_option maxRecDepth 20000 in
theorem si{w:World}{L B m1 m2 said n:Nat}{s:Wl.S}{pl:Value}{gw ow cw:Nat}{d:Dk.ak}(h:aR w L (Wl.kn s) B s.at_ s.count pl (.slice (some ⟨gw,ow,none⟩) (Wl.waits s).length cw) false)(hP:bc w B m1 m2 d)(hB:aJ w (.slice (some ⟨gw,ow,none⟩) (Wl.waits s).length cw) (Wl.waits s))
 (hx:Wl.Ex s) (hD:Wl.Dv s said d) (hN:Wl.aX n d) (aL:s.ag<s.stop) (hs:s.stop<=1000000000000) (aT:¬DS B m1 m2 L) (aS:¬jr B m1 m2 L gw):
 Calls Tryz.prog 107 #[.pointer (some ⟨L,0,none⟩)] w fun e w'=>Gj s said n B m1 m2 L pl (.slice (some ⟨gw,ow,none⟩) (Wl.waits s).length cw) d w e w':=by
 have ar:=Wl.eT hx.aI;have hend:=jZ h (by show s.ag+_<_;rw[ar];omega);rw[show(Wl.kn s).ag+(Wl.waits s).length=s.stop by show s.ag+_=_;rw[ar];omega]at hend;have ao:=GD hend;have aY:=GD h;have aV:=GD hP;have aq:=GD hB;have HX:=GD hx;have bj:=GD hD;have HN:=GD hN;have ab:=GD aL;have HS:=GD hs;have A:=GD aT;have bd:=GD aS;obtain⟨last,o⟩:∃l,l=Wl.fO s:=⟨_,rfl⟩
 have r:=GD o;obtain⟨z1,a7⟩:∃z,z=s.stop-1:=⟨_,rfl⟩
 have bp:IntKind.u64.wrap ((s.stop:Int)-1)=(z1:Int):=by rw[Hv _ (by omega)];omega
 have bo:IntKind.u64.wrap ((z1:Int)/52)=(last:Int):=by unfold Wl.fO at o;rw[Hv _ (by omega)];omega
 obtain⟨g0,aK⟩:∃g,g=s.ag/52:=⟨_,rfl⟩
 have bn:IntKind.u64.wrap ((s.ag:Int)/52)=(g0:Int):=by rw[Hv _ (by omega)];omega
 have a2:=GD aK;have aa:Hid (last<=1000000000000):=by unfold Wl.fO at o;show _<=_;omega
 have bk:Hid (g0<=1000000000000):=by show _<=_;omega
 clear h hP hB hx hD hN aL hs aT aS ar hend o aK a7;go_enter Tryz.func107,Tryz.ntmps107;go_wp2_with fail
 refine ao.out.mono ?_;rintro e w1⟨rfl,q,rfl⟩;have V:=below_drewN w.heap.size w q;have aZ:=GD (aY.out.below V);have bh:=GD (aV.out.below V);have br:=GD (aq.out.below V);have bf:Hid (Touch (jr B m1 m2 L) w (w.drewN q)):=(Touch.refl _ _).drewN q;clear ao V;generalize w.drewN q=W1 at*
 have c1:=aZ.out.cell 1 (v:=.int .u64 (s.ag:Int)) rfl;go_wp2_with fail
 clear c1;go_loopw [4] (fun i wr=>∃(t:Nat)(d1:Dk.ak),i=.int .u64 (t:Int)/\g0<=t/\t<=last+2+g0/\Wl.Wr s said d1 t/\Wl.l6 s.at_ s.count d d1/\Wl.aX n d1/\(Wl.Calm n d->Wl.Calm n d1)/\bc wr B m1 m2 d1/\aR wr L (Wl.kn s) B s.at_ s.count pl (.slice (some ⟨gw,ow,none⟩) (Wl.waits s).length cw) false/\Touch (jr B m1 m2 L) w wr) (fun i _=>(last+1)-(intOf i).toNat)
 case atStart=>exact⟨g0,d,rfl,GH _,by omega,by rw[a2.out];exact Wl.zg bj.out,Wl.l6.refl _ _ _,HN.out,id,bh.out,aZ.out,bf.out⟩
 case round=>
  obtain⟨t,d1,rfl,aD,a,az,aF,aG,aM,aE,aH,aC⟩:=hrel;have P:=GD aF;have C:=GD az;have F:=GD aG;have R:=GD aM;have Y:=GD aE;have G:=GD aH;have E:=GD aC;have N:Hid (g0<=t/\t<=last+2+g0):=⟨aD,a⟩
  clear az aF aG aM aE aH aC aD a;by_cases hlt:t<=last
  ·have p:(t:Int)<=(last:Int):=by omega
   have Z:=GD hlt;have a1:Hid (Wl.m6 s t):=⟨by have h1:=N.out;have h2:=a2.out;omega,by have h1:=r.out;omega⟩
   have ah:=C.out.dv.fits;have aN:=HX.out.low;have U:=HX.out.high;have ae:=Y.out.own.size;cases hof:d1.off with
   |true=>
    have u:=xh G.out Y.out hof (by omega) U (by omega) t last A.out;have y:=GD u;have Q:=GD hof;clear u hof ah aN U ae hlt;go_wp2_with fail
    refine y.out.mono ?_;rintro e w2⟨rfl,b,a⟩;have j:=GD b;have f:=GD (E.out.trans a);clear b a y;go_wp2_with fail
    go_ret;exact GL ⟨(fun K=>by have:=(R.out K).off;rw[Q.out]at this;cases this),6,d1,rfl,rfl,j.out,P.out,F.out,C.out.dv,f.out⟩
   |false=>
    have aQ:=E.out.aP aq.out (fun _ g' e=>by
     simp only[Value.ownBlock,GO]at e;subst e;exact bd.out)
    have u:=xi G.out Y.out aQ hof (by omega) U (by omega) t last hlt aa.out (fun i h1 h2=>(⟨GR a1.out.low h1,by have:=r.out;omega⟩:Wl.m6 s i).ok HX.out ab.out HS.out) A.out (by show s.ag<=_;have:=ab.out;have:=HS.out;omega);have y:=GD u;have Q:=GD hof;have ay:s.at_+2+t%(2*s.count)/2<n:=by
     have h1:=Wl.kO (n:=s.count) (h:=t) (by omega);have h2:=F.out.sz;omega
    have bg:=GD ay;have bb:IntKind.u64.wrap ((t:Int)/2)=((t/2:Nat):Int):=by rw[Hv _ (by have:=aa.out;omega)];omega
    obtain⟨t2,a⟩:∃n,n=t/2:=⟨_,rfl⟩
    rw[<-a]at bb;obtain⟨t4,ba⟩:∃n,n=t2*2:=⟨_,rfl⟩
    have bm:IntKind.u64.wrap ((t2:Int)*2)=(t4:Int):=by have:=aa.out;rw[Hv _ (by omega)];omega
    obtain⟨t5,a8⟩:∃n,n=t4+2:=⟨_,rfl⟩
    have bl:IntKind.u64.wrap ((t4:Int)+2)=(t5:Int):=by have:=aa.out;rw[Hv _ (by omega)];omega
    have X:Hid (t5=t/2*2+2):=by show _=_;omega
    clear u hof ah aN U ae hlt aQ ay a ba a8;go_wp2_with fail
    refine y.out.mono ?_;rintro e w2⟨b',T,he,b,W,a⟩;rw[show(Wl.kn s).ag=s.ag from rfl,show(Wl.kn s).an=s.an from rfl,r.out]at T;obtain⟨aB,aA⟩:=Wl.dU F.out Q.out bg.out T.sec;rw[aB]at he b W;have ad:=(C.out.put HX.out ab.out HS.out a1.out T).bX;have aO:=fun K=>Wl.tH (R.out K) (s.at_+2+t%(2*s.count)/2) b';have af:=(P.out.put (i:=s.at_+2+t%(2*s.count)/2) ⟨by omega,by have:=Wl.kO (n:=s.count) (h:=t) (by have:=HX.out.low;omega);omega⟩ b').bX;generalize Dk.bX (Dk.put d1 (s.at_+2+t%(2*s.count)/2) b')=d2 at*
    dsimp only at he b W;have f:=GD (E.out.trans a);have j:=GD b;have aU:=GD aA;have ai:=GD ad;have a6:=GD aO;have al:=GD af;have k:=GD W;subst he;clear b a y T aB aA ad aO W af;cases hof2:d2.off with
    |true=>
     rw[hof2]at k;have aW:=GD hof2;clear hof2;go_wp2_with fail
     go_ret;exact GL ⟨(fun K=>by have:=(a6.out K).off;rw[aW.out]at this;cases this),6,d2,rfl,rfl,j.out,al.out,aU.out,ai.out.dv,f.out⟩
    |false=>
     rw[hof2]at k;have ax:Hid (aR w2 L (Wl.kn s) B s.at_ s.count pl (.slice (some ⟨gw,ow,none⟩) (Wl.waits s).length cw) false):=k.out;clear k hof2;go_wp2_with fail
     go_roundw
     case rel=>exact⟨t5,d2,by go_num,by have h1:=N.out;have h2:=X.out;omega,by have h1:=N.out;have h2:=X.out;have h3:=Z.out;omega,by rw[X.out];exact ai.out,al.out,aU.out,a6.out,j.out,ax.out,f.out⟩
     case measure=>simp[intOf];have h1:=Z.out;have h2:=X.out;omega
  ·have p:¬(t:Int)<=(last:Int):=by omega
   have au:=C.out;have Z:Hid (Wl.fO s<t):=by show _<_;rw[<-r.out];omega
   have c4:=G.out.cell 4 (v:=.pointer (some ⟨B,0,none⟩)) rfl;have m:=jE Y.out;cases hof:d1.off with
   |true=>
    rw[show Dk.sync d1=(d1,6)from GU hof]at m;have x:=GD m;have Q:=GD hof;clear m hof hlt au;go_wp2_with fail
    refine x.out.mono ?_;rintro e w2⟨rfl,b,a⟩;have j:=GD b;have k:=GD (G.out.aj a A.out);have f:=GD (E.out.trans (a.mono fun i _ p=>GJ p));clear b a x c4;go_wp2_with fail
    refine(gN k.out 6).mono ?_;rintro e w3⟨rfl,D,c⟩;have O:=GD (j.out.bq c (fun i p e=>A.out (e▸p)));have M:=GD (f.out.trans (c.mono fun i _ p=>GL p));clear D c;go_wp2_with fail
    go_ret;exact GL ⟨(fun K=>by have:=(R.out K).off;rw[Q.out]at this;cases this),6,d1,rfl,rfl,O.out,P.out,F.out,C.out.dv,M.out⟩
   |false=>
    rcases Wl.gK F.out hof with⟨J,I,H⟩|⟨J,I,H⟩
    ·rw[J]at m;have x:=GD m;have aw:=GD I;have av:=GD H;clear m hof hlt au J I H;go_wp2_with fail
     refine x.out.mono ?_;rintro e w2⟨rfl,b,a⟩;have j:=GD b;have k:=GD (G.out.aj a A.out);have f:=GD (E.out.trans (a.mono fun i _ p=>GJ p));clear b a x c4;go_wp2_with fail
     refine(gN k.out 6).mono ?_;rintro e w3⟨rfl,D,c⟩;have O:=GD (j.out.bq c (fun i p e=>A.out (e▸p)));have M:=GD (f.out.trans (c.mono fun i _ p=>GL p));clear D c;go_wp2_with fail
     go_ret;exact GL ⟨fun K=>av.out (R.out K),6,_,rfl,rfl,O.out,P.out.bX,aw.out,C.out.bX.dv,M.out⟩
    ·rw[J]at m;have x:=GD m;have aw:=GD I;have av:=GD H;clear m hof hlt au J I H;go_wp2_with fail
     refine x.out.mono ?_;rintro e w2⟨rfl,b,a⟩;have j:=GD b;have k:=GD (G.out.aj a A.out);have f:=GD (E.out.trans (a.mono fun i _ p=>GJ p));clear b a x c4;go_wp2_with fail
     refine(ma k.out).mono ?_;rintro e w3⟨rfl,D,c⟩;have ax:=GD D;have O:=GD (j.out.bq c (fun i p e=>A.out (e▸p)));have M:=GD (f.out.trans (c.mono fun i _ p=>GL p));clear D c;go_wp2_with fail
     go_ret;exact GJ ⟨_,rfl,O.out,C.out.bX.done HX.out ab.out Z.out,P.out.bX.last (Dk.lF F.out.ok),aw.out,fun K=>av.out (R.out K),ax.out,M.out⟩
theorem nz(s:Wl.S)(h:Wl.Good s):Wl.waits (Wl.flush s)=[]:=by
 have a:=Wl.gD h;show(Wl.bytes s).drop (s.stop-s.start)=[]
 exact Jb (by omega)
theorem pI:∀s:Wl.S,s.ag=s.stop->Wl.flush s=s
 |⟨_,_,_,_,_,_,_,_⟩,h=>by
  cases(show _=_ from h);rfl
def Gz(U V:Nat->Prop)(n B L:Nat)(d:Dk.ak)(s:Wl.S)(w:World)(e:Ending)(w':World):Prop:=
 (∃b c a,e=.returned (.int .i64 0)/\jW b c w' B L a (Wl.flush s)/\Wl.l6 s.at_ s.count d a/\Wl.aX n a/\(Wl.Calm n d->Wl.Calm n a)/\Touch (cr U V) w w'/\bA U b w/\bA V c w)\/
 (¬Wl.Calm n d/\∃k:Nat,∃b a,e=.returned (.int .i64 (k:Int))/\k=6/\m7 b w' B a/\Wl.l6 s.at_ s.count d a/\Wl.aX n a/\(∀f,Wl.Hd (Dk.aQ a f) s)/\Touch (cr U V) w w'/\bA U b w)
set_option maxHeartbeats 3200000 in
set_option maxRecDepth 20000 in
theorem qP{U V:Nat->Prop}{w:World}{B L:Nat}{d:Dk.ak}{n:Nat}{s:Wl.S}(h:jW U V w B L d s)(Y:Wl.aX n d)(hs:s.stop<=1000000000000):
 Calls Tryz.prog 78 #[.pointer (some ⟨L,0,none⟩)] w fun e w'=>Gz U V n B L d s w e w':=by
 have ad:=GD h;obtain⟨t,r,pl,wa,hm,rfl,hp,rfl,c,said,Z,hd⟩:=h;have W:=GD Z;have y:=mL hm.log;obtain⟨p,cap,rfl⟩:=so hm.CO;have c8:=hm.log.cell 8 (v:=.slice p (Wl.waits s).length cap) rfl;have M:=Wl.eT hm.ex.aI;have u:=GD hm;have HN:=GD Y;have HS:=GD hs;by_cases h0:(Wl.waits s).length=0
 ·have O:Wl.flush s=s:=by
   have h2:=hm.ex.aI.high;have:s.ag=s.stop:=by omega
   exact pI s this
  have al:=GD O;rw[h0]at c8;clear hm hp c hd M Y hs O;go_enter Tryz.func78,Tryz.ntmps78;go_wp2_with (go_at_call 55;refine y.mono ?_;rintro e w'⟨rfl,rfl⟩)
  go_ret;exact GJ ⟨_,_,d,rfl,by rw[al.out];exact ad.out,Wl.l6.refl _ _ _,HN.out,id,.refl _ _,fun i a=>GJ a,fun i a=>GJ a⟩
 ·have aa:¬((Wl.waits s).length:Int)=0:=by omega
  have ar:(((Wl.waits s).length:Int)==0)=false:=by rw[G6];exact aa
  rcases hm.CO.form with⟨-,e0⟩|⟨R,cw,o,-,aq,ao,-⟩
  ·rw[e0]at h0;exact absurd rfl h0
  simp only[Hc,Jg]at o;obtain⟨rfl,rfl⟩:=o;have z:¬DS B t r L:=fun h=>c L h (GJ rfl);have P:¬jr B t r L R:=fun h=>by
   rcases h with h|h
   ·exact c R h (GL (GL rfl))
   ·exact hm.Ff (by rw[<-h];rfl)
  have K:=si hm.log hp hm.CO.aP hm.ex hd Y (by have:=hm.ex.aI.high;omega) hs z P;have C:=GD K;have X:=GD z;have J:=GD c;clear hm hp c hd M Y hs K z P;go_enter Tryz.func78,Tryz.ntmps78;go_upto_region 6 with(go_at_call 55;refine y.mono ?_;rintro e w'⟨rfl,rfl⟩)
  clear c8 y;go_wp2_with fail
  refine C.out.mono ?_;rintro e w1(⟨d',rfl,f,m,j,l,Q,A,b⟩|⟨N,k,d',rfl,hk,f,j,l,m,b⟩)
  ·have hend:=jZ A (by show s.ag+_<_;rw[u.out.end_];have:=HS.out;omega);rw[show(Wl.kn s).ag+(Wl.waits s).length=s.stop from u.out.end_]at hend;have x:=GD hend;have ai:=GD A;have E:=GD f;have I:=GD m;have G:=GD l;have an:=GD Q;have F:=GD j;have D:=GD b;clear hend A f m l Q j b C;go_wp2_with fail
   refine x.out.mono ?_;rintro e w2⟨rfl,q,rfl⟩;have H:Hid (aR (w1.drewN q) L (Wl.kn s) B s.at_ s.count pl (.slice (some ⟨R,0,none⟩) (Wl.waits s).length cap) false):=ai.out;have af:=GD (E.out.below (below_drewN _ _ q));have ab:Hid (Touch (jr B t r L) w (w1.drewN q)):=D.out.drewN q;clear x;generalize w1.drewN q=w2 at*
   have f1:=aC H.out 1;have s1:aR (w2.setCell ⟨L,1,none⟩ (.int .u64 (s.stop:Int))) L (Wl.kn (Wl.flush s)) B s.at_ s.count pl (.slice (some ⟨R,0,none⟩) (Wl.waits s).length cap) false:=aN (i:=1) H.out _;have f8:=aC s1 8;have s8:aR ((w2.setCell ⟨L,1,none⟩ (.int .u64 (s.stop:Int))).setCell ⟨L,8,none⟩ (.slice none 0 0)) L (Wl.kn (Wl.flush s)) B s.at_ s.count pl (.slice none 0 0) false:=aN (i:=8) s1 _;have g1:=H.out.cell 1 (v:=.int .u64 (s.ag:Int)) rfl;have g8:=aR.cell s1 8 (v:=.slice (some ⟨R,0,none⟩) (Wl.waits s).length cap) rfl;have S8:=GD s8;have T:Hid (Touch (jr B t r L) w ((w2.setCell ⟨L,1,none⟩ (.int .u64 (s.stop:Int))).setCell ⟨L,8,none⟩ (.slice none 0 0))):=(ab.out.trans (.set L 1 _ (GL rfl))).trans (.set L 8 _ (GL rfl));have ae:=GD ((af.out.bq (Touch.set (S:=(·=L)) L 1 (.int .u64 (s.stop:Int)) rfl) (fun i a e=>X.out (e▸a))).bq (Touch.set (S:=(·=L)) L 8 (.slice none 0 0) rfl) (fun i a e=>X.out (e▸a)));clear s1 s8;go_wp2_with fail
   go_ret;refine GJ ⟨DS B t r,pC L pl (.slice none 0 0),d',rfl,⟨t,r,pl,.slice none 0 0,⟨Wl.Bd u.out.ex,S8.out,?_,?_,u.out.ED,(fun h=>by cases h),fun i a h=>by cases h⟩,rfl,ae.out,rfl,fun i a o=>?_,said,W.out,I.out⟩,F.out,G.out,an.out,T.out.mono fun i _ a=>?_,fun i a=>GJ a,fun i a=>GJ ?_⟩
   ·exact u.out.Ez.aj T.out (fun g hg hp=>by
     rcases hp with hp|hp
     ·exact J.out g hp (GL (GJ hg))
     ·exact u.out.ED (by rw[hg,hp]))
   ·rw[nz s u.out.ex.aI];exact cU _ _
   ·rcases o with o|o|o
    ·exact J.out i a (GJ o)
    ·exact J.out i a (GL (GJ o))
    ·cases o
   ·rcases a with a|a
    ·exact GJ a
    ·exact GL (GJ a)
   ·rcases a with a|a|a
    ·exact GJ a
    ·exact GL (GJ a)
    ·cases a
  ·have h1:¬(k:Int)=0:=by omega
   have h2:((k:Int)!=0)=true:=by simp;omega
   have E:=GD f;have I:=GD m;have G:=GD l;have D:=GD b;have HK:=GD hk;have F:=GD j;have ah:=GD N;clear f m l b hk N j C;go_wp2_with fail
   go_ret;refine GL ⟨ah.out,k,DS B t r,d',rfl,HK.out,⟨t,r,E.out,rfl⟩,F.out,G.out,fun ps=>Wl.Hd.aQ ⟨u.out.ex,said,W.out,I.out⟩ ps,D.out.mono fun i _ a=>?_,fun i a=>GJ a⟩;rcases a with a|a
   ·exact GJ a
   ·exact GL (GJ a)
end Go.Proofs.YtbpodmallknhfaaGreat
