/- Parts of a proof. Conditions: as each row says. -/
import Derived.Test.YtbpodmallknhfaaGreatCr33
import Derived.Test.YtbpodmallknhfaaGreatCr21
import Derived.Test.YtbpodmallknhfaaGreatCr25
namespace Go.Proofs.YtbpodmallknhfaaGreat
open Go.RowKit
def Po.dt(s:Po.S)(k:Nat):Po.S:={s with bJ:=Po.cW s.bJ k (s.now k),first:=Po.cW s.first k none}
theorem Po.ey{α:Type}(f:Nat->α)(k:Nat)(x:α)(h:f k=x):Po.cW f k x=f:=by
 funext j
 unfold Po.cW;split
 ·next e=>rw[e,h]
 ·rfl
theorem Po.sN{s:Po.S}(a:Po.Good s){k:Nat}(h:s.first k=none):Po.dt s k=s:=by
 unfold Po.dt;rw[Po.ey _ _ _ (a.clean k h),Po.ey _ _ _ h]
theorem Po.sK{s:Po.S}(h:Po.Good s)(k:Nat):Po.Good (Po.dt s k):=by
 refine⟨h.sorted,h.qg,h.G2,h.pinned,fun j a=>?_,fun j a=>?_,h.ok,fun j=>?_⟩
 ·have a:Po.cW s.first k none j≠none:=a;unfold Po.cW at a;split at a
  ·exact absurd rfl a
  ·exact h.bo j a
 ·show Po.cW s.bJ k (s.now k) j=s.now j;have a:Po.cW s.first k none j=none:=a;unfold Po.cW at a⊢;split
  ·next e=>rw[e]
  ·next e=>rw[if_neg e]at a;exact h.clean j a
 ·show Po.cK (Po.cW s.bJ k (s.now k) j);unfold Po.cW;split
  ·exact h.ok k
  ·exact h.Ga j
theorem Po.si{lg a:Wl.S}{s:Po.S}(c:Wl.Good lg)(h:Po.xe lg s)(hl:Po.Lf lg a){k:Nat}(b:(s.now k).1<a.ae):Po.xe a (Po.dt s k):=fun j=>by
 have d:=h j;have e:lg.ae<=a.ae:=by
  rcases hl with rfl|rfl
  ·exact Nat.le_refl _
  ·exact c.high
 refine⟨?_,by show(s.now j).1<_;rw[hl.stop];exact d.2⟩;show(Po.cW s.bJ k (s.now k) j).1<_;unfold Po.cW;split
 ·exact b
 ·omega
theorem xQ{F:List Fr}{i:Nat}(a:i<F.length)(f:Fr)(h:fa F i=f):F.set i f=F:=by
 subst h;unfold fa;rw[List.getD_eq_getElem?_getD,List.getElem?_eq_getElem a];exact List.set_getElem_self a
section
variable{w w':World}{B L P S b N hand mp:Nat}{F:List Fr}{H:List (Option Nat)}{s:Po.S}
theorem ku(F:List Fr){i:Nat}(b:i<F.length)(f:Fr)(h:f.u=(fa F i).u):eQ P mp (F.set i f)=eQ P mp F:=by
 funext j
 refine propext (or_congr Iff.rfl (or_congr Iff.rfl ⟨?_,?_⟩))
 ·rintro⟨k,a⟩;rw[cr F b]at a;split at a
  ·next e=>exact⟨i,by rw[<-h];exact a⟩
  ·exact⟨k,a⟩
 ·rintro⟨k,a⟩;refine⟨k,?_⟩;rw[cr F b];split
  ·next e=>rw[h,<-e];exact a
  ·exact a
theorem tZ(h:eh w B L P S b N hand mp F H s){i j:Nat}(d:i<s.held.length)(c:j<s.held.length)(e:(fa F i).aA=(fa F j).aA):i=j:=by
 have a:=h.jN i d;have f:=h.jN j c;rw[e,f]at a;exact(Option.some.inj a).symm
theorem lZ(h:eh w B L P S b N hand mp F H s){i:Nat}(d:i<s.held.length):(fa F i).aA<N:=by
 have c:=h.jN i d;rcases Nat.lt_or_ge (fa F i).aA H.length with a|a
 ·rw[h.hlen]at a;exact a
 ·rw[List.getD_eq_getElem?_getD,List.getElem?_eq_none a]at c;cases c
theorem eh.clean(h:eh w B L P S b N hand mp F H s){i:Nat}(r:i<s.held.length){T:Nat->Prop}(o:Touch T w w')(hT:∀j,eQ P mp F j->j≠P->¬T j)(l:aO w' P B S b N L s.aC hand mp (F.set i {fa F i with bo:=false})):eh w' B L P S b N hand mp (F.set i {fa F i with bo:=false}) H (Po.dt s (fa F i).aA):=by
 have m:i<F.length:=by rw[h.row.len];have:=h.bounds;have:=h.aN;omega
 have a:=cr F m {fa F i with bo:=false};refine⟨l,h.map.al o (hT mp (Or.inr (Or.inl rfl)) (Ne.symm h.ne)),h.hlen,h.ar,h.aN,h.hand,h.held,fun k j q=>?_,fun j d=>?_,fun j d=>?_,fun j d=>?_,Po.sK h.aQ _,h.n16,h.ne,fun j g f=>?_⟩
 ·obtain⟨c,p⟩:=h.nR k j q;refine⟨c,?_⟩;rw[a];split
  ·next e=>rw[<-p,e]
  ·exact p
 ·rw[a];split
  ·next e=>subst e;exact h.jN j d
  ·exact h.jN j d
 ·have c:=(h.fr j d).al o fun g f n=>hT g (Or.inr (Or.inr ⟨j,f⟩)) (h.zS j g f).1 n;rw[a];split
  ·next e=>
   subst e;exact⟨c.bj,c.body,c.pins,by show Po.cW s.first _ none _=_;rw[Po.cI];rfl,c.fl⟩
  ·next e=>
   refine⟨c.bj,c.body,c.pins,?_,c.fl⟩;show Po.cW s.first _ none _=_;rw[Po.eD _ _ fun t=>e (tZ h d r t)];exact c.first
 ·have d:s.held.length<=j:=d;rw[a,if_neg (by omega)];exact h.rest j d
 ·rw[a]at f;split at f
  ·next e=>exact h.zS i g f
  ·exact h.zS j g f
end
def Ho(U V:Nat->Prop)(B L P S b N hand mp:Nat)(F:List Fr)(H:List (Option Nat))(n:Nat)(d:Dk.aq)(lg:Wl.S)(s:Po.S)(i:Nat)(w:World)(e:Ending)(w':World):Prop:=
 (∃g l f a,e=.returned (.int .i64 0)/\cX g l w' B L P S b N hand mp (F.set i {fa F i with bo:=false}) H n f a (Po.dt s (fa F i).aA)/\(Wl.Calm n d->Wl.Calm n f)/\Po.Lf lg a/\Touch (fun j=>cY U V j\/j=P) w w'/\br U g w/\br V l w/\(s.first (fa F i).aA=none->f=d/\a=lg))\/
 (¬Wl.Calm n d/\e=.returned (.int .i64 6)/\∃g f a c,gB g w' B f/\Wl.aY n f/\Touch (fun j=>cY U V j\/j=P) w w'/\br U g w/\Po.Lf lg a/\(∀k x,c k x->(x=s.bJ k\/x=s.now k)/\x.1<a.ae)/\∀h,Wl.Hd (Dk.ay f h) a/\Rg.sZ S b N (Dk.ay f h) c)
structure CB(B m1 m2 P S b N L aN hand mp:Nat)(F:List Fr)(u:Value)(x:Po.Pg)(d:Dk.aq)(m:Nat)(W:World)(D:Nat->Bool)(xs:Nat->Value)(w:World):Prop where
 row:aO w P B S b N L aN hand mp F
 body:aV w u x.2
 al:Touch (DS B m1 m2) W w
 s0:D 12=false->bh w B m1 m2 d
 s1:D 12=true->∃t:Nat,t<256/\t∉Rg.sI (Rg.sp d S) 10/\xs 12=.int .i64 (((Rg.dB d S (b+4*m) (Pg.form x.1 x.2) (Rg.laid (Pg.form x.1 x.2) (Rg.tag m t))).2:Nat):Int)/\bh w B m1 m2 (Rg.dB d S (b+4*m) (Pg.form x.1 x.2) (Rg.laid (Pg.form x.1 x.2) (Rg.tag m t))).1
 s2:D 13=true->xs 13=xs 12
def nN(B P S b N i m:Nat)(u:Value)(k:Nat)(j:Nat)(v:Value)(_:World):Prop:=
 match j with
 |0=>v=.pointer (some ⟨P,0,none⟩)
 |1=>v=.pointer (some ⟨P,0,none⟩)
 |2=>v=.pointer (some ⟨P,0,none⟩)
 |3=>v=sX B S b N
 |4=>v=.pointer (some ⟨P,5+i*7,none⟩)
 |5=>v=.pointer (some ⟨P,5+i*7,none⟩)
 |6=>v=.pointer (some ⟨P,5+i*7,none⟩)
 |7=>v=.int .i64 (m:Int)
 |8=>v=.pointer (some ⟨P,5+i*7,none⟩)
 |9=>v=.pointer (some ⟨P,5+i*7,none⟩)
 |10=>v=.pointer (some ⟨P,5+i*7+1,none⟩)
 |11=>v=fZ k u
 |_=>True
theorem bM(xs:Nat->Value){k j:Nat}(v:Value)(h:j≠k):Ord.set xs k v j=xs j:=if_neg h
theorem bg(D:Nat->Bool){k j:Nat}(h:j≠k):Ord.bP D k j=D j:=if_neg h
section
variable{B m1 m2 P S b N L aN hand mp:Nat}{F:List Fr}{u:Value}{x:Po.Pg}{d:Dk.aq}{m:Nat}{W:World}{D:Nat->Bool}{xs:Nat->Value}{w:World}
theorem CB.quiet(h:CB B m1 m2 P S b N L aN hand mp F u x d m W D xs w)(k:Nat)(v:Value)(a:12≠k)(c:13≠k):CB B m1 m2 P S b N L aN hand mp F u x d m W (Ord.bP D k) (Ord.set xs k v) w:=
 ⟨h.row,h.body,h.al,fun e=>h.s0 (by rw[<-bg D a];exact e),fun e=>by rw[bM xs v a];exact h.s1 (by rw[<-bg D a];exact e),fun e=>by rw[bM xs v a,bM xs v c];exact h.s2 (by rw[<-bg D c];exact e)⟩
theorem CB.Hg(h:CB B m1 m2 P S b N L aN hand mp F u x d m W D xs w):CB B m1 m2 P S b N L aN hand mp F u x d m W (Ord.bP D 13) (Ord.set xs 13 (xs 12)) w:=
 ⟨h.row,h.body,h.al,fun e=>h.s0 (by rw[<-bg D (k:=13) (by decide)];exact e),fun e=>by rw[bM xs _ (k:=13) (by decide)];exact h.s1 (by rw[<-bg D (k:=13) (by decide)];exact e),fun _=>(if_pos rfl:Ord.set xs 13 (xs 12) 13=xs 12).trans (bM xs (xs 12) (show 12≠13 by decide)).symm⟩
theorem CB.call(h:CB B m1 m2 P S b N L aN hand mp F u x d m W D xs w){l:List Oper}(hC:Ord.closed l D)(n:D 12=false)(o:Ord.waits l 13 12=true){w':World}(hT:Touch (DS B m1 m2) w w')(j:¬DS B m1 m2 P)(i:∀g,u.ownBlock=some g->¬DS B m1 m2 g){t:Nat}(f:t<256)(a:t∉Rg.sI (Rg.sp d S) 10)
 (hp:bh w' B m1 m2 (Rg.dB d S (b+4*m) (Pg.form x.1 x.2) (Rg.laid (Pg.form x.1 x.2) (Rg.tag m t))).1):
 CB B m1 m2 P S b N L aN hand mp F u x d m W (Ord.bP D 12) (Ord.set xs 12 (.int .i64 (((Rg.dB d S (b+4*m) (Pg.form x.1 x.2) (Rg.laid (Pg.form x.1 x.2) (Rg.tag m t))).2:Nat):Int))) w':=by
 have d13:D 13=false:=by
  cases e:D 13 with
  |false=>rfl
  |true=>have:=Ord.aL hC 13 12 o e;rw[n]at this;cases this
 have c:Ord.bP D 12 12=true:=if_pos rfl;refine⟨h.row.al hT j,hT.bz h.body (fun _=>i),h.al.trans hT,(fun e=>by rw[c]at e;cases e),fun _=>⟨t,f,a,if_pos rfl,hp⟩,fun e=>?_⟩;rw[bg D (k:=12) (by decide),d13]at e;cases e
end
theorem Touch.grow{T S:Nat->Prop}{w w1 w2:World}(h:Touch T w w1)(k:Touch S w1 w2)(hs:∀i,S i->T i\/w.heap.size<=i):Touch T w w2:=
 (((h.mono (T:=fun i=>T i\/w.heap.size<=i) fun _ _ h=>Or.inl h)).trans (k.mono fun i _ h=>hs i h)).mono fun i a h=>h.resolve_right (by omega)
set_option maxHeartbeats 6400000 in
set_option maxRecDepth 20000 in
theorem lX{U V:Nat->Prop}{w:World}{B L P S b N hand mp n:Nat}{F:List Fr}{H:List (Option Nat)}{d:Dk.aq}{lg:Wl.S}{s:Po.S}{i:Nat}(h:cX U V w B L P S b N hand mp F H n d lg s)(X:i<s.held.length)(z:(s.now (fa F i).aA).1<lg.ae){m1 m2 t:Nat}(G:U=DS B m1 m2){w':World}{r:Dk.aq×Nat}
 (T:t<256) (I:t∉Rg.sI (Rg.sp d S) 10) (W:r=Rg.dB d S (b+4*(fa F i).aA) (Pg.form (s.now (fa F i).aA).1 (s.now (fa F i).aA).2) (Rg.laid (Pg.form (s.now (fa F i).aA).1 (s.now (fa F i).aA).2) (Rg.tag (fa F i).aA t)))
 (hP:bh w' B m1 m2 r.1) (hT:Touch (DS B m1 m2) w w'):
 (r.2=0->∀{w2},aO w2 P B S b N L s.aC hand mp (F.set i {fa F i with bo:=false})->Touch (·=P) w' w2->cX U V w2 B L P S b N hand mp (F.set i {fa F i with bo:=false}) H n r.1 lg (Po.dt s (fa F i).aA)/\(Wl.Calm n d->Wl.Calm n r.1))/\
 (r.2≠0->r.2=6/\¬Wl.Calm n d/\Wl.aY n r.1/\∃c:Nat->Po.Pg->Prop,(∀k x,c k x->(x=s.bJ k\/x=s.now k)/\x.1<lg.ae)/\∀q,Wl.Hd (Dk.ay r.1 q) lg/\Rg.sZ S b N (Dk.ay r.1 q) c):=by
 have hm:=lZ h.pm X;have f:=h.pm.aQ.ok (fa F i).aA;have af:=h.pm.n16;have a:=Rg.yU h.bG h.dW hm (fm:=Pg.form (s.now (fa F i).aA).1 (s.now (fa F i).aA).2) (nb:=Rg.laid (Pg.form (s.now (fa F i).aA).1 (s.now (fa F i).aA).2) (Rg.tag (fa F i).aA t)) (by rw[Pg.bq,f.2.1]) (Pg.gA f.2.2) (Rg.eJ (Rg.cp _ t) (by rw[Pg.bq,f.2.1])) (Rg.oc (Rg.rZ T) (Pg.gA f.2.2));have o:=Rg.vm (y:=s.now (fa F i).aA) h.bG h.dW h.hw h.pm.aQ.Ga f hm (by omega) T I;rw[<-W]at a;have e:Po.S.bJ (Po.dt s (fa F i).aA)=Po.cW s.bJ (fa F i).aA (s.now (fa F i).aA):=rfl;rw[<-W]at o;obtain⟨aa,Z,pl,Y,p,Q,ad,ab,A,said,u,M⟩:=h.log;have m:=a.ro.dv h.bG M h.kf;refine⟨fun h0 w2 v D=>⟨?_,fun O=>(a.calm O).2⟩,fun h0=>⟨?_,fun O=>h0 (a.calm O).1,a.ro.bG h.bG,fun k x=>x=s.bJ k\/(k=(fa F i).aA/\x=s.now (fa F i).aA),fun k x hx=>?_,fun q=>⟨?_,o.2 h0 q⟩⟩⟩
 ·have C:Touch (fun j=>DS B m1 m2 j\/j=P) w w2:=(hT.mono fun _ _ h=>Or.inl h).trans (D.mono fun _ _ h=>Or.inr h);have E:∀j,cY U V j->j≠P:=fun j l e=>h.off j l (e▸Or.inl rfl);refine⟨⟨m1,m2,pl,Y,p.bQ C fun j l=>?_,Q,hP.bQ D fun j l=>E j (Or.inl (by rw[G];exact l)),G,fun j l=>A j l,said,u,m⟩,h.pm.clean X C (fun j l J R=>?_) v,h.dW,?_,?_,Po.si p.ex.aQ h.im (Or.inl rfl) z,h.kf,a.ro.bG h.bG,h.n16⟩
  ·rintro(g|g)
   ·exact A j (by rw[G];exact g) (by rw[Q];exact l)
   ·exact E j (Or.inr (by rw[Q];exact l)) g
  ·rcases R with g|g
   ·exact h.off j (Or.inl (by rw[G];exact g)) l
   ·exact J g
  ·rw[e];exact o.1 h0
  ·have K:i<F.length:=by rw[h.pm.row.len];have:=h.pm.bounds;have:=h.pm.aN;omega
   rw[ku F K {fa F i with bo:=false} rfl];exact h.off
 ·rcases a.err with g|g
  ·exact absurd g h0
  ·exact g
 ·rcases hx with rfl|⟨rfl,rfl⟩
  ·exact⟨Or.inl rfl,(h.im k).1⟩
  ·exact⟨Or.inr rfl,z⟩
 ·exact Wl.Hd.ay ⟨p.ex,said,u,m⟩ q
set_option maxHeartbeats 6400000 in
set_option maxRecDepth 20000 in
theorem qU{U V:Nat->Prop}{w:World}{B L P S b N hand mp n:Nat}{F:List Fr}{H:List (Option Nat)}{d:Dk.aq}{lg:Wl.S}{s:Po.S}{i:Nat}(h:cX U V w B L P S b N hand mp F H n d lg s)(hi:i<s.held.length)(hs:lg.stop<=1000000000000):
 Calls Tryz.prog 52 #[.pointer (some ⟨P,0,none⟩),.pointer (some ⟨P,5+i*7,none⟩)] w fun e w'=>Ho U V B L P S b N hand mp F H n d lg s i w e w':=by
 have hb:=h.pm.bounds;have hc:=h.pm.aN;have ak:i<64:=by omega
 have aU:i<F.length:=by rw[h.pm.row.len];exact ak
 have hfr:=h.pm.fr i hi;have g3:=h.pm.row.fr ak 4 (by decide) (v:=.bool (fa F i).bo) rfl;have X:Hid (i<s.held.length/\i<64):=⟨hi,ak⟩
 have HH:=Lib.hid h;have HS:=Lib.hid hs;cases hd:(fa F i).bo with
 |false=>
  have E:s.first (fa F i).aA=none:=by rw[hfr.first,hd];rfl
  have HE:Hid (F.set i {fa F i with bo:=false}=F):=xQ aU _ (by rw[<-hd]);have HC:Hid (Po.dt s (fa F i).aA=s):=Po.sN h.pm.aQ E;rw[hd]at g3;clear h hi hs hb hc ak aU hfr hd E;go_enter Tryz.func52,Tryz.ntmps52;go_wp2_with fail
  go_ret;exact Or.inl ⟨U,V,d,lg,rfl,by rw[HE.out,HC.out];exact HH.out,id,Or.inl rfl,Touch.refl _ _,fun _ h=>Or.inl h,fun _ h=>Or.inl h,fun _=>⟨rfl,rfl⟩⟩
 |true=>
  have bn:Hid (s.first (fa F i).aA≠none):=by show _≠_;rw[hfr.first,hd];exact fun c=>by cases c
  rw[hd]at g3;have g1:=h.pm.row.fr ak 1 (by decide) (v:=.int .u64 ((fa F i).bj:Int)) rfl;have c4:=h.pm.row.c4;obtain⟨m1,m2,pl,wa,M,hV,Z,y,bs,said,bp,bq⟩:=h.log;have bm:∀q,Calls Tryz.prog 77 #[.pointer (some ⟨L,0,none⟩)] (w.drewN q) fun e w'=>e=.returned (.int .u64 (lg.ae:Int))/\(w.drewN q)=w':=fun q=>kQ (M.log.al ((Touch.refl (fun _=>False) w).drewN q) id);have aP:Calls Tryz.prog 77 #[.pointer (some ⟨L,0,none⟩)] w fun e w'=>e=.returned (.int .u64 (lg.ae:Int))/\w=w':=kQ M.log;have aL:=Lib.hid bm;have aR:=Lib.hid aP;have HU:=Lib.hid y;clear h hi hs hb hc ak aU hd bm aP M hV Z y bs bp bq;by_cases hq:lg.ae<=(fa F i).bj
  case pos=>
   have aS:(lg.ae:Int)<=((fa F i).bj:Int):=by omega
   clear hq;go_enter Tryz.func52,Tryz.ntmps52;go_upto_region 3 with(fail)
   go_quiet ((go_at_call 77;refine Calls.quiet_of_same ((aL.out _).mono fun e w' h=>⟨h.1,h.2.symm⟩)))
   have W:Hid (cX U V (w.drewN nq) B L P S b N hand mp F H n d lg s):=HH.out.bQ ((Touch.refl (fun _=>False) w).drewN nq) (fun _ _ h=>h) fun _ _ h=>h;have a6:Hid (Touch (fun j=>cY U V j\/j=P) w (w.drewN nq)):=(Touch.refl _ w).drewN nq;have ai:Hid (w.heap.size=(w.drewN nq).heap.size):=rfl;clear aL aR g3 g1 c4 aS;generalize w.drewN nq=wq at*
   have bf:=Lib.hid (rQ W.out.log W.out.bG HS.out);have c4:=W.out.pm.row.c4;go_wp2_with fail
   refine bf.out.mono ?_;rintro e w1(⟨U1,V1,d1,rfl,aM,A,f,ax,G,R,aW⟩|⟨aj,k,U1,d1,rfl,rfl,aJ,A,f,aK,G,R⟩);case inr=>
    have bt:=Lib.hid aj;have HE:Hid (_/\_/\_/\_/\_/\_):=⟨aJ,A,f,aK,a6.out.trans (G.mono fun _ _ h=>Or.inl h),(fun j p=>by rw[ai.out];exact R j p:br U U1 w)⟩
    clear aj aJ A f aK G R bf c4;go_wp2_with fail
    go_ret;obtain⟨aJ,A,f,aK,G,R⟩:=HE.out;refine Or.inr ⟨bt.out,rfl,U1,d1,lg,fun k x=>x=s.bJ k,aJ,f,G,R,Or.inl rfl,fun k x hx=>⟨Or.inl hx,?_⟩,fun ps=>⟨aK ps,(sT HH.out.hw A HH.out.kf).ay f HH.out.dW ps⟩⟩;rw[hx];exact(HH.out.im k).1
   have aI:=W.out.im;have bl:Wl.Good lg:=by obtain⟨_,_,_,_,M,-⟩:=W.out.log;exact M.ex.aQ
   have l:Hid (cX U1 V1 w1 B L P S b N hand mp F H n d1 (Wl.flush lg) s):=⟨aM,W.out.pm.bQ G (fun j p hb=>W.out.off j hb p),W.out.dW,sT W.out.hw A W.out.kf,fun j p hX=>by
    have bu:=W.out.pm.lt j hX;rcases p with p|p
    ·rcases R j p with O|O
     ·exact W.out.off j (Or.inl O) hX
     ·omega
    ·rcases aW j p with O|O
     ·exact W.out.off j (Or.inr O) hX
     ·omega,fun k=>⟨Nat.lt_of_lt_of_le (aI k).1 bl.high,(aI k).2⟩,W.out.kf,f,W.out.n16⟩
   have bc:Hid ((s.now (fa F i).aA).1<(Wl.flush lg).ae):=(aI _).2;have aH:Hid (Wl.Calm n d->Wl.Calm n d1):=ax;have aG:Hid (Po.Lf lg (Wl.flush lg)):=Or.inr rfl;have a2:Hid (Touch (fun j=>cY U V j\/j=P) w w1):=a6.out.trans (G.mono fun _ _ h=>Or.inl h);have ah:Hid (br U U1 w):=fun j p=>by rw[ai.out];exact R j p
   have bd:Hid (br V V1 w):=fun j p=>by rw[ai.out];exact aW j p
   clear aM A f ax G R aW aI bl bf c4 W a6 ai HU;go_wp2_with fail
   obtain⟨m1,m2,pl,wa,M,hV,Z,y,-⟩:=l.out.log;have av:=lZ l.out.pm X.out.1;obtain⟨m,hm⟩:∃m,m=(fa F i).aA:=⟨_,rfl⟩
   obtain⟨x,hx⟩:∃x,x=s.now (fa F i).aA:=⟨_,rfl⟩
   obtain⟨u,hu⟩:∃u,u=(fa F i).u:=⟨_,rfl⟩
   have E:=l.out.pm.fr i X.out.1;have aZ:Hid (x.1=(fa F i).bj):=by show _=_;rw[hx,E.bj]
   have Y:∀g,u.ownBlock=some g->¬DS B m1 m2 g:=fun g hg hd=>l.out.off g (Or.inl (by rw[y];exact hd)) (Or.inr (Or.inr ⟨i,by rw[<-hu];exact hg⟩));have aB:aV w1 u x.2:=by rw[hu,hx];exact E.body
   have bg:=Lib.hid aB;have aw:Po.cK x:=by rw[hx];exact l.out.pm.aQ.ok _
   have I:∀w2,bh w2 B m1 m2 d1->aV w2 u x.2->Calls Tryz.prog 79 #[sX B S b N,.int .i64 (m:Int),fZ x.1 u] w2 fun e w'=>G7 B m1 m2 d1 S b m (Pg.form x.1 x.2) w2 e w':=fun w2 hp hb=>td hp l.out.bG l.out.hw l.out.dW (by rw[hm];exact av) l.out.n16 x u aw hb Y;have aD:=Lib.hid I;have bk:=Lib.hid Y;have HM:=Lib.hid hm;have HX:=Lib.hid hx;have a1:=Lib.hid hu;have af:=Lib.hid y;have bb:=Lib.hid Z;have ba:Hid (¬DS B m1 m2 P):=fun hd=>l.out.off P (Or.inl (by rw[y];exact hd)) (Or.inl rfl);have a8:Hid (aO w1 P B S b N L s.aC hand mp F):=l.out.pm.row;clear M hV Z y av hm hx hu E Y aB aw I;go_upto_region 7 with(fail)
   refine Ord.walk (nN B P S b N i m u x.1) (fun D xs w'=>CB B m1 m2 P S b N L s.aC hand mp F u x d1 m w1 D xs w') (Touch (DS B m1 m2)) (by kernel_rfl) (by kernel_rfl) ?frU1 ?hfrU1 ?hTU1 (fun xs=>⟨a8.out.below (Below.refl _ _).kH,bg.out.below (Below.refl _ _).kH,(Touch.refl _ _).drew,fun _=>bb.out.below (Below.refl _ _).kH,(fun e=>by cases e),fun e=>by cases e⟩) ?heU1 ?hendU1;case hfrU1=>
    intro xs;simp only[Ord.fill,Act.put,List.setIfInBounds_toArray,List.set_cons_zero,List.set_cons_succ];rfl
   case hTU1=>
    intro k v wa wb G hF;exact hF
   case heU1=>
    iterate 14 (refine Ord.aa (fun D xs w2 hD hC hP hR a K' o=>?_) ?_;rotate_left)
    rotate_left
    ·clear a;go_simp;exact o _ _ ⟨_,rfl,Touch.refl _ _,hR.quiet 0 _ (by decide) (by decide),rfl⟩
    ·have q0:=Ord.ab _ a 0 (by decide);simp only[nN]at q0;simp only[q0]at o⊢;clear a;go_simp;exact o _ _ ⟨_,rfl,Touch.refl _ _,hR.quiet 1 _ (by decide) (by decide),rfl⟩
    ·have q1:=Ord.ab _ a 1 (by decide);simp only[nN]at q1;simp only[q1]at o⊢;clear a;go_simp;exact o _ _ ⟨_,rfl,Touch.refl _ _,hR.quiet 2 _ (by decide) (by decide),rfl⟩
    ·have q2:=Ord.ab _ a 2 (by decide);simp only[nN]at q2;simp only[q2]at o⊢;clear a;have k0:=hR.row.c0;have k1:=hR.row.c1;have k2:=hR.row.c2;have k3:=hR.row.c3;go_simp;exact o _ _ ⟨_,rfl,Touch.refl _ _,hR.quiet 3 _ (by decide) (by decide),rfl⟩
    ·clear a;go_simp;exact o _ _ ⟨_,rfl,Touch.refl _ _,hR.quiet 4 _ (by decide) (by decide),rfl⟩
    ·have q4:=Ord.ab _ a 4 (by decide);simp only[nN]at q4;simp only[q4]at o⊢;clear a;go_simp;exact o _ _ ⟨_,rfl,Touch.refl _ _,hR.quiet 5 _ (by decide) (by decide),rfl⟩
    ·have q5:=Ord.ab _ a 5 (by decide);simp only[nN]at q5;simp only[q5]at o⊢;clear a;go_simp;exact o _ _ ⟨_,rfl,Touch.refl _ _,hR.quiet 6 _ (by decide) (by decide),rfl⟩
    ·have q6:=Ord.ab _ a 6 (by decide);simp only[nN]at q6;simp only[q6]at o⊢;clear a;have k0:=hR.row.fr X.out.2 0 (by decide) (v:=.int .i64 (m:Int)) (by rw[HM.out];rfl);rw[Nat.add_zero]at k0;go_simp;exact o _ _ ⟨_,rfl,Touch.refl _ _,hR.quiet 7 _ (by decide) (by decide),rfl⟩
    ·clear a;go_simp;exact o _ _ ⟨_,rfl,Touch.refl _ _,hR.quiet 8 _ (by decide) (by decide),rfl⟩
    ·have q8:=Ord.ab _ a 8 (by decide);simp only[nN]at q8;simp only[q8]at o⊢;clear a;go_simp;exact o _ _ ⟨_,rfl,Touch.refl _ _,hR.quiet 9 _ (by decide) (by decide),rfl⟩
    ·have q9:=Ord.ab _ a 9 (by decide);simp only[nN]at q9;simp only[q9]at o⊢;clear a;go_simp;exact o _ _ ⟨_,rfl,Touch.refl _ _,hR.quiet 10 _ (by decide) (by decide),rfl⟩
    ·have ao:=Ord.ab _ a 10 (by decide);simp only[nN]at ao;simp only[ao]at o⊢;clear a;have k1:=hR.row.fr X.out.2 1 (by decide) (v:=.int .u64 (x.1:Int)) (by rw[aZ.out];rfl);have k2:=hR.row.fr X.out.2 2 (by decide) (v:=u) (by rw[a1.out];rfl);go_simp;exact o _ _ ⟨_,rfl,Touch.refl _ _,hR.quiet 11 _ (by decide) (by decide),rfl⟩
    ·have q3:=Ord.ab _ a 3 (by decide);simp only[nN]at q3;have q7:=Ord.ab _ a 7 (by decide);simp only[nN]at q7;have an:=Ord.ab _ a 11 (by decide);simp only[nN]at an;simp only[q3,q7,an]at o⊢;clear a;have I:=aD.out w2 (hR.s0 hD) hR.body;go_simp;refine I.mono ?_;rintro e w3⟨t,G,J,rfl,aT,au⟩;exact o _ _ ⟨_,rfl,au,hR.call hC hD (by decide) au ba.out bk.out G J aT,trivial⟩
    ·clear a;go_simp;exact o _ _ ⟨_,rfl,Touch.refl _ _,hR.Hg,trivial⟩
    exact Ord.az
   case hendU1=>
    intro D xs w9 hR hF;obtain⟨t,G,J,Q,K⟩:=hR.s1 (hF 12 (by decide)).1;have ad:=(hR.s2 (hF 13 (by decide)).1).trans Q;obtain⟨r,hr⟩:∃r,r=Rg.dB d1 S (b+4*m) (Pg.form x.1 x.2) (Rg.laid (Pg.form x.1 x.2) (Rg.tag m t)):=⟨_,rfl⟩
    rw[<-hr]at Q ad K;rw[Q,ad];have ar:=lX l.out X.out.1 bc.out af.out G J (r:=r) (by rw[<-HX.out,<-HM.out];exact hr) K hR.al;have ag:=Lib.hid ar;have aF:=Lib.hid K;have C:=Lib.hid hR.row;have a7:=Lib.hid hR.al;generalize xs 0=y0;generalize xs 1=y1;generalize xs 2=y2;generalize xs 3=y3;generalize xs 4=y4;generalize xs 5=y5;generalize xs 6=y6;generalize xs 7=y7;generalize xs 8=y8;generalize xs 9=y9;generalize xs 10=y10;generalize xs 11=y11;clear hF hR Q ad G J hr ar K aD;obtain⟨r1,r2⟩:=r;dsimp only at ag aF⊢;have T:Hid (Touch (fun j=>cY U V j\/j=P) w w9):=a2.out.grow a7.out fun j p=>by
     rcases ah.out j (by rw[af.out];exact p)with O|O
     ·exact Or.inl (Or.inl (Or.inl O))
     ·exact Or.inr O
    by_cases he:r2=0
    case neg=>
     have O:¬(r2:Int)=0:=by omega
     have h2:((r2:Int)!=0)=true:=by simp;omega
     have HE:=Lib.hid (ag.out.2 he);clear he;go_wp2_with fail
     go_ret;obtain⟨e6,aj,f,c,aY,aX⟩:=HE.out;refine Or.inr ⟨fun hc=>aj (aH.out hc),by rw[e6];rfl,DS B m1 m2,r1,(Wl.flush lg),c,⟨m1,m2,aF.out,rfl⟩,f,T.out,fun j p=>ah.out j (by rw[af.out];exact p),aG.out,aY,aX⟩
    subst he;have f4:=C.out.free (5+i*7+4);have k4:=C.out.fr X.out.2 4 (by decide) (v:=.bool (fa F i).bo) rfl;have z:=C.out.set X.out.2 4 (by decide) (.bool false) {fa F i with bo:=false} rfl;have aE:=Lib.hid z;clear z;go_wp2_with fail
    go_ret;obtain⟨O,h2⟩:=ag.out.1 trivial aE.out (Touch.set P _ _ rfl);exact Or.inl ⟨U1,V1,r1,(Wl.flush lg),rfl,O,fun hc=>h2 (aH.out hc),aG.out,T.out.trans (Touch.set P _ _ (Or.inr rfl)),ah.out,bd.out,fun h=>absurd h bn.out⟩
  case neg=>
   have aS:¬(lg.ae:Int)<=((fa F i).bj:Int):=by omega
   have bc:Hid ((s.now (fa F i).aA).1<lg.ae):=by show _<_;rw[<-hfr.bj];omega
   clear hq;go_enter Tryz.func52,Tryz.ntmps52;go_upto_region 3 with(fail)
   go_quiet ((go_at_call 77;refine Calls.quiet_of_same ((aL.out _).mono fun e w' h=>⟨h.1,h.2.symm⟩)))
   have l:Hid (cX U V (w.drewN nq) B L P S b N hand mp F H n d lg s):=HH.out.bQ ((Touch.refl (fun _=>False) w).drewN nq) (fun _ _ h=>h) fun _ _ h=>h;have a2:Hid (Touch (fun j=>cY U V j\/j=P) w (w.drewN nq)):=(Touch.refl _ w).drewN nq;have aH:Hid (Wl.Calm n d->Wl.Calm n d):=id;have aG:Hid (Po.Lf lg lg):=Or.inl rfl;have ah:Hid (br U U w):=fun j p=>Or.inl p;have bd:Hid (br V V w):=fun j p=>Or.inl p;clear aL aR g3 g1 c4 aS HU;generalize w.drewN nq=wq at*
   obtain⟨m1,m2,pl,wa,M,hV,Z,y,-⟩:=l.out.log;have av:=lZ l.out.pm X.out.1;obtain⟨m,hm⟩:∃m,m=(fa F i).aA:=⟨_,rfl⟩
   obtain⟨x,hx⟩:∃x,x=s.now (fa F i).aA:=⟨_,rfl⟩
   obtain⟨u,hu⟩:∃u,u=(fa F i).u:=⟨_,rfl⟩
   have E:=l.out.pm.fr i X.out.1;have aZ:Hid (x.1=(fa F i).bj):=by show _=_;rw[hx,E.bj]
   have Y:∀g,u.ownBlock=some g->¬DS B m1 m2 g:=fun g hg hd=>l.out.off g (Or.inl (by rw[y];exact hd)) (Or.inr (Or.inr ⟨i,by rw[<-hu];exact hg⟩));have aB:aV wq u x.2:=by rw[hu,hx];exact E.body
   have bg:=Lib.hid aB;have aw:Po.cK x:=by rw[hx];exact l.out.pm.aQ.ok _
   have I:∀w2,bh w2 B m1 m2 d->aV w2 u x.2->Calls Tryz.prog 79 #[sX B S b N,.int .i64 (m:Int),fZ x.1 u] w2 fun e w'=>G7 B m1 m2 d S b m (Pg.form x.1 x.2) w2 e w':=fun w2 hp hb=>td hp l.out.bG l.out.hw l.out.dW (by rw[hm];exact av) l.out.n16 x u aw hb Y;have aD:=Lib.hid I;have bk:=Lib.hid Y;have HM:=Lib.hid hm;have HX:=Lib.hid hx;have a1:=Lib.hid hu;have af:=Lib.hid y;have bb:=Lib.hid Z;have ba:Hid (¬DS B m1 m2 P):=fun hd=>l.out.off P (Or.inl (by rw[y];exact hd)) (Or.inl rfl);have a8:Hid (aO wq P B S b N L s.aC hand mp F):=l.out.pm.row;clear M hV Z y av hm hx hu E Y aB aw I;go_upto_region 7 with(fail)
   refine Ord.walk (nN B P S b N i m u x.1) (fun D xs w'=>CB B m1 m2 P S b N L s.aC hand mp F u x d m wq D xs w') (Touch (DS B m1 m2)) (by kernel_rfl) (by kernel_rfl) ?frU ?hfrU ?hTU (fun xs=>⟨a8.out.below (Below.refl _ _).kH,bg.out.below (Below.refl _ _).kH,(Touch.refl _ _).drew,fun _=>bb.out.below (Below.refl _ _).kH,(fun e=>by cases e),fun e=>by cases e⟩) ?heU ?hendU;case hfrU=>
    intro xs;simp only[Ord.fill,Act.put,List.setIfInBounds_toArray,List.set_cons_zero,List.set_cons_succ];rfl
   case hTU=>
    intro k v wa wb G hF;exact hF
   case heU=>
    iterate 14 (refine Ord.aa (fun D xs w2 hD hC hP hR a K' o=>?_) ?_;rotate_left)
    rotate_left
    ·clear a;go_simp;exact o _ _ ⟨_,rfl,Touch.refl _ _,hR.quiet 0 _ (by decide) (by decide),rfl⟩
    ·have q0:=Ord.ab _ a 0 (by decide);simp only[nN]at q0;simp only[q0]at o⊢;clear a;go_simp;exact o _ _ ⟨_,rfl,Touch.refl _ _,hR.quiet 1 _ (by decide) (by decide),rfl⟩
    ·have q1:=Ord.ab _ a 1 (by decide);simp only[nN]at q1;simp only[q1]at o⊢;clear a;go_simp;exact o _ _ ⟨_,rfl,Touch.refl _ _,hR.quiet 2 _ (by decide) (by decide),rfl⟩
    ·have q2:=Ord.ab _ a 2 (by decide);simp only[nN]at q2;simp only[q2]at o⊢;clear a;have k0:=hR.row.c0;have k1:=hR.row.c1;have k2:=hR.row.c2;have k3:=hR.row.c3;go_simp;exact o _ _ ⟨_,rfl,Touch.refl _ _,hR.quiet 3 _ (by decide) (by decide),rfl⟩
    ·clear a;go_simp;exact o _ _ ⟨_,rfl,Touch.refl _ _,hR.quiet 4 _ (by decide) (by decide),rfl⟩
    ·have q4:=Ord.ab _ a 4 (by decide);simp only[nN]at q4;simp only[q4]at o⊢;clear a;go_simp;exact o _ _ ⟨_,rfl,Touch.refl _ _,hR.quiet 5 _ (by decide) (by decide),rfl⟩
    ·have q5:=Ord.ab _ a 5 (by decide);simp only[nN]at q5;simp only[q5]at o⊢;clear a;go_simp;exact o _ _ ⟨_,rfl,Touch.refl _ _,hR.quiet 6 _ (by decide) (by decide),rfl⟩
    ·have q6:=Ord.ab _ a 6 (by decide);simp only[nN]at q6;simp only[q6]at o⊢;clear a;have k0:=hR.row.fr X.out.2 0 (by decide) (v:=.int .i64 (m:Int)) (by rw[HM.out];rfl);rw[Nat.add_zero]at k0;go_simp;exact o _ _ ⟨_,rfl,Touch.refl _ _,hR.quiet 7 _ (by decide) (by decide),rfl⟩
    ·clear a;go_simp;exact o _ _ ⟨_,rfl,Touch.refl _ _,hR.quiet 8 _ (by decide) (by decide),rfl⟩
    ·have q8:=Ord.ab _ a 8 (by decide);simp only[nN]at q8;simp only[q8]at o⊢;clear a;go_simp;exact o _ _ ⟨_,rfl,Touch.refl _ _,hR.quiet 9 _ (by decide) (by decide),rfl⟩
    ·have q9:=Ord.ab _ a 9 (by decide);simp only[nN]at q9;simp only[q9]at o⊢;clear a;go_simp;exact o _ _ ⟨_,rfl,Touch.refl _ _,hR.quiet 10 _ (by decide) (by decide),rfl⟩
    ·have ao:=Ord.ab _ a 10 (by decide);simp only[nN]at ao;simp only[ao]at o⊢;clear a;have k1:=hR.row.fr X.out.2 1 (by decide) (v:=.int .u64 (x.1:Int)) (by rw[aZ.out];rfl);have k2:=hR.row.fr X.out.2 2 (by decide) (v:=u) (by rw[a1.out];rfl);go_simp;exact o _ _ ⟨_,rfl,Touch.refl _ _,hR.quiet 11 _ (by decide) (by decide),rfl⟩
    ·have q3:=Ord.ab _ a 3 (by decide);simp only[nN]at q3;have q7:=Ord.ab _ a 7 (by decide);simp only[nN]at q7;have an:=Ord.ab _ a 11 (by decide);simp only[nN]at an;simp only[q3,q7,an]at o⊢;clear a;have I:=aD.out w2 (hR.s0 hD) hR.body;go_simp;refine I.mono ?_;rintro e w3⟨t,G,J,rfl,aT,au⟩;exact o _ _ ⟨_,rfl,au,hR.call hC hD (by decide) au ba.out bk.out G J aT,trivial⟩
    ·clear a;go_simp;exact o _ _ ⟨_,rfl,Touch.refl _ _,hR.Hg,trivial⟩
    exact Ord.az
   case hendU=>
    intro D xs w9 hR hF;obtain⟨t,G,J,Q,K⟩:=hR.s1 (hF 12 (by decide)).1;have ad:=(hR.s2 (hF 13 (by decide)).1).trans Q;obtain⟨r,hr⟩:∃r,r=Rg.dB d S (b+4*m) (Pg.form x.1 x.2) (Rg.laid (Pg.form x.1 x.2) (Rg.tag m t)):=⟨_,rfl⟩
    rw[<-hr]at Q ad K;rw[Q,ad];have ar:=lX l.out X.out.1 bc.out af.out G J (r:=r) (by rw[<-HX.out,<-HM.out];exact hr) K hR.al;have ag:=Lib.hid ar;have aF:=Lib.hid K;have C:=Lib.hid hR.row;have a7:=Lib.hid hR.al;generalize xs 0=y0;generalize xs 1=y1;generalize xs 2=y2;generalize xs 3=y3;generalize xs 4=y4;generalize xs 5=y5;generalize xs 6=y6;generalize xs 7=y7;generalize xs 8=y8;generalize xs 9=y9;generalize xs 10=y10;generalize xs 11=y11;clear hF hR Q ad G J hr ar K aD;obtain⟨r1,r2⟩:=r;dsimp only at ag aF⊢;have T:Hid (Touch (fun j=>cY U V j\/j=P) w w9):=a2.out.grow a7.out fun j p=>by
     rcases ah.out j (by rw[af.out];exact p)with O|O
     ·exact Or.inl (Or.inl (Or.inl O))
     ·exact Or.inr O
    by_cases he:r2=0
    case neg=>
     have O:¬(r2:Int)=0:=by omega
     have h2:((r2:Int)!=0)=true:=by simp;omega
     have HE:=Lib.hid (ag.out.2 he);clear he;go_wp2_with fail
     go_ret;obtain⟨e6,aj,f,c,aY,aX⟩:=HE.out;refine Or.inr ⟨fun hc=>aj (aH.out hc),by rw[e6];rfl,DS B m1 m2,r1,lg,c,⟨m1,m2,aF.out,rfl⟩,f,T.out,fun j p=>ah.out j (by rw[af.out];exact p),aG.out,aY,aX⟩
    subst he;have f4:=C.out.free (5+i*7+4);have k4:=C.out.fr X.out.2 4 (by decide) (v:=.bool (fa F i).bo) rfl;have z:=C.out.set X.out.2 4 (by decide) (.bool false) {fa F i with bo:=false} rfl;have aE:=Lib.hid z;clear z;go_wp2_with fail
    go_ret;obtain⟨O,h2⟩:=ag.out.1 trivial aE.out (Touch.set P _ _ rfl);exact Or.inl ⟨U,V,r1,lg,rfl,O,fun hc=>h2 (aH.out hc),aG.out,T.out.trans (Touch.set P _ _ (Or.inr rfl)),ah.out,bd.out,fun h=>absurd h bn.out⟩
def Gx(U V:Nat->Prop)(B L P S b N hand mp:Nat)(F:List Fr)(H:List (Option Nat))(n:Nat)(d:Dk.aq)(lg:Wl.S)(s:Po.S)(i:Nat)(w w':World):Prop:=
 ∃f e c a,cX f e w' B L P S b N hand mp (F.set i {fa F i with bo:=false}) H n c a (Po.dt s (fa F i).aA)/\(Wl.Calm n d->Wl.Calm n c)/\Po.Lf lg a/\Touch (fun j=>cY U V j\/j=P) w w'/\br U f w/\br V e w/\(s.first (fa F i).aA=none->c=d/\a=lg)
def FC(U V:Nat->Prop)(B P S b N:Nat)(n:Nat)(lg:Wl.S)(s:Po.S)(w w':World):Prop:=
 ∃f d a c,gB f w' B d/\Wl.aY n d/\Touch (fun j=>cY U V j\/j=P) w w'/\br U f w/\Po.Lf lg a/\(∀k x,c k x->(x=s.bJ k\/x=s.now k)/\x.1<a.ae)/\∀e,Wl.Hd (Dk.ay d e) a/\Rg.sZ S b N (Dk.ay d e) c
theorem tY{U V:Nat->Prop}{B L P S b N hand mp:Nat}{F:List Fr}{H:List (Option Nat)}{n:Nat}{d:Dk.aq}{lg:Wl.S}{s:Po.S}{i:Nat}{w:World}{e:Ending}{w':World}(h:Ho U V B L P S b N hand mp F H n d lg s i w e w'):
 (e=.returned (.int .i64 0)/\Gx U V B L P S b N hand mp F H n d lg s i w w')\/(¬Wl.Calm n d/\e=.returned (.int .i64 6)/\FC U V B P S b N n lg s w w'):=by
 rcases h with⟨k,j,g,a,f,c⟩|h
 ·exact Or.inl ⟨f,k,j,g,a,c⟩
 ·exact Or.inr h
def Iu(U V:Nat->Prop)(B L P S b N hand mp:Nat)(F:List Fr)(H:List (Option Nat))(n:Nat)(d:Dk.aq)(lg:Wl.S)(s:Po.S)(i:Nat)(w:World)(e:Ending)(w':World):Prop:=
 (e=.returned (.int .i64 0)/\∃w1,Gx U V B L P S b N hand mp F H n d lg s i w w1/\Touch (·=mp) w1 w'/\dJ w' mp (H.set (fa F i).aA none))\/(¬Wl.Calm n d/\e=.returned (.int .i64 6)/\FC U V B P S b N n lg s w w')
def GW(P B S b N L aN hand mp:Nat)(F:List Fr)(H:List (Option Nat))(i:Nat)(W:World)(D:Nat->Bool)(w:World):Prop:=
 (D 8=false->aO w P B S b N L aN hand mp F/\dJ w mp H/\Touch (·=mp) W w)/\(D 8=true->Touch (·=mp) W w/\dJ w mp (H.set (fa F i).aA none))
def D4(P i mp a:Nat)(j:Nat)(v:Value)(_:World):Prop:=
 match j with
 |0=>v=.pointer (some ⟨P,0,none⟩)
 |1=>v=.pointer (some ⟨P,0,none⟩)
 |2=>v=.pointer (some ⟨P,455,none⟩)
 |3=>v=.map (some mp)
 |4=>v=.pointer (some ⟨P,5+i*7,none⟩)
 |5=>v=.pointer (some ⟨P,5+i*7,none⟩)
 |6=>v=.pointer (some ⟨P,5+i*7,none⟩)
 |7=>v=.int .i64 (a:Int)
 |_=>True
theorem GW.quiet{P B S b N L aN hand mp:Nat}{F:List Fr}{H:List (Option Nat)}{i:Nat}{W:World}{D:Nat->Bool}{w:World}(h:GW P B S b N L aN hand mp F H i W D w)(k:Nat)(a:8≠k):GW P B S b N L aN hand mp F H i W (Ord.bP D k) w:=
 ⟨fun e=>h.1 (by rw[<-bg D a];exact e),fun e=>h.2 (by rw[<-bg D a];exact e)⟩
set_option maxHeartbeats 3200000 in
set_option maxRecDepth 20000 in
theorem oY {U V : Nat → Prop} {w : World} {B L P S b N hand mp n : Nat} {F : List Fr} {H : List (Option Nat)} {d : Dk.aq} {lg : Wl.S} {s : Po.S} {i : Nat} (h : cX U V w B L P S b N hand mp F H n d lg s) (Q : i < s.held.length) (hs : lg.stop ≤ 1000000000000) :
    Calls Tryz.prog 74 #[.pointer (some ⟨P, 0, none⟩), .pointer (some ⟨P, 5 + i * 7, none⟩)] w fun e w' => Iu U V B L P S b N hand mp F H n d lg s i w e w' := by
  have o := Lib.hid (qU h Q hs)
  have hb := h.pm.bounds
  have hc := h.pm.aN
  have m : i < 64 := by omega
  have t : i < F.length := by rw [h.pm.row.len]; exact m
  have HI : Hid (i < 64) := m
  have G : Hid (fa (F.set i { fa F i with bo := false }) i = { fa F i with bo := false }) := by show _ = _; rw [cr F t, if_pos rfl]
  have R : Hid ((fa F i).aA < H.length) := by show _ < _; rw [h.pm.hlen]; exact lZ h.pm Q
  clear h Q hs hb hc m t
  go_enter Tryz.func74, Tryz.ntmps74
  go_wp2_with fail
  refine o.out.mono ?_
  intro e w1 l
  rcases tY l with ⟨rfl, q⟩ | ⟨r, rfl, u⟩
  case inr =>
    have I : Hid (_ ∧ _) := ⟨r, u⟩
    clear r u l o
    go_wp2_with fail
    go_ret
    exact Or.inr ⟨I.out.1, rfl, I.out.2⟩
  have E := Lib.hid q
  clear q l o
  obtain ⟨U', V', d', ae, f, -⟩ := E.out
  have z := Lib.hid f.pm.row
  have T := Lib.hid f.pm.map
  have af := Lib.hid f.pm.ne
  clear f
  obtain ⟨J, x⟩ : ∃ J, J = F.set i { fa F i with bo := false } := ⟨_, rfl⟩
  rw [← x] at z G
  have C : Hid ((fa J i).aA = (fa F i).aA) := by show _ = _; rw [G.out]
  obtain ⟨p, j⟩ : ∃ p, p = (fa J i).aA := ⟨_, rfl⟩
  have g := Lib.hid j
  have A : Hid (p < H.length) := by show _ < _; rw [j, C.out]; exact R.out
  clear x j
  go_upto_region 4 with (fail)
  refine Ord.walk (D4 P i mp p) (fun D _ w' => GW P B S b N L (Po.dt s (fa F i).aA).aC hand mp J H i w1 D w') (fun _ _ => True) (by kernel_rfl) (by kernel_rfl) ?fr ?hfr ?hT (fun xs => ⟨fun _ => ⟨z.out.below (Below.refl _ _).kH, T.out.below (Below.refl _ _).kH, (Touch.refl _ _).drew⟩, fun e => by cases e⟩) ?he ?hend
  case hfr =>
    intro xs
    simp only [Ord.fill, Act.put, List.setIfInBounds_toArray, List.set_cons_zero, List.set_cons_succ]
    rfl
  case hT =>
    intro k v wa wb ht K
    exact K
  case he =>
    iterate 4 (refine Ord.aa (fun D xs w2 y hC hP hR a K' c => ?_) ?_; rotate_left)
    rotate_left
    ·
      clear a
      go_simp
      exact c _ _ ⟨_, rfl, trivial, hR.quiet 0 (by decide), rfl⟩
    ·
      have q0 := Ord.ab _ a 0 (by decide)
      simp only [D4] at q0
      simp only [q0] at c ⊢
      clear a
      go_simp
      exact c _ _ ⟨_, rfl, trivial, hR.quiet 1 (by decide), rfl⟩
    ·
      have q1 := Ord.ab _ a 1 (by decide)
      simp only [D4] at q1
      simp only [q1] at c ⊢
      clear a
      go_simp
      exact c _ _ ⟨_, rfl, trivial, hR.quiet 2 (by decide), rfl⟩
    ·
      have q2 := Ord.ab _ a 2 (by decide)
      simp only [D4] at q2
      simp only [q2] at c ⊢
      clear a
      have h0 := hR.1 (by
  cases e : D 8 with
  | false => rfl
  | true => have := Ord.aL hC 8 3 (by decide) e; rw [y] at this; cases this)
      have k := h0.1.qC
      go_simp
      exact c _ _ ⟨_, rfl, trivial, hR.quiet 3 (by decide), rfl⟩
    iterate 4 (refine Ord.aa (fun D xs w2 y hC hP hR a K' c => ?_) ?_; rotate_left)
    rotate_left
    ·
      clear a
      go_simp
      exact c _ _ ⟨_, rfl, trivial, hR.quiet 4 (by decide), rfl⟩
    ·
      have Z := Ord.ab _ a 4 (by decide)
      simp only [D4] at Z
      simp only [Z] at c ⊢
      clear a
      go_simp
      exact c _ _ ⟨_, rfl, trivial, hR.quiet 5 (by decide), rfl⟩
    ·
      have Y := Ord.ab _ a 5 (by decide)
      simp only [D4] at Y
      simp only [Y] at c ⊢
      clear a
      go_simp
      exact c _ _ ⟨_, rfl, trivial, hR.quiet 6 (by decide), rfl⟩
    ·
      have X := Ord.ab _ a 6 (by decide)
      simp only [D4] at X
      simp only [X] at c ⊢
      clear a
      have h0 := hR.1 (by
  cases e : D 8 with
  | false => rfl
  | true => have := Ord.aL hC 8 7 (by decide) e; rw [y] at this; cases this)
      have k0 := h0.1.fr HI.out 0 (by decide) (v := .int .i64 (p : Int)) (by rw [g.out]; rfl)
      rw [Nat.add_zero] at k0
      go_simp
      exact c _ _ ⟨_, rfl, trivial, hR.quiet 7 (by decide), rfl⟩
    refine Ord.aa (fun D xs w2 y hC hP hR a K' c => ?_) ?_
    ·
      have q3 := Ord.ab _ a 3 (by decide)
      simp only [D4] at q3
      have W := Ord.ab _ a 7 (by decide)
      simp only [D4] at W
      simp only [q3, W] at c ⊢
      clear a
      have h0 := hR.1 y
      obtain ⟨w3, ad, O, M⟩ := h0.2.1.drop A.out
      go_simp
      exact c _ _ ⟨undef, rfl, trivial, ⟨fun e => by simp [Ord.bP] at e, fun _ => ⟨h0.2.2.trans M, by rw [← g.out]; exact O⟩⟩, trivial⟩
    exact Ord.az
  case hend =>
    intro D xs w9 hR K
    have h9 := hR.2 (K 8 (by decide)).1
    have I := Lib.hid h9
    generalize xs 0 = y0
    generalize xs 1 = y1
    generalize xs 2 = y2
    generalize xs 3 = y3
    generalize xs 4 = y4
    generalize xs 5 = y5
    generalize xs 6 = y6
    generalize xs 7 = y7
    clear K hR h9
    go_wp2_with fail
    go_ret
    exact Or.inl ⟨rfl, w1, E.out, I.out.1, by rw [← C.out]; exact I.out.2⟩
def De:Array Value:=#[.int .u64 0,.slice none 0 0]
structure uX(W:World)(Q k:Nat)(v:Value)(l:List Nat)(D:Nat->Bool)(xs:Nat->Value)(w:World):Prop where
 below:Below Q W w
 sz:Q+2<=w.heap.size
 row:w.heap[Q]?=some (.cells #[.int .u64 (k:Int),v] 59 (0,0))
 body:aV w v l
 s4:D 4=true->(∃p c,xs 4=.slice p l.length c)/\Own (Q+2) w (xs 4) l
 s5:D 5=true->xs 5=.agg #[.int .u64 (k:Int),xs 4]
 s6:w.heap[Q+1]?=some (.cells (if D 6 then#[.int .u64 (k:Int),xs 4]else De) 59 (0,0))
def Gy(Q k:Nat)(v:Value)(j:Nat)(u:Value)(_:World):Prop:=
 match j with
 |0=>u=.pointer (some ⟨Q,0,none⟩)
 |1=>u=.int .u64 (k:Int)
 |2=>u=.pointer (some ⟨Q,1,none⟩)
 |3=>u=v
 |_=>True
section
variable{W:World}{Q k:Nat}{v:Value}{l:List Nat}{D:Nat->Bool}{xs:Nat->Value}{w:World}
theorem uX.any(h:uX W Q k v l (fun _=>false) (fun _=>undef) w)(xs:Nat->Value):uX W Q k v l (fun _=>false) xs w:=⟨h.below,h.sz,h.row,h.body,(fun e=>by cases e),(fun e=>by cases e),h.s6⟩
theorem uX.quiet(h:uX W Q k v l D xs w)(j:Nat)(u:Value)(a:4≠j)(b:5≠j)(c:6≠j):uX W Q k v l (Ord.bP D j) (Ord.set xs j u) w:=
 ⟨h.below,h.sz,h.row,h.body,fun e=>by rw[bM xs u a];exact h.s4 (by rw[<-bg D a];exact e),fun e=>by rw[bM xs u a,bM xs u b];exact h.s5 (by rw[<-bg D b];exact e),by rw[bM xs u a,bg D c];exact h.s6⟩
theorem uX.call(h:uX W Q k v l D xs w){ops:List Oper}(hC:Ord.closed ops D)(i:D 4=false)(f:Ord.waits ops 5 4=true)(d:Ord.waits ops 6 5=true){u:Value}{w':World}(b:Own w.heap.size w' u l)(a:Below w.heap.size w w'):uX W Q k v l (Ord.bP D 4) (Ord.set xs 4 u) w':=by
 have d5:D 5=false:=by
  cases e:D 5 with
  |false=>rfl
  |true=>have:=Ord.aL hC 5 4 f e;rw[i]at this;cases this
 have d6:D 6=false:=by
  cases e:D 6 with
  |false=>rfl
  |true=>have:=Ord.aL hC 6 5 d e;rw[d5]at this;cases this
 have g:=h.sz;obtain⟨p,c,hu,-⟩:=b.bz.form;refine⟨h.below.trans (a.mono (by omega)),Nat.le_trans h.sz a.size,(a.block Q (by omega)).trans h.row,h.body.below a,fun _=>?_,fun e=>?_,?_⟩
 ·have j:Ord.set xs 4 u 4=u:=if_pos rfl;rw[j];exact⟨⟨p,c,hu⟩,b.from (by omega)⟩
 ·rw[bg D (show 5≠4 by decide),d5]at e;cases e
 ·rw[bg D (show 6≠4 by decide),d6];have:=h.s6;rw[d6]at this;exact(a.block (Q+1) (by omega)).trans this
theorem uX.build(h:uX W Q k v l D xs w):uX W Q k v l (Ord.bP D 5) (Ord.set xs 5 (.agg #[.int .u64 (k:Int),xs 4])) w:=
 ⟨h.below,h.sz,h.row,h.body,fun e=>by rw[bM xs _ (show 4≠5 by decide)];exact h.s4 (by rw[<-bg D (show 4≠5 by decide)];exact e),fun _=>by rw[bM xs _ (show 4≠5 by decide)];exact if_pos rfl,by rw[bM xs _ (show 4≠5 by decide),bg D (show 6≠5 by decide)];exact h.s6⟩
theorem uX.store(h:uX W Q k v l D xs w)(n:D 4=true)(m:D 6=false)(d:∀g,v.ownBlock=some g->g≠Q+1)(u:Value):uX W Q k v l (Ord.bP D 6) (Ord.set xs 6 u) ((w.setCell ⟨Q+1,0,none⟩ (.int .u64 (k:Int))).setCell ⟨Q+1,1,none⟩ (xs 4)):=by
 have c:Touch (fun j=>j=Q+1) w ((w.setCell ⟨Q+1,0,none⟩ (.int .u64 (k:Int))).setCell ⟨Q+1,1,none⟩ (xs 4)):=(Touch.set (S:=fun j=>j=Q+1) (Q+1) 0 _ rfl).trans (Touch.set (Q+1) 1 _ rfl);have h0:=h.s6;rw[m]at h0;have o:=aT (i:=1) (aT (i:=0) h0 (.int .u64 (k:Int))) (xs 4);refine⟨h.below.trans (c.below (fun j f=>by omega) (by have:=h.below.size;have:=h.sz;omega)),Nat.le_trans h.sz c.size,c.row h.row (by omega),c.bz h.body (fun _=>d),fun e=>?_,fun e=>?_,?_⟩
 ·rw[bM xs u (show 4≠6 by decide)];obtain⟨a,b⟩:=h.s4 n;exact⟨a,kx b c fun j f e=>by omega⟩
 ·rw[bM xs u (show 4≠6 by decide),bM xs u (show 5≠6 by decide)];exact h.s5 (by rw[<-bg D (show 5≠6 by decide)];exact e)
 ·rw[bM xs u (show 4≠6 by decide),show Ord.bP D 6 6=true from if_pos rfl,if_pos rfl];exact o
end
set_option maxHeartbeats 3200000 in
set_option maxRecDepth 20000 in
theorem oX(k:Nat)(v:Value)(l:List Nat)(w:World)(y:aV w v l)(L:0<l.length):
 Calls Tryz.prog 50 #[fZ k v] w fun e w'=>∃u,e=.returned (fZ k u)/\Own w.heap.size w' u l/\Below w.heap.size w w':=by
 have o:=y.ju L;obtain⟨p,c,i,-⟩:=y.form;obtain⟨Q,d⟩:∃Q,Q=w.heap.size:=⟨_,rfl⟩
 obtain⟨W,f⟩:∃W,W=(w.alloc (.cells #[.int .u64 (k:Int),v] 59)).alloc (.cells De 59):=⟨_,rfl⟩
 have n:W.heap[Q]?=some (.cells #[.int .u64 (k:Int),v] 59 (0,0)):=by
  rw[f,d];have z:=heap_alloc_last w (.cells #[.int .u64 (k:Int),v] 59);have R:Below (w.heap.size+1) (w.alloc (.cells #[.int .u64 (k:Int),v] 59)) ((w.alloc (.cells #[.int .u64 (k:Int),v] 59)).alloc (.cells De 59)):=(Below.refl _ _).alloc (by simp) _;exact(R.block _ (by omega)).trans z
 have m:W.heap[Q+1]?=some (.cells De 59 (0,0)):=by
  rw[f,d];have z:=heap_alloc_last (w.alloc (.cells #[.int .u64 (k:Int),v] 59)) (.cells De 59);rw[show(w.alloc (.cells #[.int .u64 (k:Int),v] 59)).heap.size=w.heap.size+1 by simp]at z;exact z
 have s:Below Q w W:=by rw[f,d];exact((Below.refl _ _).alloc (Nat.le_refl _) _).alloc (by simp) _
 have E:Hid (uX W Q k v l (fun _=>false) (fun _=>undef) W.drew):=by
  have hs:W.heap.size=Q+2:=by rw[f,d];simp
  exact⟨(Below.refl _ _).kH,by show _<=W.heap.size;omega,n,(y.below (by rw[<-d];exact s)).below (Below.refl _ _).kH,(fun e=>by cases e),(fun e=>by cases e),m⟩
 have T:Hid (∀g,v.ownBlock=some g->g≠Q+1):=fun g P e=>by have:=o g P;omega
 have O:=Lib.hid d;have U:=Lib.hid s;have S:=Lib.hid i;clear o n m s y L;unfold fZ;subst i;go_enter Tryz.func50,Tryz.ntmps50;go_upto_region 1 with(fail)
 unfold De at f;rw[<-f,<-d];clear f d;refine Ord.walk (Gy Q k (.slice p l.length c)) (fun D xs w'=>uX W Q k (.slice p l.length c) l D xs w') (fun _ _=>True) (by kernel_rfl) (by kernel_rfl) ?fr ?hfr ?hT (fun xs=>E.out.any xs) ?he ?hend;case hfr=>
  intro xs;simp only[Ord.fill,Act.put,List.setIfInBounds_toArray,List.set_cons_zero,List.set_cons_succ];rfl
 case hT=>
  intro k v X V Y t;exact t
 case he=>
  iterate 7 (refine Ord.aa (fun D xs w2 M hC B hR b Z a=>?_) ?_;rotate_left)
  rotate_left
  ·clear b;go_simp;exact a _ _ ⟨_,rfl,trivial,hR.quiet 0 _ (by decide) (by decide) (by decide),rfl⟩
  ·have K:=Ord.ab _ b 0 (by decide);simp only[Gy]at K;simp only[K]at a⊢;clear b;have k0:=ah hR.row 0 (v:=.int .u64 (k:Int)) rfl;go_simp;exact a _ _ ⟨_,rfl,trivial,hR.quiet 1 _ (by decide) (by decide) (by decide),rfl⟩
  ·clear b;go_simp;exact a _ _ ⟨_,rfl,trivial,hR.quiet 2 _ (by decide) (by decide) (by decide),rfl⟩
  ·have I:=Ord.ab _ b 2 (by decide);simp only[Gy]at I;simp only[I]at a⊢;clear b;have k1:=ah hR.row 1 (v:=.slice p l.length c) rfl;go_simp;exact a _ _ ⟨_,rfl,trivial,hR.quiet 3 _ (by decide) (by decide) (by decide),rfl⟩
  ·have H:=Ord.ab _ b 3 (by decide);simp only[Gy]at H;simp only[H]at a⊢;clear b;have A:=gK _ l w2 hR.body;go_simp;refine A.mono ?_;rintro e w3⟨u,rfl,h,s⟩;exact a _ _ ⟨_,rfl,trivial,hR.call hC M (by decide) (by decide) h s,trivial⟩
  ·have J:=Ord.ab _ b 1 (by decide);simp only[Gy]at J;simp only[J]at a⊢;clear b;have d4:D 4=true:=B {on:=4,ground:=.data} (by simp) rfl;obtain⟨⟨pu,N,hu⟩,h⟩:=hR.s4 d4;simp only[hu]at a⊢;have q:=hR.build;rw[hu]at q;go_simp;exact a _ _ ⟨_,rfl,trivial,q,trivial⟩
  ·clear b;have d5:D 5=true:=B {on:=5,ground:=.data} (by simp) rfl;have d4:D 4=true:=B {on:=4,ground:=.chain} (by simp) rfl;obtain⟨⟨pu,N,hu⟩,h⟩:=hR.s4 d4;have G:=hR.s5 d5;rw[hu]at G;simp only[G,hu]at a⊢;have h0:=hR.s6;have x:D 6=false:=M;rw[x]at h0;have c0:=ah h0 0 (v:=.int .u64 0) rfl;have c1:=ah h0 1 (v:=.slice none 0 0) rfl;have f0:=aI h0 0;have f1:=aI h0 1;have j:=hR.store d4 x T.out undef;rw[hu]at j;go_simp;exact a _ _ ⟨undef,rfl,trivial,j,trivial⟩
  exact Ord.az
 case hend=>
  intro D xs w9 hR t;have d4:=(t 4 (by decide)).1;have d6:=(t 6 (by decide)).1;obtain⟨⟨pu,N,hu⟩,h⟩:=hR.s4 d4;have C:=hR.s6;rw[d6,if_pos rfl]at C;have r:=hR.below;generalize xs 0=y0;generalize xs 1=y1;generalize xs 2=y2;generalize xs 3=y3;generalize xs 5=y5;generalize xs 4=y4 at*
  have F:Hid (_/\_/\_):=⟨h,C,r⟩
  clear t hR d4 d6 h C r;go_wp2_with fail
  refine bodyPost_ret (results_cell_row rfl _ _ (Q+1) 59 _ _ _ rfl F.out.2.1 Tryz.underlying59 rfl (by kernel_rfl)) rfl ?_;exact⟨y4,rfl,by rw[<-O.out];exact F.out.1.from (by omega),by rw[<-O.out];exact U.out.trans F.out.2.2⟩
structure rH(W:World)(Q B m1 m2 P S b N L aN hand mp:Nat)(F:List Fr)(d:Dk.aq)(k e:Nat)(l:List Nat)(D:Nat->Bool)(xs:Nat->Value)(w:World):Prop where
 below:Below Q W w
 sz:Q+1<=w.heap.size
 row:aO w P B S b N L aN hand mp F
 dev:bh w B m1 m2 d
 s0:D 12=false->w.heap[Q]?=some (.cells De 59 (0,0))
 s1:D 12=true->∃u,(∃p c,u=.slice p l.length c)/\Own (Q+1) w u l/\xs 12=.tuple #[.agg #[.int .u64 (k:Int),u],.int .i64 (e:Int)]/\(D 13=true->xs 13=.agg #[.int .u64 (k:Int),u])/\(D 14=true->xs 14=.int .i64 (e:Int))/\w.heap[Q]?=some (.cells (if D 15 then#[.int .u64 (k:Int),u]else De) 59 (0,0))/\(D 16=true->xs 16=.int .i64 (e:Int))
def zY(B P b:Nat)(n:Int)(j:Nat)(u:Value)(_:World):Prop:=
 match j with
 |0=>u=.pointer (some ⟨P,0,none⟩)
 |1=>u=.pointer (some ⟨P,0,none⟩)
 |2=>u=.pointer (some ⟨P,0,none⟩)
 |3=>u=.pointer (some ⟨P,0,none⟩)
 |4=>u=.pointer (some ⟨B,0,none⟩)
 |5=>u=.pointer (some ⟨P,0,none⟩)
 |6=>u=.pointer (some ⟨P,0,none⟩)
 |7=>u=.pointer (some ⟨P,0,none⟩)
 |8=>u=.pointer (some ⟨P,1,none⟩)
 |9=>u=.pointer (some ⟨P,2,none⟩)
 |10=>u=.int .i64 (b:Int)
 |11=>u=.int .i64 n
 |_=>True
section
variable{W:World}{Q B m1 m2 P S b N L aN hand mp:Nat}{F:List Fr}{d:Dk.aq}{k e:Nat}{l:List Nat}{D:Nat->Bool}{xs:Nat->Value}{w:World}
theorem rH.quiet(h:rH W Q B m1 m2 P S b N L aN hand mp F d k e l D xs w)(j:Nat)(v:Value)(f:j<12):rH W Q B m1 m2 P S b N L aN hand mp F d k e l (Ord.bP D j) (Ord.set xs j v) w:=by
 have a:∀i,12<=i->Ord.bP D j i=D i:=fun i c=>bg D (by omega);have x:∀i,12<=i->Ord.set xs j v i=xs i:=fun i c=>bM xs v (by omega);refine⟨h.below,h.sz,h.row,h.dev,fun e=>h.s0 (by rw[<-a 12 (by omega)];exact e),fun e=>?_⟩;rw[a 12 (by omega)]at e;rw[a 13 (by omega),a 14 (by omega),a 15 (by omega),a 16 (by omega),x 12 (by omega),x 13 (by omega),x 14 (by omega),x 16 (by omega)];exact h.s1 e
theorem rH.call(h:rH W Q B m1 m2 P S b N L aN hand mp F d k e l D xs w){ops:List Oper}(hC:Ord.closed ops D)(o:D 12=false)(n:Ord.waits ops 13 12=true)(m:Ord.waits ops 14 12=true)(g:Ord.waits ops 15 13=true)(f:Ord.waits ops 16 14=true){u:Value}{w':World}(q:Own w.heap.size w' u l)(a:Below w.heap.size w w'):
 rH W Q B m1 m2 P S b N L aN hand mp F d k e l (Ord.bP D 12) (Ord.set xs 12 (.tuple #[.agg #[.int .u64 (k:Int),u],.int .i64 (e:Int)])) w':=by
 have no:∀i j,Ord.waits ops i j=true->D j=false->D i=false:=fun i j hw s=>by
  cases e:D i with
  |false=>rfl
  |true=>have:=Ord.aL hC i j hw e;rw[s]at this;cases this
 have d13:=no 13 12 n o;have d14:=no 14 12 m o;have d15:=no 15 13 g d13;have d16:=no 16 14 f d14;obtain⟨p,c,hu,-⟩:=q.bz.form;have r:=h.sz;refine⟨h.below.trans (a.mono (by omega)),Nat.le_trans h.sz a.size,h.row.below a,h.dev.below a,fun e=>?_,fun _=>⟨u,⟨p,c,hu⟩,q.from (by omega),if_pos rfl,fun e=>?_,fun e=>?_,?_,fun e=>?_⟩⟩
 ·rw[show Ord.bP D 12 12=true from if_pos rfl]at e;cases e
 ·rw[bg D (show 13≠12 by decide),d13]at e;cases e
 ·rw[bg D (show 14≠12 by decide),d14]at e;cases e
 ·rw[bg D (show 15≠12 by decide),d15];exact(a.block Q (by omega)).trans (h.s0 o)
 ·rw[bg D (show 16≠12 by decide),d16]at e;cases e
theorem rH.G6(h:rH W Q B m1 m2 P S b N L aN hand mp F d k e l D xs w)(c:D 12=true){u:Value}(hu:xs 12=.tuple #[.agg #[.int .u64 (k:Int),u],.int .i64 (e:Int)]):rH W Q B m1 m2 P S b N L aN hand mp F d k e l (Ord.bP D 13) (Ord.set xs 13 (.agg #[.int .u64 (k:Int),u])) w:=by
 refine⟨h.below,h.sz,h.row,h.dev,fun e=>?_,fun _=>?_⟩
 ·rw[bg D (show 12≠13 by decide),c]at e;cases e
 ·obtain⟨n,m,j,a,-,i,g,f⟩:=h.s1 c;rw[hu]at a;simp only[Value.tuple.injEq,Array.mk.injEq,List.cons.injEq,Value.agg.injEq,and_true,true_and]at a;subst a;rw[bM xs _ (show 12≠13 by decide),bM xs _ (show 14≠13 by decide),bM xs _ (show 16≠13 by decide),bg D (show 14≠13 by decide),bg D (show 15≠13 by decide),bg D (show 16≠13 by decide)];exact⟨u,m,j,hu,fun _=>if_pos rfl,i,g,f⟩
theorem rH.G5(h:rH W Q B m1 m2 P S b N L aN hand mp F d k e l D xs w)(a:D 12=true):rH W Q B m1 m2 P S b N L aN hand mp F d k e l (Ord.bP D 14) (Ord.set xs 14 (.int .i64 (e:Int))) w:=by
 refine⟨h.below,h.sz,h.row,h.dev,fun e=>?_,fun _=>?_⟩
 ·rw[bg D (show 12≠14 by decide),a]at e;cases e
 ·obtain⟨c,n,m,j,i,o,g,f⟩:=h.s1 a;rw[bM xs _ (show 12≠14 by decide),bM xs _ (show 13≠14 by decide),bM xs _ (show 16≠14 by decide),bg D (show 13≠14 by decide),bg D (show 15≠14 by decide),bg D (show 16≠14 by decide)];exact⟨c,n,m,j,i,fun _=>if_pos rfl,g,f⟩
theorem rH.wY(h:rH W Q B m1 m2 P S b N L aN hand mp F d k e l D xs w)(a:D 12=true):rH W Q B m1 m2 P S b N L aN hand mp F d k e l (Ord.bP D 16) (Ord.set xs 16 (.int .i64 (e:Int))) w:=by
 refine⟨h.below,h.sz,h.row,h.dev,fun e=>?_,fun _=>?_⟩
 ·rw[bg D (show 12≠16 by decide),a]at e;cases e
 ·obtain⟨c,n,m,j,i,g,f,o⟩:=h.s1 a;rw[bM xs _ (show 12≠16 by decide),bM xs _ (show 13≠16 by decide),bM xs _ (show 14≠16 by decide),bg D (show 13≠16 by decide),bg D (show 14≠16 by decide),bg D (show 15≠16 by decide)];exact⟨c,n,m,j,i,g,f,fun _=>if_pos rfl⟩
theorem rH.G4(h:rH W Q B m1 m2 P S b N L aN hand mp F d k e l D xs w)(g:D 12=true)(f:D 15=false){u:Value}(hu:xs 12=.tuple #[.agg #[.int .u64 (k:Int),u],.int .i64 (e:Int)])(p:P≠Q)(o:∀i,DS B m1 m2 i->i≠Q)(v:Value):
 rH W Q B m1 m2 P S b N L aN hand mp F d k e l (Ord.bP D 15) (Ord.set xs 15 v) ((w.setCell ⟨Q,0,none⟩ (.int .u64 (k:Int))).setCell ⟨Q,1,none⟩ u):=by
 have a:Touch (fun j=>j=Q) w ((w.setCell ⟨Q,0,none⟩ (.int .u64 (k:Int))).setCell ⟨Q,1,none⟩ u):=(Touch.set (S:=fun j=>j=Q) Q 0 _ rfl).trans (Touch.set Q 1 _ rfl);obtain⟨y,x,t,c,s,r,m,q⟩:=h.s1 g;rw[hu]at c;simp only[Value.tuple.injEq,Array.mk.injEq,List.cons.injEq,Value.agg.injEq,and_true,true_and]at c;subst c;rw[f]at m;refine⟨h.below.trans (a.below (fun j n=>by omega) (by have:=h.below.size;have:=h.sz;omega)),Nat.le_trans h.sz a.size,h.row.al a p,h.dev.bQ a o,fun e=>?_,fun _=>?_⟩
 ·rw[bg D (show 12≠15 by decide),g]at e;cases e
 ·rw[bM xs _ (show 12≠15 by decide),bM xs _ (show 13≠15 by decide),bM xs _ (show 14≠15 by decide),bM xs _ (show 16≠15 by decide),bg D (show 13≠15 by decide),bg D (show 14≠15 by decide),bg D (show 16≠15 by decide)];refine⟨u,x,kx t a fun j n e=>by omega,hu,s,r,?_,q⟩;rw[show Ord.bP D 15 15=true from if_pos rfl,if_pos rfl];exact aT (i:=1) (aT (i:=0) m (.int .u64 (k:Int))) u
end
theorem vL(tmps:Array Value)(w:World)(g:Nat)(d c e:Value)(h0:tmps.getD 4 undef=.pointer (some ⟨g,0,none⟩))(i:tmps.getD 5 undef=e)
 (r0:w.heap[g]?=some (.cells #[d,c] 59 (0,0))):
 (results Tryz.f49 tmps).run Tryz.prog w=.ok (.tuple #[.agg #[d,c],e]) w:=by
 have h:Tryz.f49.results=#[.cell 4 59,.tmp 5]:=rfl;have b:tmps[4]?.getD undef=.pointer (some ⟨g,0,none⟩):=by simpa using h0
 have a:tmps[5]?.getD undef=e:=by simpa using i
 have f:=run_loadVar_row (P:=Tryz.prog) w g 59 _ _ _ _ r0 Tryz.underlying59 rfl (by kernel_rfl);simp[results,h,b,a,asAddr,f]
set_option maxHeartbeats 3200000 in
set_option maxRecDepth 20000 in
theorem vP{w:World}{B m1 m2 P S b N L aN hand mp:Nat}{F:List Fr}{d:Dk.aq}(h:aO w P B S b N L aN hand mp F)(t:bh w B m1 m2 d)(n:Int)(hn:n<=9223372036854775807):
 Calls Tryz.prog 49 #[.pointer (some ⟨P,0,none⟩),.int .i64 n] w fun e w'=>∃u,e=.returned (.tuple #[fZ (Pg.read d (b:Int) n).1.1 u,.int .i64 ((Pg.read d (b:Int) n).2:Nat)])/\Own w.heap.size w' u (Pg.read d (b:Int) n).1.2/\Below w.heap.size w w':=by
 obtain⟨Q,s⟩:∃Q,Q=w.heap.size:=⟨_,rfl⟩
 obtain⟨W,J⟩:∃W,W=w.alloc (.cells #[.int .u64 0,.slice none 0 0] 59):=⟨_,rfl⟩
 have A:Below Q w W:=by rw[J,s];exact(Below.refl _ _).alloc (Nat.le_refl _) _
 have H:W.heap[Q]?=some (.cells De 59 (0,0)):=by rw[J,s];exact heap_alloc_last _ _
 have K:P≠Q:=by have:=h.lt;omega
 have M:∀i,DS B m1 m2 i->i≠Q:=fun i hi e=>by have:=t.lt i hi;omega
 obtain⟨k,T⟩:∃k,k=(Pg.read d (b:Int) n).1.1:=⟨_,rfl⟩
 obtain⟨l,hl⟩:∃l,l=(Pg.read d (b:Int) n).1.2:=⟨_,rfl⟩
 obtain⟨O,z⟩:∃O,O=(Pg.read d (b:Int) n).2:=⟨_,rfl⟩
 have r:∀w2,bh w2 B m1 m2 d->Calls Tryz.prog 75 #[.pointer (some ⟨B,0,none⟩),.int .i64 (b:Int),.int .i64 n] w2 fun e w'=>∃u,e=.returned (.tuple #[fZ k u,.int .i64 (O:Int)])/\Own w2.heap.size w' u l/\Below w2.heap.size w2 w':=fun w2 hp=>by rw[T,hl,z];exact vX hp (b:Int) n hn
 have X:=Lib.hid r;rw[<-T,<-hl,<-z];have Y:Hid (∀xs,rH W Q B m1 m2 P S b N L aN hand mp F d k O l (fun _=>false) xs W.drew):=fun xs=>by
  have hs:W.heap.size=Q+1:=by rw[J,s];simp
  exact⟨(Below.refl _ _).kH,by show _<=W.heap.size;omega,(h.below (by rw[<-s];exact A)).below (Below.refl _ _).kH,(t.below (by rw[<-s];exact A)).below (Below.refl _ _).kH,fun _=>H,fun e=>by cases e⟩
 have HQ:=Lib.hid s;have HB:=Lib.hid A;have Z:=Lib.hid K;have ad:=Lib.hid M;clear h t hn A H K M T hl z r;go_enter Tryz.func49,Tryz.ntmps49;go_upto_region 1 with(fail)
 rw[<-J,<-s];clear J s;refine Ord.walk (zY B P b n) (fun D xs w'=>rH W Q B m1 m2 P S b N L aN hand mp F d k O l D xs w') (fun _ _=>True) (by kernel_rfl) (by kernel_rfl) ?fr ?hfr ?hT (fun xs=>Y.out xs) ?he ?hend;case hfr=>
  intro xs;simp only[Ord.fill,Act.put,List.setIfInBounds_toArray,List.set_cons_zero,List.set_cons_succ];rfl
 case hT=>
  intro k v wa wb ht C;exact C
 case he=>
  iterate 17 (refine Ord.aa (fun D xs w2 hD hC t hR f K' a=>?_) ?_;rotate_left)
  rotate_left
  ·clear f;go_simp;exact a _ _ ⟨_,rfl,trivial,hR.quiet 0 _ (by decide),rfl⟩
  ·have q0:=Ord.ab _ f 0 (by decide);simp only[zY]at q0;simp only[q0]at a⊢;clear f;go_simp;exact a _ _ ⟨_,rfl,trivial,hR.quiet 1 _ (by decide),rfl⟩
  ·have q1:=Ord.ab _ f 1 (by decide);simp only[zY]at q1;simp only[q1]at a⊢;clear f;go_simp;exact a _ _ ⟨_,rfl,trivial,hR.quiet 2 _ (by decide),rfl⟩
  ·have q2:=Ord.ab _ f 2 (by decide);simp only[zY]at q2;simp only[q2]at a⊢;clear f;go_simp;exact a _ _ ⟨_,rfl,trivial,hR.quiet 3 _ (by decide),rfl⟩
  ·have q3:=Ord.ab _ f 3 (by decide);simp only[zY]at q3;simp only[q3]at a⊢;clear f;have k0:=hR.row.c0;go_simp;exact a _ _ ⟨_,rfl,trivial,hR.quiet 4 _ (by decide),rfl⟩
  ·clear f;go_simp;exact a _ _ ⟨_,rfl,trivial,hR.quiet 5 _ (by decide),rfl⟩
  ·have q5:=Ord.ab _ f 5 (by decide);simp only[zY]at q5;simp only[q5]at a⊢;clear f;go_simp;exact a _ _ ⟨_,rfl,trivial,hR.quiet 6 _ (by decide),rfl⟩
  ·have q6:=Ord.ab _ f 6 (by decide);simp only[zY]at q6;simp only[q6]at a⊢;clear f;go_simp;exact a _ _ ⟨_,rfl,trivial,hR.quiet 7 _ (by decide),rfl⟩
  ·have q7:=Ord.ab _ f 7 (by decide);simp only[zY]at q7;simp only[q7]at a⊢;clear f;go_simp;exact a _ _ ⟨_,rfl,trivial,hR.quiet 8 _ (by decide),rfl⟩
  ·have q8:=Ord.ab _ f 8 (by decide);simp only[zY]at q8;simp only[q8]at a⊢;clear f;go_simp;exact a _ _ ⟨_,rfl,trivial,hR.quiet 9 _ (by decide),rfl⟩
  ·have q9:=Ord.ab _ f 9 (by decide);simp only[zY]at q9;simp only[q9]at a⊢;clear f;have k2:=hR.row.c2;go_simp;exact a _ _ ⟨_,rfl,trivial,hR.quiet 10 _ (by decide),rfl⟩
  ·clear f;go_simp;exact a _ _ ⟨_,rfl,trivial,hR.quiet 11 _ (by decide),rfl⟩
  ·have q4:=Ord.ab _ f 4 (by decide);simp only[zY]at q4;have G:=Ord.ab _ f 10 (by decide);simp only[zY]at G;have E:=Ord.ab _ f 11 (by decide);simp only[zY]at E;simp only[q4,G,E]at a⊢;clear f;have r:=X.out w2 hR.dev;go_simp;refine r.mono ?_;rintro e w3⟨u,rfl,x,A⟩;exact a _ _ ⟨_,rfl,trivial,hR.call hC hD (by decide) (by decide) (by decide) (by decide) x A,trivial⟩
  ·clear f;have d12:D 12=true:=t {on:=12,ground:=.data} (by simp) rfl;obtain⟨u,⟨p,c,hu⟩,x,j,q,o,g,m⟩:=hR.s1 d12;subst hu;simp only[j]at a⊢;have I:=hR.G6 d12 j;go_simp;exact a _ _ ⟨_,rfl,trivial,I,trivial⟩
  ·clear f;have d12:D 12=true:=t {on:=12,ground:=.data} (by simp) rfl;obtain⟨u,⟨p,c,hu⟩,x,j,q,o,g,m⟩:=hR.s1 d12;subst hu;simp only[j]at a⊢;have I:=hR.G5 d12;go_simp;exact a _ _ ⟨_,rfl,trivial,I,trivial⟩
  ·clear f;have d13:D 13=true:=t {on:=13,ground:=.data} (by simp) rfl;have d12:D 12=true:=Ord.aL hC 13 12 (by decide) d13;obtain⟨u,⟨p,c,hu⟩,x,j,q,o,g,m⟩:=hR.s1 d12;subst hu;have V:=q d13;simp only[V,j]at a⊢;have y:D 15=false:=hD;rw[y]at g;have c0:=ah g 0 (v:=.int .u64 0) rfl;have c1:=ah g 1 (v:=.slice none 0 0) rfl;have f0:=aI g 0;have f1:=aI g 1;have R:=hR.G4 d12 y j Z.out ad.out undef;go_simp;exact a _ _ ⟨undef,rfl,trivial,R,trivial⟩
  ·clear f;have d14:D 14=true:=t {on:=14,ground:=.data} (by simp) rfl;have d12:D 12=true:=Ord.aL hC 14 12 (by decide) d14;obtain⟨u,⟨p,c,hu⟩,x,j,q,o,g,m⟩:=hR.s1 d12;subst hu;have U:=o d14;simp only[U,j]at a⊢;have I:=hR.wY d12;go_simp;exact a _ _ ⟨_,rfl,trivial,I,trivial⟩
  exact Ord.az
 case hend=>
  intro D xs w9 hR C;have d12:=(C 12 (by decide)).1;have d15:=(C 15 (by decide)).1;have d16:=(C 16 (by decide)).1;obtain⟨u,⟨p,c,hu⟩,x,j,q,o,g,m⟩:=hR.s1 d12;have m:=m d16;rw[d15,if_pos rfl]at g;rw[m];have HE:Hid (_/\_/\_):=⟨x,g,hR.below⟩
  generalize xs 0=y0;generalize xs 1=y1;generalize xs 2=y2;generalize xs 3=y3;generalize xs 4=y4;generalize xs 5=y5;generalize xs 6=y6;generalize xs 7=y7;generalize xs 8=y8;generalize xs 9=y9;generalize xs 10=y10;generalize xs 11=y11;generalize xs 12=y12;generalize xs 13=y13;generalize xs 14=y14;clear C hR d12 d15 d16 x j q o g m hu;go_wp2_with fail
  refine bodyPost_ret (vL _ _ Q _ _ _ rfl rfl HE.out.2.1) rfl ?_;exact⟨u,rfl,by rw[<-HQ.out];exact HE.out.1.from (by omega),by rw[<-HQ.out];exact HB.out.trans HE.out.2.2⟩
def Po.pr(s:Po.S)(H:List (Option Nat))(n:Nat)(x:Po.Pg):Po.S:={s with held:=cJ H,now:=Po.cW s.now n x,bJ:=Po.cW s.bJ n x}
section
variable{w w':World}{B L P S b N hand mp:Nat}{F:List Fr}{H H':List (Option Nat)}{s:Po.S}
theorem eh.same(h:eh w B L P S b N hand mp F H s){T:Nat->Prop}(o:Touch T w w')(hT:∀j,eQ P mp F j->j≠P->¬T j){l:List Fr}{a:Nat}(c:aO w' P B S b N L s.aC a mp l)(q:a<s.aC)(hs:fW F l)(hz:∀i,s.held.length<=i->fa l i=Fr.zero):eh w' B L P S b N a mp l H s:=by
 have hp:∀i,(fa l i).aA=(fa F i).aA:=fun i=>by obtain⟨x,e⟩:=hs i;rw[e]
 refine⟨c,h.map.al o (hT mp (Or.inr (Or.inl rfl)) (Ne.symm h.ne)),h.hlen,h.ar,h.aN,q,h.held,fun k i p=>?_,fun i m=>?_,fun i m=>?_,hz,h.aQ,h.n16,h.ne,fun i g d=>?_⟩
 ·rw[hp];exact h.nR k i p
 ·rw[hp];exact h.jN i m
 ·obtain⟨x,e⟩:=hs i;have f:=(h.fr i m).al o fun g d n=>hT g (Or.inr (Or.inr ⟨i,d⟩)) (h.zS i g d).1 n;rw[e];exact⟨f.bj,f.body,f.pins,f.first,f.fl⟩
 ·obtain⟨x,e⟩:=hs i;rw[e]at d;exact h.zS i g d
theorem lW{b:List Fr}(hs:fW F b):eQ P mp b=eQ P mp F:=by
 funext j
 have e:∀i,(fa b i).u=(fa F i).u:=fun i=>by obtain⟨x,e⟩:=hs i;rw[e]
 refine propext (or_congr Iff.rfl (or_congr Iff.rfl ⟨?_,?_⟩))
 ·rintro⟨k,a⟩;exact⟨k,by rw[<-e];exact a⟩
 ·rintro⟨k,a⟩;exact⟨k,by rw[e];exact a⟩
theorem gU(h:eh w B L P S b N hand mp F H s){n:Nat}(d:H.getD n none=none):n∉s.held/\s.pins n=0/\s.first n=none:=by
 have c:n∉s.held:=fun hm=>(dd H n).1 (by rw[<-h.held];exact hm) d;refine⟨c,?_,h.aQ.pJ c⟩;rcases Nat.eq_zero_or_pos (s.pins n)with a|a
 ·exact a
 ·exact absurd (h.aQ.pinned n a) c
theorem od(h:eh w B L P S b N hand mp F H s){k:Nat}(a:k∈s.held):∃i,H.getD k none=some i/\i<s.held.length/\(fa F i).aA=k:=by
 have c:=(dd H k).1 (by rw[<-h.held];exact a);cases e:H.getD k none with
 |none=>exact absurd e c
 |some i=>exact⟨i,rfl,h.nR k i e⟩
theorem ry(h:eh w B L P S b N hand mp F H s){i n:Nat}{x:Po.Pg}(J:i<=s.held.length)(y:i<s.aC)(I:n<N)(o:H.getD n none=none)(q:Po.cK x)
 (r:i<s.held.length->(fa F i).pins=0/\(fa F i).bo=false) (hl:H'.length=N)
 (C:H'.getD n none=some i) (A:∀k,k≠n->H'.getD k none=if H.getD k none=some i then none else H.getD k none) (t:(cJ H').length=if i<s.held.length then s.held.length else s.held.length+1):
 Po.Good (Po.pr s H' n x)/\n∈cJ H':=by
 obtain⟨G,v,u⟩:=gU h o;have z:=h.aN;have hle:s.held.length<=(cJ H').length:=by rw[t];split<;>omega
 have m:(cJ H').length<=s.aC:=by rw[t];have:=h.aQ.qg;split<;>omega
 have f:∀k,k∈s.held->(fa F i).aA≠k\/s.held.length<=i->k≠n->k∈cJ H':=fun k d g p=>by
  obtain⟨j,E,K,D⟩:=od h d;refine(dd H' k).2 ?_;rw[A k p,E,if_neg]
  ·exact fun c=>by cases c
  ·intro c;have c:j=i:=Option.some.inj c;subst c;rcases g with g|g
   ·exact g D
   ·omega
 have l:n∈cJ H':=(dd H' n).2 (by rw[C];exact fun c=>by cases c);refine⟨⟨(mh H').1,m,fun k d=>?_,fun k d=>?_,fun k d=>?_,fun k d=>?_,fun k=>?_,fun k=>?_⟩,l⟩
 ·have:=(mh H').2 k d;rw[hl]at this;show(k:Int)<s.ar.cB;rw[h.ar];show(k:Int)<(N:Int)
  omega
 ·have d:0<s.pins k:=d;have hm:=h.aQ.pinned k d;refine f k hm ?_ fun e=>by rw[e,v]at d;omega
  rcases Nat.lt_or_ge i s.held.length with a|a
  ·refine Or.inl fun e=>?_;have:=(h.fr i a).pins;rw[e,(r a).1]at this;omega
  ·exact Or.inr a
 ·have d:s.first k≠none:=d;have hm:=h.aQ.bo k d;refine f k hm ?_ fun e=>d (by rw[e,u]);rcases Nat.lt_or_ge i s.held.length with a|a
  ·refine Or.inl fun e=>d ?_;have:=(h.fr i a).first
   rw[e,(r a).2]at this;exact this
  ·exact Or.inr a
 ·show Po.cW s.bJ n x k=Po.cW s.now n x k;unfold Po.cW;split
  ·rfl
  ·exact h.aQ.clean k d
 ·show Po.cK (Po.cW s.now n x k);unfold Po.cW;split
  ·exact q
  ·exact h.aQ.ok k
 ·show Po.cK (Po.cW s.bJ n x k);unfold Po.cW;split
  ·exact q
  ·exact h.aQ.Ga k
theorem eh.load(h:eh w B L P S b N hand mp F H s){T:Nat->Prop}(R:Touch T w w')(hT:∀j,eQ P mp F j->j≠P->j≠mp->¬T j){i n:Nat}{x:Po.Pg}{u:Value}(W:i<=s.held.length)(E:i<s.aC)(V:n<N)(r:H.getD n none=none)(Q:Po.cK x)(Z:aV w' u x.2)(hu:∀g,u.ownBlock=some g->g≠P/\g≠mp)
 (Y:i<s.held.length->(fa F i).pins=0/\(fa F i).bo=false) {used:Bool} (v:aO w' P B S b N L s.aC hand mp (F.set i ⟨n,x.1,u,0,false,0,used⟩)) (z:dJ w' mp H') (hl:H'.length=N)
 (C:H'.getD n none=some i) (A:∀k,k≠n->H'.getD k none=if H.getD k none=some i then none else H.getD k none) (t:(cJ H').length=if i<s.held.length then s.held.length else s.held.length+1):
 eh w' B L P S b N hand mp (F.set i ⟨n,x.1,u,0,false,0,used⟩) H' (Po.pr s H' n x):=by
 obtain⟨n1,O,M⟩:=gU h r;have X:=h.aN;have G:i<F.length:=by rw[h.row.len];omega
 have f:=cr F G ⟨n,x.1,u,0,false,0,used⟩;have y:∀j,j<s.held.length->(fa F j).aA≠n:=fun j d e=>by
  have:=h.jN j d;rw[e,r]at this;cases this
 have hle:s.held.length<=(cJ H').length:=by rw[t];split<;>omega
 have K:(cJ H').length<=s.aC:=by rw[t];have:=h.aQ.qg;split<;>omega
 have D:∀k,k∈s.held->(fa F i).aA≠k\/s.held.length<=i->k≠n->k∈cJ H':=fun k p m o=>by
  obtain⟨j,e1,e2,e3⟩:=od h p;refine(dd H' k).2 ?_;rw[A k o,e1,if_neg]
  ·exact fun c=>by cases c
  ·intro c;have c:j=i:=Option.some.inj c;subst c;rcases m with m|m
   ·exact m e3
   ·omega
 have J:n∈cJ H':=(dd H' n).2 (by rw[C];exact fun c=>by cases c);refine⟨v,z,hl,h.ar,h.aN,h.hand,rfl,fun k j p=>?_,fun j d=>?_,fun j d=>?_,fun j d=>?_,?_,h.n16,h.ne,fun j g q=>?_⟩
 ·show j<(cJ H').length/\_;by_cases o:k=n
  ·subst o;rw[C]at p;cases p;rw[f,if_pos rfl];exact⟨by rw[t];split<;>omega,rfl⟩
  ·rw[A k o]at p;split at p
   ·cases p
   ·next hne=>
    obtain⟨a,b⟩:=h.nR k j p;rw[f,if_neg fun e=>hne (by rw[p,e])];exact⟨by omega,b⟩
 ·have d:j<(cJ H').length:=d;rw[f];by_cases e:j=i
  ·subst e;rw[if_pos rfl];exact C
  ·rw[if_neg e];have l:j<s.held.length:=by rw[t]at d;split at d<;>omega
   have U:=h.jN j l;rw[A _ (y j l),U,if_neg];exact fun c=>e (Option.some.inj c)
 ·have d:j<(cJ H').length:=d;rw[f];by_cases e:j=i
  ·subst e;rw[if_pos rfl];refine⟨by show x.1=(Po.cW s.now n x n).1;rw[Po.cI],by show aV w' u (Po.cW s.now n x n).2;rw[Po.cI];exact Z,O,M,by show(0:Nat)<18446744073709551616;decide⟩
  ·rw[if_neg e];have l:j<s.held.length:=by rw[t]at d;split at d<;>omega
   have hf:=(h.fr j l).al R fun g q I=>hT g (Or.inr (Or.inr ⟨j,q⟩)) (h.zS j g q).1 (h.zS j g q).2 I;have hu:(Po.cW s.now n x) (fa F j).aA=s.now (fa F j).aA:=Po.eD _ _ (y j l);exact⟨by show(fa F j).bj=((Po.cW s.now n x) (fa F j).aA).1;rw[hu];exact hf.bj,by show aV w' (fa F j).u ((Po.cW s.now n x) (fa F j).aA).2;rw[hu];exact hf.body,hf.pins,hf.first,hf.fl⟩
 ·have d:(cJ H').length<=j:=d;rw[f,if_neg (by rw[t]at d;split at d<;>omega)];exact h.rest j (by omega)
 ·exact(ry h W E V r Q Y hl C A t).1
 ·rw[f]at q;split at q
  ·exact hu g q
  ·exact h.zS j g q
end
end Go.Proofs.YtbpodmallknhfaaGreat
