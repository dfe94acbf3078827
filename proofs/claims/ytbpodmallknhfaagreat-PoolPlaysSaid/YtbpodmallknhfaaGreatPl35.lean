/- Parts of a proof. Conditions: as each row says. -/
import Derived.Test.YtbpodmallknhfaaGreatPl34
import Derived.Test.YtbpodmallknhfaaGreatPl24
import Derived.Test.YtbpodmallknhfaaGreatPl27
namespace Go.Proofs.YtbpodmallknhfaaGreat
open Go.RowKit
def Po.dg(s:Po.S)(k:Nat):Po.S:={s with bH:=Po.cI s.bH k (s.now k),first:=Po.cI s.first k none}
theorem Po.ew{α:Type}(f:Nat->α)(k:Nat)(x:α)(h:f k=x):Po.cI f k x=f:=by
 funext j
 unfold Po.cI;split
 ·next e=>rw[e,h]
 ·rfl
theorem Po.rP{s:Po.S}(a:Po.Good s){k:Nat}(h:s.first k=none):Po.dg s k=s:=by
 unfold Po.dg;rw[Po.ew _ _ _ (a.clean k h),Po.ew _ _ _ h]
theorem Po.rI{s:Po.S}(h:Po.Good s)(k:Nat):Po.Good (Po.dg s k):=by
 refine⟨h.sorted,h.lS,h.Ej,h.pinned,fun j a=>?_,fun j a=>?_,h.ok,fun j=>?_⟩
 ·have a:Po.cI s.first k none j≠none:=a;unfold Po.cI at a;split at a
  ·exact absurd rfl a
  ·exact h.aD j a
 ·show Po.cI s.bH k (s.now k) j=s.now j;have a:Po.cI s.first k none j=none:=a;unfold Po.cI at a⊢;split
  ·next e=>rw[e]
  ·next e=>rw[GQ e]at a;exact h.clean j a
 ·show Po.cX (Po.cI s.bH k (s.now k) j);unfold Po.cI;split
  ·exact h.ok k
  ·exact h.DI j
theorem Po.ra{lg a:Wl.S}{s:Po.S}(c:Wl.Good lg)(h:Po.vU lg s)(hl:Po.Lf lg a){k:Nat}(b:(s.now k).1<a.ag):Po.vU a (Po.dg s k):=fun j=>by
 have d:=h j;have e:lg.ag<=a.ag:=by
  rcases hl with rfl|rfl
  ·exact GH _
  ·exact c.high
 refine⟨?_,by show(s.now j).1<_;rw[hl.stop];exact d.2⟩;show(Po.cI s.bH k (s.now k) j).1<_;unfold Po.cI;split
 ·exact b
 ·omega
theorem wP{F:List Fr}{i:Nat}(a:i<F.length)(f:Fr)(h:fa F i=f):F.set i f=F:=by
 subst h;unfold fa;rw[GG,GS a];exact List.set_getElem_self a
section
variable{w w':World}{B L P S b N hand mp:Nat}{F:List Fr}{H:List (Option Nat)}{s:Po.S}
theorem ix(F:List Fr){i:Nat}(b:i<F.length)(f:Fr)(h:f.u=(fa F i).u):dI P mp (F.set i f)=dI P mp F:=by
 funext j
 refine propext (or_congr Iff.rfl (or_congr Iff.rfl ⟨?_,?_⟩))
 ·rintro⟨k,a⟩;rw[bW F b]at a;split at a
  ·next e=>exact⟨i,by rw[<-h];exact a⟩
  ·exact⟨k,a⟩
 ·rintro⟨k,a⟩;refine⟨k,?_⟩;rw[bW F b];split
  ·next e=>rw[h,<-e];exact a
  ·exact a
theorem ta(h:dN w B L P S b N hand mp F H s){i j:Nat}(d:i<s.held.length)(c:j<s.held.length)(e:(fa F i).aw=(fa F j).aw):i=j:=by
 have a:=h.jw i d;have f:=h.jw j c;rw[e,f]at a;exact(GZ a).symm
theorem j9(h:dN w B L P S b N hand mp F H s){i:Nat}(d:i<s.held.length):(fa F i).aw<N:=by
 have c:=h.jw i d;rcases Hi (fa F i).aw H.length with a|a
 ·rw[h.hlen]at a;exact a
 ·rw[GG,He a]at c;cases c
theorem dN.clean(h:dN w B L P S b N hand mp F H s){i:Nat}(r:i<s.held.length){T:Nat->Prop}(o:Touch T w w')(hT:∀j,dI P mp F j->j≠P->¬T j)(l:aF w' P B S b N L s.ao hand mp (F.set i {fa F i with aD:=false})):dN w' B L P S b N hand mp (F.set i {fa F i with aD:=false}) H (Po.dg s (fa F i).aw):=by
 have m:i<F.length:=by rw[h.row.len];have:=h.bounds;have:=h.aS;omega
 have a:=bW F m {fa F i with aD:=false};refine⟨l,h.map.aj o (hT mp (GL (GJ rfl)) (H4 h.ne)),h.hlen,h.ar,h.aS,h.hand,h.held,fun k j q=>?_,fun j d=>?_,fun j d=>?_,fun j d=>?_,Po.rI h.aI _,h.n16,h.ne,fun j g f=>?_⟩
 ·obtain⟨c,p⟩:=h.jx k j q;refine⟨c,?_⟩;rw[a];split
  ·next e=>rw[<-p,e]
  ·exact p
 ·rw[a];split
  ·next e=>subst e;exact h.jw j d
  ·exact h.jw j d
 ·have c:=(h.fr j d).aj o fun g f n=>hT g (GL (GL ⟨j,f⟩)) (h.yD j g f).1 n;rw[a];split
  ·next e=>
   subst e;exact⟨c.bl,c.body,c.pins,by show Po.cI s.first _ none _=_;rw[Po.cC];rfl,c.fl⟩
  ·next e=>
   refine⟨c.bl,c.body,c.pins,?_,c.fl⟩;show Po.cI s.first _ none _=_;rw[Po.dQ _ _ fun t=>e (ta h d r t)];exact c.first
 ·have d:s.held.length<=j:=d;rw[a,GQ (by omega)];exact h.rest j d
 ·rw[a]at f;split at f
  ·next e=>exact h.yD i g f
  ·exact h.yD j g f
end
def F7(U V:Nat->Prop)(B L P S b N hand mp:Nat)(F:List Fr)(H:List (Option Nat))(n:Nat)(d:Dk.ak)(lg:Wl.S)(s:Po.S)(i:Nat)(w:World)(e:Ending)(w':World):Prop:=
 (∃g l f a,e=.returned (.int .i64 0)/\cB g l w' B L P S b N hand mp (F.set i {fa F i with aD:=false}) H n f a (Po.dg s (fa F i).aw)/\(Wl.Calm n d->Wl.Calm n f)/\Po.Lf lg a/\Touch (fun j=>cr U V j\/j=P) w w'/\bA U g w/\bA V l w/\(s.first (fa F i).aw=none->f=d/\a=lg))\/
 (¬Wl.Calm n d/\e=.returned (.int .i64 6)/\∃g f a c,m7 g w' B f/\Wl.aX n f/\Touch (fun j=>cr U V j\/j=P) w w'/\bA U g w/\Po.Lf lg a/\(∀k x,c k x->(x=s.bH k\/x=s.now k)/\x.1<a.ag)/\∀h,Wl.Hd (Dk.aQ f h) a/\Rg.uc S b N (Dk.aQ f h) c)
structure Bz(B m1 m2 P S b N L aS hand mp:Nat)(F:List Fr)(u:Value)(x:Po.Pg)(d:Dk.ak)(m:Nat)(W:World)(D:Nat->Bool)(xs:Nat->Value)(w:World):Prop where
 row:aF w P B S b N L aS hand mp F
 body:aJ w u x.2
 aj:Touch (DS B m1 m2) W w
 s0:D 12=false->bc w B m1 m2 d
 s1:D 12=true->∃t:Nat,t<256/\t∉Rg.rG (Rg.sp d S) 10/\xs 12=.int .i64 (((Rg.du d S (b+4*m) (Pg.form x.1 x.2) (Rg.laid (Pg.form x.1 x.2) (Rg.tag m t))).2:Nat):Int)/\bc w B m1 m2 (Rg.du d S (b+4*m) (Pg.form x.1 x.2) (Rg.laid (Pg.form x.1 x.2) (Rg.tag m t))).1
 s2:D 13=true->xs 13=xs 12
def mZ(B P S b N i m:Nat)(u:Value)(k:Nat)(j:Nat)(v:Value)(_:World):Prop:=
 match j with
 |0=>v=.pointer (some ⟨P,0,none⟩)
 |1=>v=.pointer (some ⟨P,0,none⟩)
 |2=>v=.pointer (some ⟨P,0,none⟩)
 |3=>v=rW B S b N
 |4=>v=.pointer (some ⟨P,5+i*7,none⟩)
 |5=>v=.pointer (some ⟨P,5+i*7,none⟩)
 |6=>v=.pointer (some ⟨P,5+i*7,none⟩)
 |7=>v=.int .i64 (m:Int)
 |8=>v=.pointer (some ⟨P,5+i*7,none⟩)
 |9=>v=.pointer (some ⟨P,5+i*7,none⟩)
 |10=>v=.pointer (some ⟨P,5+i*7+1,none⟩)
 |11=>v=ed k u
 |_=>True
theorem bs(xs:Nat->Value){k j:Nat}(v:Value)(h:j≠k):Ord.set xs k v j=xs j:=GQ h
theorem aT(D:Nat->Bool){k j:Nat}(h:j≠k):Ord.bB D k j=D j:=GQ h
section
variable{B m1 m2 P S b N L aS hand mp:Nat}{F:List Fr}{u:Value}{x:Po.Pg}{d:Dk.ak}{m:Nat}{W:World}{D:Nat->Bool}{xs:Nat->Value}{w:World}
theorem Bz.quiet(h:Bz B m1 m2 P S b N L aS hand mp F u x d m W D xs w)(k:Nat)(v:Value)(a:12≠k)(c:13≠k):Bz B m1 m2 P S b N L aS hand mp F u x d m W (Ord.bB D k) (Ord.set xs k v) w:=
 ⟨h.row,h.body,h.aj,fun e=>h.s0 (by rw[<-aT D a];exact e),fun e=>by rw[bs xs v a];exact h.s1 (by rw[<-aT D a];exact e),fun e=>by rw[bs xs v a,bs xs v c];exact h.s2 (by rw[<-aT D c];exact e)⟩
theorem Bz.FV(h:Bz B m1 m2 P S b N L aS hand mp F u x d m W D xs w):Bz B m1 m2 P S b N L aS hand mp F u x d m W (Ord.bB D 13) (Ord.set xs 13 (xs 12)) w:=
 ⟨h.row,h.body,h.aj,fun e=>h.s0 (by rw[<-aT D (k:=13) (by decide)];exact e),fun e=>by rw[bs xs _ (k:=13) (by decide)];exact h.s1 (by rw[<-aT D (k:=13) (by decide)];exact e),fun _=>(GU rfl:Ord.set xs 13 (xs 12) 13=xs 12).trans (bs xs (xs 12) (show 12≠13 by decide)).symm⟩
theorem Bz.call(h:Bz B m1 m2 P S b N L aS hand mp F u x d m W D xs w){l:List Oper}(hC:Ord.closed l D)(n:D 12=false)(o:Ord.waits l 13 12=true){w':World}(hT:Touch (DS B m1 m2) w w')(j:¬DS B m1 m2 P)(i:∀g,u.ownBlock=some g->¬DS B m1 m2 g){t:Nat}(f:t<256)(a:t∉Rg.rG (Rg.sp d S) 10)
 (hp:bc w' B m1 m2 (Rg.du d S (b+4*m) (Pg.form x.1 x.2) (Rg.laid (Pg.form x.1 x.2) (Rg.tag m t))).1):
 Bz B m1 m2 P S b N L aS hand mp F u x d m W (Ord.bB D 12) (Ord.set xs 12 (.int .i64 (((Rg.du d S (b+4*m) (Pg.form x.1 x.2) (Rg.laid (Pg.form x.1 x.2) (Rg.tag m t))).2:Nat):Int))) w':=by
 have d13:D 13=false:=by
  cases e:D 13 with
  |false=>rfl
  |true=>have:=Ord.af hC 13 12 o e;rw[n]at this;cases this
 have c:Ord.bB D 12 12=true:=GU rfl;refine⟨h.row.aj hT j,hT.aP h.body (fun _=>i),h.aj.trans hT,(fun e=>by rw[c]at e;cases e),fun _=>⟨t,f,a,GU rfl,hp⟩,fun e=>?_⟩;rw[aT D (k:=12) (by decide),d13]at e;cases e
end
theorem Touch.grow{T S:Nat->Prop}{w w1 w2:World}(h:Touch T w w1)(k:Touch S w1 w2)(hs:∀i,S i->T i\/w.heap.size<=i):Touch T w w2:=
 (((h.mono (T:=fun i=>T i\/w.heap.size<=i) fun _ _ h=>GJ h)).trans (k.mono fun i _ h=>hs i h)).mono fun i a h=>h.resolve_right (by omega)
set_option maxHeartbeats 6400000 in
set_option maxRecDepth 20000 in
theorem lA{U V:Nat->Prop}{w:World}{B L P S b N hand mp n:Nat}{F:List Fr}{H:List (Option Nat)}{d:Dk.ak}{lg:Wl.S}{s:Po.S}{i:Nat}(h:cB U V w B L P S b N hand mp F H n d lg s)(W:i<s.held.length)(z:(s.now (fa F i).aw).1<lg.ag){m1 m2 t:Nat}(G:U=DS B m1 m2){w':World}{r:Dk.ak×Nat}
 (R:t<256) (I:t∉Rg.rG (Rg.sp d S) 10) (T:r=Rg.du d S (b+4*(fa F i).aw) (Pg.form (s.now (fa F i).aw).1 (s.now (fa F i).aw).2) (Rg.laid (Pg.form (s.now (fa F i).aw).1 (s.now (fa F i).aw).2) (Rg.tag (fa F i).aw t)))
 (hP:bc w' B m1 m2 r.1) (hT:Touch (DS B m1 m2) w w'):
 (r.2=0->∀{w2},aF w2 P B S b N L s.ao hand mp (F.set i {fa F i with aD:=false})->Touch (·=P) w' w2->cB U V w2 B L P S b N hand mp (F.set i {fa F i with aD:=false}) H n r.1 lg (Po.dg s (fa F i).aw)/\(Wl.Calm n d->Wl.Calm n r.1))/\
 (r.2≠0->r.2=6/\¬Wl.Calm n d/\Wl.aX n r.1/\∃c:Nat->Po.Pg->Prop,(∀k x,c k x->(x=s.bH k\/x=s.now k)/\x.1<lg.ag)/\∀q,Wl.Hd (Dk.aQ r.1 q) lg/\Rg.uc S b N (Dk.aQ r.1 q) c):=by
 have hm:=j9 h.pm W;have f:=h.pm.aI.ok (fa F i).aw;have ad:=h.pm.n16;have a:=Rg.xR h.cy h.dV hm (fm:=Pg.form (s.now (fa F i).aw).1 (s.now (fa F i).aw).2) (nb:=Rg.laid (Pg.form (s.now (fa F i).aw).1 (s.now (fa F i).aw).2) (Rg.tag (fa F i).aw t)) (by rw[Pg.bP,f.2.1]) (Pg.iA f.2.2) (Rg.eL (Rg.bZ _ t) (by rw[Pg.bP,f.2.1])) (Rg.nj (Rg.qV R) (Pg.iA f.2.2));have o:=Rg.ue (y:=s.now (fa F i).aw) h.cy h.dV h.hw h.pm.aI.DI f hm (by omega) R I;rw[<-T]at a;have e:Po.S.bH (Po.dg s (fa F i).aw)=Po.cI s.bH (fa F i).aw (s.now (fa F i).aw):=rfl;rw[<-T]at o;obtain⟨Z,Y,pl,X,p,hV,ab,aa,A,said,u,M⟩:=h.log;have m:=a.ro.dv h.cy M h.kz;refine⟨fun h0 w2 v D=>⟨?_,fun O=>(a.calm O).2⟩,fun h0=>⟨?_,fun O=>h0 (a.calm O).1,a.ro.cy h.cy,fun k x=>x=s.bH k\/(k=(fa F i).aw/\x=s.now (fa F i).aw),fun k x hx=>?_,fun q=>⟨?_,o.2 h0 q⟩⟩⟩
 ·have C:Touch (fun j=>DS B m1 m2 j\/j=P) w w2:=(hT.mono fun _ _ h=>GJ h).trans (D.mono fun _ _ h=>GL h);have E:∀j,cr U V j->j≠P:=fun j l e=>h.off j l (e▸GJ rfl);refine⟨⟨m1,m2,pl,X,p.bq C fun j l=>?_,hV,hP.bq D fun j l=>E j (GJ (by rw[G];exact l)),G,fun j l=>A j l,said,u,m⟩,h.pm.clean W C (fun j l J Q=>?_) v,h.dV,?_,?_,Po.ra p.ex.aI h.fY (GJ rfl) z,h.kz,a.ro.cy h.cy,h.n16⟩
  ·rintro(g|g)
   ·exact A j (by rw[G];exact g) (by rw[hV];exact l)
   ·exact E j (GL (by rw[hV];exact l)) g
  ·rcases Q with g|g
   ·exact h.off j (GJ (by rw[G];exact g)) l
   ·exact J g
  ·rw[e];exact o.1 h0
  ·have K:i<F.length:=by rw[h.pm.row.len];have:=h.pm.bounds;have:=h.pm.aS;omega
   rw[ix F K {fa F i with aD:=false} rfl];exact h.off
 ·rcases a.err with g|g
  ·exact absurd g h0
  ·exact g
 ·rcases hx with rfl|⟨rfl,rfl⟩
  ·exact⟨GJ rfl,(h.fY k).1⟩
  ·exact⟨GL rfl,z⟩
 ·exact Wl.Hd.aQ ⟨p.ex,said,u,m⟩ q
set_option maxHeartbeats 6400000 in
set_option maxRecDepth 20000 in
theorem ml{U V:Nat->Prop}{w:World}{B L P S b N hand mp n:Nat}{F:List Fr}{H:List (Option Nat)}{d:Dk.ak}{lg:Wl.S}{s:Po.S}{i:Nat}(h:cB U V w B L P S b N hand mp F H n d lg s)(hi:i<s.held.length)(hs:lg.stop<=1000000000000):
 Calls Tryz.prog 52 #[.pointer (some ⟨P,0,none⟩),.pointer (some ⟨P,5+i*7,none⟩)] w fun e w'=>F7 U V B L P S b N hand mp F H n d lg s i w e w':=by
 have hb:=h.pm.bounds;have hc:=h.pm.aS;have aq:i<64:=by omega
 have aX:i<F.length:=by rw[h.pm.row.len];exact aq
 have hfr:=h.pm.fr i hi;have g3:=h.pm.row.fr aq 4 (by decide) (v:=.bool (fa F i).aD) rfl;have X:Hid (i<s.held.length/\i<64):=⟨hi,aq⟩
 have HH:=GD h;have HS:=GD hs;cases Y:(fa F i).aD with
 |false=>
  have E:s.first (fa F i).aw=none:=by rw[hfr.first,Y];rfl
  have HE:Hid (F.set i {fa F i with aD:=false}=F):=wP aX _ (by rw[<-Y]);have HC:Hid (Po.dg s (fa F i).aw=s):=Po.rP h.pm.aI E;rw[Y]at g3;clear h hi hs hb hc aq aX hfr Y E;go_enter Tryz.func52,Tryz.ntmps52;go_wp2_with fail
  go_ret;exact GJ ⟨U,V,d,lg,rfl,by rw[HE.out,HC.out];exact HH.out,id,GJ rfl,Touch.refl _ _,fun _ h=>GJ h,fun _ h=>GJ h,fun _=>⟨rfl,rfl⟩⟩
 |true=>
  have bp:Hid (s.first (fa F i).aw≠none):=by show _≠_;rw[hfr.first,Y];exact fun c=>by cases c
  rw[Y]at g3;have g1:=h.pm.row.fr aq 1 (by decide) (v:=.int .u64 ((fa F i).bl:Int)) rfl;have c4:=h.pm.row.c4;obtain⟨m1,m2,pl,wa,M,hV,ad,y,bt,said,br,bs⟩:=h.log;have bo:∀q,Calls Tryz.prog 77 #[.pointer (some ⟨L,0,none⟩)] (w.drewN q) fun e w'=>e=.returned (.int .u64 (lg.ag:Int))/\(w.drewN q)=w':=fun q=>kB (M.log.aj ((Touch.refl (fun _=>False) w).drewN q) id);have aT:Calls Tryz.prog 77 #[.pointer (some ⟨L,0,none⟩)] w fun e w'=>e=.returned (.int .u64 (lg.ag:Int))/\w=w':=kB M.log;have aP:=GD bo;have aU:=GD aT;have HU:=GD y;clear h hi hs hb hc aq aX Y bo aT M hV ad y bt br bs;by_cases hq:lg.ag<=(fa F i).bl
  case pos=>
   have aV:(lg.ag:Int)<=((fa F i).bl:Int):=by omega
   clear hq;go_enter Tryz.func52,Tryz.ntmps52;go_upto_region 3 with(fail)
   go_quiet ((go_at_call 77;refine Calls.quiet_of_same ((aP.out _).mono fun e w' h=>⟨h.1,h.2.symm⟩)))
   have W:Hid (cB U V (w.drewN nq) B L P S b N hand mp F H n d lg s):=HH.out.bq ((Touch.refl (fun _=>False) w).drewN nq) (fun _ _ h=>h) fun _ _ h=>h;have a8:Hid (Touch (fun j=>cr U V j\/j=P) w (w.drewN nq)):=(Touch.refl _ w).drewN nq;have al:Hid (w.heap.size=(w.drewN nq).heap.size):=rfl;clear aP aU g3 g1 c4 aV;generalize w.drewN nq=wq at*
   have bj:=GD (qP W.out.log W.out.cy HS.out);have c4:=W.out.pm.row.c4;go_wp2_with fail
   refine bj.out.mono ?_;rintro e w1(⟨U1,V1,d1,rfl,aR,A,f,aB,G,R,aY⟩|⟨an,k,U1,d1,rfl,rfl,aN,A,f,aO,G,R⟩);case inr=>
    have bu:=GD an;have HE:Hid (_/\_/\_/\_/\_/\_):=⟨aN,A,f,aO,a8.out.trans (G.mono fun _ _ h=>GJ h),(fun j p=>by rw[al.out];exact R j p:bA U U1 w)⟩
    clear an aN A f aO G R bj c4;go_wp2_with fail
    go_ret;obtain⟨aN,A,f,aO,G,R⟩:=HE.out;refine GL ⟨bu.out,rfl,U1,d1,lg,fun k x=>x=s.bH k,aN,f,G,R,GJ rfl,fun k x hx=>⟨GJ hx,?_⟩,fun ps=>⟨aO ps,(xc HH.out.hw A HH.out.kz).aQ f HH.out.dV ps⟩⟩;rw[hx];exact(HH.out.fY k).1
   have aM:=W.out.fY;have bn:Wl.Good lg:=by obtain⟨_,_,_,_,M,-⟩:=W.out.log;exact M.ex.aI
   have l:Hid (cB U1 V1 w1 B L P S b N hand mp F H n d1 (Wl.flush lg) s):=⟨aR,W.out.pm.bq G (fun j p hb=>W.out.off j hb p),W.out.dV,xc W.out.hw A W.out.kz,fun j p hX=>by
    have hlt:=W.out.pm.lt j hX;rcases p with p|p
    ·rcases R j p with O|O
     ·exact W.out.off j (GJ O) hX
     ·omega
    ·rcases aY j p with O|O
     ·exact W.out.off j (GL O) hX
     ·omega,fun k=>⟨Hh (aM k).1 bn.high,(aM k).2⟩,W.out.kz,f,W.out.n16⟩
   have bg:Hid ((s.now (fa F i).aw).1<(Wl.flush lg).ag):=(aM _).2;have aL:Hid (Wl.Calm n d->Wl.Calm n d1):=aB;have aK:Hid (Po.Lf lg (Wl.flush lg)):=GL rfl;have a7:Hid (Touch (fun j=>cr U V j\/j=P) w w1):=a8.out.trans (G.mono fun _ _ h=>GJ h);have ai:Hid (bA U U1 w):=fun j p=>by rw[al.out];exact R j p
   have bh:Hid (bA V V1 w):=fun j p=>by rw[al.out];exact aY j p
   clear aR A f aB G R aY aM bn bj c4 W a8 al HU;go_wp2_with fail
   obtain⟨m1,m2,pl,wa,M,hV,ad,y,-⟩:=l.out.log;have az:=j9 l.out.pm X.out.1;obtain⟨m,hm⟩:∃m,m=(fa F i).aw:=⟨_,rfl⟩
   obtain⟨x,hx⟩:∃x,x=s.now (fa F i).aw:=⟨_,rfl⟩
   obtain⟨u,hu⟩:∃u,u=(fa F i).u:=⟨_,rfl⟩
   have E:=l.out.pm.fr i X.out.1;have a2:Hid (x.1=(fa F i).bl):=by show _=_;rw[hx,E.bl]
   have Z:∀g,u.ownBlock=some g->¬DS B m1 m2 g:=fun g hg Y=>l.out.off g (GJ (by rw[y];exact Y)) (GL (GL ⟨i,by rw[<-hu];exact hg⟩));have aC:aJ w1 u x.2:=by rw[hu,hx];exact E.body
   have bk:=GD aC;have aA:Po.cX x:=by rw[hx];exact l.out.pm.aI.ok _
   have I:∀w2,bc w2 B m1 m2 d1->aJ w2 u x.2->Calls Tryz.prog 79 #[rW B S b N,.int .i64 (m:Int),ed x.1 u] w2 fun e w'=>FN B m1 m2 d1 S b m (Pg.form x.1 x.2) w2 e w':=fun w2 hp hb=>sf hp l.out.cy l.out.hw l.out.dV (by rw[hm];exact az) l.out.n16 x u aA hb Z;have aE:=GD I;have bm:=GD Z;have HM:=GD hm;have HX:=GD hx;have a6:=GD hu;have af:=GD y;have bf:=GD ad;have bd:Hid (¬DS B m1 m2 P):=fun Y=>l.out.off P (GJ (by rw[y];exact Y)) (GJ rfl);have bb:Hid (aF w1 P B S b N L s.ao hand mp F):=l.out.pm.row;clear M hV ad y az hm hx hu E Z aC aA I;go_upto_region 7 with(fail)
   refine Ord.walk (mZ B P S b N i m u x.1) (fun D xs w'=>Bz B m1 m2 P S b N L s.ao hand mp F u x d1 m w1 D xs w') (Touch (DS B m1 m2)) (by kernel_rfl) (by kernel_rfl) ?frU1 ?hfrU1 ?hTU1 (fun xs=>⟨bb.out.below (GF _ _).ij,bk.out.below (GF _ _).ij,(Touch.refl _ _).drew,fun _=>bf.out.below (GF _ _).ij,(fun e=>by cases e),fun e=>by cases e⟩) ?heU1 ?hendU1;case hfrU1=>
    intro xs;simp only[Ord.fill,Act.put,GP,GX,GV];rfl
   case hTU1=>
    intro k v wa wb G hF;exact hF
   case heU1=>
    iterate 14 (refine Ord.aa (fun D xs w2 hD hC hP hR a K' o=>?_) ?_;rotate_left)
    rotate_left
    ·clear a;go_simp;exact o _ _ ⟨_,rfl,Touch.refl _ _,hR.quiet 0 _ (by decide) (by decide),rfl⟩
    ·have q0:=Ord.ab _ a 0 (by decide);simp only[mZ]at q0;simp only[q0]at o⊢;clear a;go_simp;exact o _ _ ⟨_,rfl,Touch.refl _ _,hR.quiet 1 _ (by decide) (by decide),rfl⟩
    ·have q1:=Ord.ab _ a 1 (by decide);simp only[mZ]at q1;simp only[q1]at o⊢;clear a;go_simp;exact o _ _ ⟨_,rfl,Touch.refl _ _,hR.quiet 2 _ (by decide) (by decide),rfl⟩
    ·have q2:=Ord.ab _ a 2 (by decide);simp only[mZ]at q2;simp only[q2]at o⊢;clear a;have k0:=hR.row.c0;have k1:=hR.row.c1;have k2:=hR.row.c2;have k3:=hR.row.c3;go_simp;exact o _ _ ⟨_,rfl,Touch.refl _ _,hR.quiet 3 _ (by decide) (by decide),rfl⟩
    ·clear a;go_simp;exact o _ _ ⟨_,rfl,Touch.refl _ _,hR.quiet 4 _ (by decide) (by decide),rfl⟩
    ·have q4:=Ord.ab _ a 4 (by decide);simp only[mZ]at q4;simp only[q4]at o⊢;clear a;go_simp;exact o _ _ ⟨_,rfl,Touch.refl _ _,hR.quiet 5 _ (by decide) (by decide),rfl⟩
    ·have q5:=Ord.ab _ a 5 (by decide);simp only[mZ]at q5;simp only[q5]at o⊢;clear a;go_simp;exact o _ _ ⟨_,rfl,Touch.refl _ _,hR.quiet 6 _ (by decide) (by decide),rfl⟩
    ·have q6:=Ord.ab _ a 6 (by decide);simp only[mZ]at q6;simp only[q6]at o⊢;clear a;have k0:=hR.row.fr X.out.2 0 (by decide) (v:=.int .i64 (m:Int)) (by rw[HM.out];rfl);rw[Ia]at k0;go_simp;exact o _ _ ⟨_,rfl,Touch.refl _ _,hR.quiet 7 _ (by decide) (by decide),rfl⟩
    ·clear a;go_simp;exact o _ _ ⟨_,rfl,Touch.refl _ _,hR.quiet 8 _ (by decide) (by decide),rfl⟩
    ·have q8:=Ord.ab _ a 8 (by decide);simp only[mZ]at q8;simp only[q8]at o⊢;clear a;go_simp;exact o _ _ ⟨_,rfl,Touch.refl _ _,hR.quiet 9 _ (by decide) (by decide),rfl⟩
    ·have q9:=Ord.ab _ a 9 (by decide);simp only[mZ]at q9;simp only[q9]at o⊢;clear a;go_simp;exact o _ _ ⟨_,rfl,Touch.refl _ _,hR.quiet 10 _ (by decide) (by decide),rfl⟩
    ·have au:=Ord.ab _ a 10 (by decide);simp only[mZ]at au;simp only[au]at o⊢;clear a;have k1:=hR.row.fr X.out.2 1 (by decide) (v:=.int .u64 (x.1:Int)) (by rw[a2.out];rfl);have k2:=hR.row.fr X.out.2 2 (by decide) (v:=u) (by rw[a6.out];rfl);go_simp;exact o _ _ ⟨_,rfl,Touch.refl _ _,hR.quiet 11 _ (by decide) (by decide),rfl⟩
    ·have q3:=Ord.ab _ a 3 (by decide);simp only[mZ]at q3;have q7:=Ord.ab _ a 7 (by decide);simp only[mZ]at q7;have ar:=Ord.ab _ a 11 (by decide);simp only[mZ]at ar;simp only[q3,q7,ar]at o⊢;clear a;have I:=aE.out w2 (hR.s0 hD) hR.body;go_simp;refine I.mono ?_;rintro e w3⟨t,G,J,rfl,aW,ax⟩;exact o _ _ ⟨_,rfl,ax,hR.call hC hD (by decide) ax bd.out bm.out G J aW,trivial⟩
    ·clear a;go_simp;exact o _ _ ⟨_,rfl,Touch.refl _ _,hR.FV,trivial⟩
    exact Ord.ay
   case hendU1=>
    intro D xs w9 hR hF;obtain⟨t,G,J,Q,K⟩:=hR.s1 (hF 12 (by decide)).1;have ae:=(hR.s2 (hF 13 (by decide)).1).trans Q;obtain⟨r,hr⟩:∃r,r=Rg.du d1 S (b+4*m) (Pg.form x.1 x.2) (Rg.laid (Pg.form x.1 x.2) (Rg.tag m t)):=⟨_,rfl⟩
    rw[<-hr]at Q ae K;rw[Q,ae];have av:=lA l.out X.out.1 bg.out af.out G J (r:=r) (by rw[<-HX.out,<-HM.out];exact hr) K hR.aj;have ah:=GD av;have aH:=GD K;have C:=GD hR.row;have ba:=GD hR.aj;generalize xs 0=y0;generalize xs 1=y1;generalize xs 2=y2;generalize xs 3=y3;generalize xs 4=y4;generalize xs 5=y5;generalize xs 6=y6;generalize xs 7=y7;generalize xs 8=y8;generalize xs 9=y9;generalize xs 10=y10;generalize xs 11=y11;clear hF hR Q ae G J hr av K aE;obtain⟨r1,r2⟩:=r;dsimp only at ah aH⊢;have T:Hid (Touch (fun j=>cr U V j\/j=P) w w9):=a7.out.grow ba.out fun j p=>by
     rcases ai.out j (by rw[af.out];exact p)with O|O
     ·exact GJ (GJ (GJ O))
     ·exact GL O
    by_cases he:r2=0
    case neg=>
     have O:¬(r2:Int)=0:=by omega
     have h2:((r2:Int)!=0)=true:=by simp;omega
     have HE:=GD (ah.out.2 he);clear he;go_wp2_with fail
     go_ret;obtain⟨e6,an,f,c,a1,aZ⟩:=HE.out;refine GL ⟨fun hc=>an (aL.out hc),by rw[e6];rfl,DS B m1 m2,r1,(Wl.flush lg),c,⟨m1,m2,aH.out,rfl⟩,f,T.out,fun j p=>ai.out j (by rw[af.out];exact p),aK.out,a1,aZ⟩
    subst he;have f4:=C.out.free (5+i*7+4);have k4:=C.out.fr X.out.2 4 (by decide) (v:=.bool (fa F i).aD) rfl;have z:=C.out.set X.out.2 4 (by decide) (.bool false) {fa F i with aD:=false} rfl;have aG:=GD z;clear z;go_wp2_with fail
    go_ret;obtain⟨O,h2⟩:=ah.out.1 trivial aG.out (Touch.set P _ _ rfl);exact GJ ⟨U1,V1,r1,(Wl.flush lg),rfl,O,fun hc=>h2 (aL.out hc),aK.out,T.out.trans (Touch.set P _ _ (GL rfl)),ai.out,bh.out,fun h=>absurd h bp.out⟩
  case neg=>
   have aV:¬(lg.ag:Int)<=((fa F i).bl:Int):=by omega
   have bg:Hid ((s.now (fa F i).aw).1<lg.ag):=by show _<_;rw[<-hfr.bl];omega
   clear hq;go_enter Tryz.func52,Tryz.ntmps52;go_upto_region 3 with(fail)
   go_quiet ((go_at_call 77;refine Calls.quiet_of_same ((aP.out _).mono fun e w' h=>⟨h.1,h.2.symm⟩)))
   have l:Hid (cB U V (w.drewN nq) B L P S b N hand mp F H n d lg s):=HH.out.bq ((Touch.refl (fun _=>False) w).drewN nq) (fun _ _ h=>h) fun _ _ h=>h;have a7:Hid (Touch (fun j=>cr U V j\/j=P) w (w.drewN nq)):=(Touch.refl _ w).drewN nq;have aL:Hid (Wl.Calm n d->Wl.Calm n d):=id;have aK:Hid (Po.Lf lg lg):=GJ rfl;have ai:Hid (bA U U w):=fun j p=>GJ p;have bh:Hid (bA V V w):=fun j p=>GJ p;clear aP aU g3 g1 c4 aV HU;generalize w.drewN nq=wq at*
   obtain⟨m1,m2,pl,wa,M,hV,ad,y,-⟩:=l.out.log;have az:=j9 l.out.pm X.out.1;obtain⟨m,hm⟩:∃m,m=(fa F i).aw:=⟨_,rfl⟩
   obtain⟨x,hx⟩:∃x,x=s.now (fa F i).aw:=⟨_,rfl⟩
   obtain⟨u,hu⟩:∃u,u=(fa F i).u:=⟨_,rfl⟩
   have E:=l.out.pm.fr i X.out.1;have a2:Hid (x.1=(fa F i).bl):=by show _=_;rw[hx,E.bl]
   have Z:∀g,u.ownBlock=some g->¬DS B m1 m2 g:=fun g hg Y=>l.out.off g (GJ (by rw[y];exact Y)) (GL (GL ⟨i,by rw[<-hu];exact hg⟩));have aC:aJ wq u x.2:=by rw[hu,hx];exact E.body
   have bk:=GD aC;have aA:Po.cX x:=by rw[hx];exact l.out.pm.aI.ok _
   have I:∀w2,bc w2 B m1 m2 d->aJ w2 u x.2->Calls Tryz.prog 79 #[rW B S b N,.int .i64 (m:Int),ed x.1 u] w2 fun e w'=>FN B m1 m2 d S b m (Pg.form x.1 x.2) w2 e w':=fun w2 hp hb=>sf hp l.out.cy l.out.hw l.out.dV (by rw[hm];exact az) l.out.n16 x u aA hb Z;have aE:=GD I;have bm:=GD Z;have HM:=GD hm;have HX:=GD hx;have a6:=GD hu;have af:=GD y;have bf:=GD ad;have bd:Hid (¬DS B m1 m2 P):=fun Y=>l.out.off P (GJ (by rw[y];exact Y)) (GJ rfl);have bb:Hid (aF wq P B S b N L s.ao hand mp F):=l.out.pm.row;clear M hV ad y az hm hx hu E Z aC aA I;go_upto_region 7 with(fail)
   refine Ord.walk (mZ B P S b N i m u x.1) (fun D xs w'=>Bz B m1 m2 P S b N L s.ao hand mp F u x d m wq D xs w') (Touch (DS B m1 m2)) (by kernel_rfl) (by kernel_rfl) ?frU ?hfrU ?hTU (fun xs=>⟨bb.out.below (GF _ _).ij,bk.out.below (GF _ _).ij,(Touch.refl _ _).drew,fun _=>bf.out.below (GF _ _).ij,(fun e=>by cases e),fun e=>by cases e⟩) ?heU ?hendU;case hfrU=>
    intro xs;simp only[Ord.fill,Act.put,GP,GX,GV];rfl
   case hTU=>
    intro k v wa wb G hF;exact hF
   case heU=>
    iterate 14 (refine Ord.aa (fun D xs w2 hD hC hP hR a K' o=>?_) ?_;rotate_left)
    rotate_left
    ·clear a;go_simp;exact o _ _ ⟨_,rfl,Touch.refl _ _,hR.quiet 0 _ (by decide) (by decide),rfl⟩
    ·have q0:=Ord.ab _ a 0 (by decide);simp only[mZ]at q0;simp only[q0]at o⊢;clear a;go_simp;exact o _ _ ⟨_,rfl,Touch.refl _ _,hR.quiet 1 _ (by decide) (by decide),rfl⟩
    ·have q1:=Ord.ab _ a 1 (by decide);simp only[mZ]at q1;simp only[q1]at o⊢;clear a;go_simp;exact o _ _ ⟨_,rfl,Touch.refl _ _,hR.quiet 2 _ (by decide) (by decide),rfl⟩
    ·have q2:=Ord.ab _ a 2 (by decide);simp only[mZ]at q2;simp only[q2]at o⊢;clear a;have k0:=hR.row.c0;have k1:=hR.row.c1;have k2:=hR.row.c2;have k3:=hR.row.c3;go_simp;exact o _ _ ⟨_,rfl,Touch.refl _ _,hR.quiet 3 _ (by decide) (by decide),rfl⟩
    ·clear a;go_simp;exact o _ _ ⟨_,rfl,Touch.refl _ _,hR.quiet 4 _ (by decide) (by decide),rfl⟩
    ·have q4:=Ord.ab _ a 4 (by decide);simp only[mZ]at q4;simp only[q4]at o⊢;clear a;go_simp;exact o _ _ ⟨_,rfl,Touch.refl _ _,hR.quiet 5 _ (by decide) (by decide),rfl⟩
    ·have q5:=Ord.ab _ a 5 (by decide);simp only[mZ]at q5;simp only[q5]at o⊢;clear a;go_simp;exact o _ _ ⟨_,rfl,Touch.refl _ _,hR.quiet 6 _ (by decide) (by decide),rfl⟩
    ·have q6:=Ord.ab _ a 6 (by decide);simp only[mZ]at q6;simp only[q6]at o⊢;clear a;have k0:=hR.row.fr X.out.2 0 (by decide) (v:=.int .i64 (m:Int)) (by rw[HM.out];rfl);rw[Ia]at k0;go_simp;exact o _ _ ⟨_,rfl,Touch.refl _ _,hR.quiet 7 _ (by decide) (by decide),rfl⟩
    ·clear a;go_simp;exact o _ _ ⟨_,rfl,Touch.refl _ _,hR.quiet 8 _ (by decide) (by decide),rfl⟩
    ·have q8:=Ord.ab _ a 8 (by decide);simp only[mZ]at q8;simp only[q8]at o⊢;clear a;go_simp;exact o _ _ ⟨_,rfl,Touch.refl _ _,hR.quiet 9 _ (by decide) (by decide),rfl⟩
    ·have q9:=Ord.ab _ a 9 (by decide);simp only[mZ]at q9;simp only[q9]at o⊢;clear a;go_simp;exact o _ _ ⟨_,rfl,Touch.refl _ _,hR.quiet 10 _ (by decide) (by decide),rfl⟩
    ·have au:=Ord.ab _ a 10 (by decide);simp only[mZ]at au;simp only[au]at o⊢;clear a;have k1:=hR.row.fr X.out.2 1 (by decide) (v:=.int .u64 (x.1:Int)) (by rw[a2.out];rfl);have k2:=hR.row.fr X.out.2 2 (by decide) (v:=u) (by rw[a6.out];rfl);go_simp;exact o _ _ ⟨_,rfl,Touch.refl _ _,hR.quiet 11 _ (by decide) (by decide),rfl⟩
    ·have q3:=Ord.ab _ a 3 (by decide);simp only[mZ]at q3;have q7:=Ord.ab _ a 7 (by decide);simp only[mZ]at q7;have ar:=Ord.ab _ a 11 (by decide);simp only[mZ]at ar;simp only[q3,q7,ar]at o⊢;clear a;have I:=aE.out w2 (hR.s0 hD) hR.body;go_simp;refine I.mono ?_;rintro e w3⟨t,G,J,rfl,aW,ax⟩;exact o _ _ ⟨_,rfl,ax,hR.call hC hD (by decide) ax bd.out bm.out G J aW,trivial⟩
    ·clear a;go_simp;exact o _ _ ⟨_,rfl,Touch.refl _ _,hR.FV,trivial⟩
    exact Ord.ay
   case hendU=>
    intro D xs w9 hR hF;obtain⟨t,G,J,Q,K⟩:=hR.s1 (hF 12 (by decide)).1;have ae:=(hR.s2 (hF 13 (by decide)).1).trans Q;obtain⟨r,hr⟩:∃r,r=Rg.du d S (b+4*m) (Pg.form x.1 x.2) (Rg.laid (Pg.form x.1 x.2) (Rg.tag m t)):=⟨_,rfl⟩
    rw[<-hr]at Q ae K;rw[Q,ae];have av:=lA l.out X.out.1 bg.out af.out G J (r:=r) (by rw[<-HX.out,<-HM.out];exact hr) K hR.aj;have ah:=GD av;have aH:=GD K;have C:=GD hR.row;have ba:=GD hR.aj;generalize xs 0=y0;generalize xs 1=y1;generalize xs 2=y2;generalize xs 3=y3;generalize xs 4=y4;generalize xs 5=y5;generalize xs 6=y6;generalize xs 7=y7;generalize xs 8=y8;generalize xs 9=y9;generalize xs 10=y10;generalize xs 11=y11;clear hF hR Q ae G J hr av K aE;obtain⟨r1,r2⟩:=r;dsimp only at ah aH⊢;have T:Hid (Touch (fun j=>cr U V j\/j=P) w w9):=a7.out.grow ba.out fun j p=>by
     rcases ai.out j (by rw[af.out];exact p)with O|O
     ·exact GJ (GJ (GJ O))
     ·exact GL O
    by_cases he:r2=0
    case neg=>
     have O:¬(r2:Int)=0:=by omega
     have h2:((r2:Int)!=0)=true:=by simp;omega
     have HE:=GD (ah.out.2 he);clear he;go_wp2_with fail
     go_ret;obtain⟨e6,an,f,c,a1,aZ⟩:=HE.out;refine GL ⟨fun hc=>an (aL.out hc),by rw[e6];rfl,DS B m1 m2,r1,lg,c,⟨m1,m2,aH.out,rfl⟩,f,T.out,fun j p=>ai.out j (by rw[af.out];exact p),aK.out,a1,aZ⟩
    subst he;have f4:=C.out.free (5+i*7+4);have k4:=C.out.fr X.out.2 4 (by decide) (v:=.bool (fa F i).aD) rfl;have z:=C.out.set X.out.2 4 (by decide) (.bool false) {fa F i with aD:=false} rfl;have aG:=GD z;clear z;go_wp2_with fail
    go_ret;obtain⟨O,h2⟩:=ah.out.1 trivial aG.out (Touch.set P _ _ rfl);exact GJ ⟨U,V,r1,lg,rfl,O,fun hc=>h2 (aL.out hc),aK.out,T.out.trans (Touch.set P _ _ (GL rfl)),ai.out,bh.out,fun h=>absurd h bp.out⟩
def EZ(U V:Nat->Prop)(B L P S b N hand mp:Nat)(F:List Fr)(H:List (Option Nat))(n:Nat)(d:Dk.ak)(lg:Wl.S)(s:Po.S)(i:Nat)(w w':World):Prop:=
 ∃f e c a,cB f e w' B L P S b N hand mp (F.set i {fa F i with aD:=false}) H n c a (Po.dg s (fa F i).aw)/\(Wl.Calm n d->Wl.Calm n c)/\Po.Lf lg a/\Touch (fun j=>cr U V j\/j=P) w w'/\bA U f w/\bA V e w/\(s.first (fa F i).aw=none->c=d/\a=lg)
def D9(U V:Nat->Prop)(B P S b N:Nat)(n:Nat)(lg:Wl.S)(s:Po.S)(w w':World):Prop:=
 ∃f d a c,m7 f w' B d/\Wl.aX n d/\Touch (fun j=>cr U V j\/j=P) w w'/\bA U f w/\Po.Lf lg a/\(∀k x,c k x->(x=s.bH k\/x=s.now k)/\x.1<a.ag)/\∀e,Wl.Hd (Dk.aQ d e) a/\Rg.uc S b N (Dk.aQ d e) c
theorem sZ{U V:Nat->Prop}{B L P S b N hand mp:Nat}{F:List Fr}{H:List (Option Nat)}{n:Nat}{d:Dk.ak}{lg:Wl.S}{s:Po.S}{i:Nat}{w:World}{e:Ending}{w':World}(h:F7 U V B L P S b N hand mp F H n d lg s i w e w'):
 (e=.returned (.int .i64 0)/\EZ U V B L P S b N hand mp F H n d lg s i w w')\/(¬Wl.Calm n d/\e=.returned (.int .i64 6)/\D9 U V B P S b N n lg s w w'):=by
 rcases h with⟨k,j,g,a,f,c⟩|h
 ·exact GJ ⟨f,k,j,g,a,c⟩
 ·exact GL h
def Gv(U V:Nat->Prop)(B L P S b N hand mp:Nat)(F:List Fr)(H:List (Option Nat))(n:Nat)(d:Dk.ak)(lg:Wl.S)(s:Po.S)(i:Nat)(w:World)(e:Ending)(w':World):Prop:=
 (e=.returned (.int .i64 0)/\∃w1,EZ U V B L P S b N hand mp F H n d lg s i w w1/\Touch (·=mp) w1 w'/\dm w' mp (H.set (fa F i).aw none))\/(¬Wl.Calm n d/\e=.returned (.int .i64 6)/\D9 U V B P S b N n lg s w w')
def Fv(P B S b N L aS hand mp:Nat)(F:List Fr)(H:List (Option Nat))(i:Nat)(W:World)(D:Nat->Bool)(w:World):Prop:=
 (D 8=false->aF w P B S b N L aS hand mp F/\dm w mp H/\Touch (·=mp) W w)/\(D 8=true->Touch (·=mp) W w/\dm w mp (H.set (fa F i).aw none))
def CI(P i mp a:Nat)(j:Nat)(v:Value)(_:World):Prop:=
 match j with
 |0=>v=.pointer (some ⟨P,0,none⟩)
 |1=>v=.pointer (some ⟨P,0,none⟩)
 |2=>v=.pointer (some ⟨P,455,none⟩)
 |3=>v=.map (some mp)
 |4=>v=.pointer (some ⟨P,5+i*7,none⟩)
 |5=>v=.pointer (some ⟨P,5+i*7,none⟩)
 |6=>v=.pointer (some ⟨P,5+i*7,none⟩)
 |7=>v=.int .i64 (a:Int)
 |_=>True
theorem Fv.quiet{P B S b N L aS hand mp:Nat}{F:List Fr}{H:List (Option Nat)}{i:Nat}{W:World}{D:Nat->Bool}{w:World}(h:Fv P B S b N L aS hand mp F H i W D w)(k:Nat)(a:8≠k):Fv P B S b N L aS hand mp F H i W (Ord.bB D k) w:=
 ⟨fun e=>h.1 (by rw[<-aT D a];exact e),fun e=>h.2 (by rw[<-aT D a];exact e)⟩
set_option maxHeartbeats 3200000 in
set_option maxRecDepth 20000 in
theorem oj {U V : Nat → Prop} {w : World} {B L P S b N hand mp n : Nat} {F : List Fr} {H : List (Option Nat)} {d : Dk.ak} {lg : Wl.S} {s : Po.S} {i : Nat} (h : cB U V w B L P S b N hand mp F H n d lg s) (Q : i < s.held.length) (hs : lg.stop ≤ 1000000000000) :
    Calls Tryz.prog 74 #[.pointer (some ⟨P, 0, none⟩), .pointer (some ⟨P, 5 + i * 7, none⟩)] w fun e w' => Gv U V B L P S b N hand mp F H n d lg s i w e w' := by
  have o := GD (ml h Q hs)
  have hb := h.pm.bounds
  have hc := h.pm.aS
  have m : i < 64 := by omega
  have t : i < F.length := by rw [h.pm.row.len]; exact m
  have HI : Hid (i < 64) := m
  have G : Hid (fa (F.set i { fa F i with aD := false }) i = { fa F i with aD := false }) := by show _ = _; rw [bW F t, GU rfl]
  have R : Hid ((fa F i).aw < H.length) := by show _ < _; rw [h.pm.hlen]; exact j9 h.pm Q
  clear h Q hs hb hc m t
  go_enter Tryz.func74, Tryz.ntmps74
  go_wp2_with fail
  refine o.out.mono ?_
  intro e w1 l
  rcases sZ l with ⟨rfl, q⟩ | ⟨r, rfl, u⟩
  case inr =>
    have I : Hid (_ ∧ _) := ⟨r, u⟩
    clear r u l o
    go_wp2_with fail
    go_ret
    exact GL ⟨I.out.1, rfl, I.out.2⟩
  have E := GD q
  clear q l o
  obtain ⟨U', V', d', ae, f, -⟩ := E.out
  have z := GD f.pm.row
  have T := GD f.pm.map
  have ag := GD f.pm.ne
  clear f
  obtain ⟨J, x⟩ : ∃ J, J = F.set i { fa F i with aD := false } := ⟨_, rfl⟩
  rw [← x] at z G
  have C : Hid ((fa J i).aw = (fa F i).aw) := by show _ = _; rw [G.out]
  obtain ⟨p, j⟩ : ∃ p, p = (fa J i).aw := ⟨_, rfl⟩
  have g := GD j
  have A : Hid (p < H.length) := by show _ < _; rw [j, C.out]; exact R.out
  clear x j
  go_upto_region 4 with (fail)
  refine Ord.walk (CI P i mp p) (fun D _ w' => Fv P B S b N L (Po.dg s (fa F i).aw).ao hand mp J H i w1 D w') (fun _ _ => True) (by kernel_rfl) (by kernel_rfl) ?fr ?hfr ?hT (fun xs => ⟨fun _ => ⟨z.out.below (GF _ _).ij, T.out.below (GF _ _).ij, (Touch.refl _ _).drew⟩, fun e => by cases e⟩) ?he ?hend
  case hfr =>
    intro xs
    simp only [Ord.fill, Act.put, GP, GX, GV]
    rfl
  case hT =>
    intro k v wa wb ht K
    exact K
  case he =>
    iterate 4 (refine Ord.aa (fun D xs w2 y hC hP hR a K' c => ?_) ?_; rotate_left)
    rotate_left
    ·
      clear a
      go_simp
      exact c _ _ ⟨_, rfl, trivial, hR.quiet 0 (by decide), rfl⟩
    ·
      have q0 := Ord.ab _ a 0 (by decide)
      simp only [CI] at q0
      simp only [q0] at c ⊢
      clear a
      go_simp
      exact c _ _ ⟨_, rfl, trivial, hR.quiet 1 (by decide), rfl⟩
    ·
      have q1 := Ord.ab _ a 1 (by decide)
      simp only [CI] at q1
      simp only [q1] at c ⊢
      clear a
      go_simp
      exact c _ _ ⟨_, rfl, trivial, hR.quiet 2 (by decide), rfl⟩
    ·
      have q2 := Ord.ab _ a 2 (by decide)
      simp only [CI] at q2
      simp only [q2] at c ⊢
      clear a
      have h0 := hR.1 (by
  cases e : D 8 with
  | false => rfl
  | true => have := Ord.af hC 8 3 (by decide) e; rw [y] at this; cases this)
      have k := h0.1.pk
      go_simp
      exact c _ _ ⟨_, rfl, trivial, hR.quiet 3 (by decide), rfl⟩
    iterate 4 (refine Ord.aa (fun D xs w2 y hC hP hR a K' c => ?_) ?_; rotate_left)
    rotate_left
    ·
      clear a
      go_simp
      exact c _ _ ⟨_, rfl, trivial, hR.quiet 4 (by decide), rfl⟩
    ·
      have Z := Ord.ab _ a 4 (by decide)
      simp only [CI] at Z
      simp only [Z] at c ⊢
      clear a
      go_simp
      exact c _ _ ⟨_, rfl, trivial, hR.quiet 5 (by decide), rfl⟩
    ·
      have Y := Ord.ab _ a 5 (by decide)
      simp only [CI] at Y
      simp only [Y] at c ⊢
      clear a
      go_simp
      exact c _ _ ⟨_, rfl, trivial, hR.quiet 6 (by decide), rfl⟩
    ·
      have X := Ord.ab _ a 6 (by decide)
      simp only [CI] at X
      simp only [X] at c ⊢
      clear a
      have h0 := hR.1 (by
  cases e : D 8 with
  | false => rfl
  | true => have := Ord.af hC 8 7 (by decide) e; rw [y] at this; cases this)
      have k0 := h0.1.fr HI.out 0 (by decide) (v := .int .i64 (p : Int)) (by rw [g.out]; rfl)
      rw [Ia] at k0
      go_simp
      exact c _ _ ⟨_, rfl, trivial, hR.quiet 7 (by decide), rfl⟩
    refine Ord.aa (fun D xs w2 y hC hP hR a K' c => ?_) ?_
    ·
      have q3 := Ord.ab _ a 3 (by decide)
      simp only [CI] at q3
      have W := Ord.ab _ a 7 (by decide)
      simp only [CI] at W
      simp only [q3, W] at c ⊢
      clear a
      have h0 := hR.1 y
      obtain ⟨w3, ad, O, M⟩ := h0.2.1.drop A.out
      go_simp
      exact c _ _ ⟨undef, rfl, trivial, ⟨fun e => by simp [Ord.bB] at e, fun _ => ⟨h0.2.2.trans M, by rw [← g.out]; exact O⟩⟩, trivial⟩
    exact Ord.ay
  case hend =>
    intro D xs w9 hR K
    have h9 := hR.2 (K 8 (by decide)).1
    have I := GD h9
    generalize xs 0 = y0
    generalize xs 1 = y1
    generalize xs 2 = y2
    generalize xs 3 = y3
    generalize xs 4 = y4
    generalize xs 5 = y5
    generalize xs 6 = y6
    generalize xs 7 = y7
    clear K hR h9
    go_wp2_with fail
    go_ret
    exact GJ ⟨rfl, w1, E.out, I.out.1, by rw [← C.out]; exact I.out.2⟩
def B6:Array Value:=#[.int .u64 0,.slice none 0 0]
structure tP(W:World)(Q k:Nat)(v:Value)(l:List Nat)(D:Nat->Bool)(xs:Nat->Value)(w:World):Prop where
 below:Below Q W w
 sz:Q+2<=w.heap.size
 row:w.heap[Q]?=some (.cells #[.int .u64 (k:Int),v] 59 (0,0))
 body:aJ w v l
 s4:D 4=true->(∃p c,xs 4=.slice p l.length c)/\Own (Q+2) w (xs 4) l
 s5:D 5=true->xs 5=.agg #[.int .u64 (k:Int),xs 4]
 s6:w.heap[Q+1]?=some (.cells (if D 6 then#[.int .u64 (k:Int),xs 4]else B6) 59 (0,0))
def E0(Q k:Nat)(v:Value)(j:Nat)(u:Value)(_:World):Prop:=
 match j with
 |0=>u=.pointer (some ⟨Q,0,none⟩)
 |1=>u=.int .u64 (k:Int)
 |2=>u=.pointer (some ⟨Q,1,none⟩)
 |3=>u=v
 |_=>True
section
variable{W:World}{Q k:Nat}{v:Value}{l:List Nat}{D:Nat->Bool}{xs:Nat->Value}{w:World}
theorem tP.any(h:tP W Q k v l (fun _=>false) (fun _=>undef) w)(xs:Nat->Value):tP W Q k v l (fun _=>false) xs w:=⟨h.below,h.sz,h.row,h.body,(fun e=>by cases e),(fun e=>by cases e),h.s6⟩
theorem tP.quiet(h:tP W Q k v l D xs w)(j:Nat)(u:Value)(a:4≠j)(b:5≠j)(c:6≠j):tP W Q k v l (Ord.bB D j) (Ord.set xs j u) w:=
 ⟨h.below,h.sz,h.row,h.body,fun e=>by rw[bs xs u a];exact h.s4 (by rw[<-aT D a];exact e),fun e=>by rw[bs xs u a,bs xs u b];exact h.s5 (by rw[<-aT D b];exact e),by rw[bs xs u a,aT D c];exact h.s6⟩
theorem tP.call(h:tP W Q k v l D xs w){ops:List Oper}(hC:Ord.closed ops D)(i:D 4=false)(f:Ord.waits ops 5 4=true)(d:Ord.waits ops 6 5=true){u:Value}{w':World}(b:Own w.heap.size w' u l)(a:Below w.heap.size w w'):tP W Q k v l (Ord.bB D 4) (Ord.set xs 4 u) w':=by
 have d5:D 5=false:=by
  cases e:D 5 with
  |false=>rfl
  |true=>have:=Ord.af hC 5 4 f e;rw[i]at this;cases this
 have d6:D 6=false:=by
  cases e:D 6 with
  |false=>rfl
  |true=>have:=Ord.af hC 6 5 d e;rw[d5]at this;cases this
 have g:=h.sz;obtain⟨p,c,hu,-⟩:=b.aP.form;refine⟨h.below.trans (a.mono (by omega)),GR h.sz a.size,(a.block Q (by omega)).trans h.row,h.body.below a,fun _=>?_,fun e=>?_,?_⟩
 ·have j:Ord.set xs 4 u 4=u:=GU rfl;rw[j];exact⟨⟨p,c,hu⟩,b.from (by omega)⟩
 ·rw[aT D (show 5≠4 by decide),d5]at e;cases e
 ·rw[aT D (show 6≠4 by decide),d6];have:=h.s6;rw[d6]at this;exact(a.block (Q+1) (by omega)).trans this
theorem tP.build(h:tP W Q k v l D xs w):tP W Q k v l (Ord.bB D 5) (Ord.set xs 5 (.agg #[.int .u64 (k:Int),xs 4])) w:=
 ⟨h.below,h.sz,h.row,h.body,fun e=>by rw[bs xs _ (show 4≠5 by decide)];exact h.s4 (by rw[<-aT D (show 4≠5 by decide)];exact e),fun _=>by rw[bs xs _ (show 4≠5 by decide)];exact GU rfl,by rw[bs xs _ (show 4≠5 by decide),aT D (show 6≠5 by decide)];exact h.s6⟩
theorem tP.store(h:tP W Q k v l D xs w)(n:D 4=true)(m:D 6=false)(d:∀g,v.ownBlock=some g->g≠Q+1)(u:Value):tP W Q k v l (Ord.bB D 6) (Ord.set xs 6 u) ((w.setCell ⟨Q+1,0,none⟩ (.int .u64 (k:Int))).setCell ⟨Q+1,1,none⟩ (xs 4)):=by
 have c:Touch (fun j=>j=Q+1) w ((w.setCell ⟨Q+1,0,none⟩ (.int .u64 (k:Int))).setCell ⟨Q+1,1,none⟩ (xs 4)):=(Touch.set (S:=fun j=>j=Q+1) (Q+1) 0 _ rfl).trans (Touch.set (Q+1) 1 _ rfl);have h0:=h.s6;rw[m]at h0;have o:=aN (i:=1) (aN (i:=0) h0 (.int .u64 (k:Int))) (xs 4);refine⟨h.below.trans (c.below (fun j f=>by omega) (by have:=h.below.size;have:=h.sz;omega)),GR h.sz c.size,c.row h.row (by omega),c.aP h.body (fun _=>d),fun e=>?_,fun e=>?_,?_⟩
 ·rw[bs xs u (show 4≠6 by decide)];obtain⟨a,b⟩:=h.s4 n;exact⟨a,ka b c fun j f e=>by omega⟩
 ·rw[bs xs u (show 4≠6 by decide),bs xs u (show 5≠6 by decide)];exact h.s5 (by rw[<-aT D (show 5≠6 by decide)];exact e)
 ·rw[bs xs u (show 4≠6 by decide),show Ord.bB D 6 6=true from GU rfl,GU rfl];exact o
end
set_option maxHeartbeats 3200000 in
set_option maxRecDepth 20000 in
theorem oh(k:Nat)(v:Value)(l:List Nat)(w:World)(x:aJ w v l)(K:0<l.length):
 Calls Tryz.prog 50 #[ed k v] w fun e w'=>∃u,e=.returned (ed k u)/\Own w.heap.size w' u l/\Below w.heap.size w w':=by
 have hlt:=x.jg K;obtain⟨p,c,i,-⟩:=x.form;obtain⟨Q,d⟩:∃Q,Q=w.heap.size:=⟨_,rfl⟩
 obtain⟨W,f⟩:∃W,W=(w.alloc (.cells #[.int .u64 (k:Int),v] 59)).alloc (.cells B6 59):=⟨_,rfl⟩
 have n:W.heap[Q]?=some (.cells #[.int .u64 (k:Int),v] 59 (0,0)):=by
  rw[f,d];have y:=GM w (.cells #[.int .u64 (k:Int),v] 59);have P:Below (w.heap.size+1) (w.alloc (.cells #[.int .u64 (k:Int),v] 59)) ((w.alloc (.cells #[.int .u64 (k:Int),v] 59)).alloc (.cells B6 59)):=(GF _ _).alloc (by simp) _;exact(P.block _ (by omega)).trans y
 have m:W.heap[Q+1]?=some (.cells B6 59 (0,0)):=by
  rw[f,d];have y:=GM (w.alloc (.cells #[.int .u64 (k:Int),v] 59)) (.cells B6 59);rw[show(w.alloc (.cells #[.int .u64 (k:Int),v] 59)).heap.size=w.heap.size+1 by simp]at y;exact y
 have r:Below Q w W:=by rw[f,d];exact((GF _ _).alloc (GH _) _).alloc (by simp) _
 have C:Hid (tP W Q k v l (fun _=>false) (fun _=>undef) W.drew):=by
  have hs:W.heap.size=Q+2:=by rw[f,d];simp
  exact⟨(GF _ _).ij,by show _<=W.heap.size;omega,n,(x.below (by rw[<-d];exact r)).below (GF _ _).ij,(fun e=>by cases e),(fun e=>by cases e),m⟩
 have S:Hid (∀g,v.ownBlock=some g->g≠Q+1):=fun g O e=>by have:=hlt g O;omega
 have N:=GD d;have T:=GD r;have R:=GD i;clear hlt n m r x K;unfold ed;subst i;go_enter Tryz.func50,Tryz.ntmps50;go_upto_region 1 with(fail)
 unfold B6 at f;rw[<-f,<-d];clear f d;refine Ord.walk (E0 Q k (.slice p l.length c)) (fun D xs w'=>tP W Q k (.slice p l.length c) l D xs w') (fun _ _=>True) (by kernel_rfl) (by kernel_rfl) ?fr ?hfr ?hT (fun xs=>C.out.any xs) ?he ?hend;case hfr=>
  intro xs;simp only[Ord.fill,Act.put,GP,GX,GV];rfl
 case hT=>
  intro k v V U Y s;exact s
 case he=>
  iterate 7 (refine Ord.aa (fun D xs w2 L hC A hR b Z a=>?_) ?_;rotate_left)
  rotate_left
  ·clear b;go_simp;exact a _ _ ⟨_,rfl,trivial,hR.quiet 0 _ (by decide) (by decide) (by decide),rfl⟩
  ·have J:=Ord.ab _ b 0 (by decide);simp only[E0]at J;simp only[J]at a⊢;clear b;have k0:=ah hR.row 0 (v:=.int .u64 (k:Int)) rfl;go_simp;exact a _ _ ⟨_,rfl,trivial,hR.quiet 1 _ (by decide) (by decide) (by decide),rfl⟩
  ·clear b;go_simp;exact a _ _ ⟨_,rfl,trivial,hR.quiet 2 _ (by decide) (by decide) (by decide),rfl⟩
  ·have H:=Ord.ab _ b 2 (by decide);simp only[E0]at H;simp only[H]at a⊢;clear b;have k1:=ah hR.row 1 (v:=.slice p l.length c) rfl;go_simp;exact a _ _ ⟨_,rfl,trivial,hR.quiet 3 _ (by decide) (by decide) (by decide),rfl⟩
  ·have G:=Ord.ab _ b 3 (by decide);simp only[E0]at G;simp only[G]at a⊢;clear b;have z:=mA _ l w2 hR.body;go_simp;refine z.mono ?_;rintro e X⟨u,rfl,h,r⟩;exact a _ _ ⟨_,rfl,trivial,hR.call hC L (by decide) (by decide) h r,trivial⟩
  ·have I:=Ord.ab _ b 1 (by decide);simp only[E0]at I;simp only[I]at a⊢;clear b;have d4:D 4=true:=A {on:=4,ground:=.data} (by simp) rfl;obtain⟨⟨pu,M,hu⟩,h⟩:=hR.s4 d4;simp only[hu]at a⊢;have o:=hR.build;rw[hu]at o;go_simp;exact a _ _ ⟨_,rfl,trivial,o,trivial⟩
  ·clear b;have d5:D 5=true:=A {on:=5,ground:=.data} (by simp) rfl;have d4:D 4=true:=A {on:=4,ground:=.chain} (by simp) rfl;obtain⟨⟨pu,M,hu⟩,h⟩:=hR.s4 d4;have F:=hR.s5 d5;rw[hu]at F;simp only[F,hu]at a⊢;have h0:=hR.s6;have t:D 6=false:=L;rw[t]at h0;have c0:=ah h0 0 (v:=.int .u64 0) rfl;have c1:=ah h0 1 (v:=.slice none 0 0) rfl;have f0:=aC h0 0;have f1:=aC h0 1;have j:=hR.store d4 t S.out undef;rw[hu]at j;go_simp;exact a _ _ ⟨undef,rfl,trivial,j,trivial⟩
  exact Ord.ay
 case hend=>
  intro D xs w9 hR s;have d4:=(s 4 (by decide)).1;have d6:=(s 6 (by decide)).1;obtain⟨⟨pu,M,hu⟩,h⟩:=hR.s4 d4;have B:=hR.s6;rw[d6,GU rfl]at B;have q:=hR.below;generalize xs 0=y0;generalize xs 1=y1;generalize xs 2=y2;generalize xs 3=y3;generalize xs 5=y5;generalize xs 4=y4 at*
  have E:Hid (_/\_/\_):=⟨h,B,q⟩
  clear s hR d4 d6 h B q;go_wp2_with fail
  refine bodyPost_ret (IG rfl _ _ (Q+1) 59 _ _ _ rfl E.out.2.1 Tryz.underlying59 rfl (by kernel_rfl)) rfl ?_;exact⟨y4,rfl,by rw[<-N.out];exact E.out.1.from (by omega),by rw[<-N.out];exact T.out.trans E.out.2.2⟩
structure qF(W:World)(Q B m1 m2 P S b N L aS hand mp:Nat)(F:List Fr)(d:Dk.ak)(k e:Nat)(l:List Nat)(D:Nat->Bool)(xs:Nat->Value)(w:World):Prop where
 below:Below Q W w
 sz:Q+1<=w.heap.size
 row:aF w P B S b N L aS hand mp F
 dev:bc w B m1 m2 d
 s0:D 12=false->w.heap[Q]?=some (.cells B6 59 (0,0))
 s1:D 12=true->∃u,(∃p c,u=.slice p l.length c)/\Own (Q+1) w u l/\xs 12=.tuple #[.agg #[.int .u64 (k:Int),u],.int .i64 (e:Int)]/\(D 13=true->xs 13=.agg #[.int .u64 (k:Int),u])/\(D 14=true->xs 14=.int .i64 (e:Int))/\w.heap[Q]?=some (.cells (if D 15 then#[.int .u64 (k:Int),u]else B6) 59 (0,0))/\(D 16=true->xs 16=.int .i64 (e:Int))
def yH(B P b:Nat)(n:Int)(j:Nat)(u:Value)(_:World):Prop:=
 match j with
 |0=>u=.pointer (some ⟨P,0,none⟩)
 |1=>u=.pointer (some ⟨P,0,none⟩)
 |2=>u=.pointer (some ⟨P,0,none⟩)
 |3=>u=.pointer (some ⟨P,0,none⟩)
 |4=>u=.pointer (some ⟨B,0,none⟩)
 |5=>u=.pointer (some ⟨P,0,none⟩)
 |6=>u=.pointer (some ⟨P,0,none⟩)
 |7=>u=.pointer (some ⟨P,0,none⟩)
 |8=>u=.pointer (some ⟨P,1,none⟩)
 |9=>u=.pointer (some ⟨P,2,none⟩)
 |10=>u=.int .i64 (b:Int)
 |11=>u=.int .i64 n
 |_=>True
section
variable{W:World}{Q B m1 m2 P S b N L aS hand mp:Nat}{F:List Fr}{d:Dk.ak}{k e:Nat}{l:List Nat}{D:Nat->Bool}{xs:Nat->Value}{w:World}
theorem qF.quiet(h:qF W Q B m1 m2 P S b N L aS hand mp F d k e l D xs w)(j:Nat)(v:Value)(f:j<12):qF W Q B m1 m2 P S b N L aS hand mp F d k e l (Ord.bB D j) (Ord.set xs j v) w:=by
 have a:∀i,12<=i->Ord.bB D j i=D i:=fun i c=>aT D (by omega);have x:∀i,12<=i->Ord.set xs j v i=xs i:=fun i c=>bs xs v (by omega);refine⟨h.below,h.sz,h.row,h.dev,fun e=>h.s0 (by rw[<-a 12 (by omega)];exact e),fun e=>?_⟩;rw[a 12 (by omega)]at e;rw[a 13 (by omega),a 14 (by omega),a 15 (by omega),a 16 (by omega),x 12 (by omega),x 13 (by omega),x 14 (by omega),x 16 (by omega)];exact h.s1 e
theorem qF.call(h:qF W Q B m1 m2 P S b N L aS hand mp F d k e l D xs w){ops:List Oper}(hC:Ord.closed ops D)(o:D 12=false)(n:Ord.waits ops 13 12=true)(m:Ord.waits ops 14 12=true)(g:Ord.waits ops 15 13=true)(f:Ord.waits ops 16 14=true){u:Value}{w':World}(q:Own w.heap.size w' u l)(a:Below w.heap.size w w'):
 qF W Q B m1 m2 P S b N L aS hand mp F d k e l (Ord.bB D 12) (Ord.set xs 12 (.tuple #[.agg #[.int .u64 (k:Int),u],.int .i64 (e:Int)])) w':=by
 have no:∀i j,Ord.waits ops i j=true->D j=false->D i=false:=fun i j hw s=>by
  cases e:D i with
  |false=>rfl
  |true=>have:=Ord.af hC i j hw e;rw[s]at this;cases this
 have d13:=no 13 12 n o;have d14:=no 14 12 m o;have d15:=no 15 13 g d13;have d16:=no 16 14 f d14;obtain⟨p,c,hu,-⟩:=q.aP.form;have r:=h.sz;refine⟨h.below.trans (a.mono (by omega)),GR h.sz a.size,h.row.below a,h.dev.below a,fun e=>?_,fun _=>⟨u,⟨p,c,hu⟩,q.from (by omega),GU rfl,fun e=>?_,fun e=>?_,?_,fun e=>?_⟩⟩
 ·rw[show Ord.bB D 12 12=true from GU rfl]at e;cases e
 ·rw[aT D (show 13≠12 by decide),d13]at e;cases e
 ·rw[aT D (show 14≠12 by decide),d14]at e;cases e
 ·rw[aT D (show 15≠12 by decide),d15];exact(a.block Q (by omega)).trans (h.s0 o)
 ·rw[aT D (show 16≠12 by decide),d16]at e;cases e
theorem qF.FM(h:qF W Q B m1 m2 P S b N L aS hand mp F d k e l D xs w)(c:D 12=true){u:Value}(hu:xs 12=.tuple #[.agg #[.int .u64 (k:Int),u],.int .i64 (e:Int)]):qF W Q B m1 m2 P S b N L aS hand mp F d k e l (Ord.bB D 13) (Ord.set xs 13 (.agg #[.int .u64 (k:Int),u])) w:=by
 refine⟨h.below,h.sz,h.row,h.dev,fun e=>?_,fun _=>?_⟩
 ·rw[aT D (show 12≠13 by decide),c]at e;cases e
 ·obtain⟨n,m,j,a,-,i,g,f⟩:=h.s1 c;rw[hu]at a;simp only[Value.tuple.injEq,Array.mk.injEq,List.cons.injEq,Value.agg.injEq,Jj,Jg]at a;subst a;rw[bs xs _ (show 12≠13 by decide),bs xs _ (show 14≠13 by decide),bs xs _ (show 16≠13 by decide),aT D (show 14≠13 by decide),aT D (show 15≠13 by decide),aT D (show 16≠13 by decide)];exact⟨u,m,j,hu,fun _=>GU rfl,i,g,f⟩
theorem qF.FL(h:qF W Q B m1 m2 P S b N L aS hand mp F d k e l D xs w)(a:D 12=true):qF W Q B m1 m2 P S b N L aS hand mp F d k e l (Ord.bB D 14) (Ord.set xs 14 (.int .i64 (e:Int))) w:=by
 refine⟨h.below,h.sz,h.row,h.dev,fun e=>?_,fun _=>?_⟩
 ·rw[aT D (show 12≠14 by decide),a]at e;cases e
 ·obtain⟨c,n,m,j,i,o,g,f⟩:=h.s1 a;rw[bs xs _ (show 12≠14 by decide),bs xs _ (show 13≠14 by decide),bs xs _ (show 16≠14 by decide),aT D (show 13≠14 by decide),aT D (show 15≠14 by decide),aT D (show 16≠14 by decide)];exact⟨c,n,m,j,i,fun _=>GU rfl,g,f⟩
theorem qF.FJ(h:qF W Q B m1 m2 P S b N L aS hand mp F d k e l D xs w)(a:D 12=true):qF W Q B m1 m2 P S b N L aS hand mp F d k e l (Ord.bB D 16) (Ord.set xs 16 (.int .i64 (e:Int))) w:=by
 refine⟨h.below,h.sz,h.row,h.dev,fun e=>?_,fun _=>?_⟩
 ·rw[aT D (show 12≠16 by decide),a]at e;cases e
 ·obtain⟨c,n,m,j,i,g,f,o⟩:=h.s1 a;rw[bs xs _ (show 12≠16 by decide),bs xs _ (show 13≠16 by decide),bs xs _ (show 14≠16 by decide),aT D (show 13≠16 by decide),aT D (show 14≠16 by decide),aT D (show 15≠16 by decide)];exact⟨c,n,m,j,i,g,f,fun _=>GU rfl⟩
theorem qF.FK(h:qF W Q B m1 m2 P S b N L aS hand mp F d k e l D xs w)(g:D 12=true)(f:D 15=false){u:Value}(hu:xs 12=.tuple #[.agg #[.int .u64 (k:Int),u],.int .i64 (e:Int)])(p:P≠Q)(o:∀i,DS B m1 m2 i->i≠Q)(v:Value):
 qF W Q B m1 m2 P S b N L aS hand mp F d k e l (Ord.bB D 15) (Ord.set xs 15 v) ((w.setCell ⟨Q,0,none⟩ (.int .u64 (k:Int))).setCell ⟨Q,1,none⟩ u):=by
 have a:Touch (fun j=>j=Q) w ((w.setCell ⟨Q,0,none⟩ (.int .u64 (k:Int))).setCell ⟨Q,1,none⟩ u):=(Touch.set (S:=fun j=>j=Q) Q 0 _ rfl).trans (Touch.set Q 1 _ rfl);obtain⟨y,x,t,c,s,r,m,q⟩:=h.s1 g;rw[hu]at c;simp only[Value.tuple.injEq,Array.mk.injEq,List.cons.injEq,Value.agg.injEq,Jj,Jg]at c;subst c;rw[f]at m;refine⟨h.below.trans (a.below (fun j n=>by omega) (by have:=h.below.size;have:=h.sz;omega)),GR h.sz a.size,h.row.aj a p,h.dev.bq a o,fun e=>?_,fun _=>?_⟩
 ·rw[aT D (show 12≠15 by decide),g]at e;cases e
 ·rw[bs xs _ (show 12≠15 by decide),bs xs _ (show 13≠15 by decide),bs xs _ (show 14≠15 by decide),bs xs _ (show 16≠15 by decide),aT D (show 13≠15 by decide),aT D (show 14≠15 by decide),aT D (show 16≠15 by decide)];refine⟨u,x,ka t a fun j n e=>by omega,hu,s,r,?_,q⟩;rw[show Ord.bB D 15 15=true from GU rfl,GU rfl];exact aN (i:=1) (aN (i:=0) m (.int .u64 (k:Int))) u
end
theorem uU(tmps:Array Value)(w:World)(g:Nat)(d c e:Value)(h0:tmps.getD 4 undef=.pointer (some ⟨g,0,none⟩))(i:tmps.getD 5 undef=e)
 (r0:w.heap[g]?=some (.cells #[d,c] 59 (0,0))):
 (results Tryz.f49 tmps).run Tryz.prog w=.ok (.tuple #[.agg #[d,c],e]) w:=by
 have h:Tryz.f49.results=#[.cell 4 59,.tmp 5]:=rfl;have b:tmps[4]?.getD undef=.pointer (some ⟨g,0,none⟩):=by simpa using h0
 have a:tmps[5]?.getD undef=e:=by simpa using i
 have f:=run_loadVar_row (P:=Tryz.prog) w g 59 _ _ _ _ r0 Tryz.underlying59 rfl (by kernel_rfl);simp[results,h,b,a,asAddr,f]
set_option maxHeartbeats 3200000 in
set_option maxRecDepth 20000 in
theorem u9{w:World}{B m1 m2 P S b N L aS hand mp:Nat}{F:List Fr}{d:Dk.ak}(h:aF w P B S b N L aS hand mp F)(t:bc w B m1 m2 d)(n:Int)(hn:n<=9223372036854775807):
 Calls Tryz.prog 49 #[.pointer (some ⟨P,0,none⟩),.int .i64 n] w fun e w'=>∃u,e=.returned (.tuple #[ed (Pg.read d (b:Int) n).1.1 u,.int .i64 ((Pg.read d (b:Int) n).2:Nat)])/\Own w.heap.size w' u (Pg.read d (b:Int) n).1.2/\Below w.heap.size w w':=by
 obtain⟨Q,s⟩:∃Q,Q=w.heap.size:=⟨_,rfl⟩
 obtain⟨W,J⟩:∃W,W=w.alloc (.cells #[.int .u64 0,.slice none 0 0] 59):=⟨_,rfl⟩
 have A:Below Q w W:=by rw[J,s];exact(GF _ _).alloc (GH _) _
 have H:W.heap[Q]?=some (.cells B6 59 (0,0)):=by rw[J,s];exact GM _ _
 have K:P≠Q:=by have:=h.lt;omega
 have M:∀i,DS B m1 m2 i->i≠Q:=fun i hi e=>by have:=t.lt i hi;omega
 obtain⟨k,T⟩:∃k,k=(Pg.read d (b:Int) n).1.1:=⟨_,rfl⟩
 obtain⟨l,hl⟩:∃l,l=(Pg.read d (b:Int) n).1.2:=⟨_,rfl⟩
 obtain⟨O,z⟩:∃O,O=(Pg.read d (b:Int) n).2:=⟨_,rfl⟩
 have r:∀w2,bc w2 B m1 m2 d->Calls Tryz.prog 75 #[.pointer (some ⟨B,0,none⟩),.int .i64 (b:Int),.int .i64 n] w2 fun e w'=>∃u,e=.returned (.tuple #[ed k u,.int .i64 (O:Int)])/\Own w2.heap.size w' u l/\Below w2.heap.size w2 w':=fun w2 hp=>by rw[T,hl,z];exact vl hp (b:Int) n hn
 have X:=GD r;rw[<-T,<-hl,<-z];have Y:Hid (∀xs,qF W Q B m1 m2 P S b N L aS hand mp F d k O l (fun _=>false) xs W.drew):=fun xs=>by
  have hs:W.heap.size=Q+1:=by rw[J,s];simp
  exact⟨(GF _ _).ij,by show _<=W.heap.size;omega,(h.below (by rw[<-s];exact A)).below (GF _ _).ij,(t.below (by rw[<-s];exact A)).below (GF _ _).ij,fun _=>H,fun e=>by cases e⟩
 have HQ:=GD s;have HB:=GD A;have Z:=GD K;have ad:=GD M;clear h t hn A H K M T hl z r;go_enter Tryz.func49,Tryz.ntmps49;go_upto_region 1 with(fail)
 rw[<-J,<-s];clear J s;refine Ord.walk (yH B P b n) (fun D xs w'=>qF W Q B m1 m2 P S b N L aS hand mp F d k O l D xs w') (fun _ _=>True) (by kernel_rfl) (by kernel_rfl) ?fr ?hfr ?hT (fun xs=>Y.out xs) ?he ?hend;case hfr=>
  intro xs;simp only[Ord.fill,Act.put,GP,GX,GV];rfl
 case hT=>
  intro k v wa wb ht C;exact C
 case he=>
  iterate 17 (refine Ord.aa (fun D xs w2 hD hC t hR f K' a=>?_) ?_;rotate_left)
  rotate_left
  ·clear f;go_simp;exact a _ _ ⟨_,rfl,trivial,hR.quiet 0 _ (by decide),rfl⟩
  ·have q0:=Ord.ab _ f 0 (by decide);simp only[yH]at q0;simp only[q0]at a⊢;clear f;go_simp;exact a _ _ ⟨_,rfl,trivial,hR.quiet 1 _ (by decide),rfl⟩
  ·have q1:=Ord.ab _ f 1 (by decide);simp only[yH]at q1;simp only[q1]at a⊢;clear f;go_simp;exact a _ _ ⟨_,rfl,trivial,hR.quiet 2 _ (by decide),rfl⟩
  ·have q2:=Ord.ab _ f 2 (by decide);simp only[yH]at q2;simp only[q2]at a⊢;clear f;go_simp;exact a _ _ ⟨_,rfl,trivial,hR.quiet 3 _ (by decide),rfl⟩
  ·have q3:=Ord.ab _ f 3 (by decide);simp only[yH]at q3;simp only[q3]at a⊢;clear f;have k0:=hR.row.c0;go_simp;exact a _ _ ⟨_,rfl,trivial,hR.quiet 4 _ (by decide),rfl⟩
  ·clear f;go_simp;exact a _ _ ⟨_,rfl,trivial,hR.quiet 5 _ (by decide),rfl⟩
  ·have q5:=Ord.ab _ f 5 (by decide);simp only[yH]at q5;simp only[q5]at a⊢;clear f;go_simp;exact a _ _ ⟨_,rfl,trivial,hR.quiet 6 _ (by decide),rfl⟩
  ·have q6:=Ord.ab _ f 6 (by decide);simp only[yH]at q6;simp only[q6]at a⊢;clear f;go_simp;exact a _ _ ⟨_,rfl,trivial,hR.quiet 7 _ (by decide),rfl⟩
  ·have q7:=Ord.ab _ f 7 (by decide);simp only[yH]at q7;simp only[q7]at a⊢;clear f;go_simp;exact a _ _ ⟨_,rfl,trivial,hR.quiet 8 _ (by decide),rfl⟩
  ·have q8:=Ord.ab _ f 8 (by decide);simp only[yH]at q8;simp only[q8]at a⊢;clear f;go_simp;exact a _ _ ⟨_,rfl,trivial,hR.quiet 9 _ (by decide),rfl⟩
  ·have q9:=Ord.ab _ f 9 (by decide);simp only[yH]at q9;simp only[q9]at a⊢;clear f;have k2:=hR.row.c2;go_simp;exact a _ _ ⟨_,rfl,trivial,hR.quiet 10 _ (by decide),rfl⟩
  ·clear f;go_simp;exact a _ _ ⟨_,rfl,trivial,hR.quiet 11 _ (by decide),rfl⟩
  ·have q4:=Ord.ab _ f 4 (by decide);simp only[yH]at q4;have G:=Ord.ab _ f 10 (by decide);simp only[yH]at G;have E:=Ord.ab _ f 11 (by decide);simp only[yH]at E;simp only[q4,G,E]at a⊢;clear f;have r:=X.out w2 hR.dev;go_simp;refine r.mono ?_;rintro e w3⟨u,rfl,x,A⟩;exact a _ _ ⟨_,rfl,trivial,hR.call hC hD (by decide) (by decide) (by decide) (by decide) x A,trivial⟩
  ·clear f;have d12:D 12=true:=t {on:=12,ground:=.data} (by simp) rfl;obtain⟨u,⟨p,c,hu⟩,x,j,q,o,g,m⟩:=hR.s1 d12;subst hu;simp only[j]at a⊢;have I:=hR.FM d12 j;go_simp;exact a _ _ ⟨_,rfl,trivial,I,trivial⟩
  ·clear f;have d12:D 12=true:=t {on:=12,ground:=.data} (by simp) rfl;obtain⟨u,⟨p,c,hu⟩,x,j,q,o,g,m⟩:=hR.s1 d12;subst hu;simp only[j]at a⊢;have I:=hR.FL d12;go_simp;exact a _ _ ⟨_,rfl,trivial,I,trivial⟩
  ·clear f;have d13:D 13=true:=t {on:=13,ground:=.data} (by simp) rfl;have d12:D 12=true:=Ord.af hC 13 12 (by decide) d13;obtain⟨u,⟨p,c,hu⟩,x,j,q,o,g,m⟩:=hR.s1 d12;subst hu;have V:=q d13;simp only[V,j]at a⊢;have y:D 15=false:=hD;rw[y]at g;have c0:=ah g 0 (v:=.int .u64 0) rfl;have c1:=ah g 1 (v:=.slice none 0 0) rfl;have f0:=aC g 0;have f1:=aC g 1;have R:=hR.FK d12 y j Z.out ad.out undef;go_simp;exact a _ _ ⟨undef,rfl,trivial,R,trivial⟩
  ·clear f;have d14:D 14=true:=t {on:=14,ground:=.data} (by simp) rfl;have d12:D 12=true:=Ord.af hC 14 12 (by decide) d14;obtain⟨u,⟨p,c,hu⟩,x,j,q,o,g,m⟩:=hR.s1 d12;subst hu;have U:=o d14;simp only[U,j]at a⊢;have I:=hR.FJ d12;go_simp;exact a _ _ ⟨_,rfl,trivial,I,trivial⟩
  exact Ord.ay
 case hend=>
  intro D xs w9 hR C;have d12:=(C 12 (by decide)).1;have d15:=(C 15 (by decide)).1;have d16:=(C 16 (by decide)).1;obtain⟨u,⟨p,c,hu⟩,x,j,q,o,g,m⟩:=hR.s1 d12;have m:=m d16;rw[d15,GU rfl]at g;rw[m];have HE:Hid (_/\_/\_):=⟨x,g,hR.below⟩
  generalize xs 0=y0;generalize xs 1=y1;generalize xs 2=y2;generalize xs 3=y3;generalize xs 4=y4;generalize xs 5=y5;generalize xs 6=y6;generalize xs 7=y7;generalize xs 8=y8;generalize xs 9=y9;generalize xs 10=y10;generalize xs 11=y11;generalize xs 12=y12;generalize xs 13=y13;generalize xs 14=y14;clear C hR d12 d15 d16 x j q o g m hu;go_wp2_with fail
  refine bodyPost_ret (uU _ _ Q _ _ _ rfl rfl HE.out.2.1) rfl ?_;exact⟨u,rfl,by rw[<-HQ.out];exact HE.out.1.from (by omega),by rw[<-HQ.out];exact HB.out.trans HE.out.2.2⟩
def Po.oF(s:Po.S)(H:List (Option Nat))(n:Nat)(x:Po.Pg):Po.S:={s with held:=bO H,now:=Po.cI s.now n x,bH:=Po.cI s.bH n x}
section
variable{w w':World}{B L P S b N hand mp:Nat}{F:List Fr}{H H':List (Option Nat)}{s:Po.S}
theorem dN.same(h:dN w B L P S b N hand mp F H s){T:Nat->Prop}(o:Touch T w w')(hT:∀j,dI P mp F j->j≠P->¬T j){l:List Fr}{a:Nat}(c:aF w' P B S b N L s.ao a mp l)(q:a<s.ao)(hs:fU F l)(hz:∀i,s.held.length<=i->fa l i=Fr.zero):dN w' B L P S b N a mp l H s:=by
 have hp:∀i,(fa l i).aw=(fa F i).aw:=fun i=>by obtain⟨x,e⟩:=hs i;rw[e]
 refine⟨c,h.map.aj o (hT mp (GL (GJ rfl)) (H4 h.ne)),h.hlen,h.ar,h.aS,q,h.held,fun k i p=>?_,fun i m=>?_,fun i m=>?_,hz,h.aI,h.n16,h.ne,fun i g d=>?_⟩
 ·rw[hp];exact h.jx k i p
 ·rw[hp];exact h.jw i m
 ·obtain⟨x,e⟩:=hs i;have f:=(h.fr i m).aj o fun g d n=>hT g (GL (GL ⟨i,d⟩)) (h.yD i g d).1 n;rw[e];exact⟨f.bl,f.body,f.pins,f.first,f.fl⟩
 ·obtain⟨x,e⟩:=hs i;rw[e]at d;exact h.yD i g d
theorem lz{b:List Fr}(hs:fU F b):dI P mp b=dI P mp F:=by
 funext j
 have e:∀i,(fa b i).u=(fa F i).u:=fun i=>by obtain⟨x,e⟩:=hs i;rw[e]
 refine propext (or_congr Iff.rfl (or_congr Iff.rfl ⟨?_,?_⟩))
 ·rintro⟨k,a⟩;exact⟨k,by rw[<-e];exact a⟩
 ·rintro⟨k,a⟩;exact⟨k,by rw[e];exact a⟩
theorem gX(h:dN w B L P S b N hand mp F H s){n:Nat}(d:H.getD n none=none):n∉s.held/\s.pins n=0/\s.first n=none:=by
 have c:n∉s.held:=fun hm=>(cE H n).1 (by rw[<-h.held];exact hm) d;refine⟨c,?_,h.aI.lQ c⟩;rcases IB (s.pins n)with a|a
 ·exact a
 ·exact absurd (h.aI.pinned n a) c
theorem lL(h:dN w B L P S b N hand mp F H s){k:Nat}(a:k∈s.held):∃i,H.getD k none=some i/\i<s.held.length/\(fa F i).aw=k:=by
 have c:=(cE H k).1 (by rw[<-h.held];exact a);cases e:H.getD k none with
 |none=>exact absurd e c
 |some i=>exact⟨i,rfl,h.jx k i e⟩
theorem qz(h:dN w B L P S b N hand mp F H s){i n:Nat}{x:Po.Pg}(J:i<=s.held.length)(y:i<s.ao)(I:n<N)(o:H.getD n none=none)(q:Po.cX x)
 (r:i<s.held.length->(fa F i).pins=0/\(fa F i).aD=false) (hl:H'.length=N)
 (C:H'.getD n none=some i) (A:∀k,k≠n->H'.getD k none=if H.getD k none=some i then none else H.getD k none) (t:(bO H').length=if i<s.held.length then s.held.length else s.held.length+1):
 Po.Good (Po.oF s H' n x)/\n∈bO H':=by
 obtain⟨G,v,u⟩:=gX h o;have z:=h.aS;have hle:s.held.length<=(bO H').length:=by rw[t];split<;>omega
 have m:(bO H').length<=s.ao:=by rw[t];have:=h.aI.lS;split<;>omega
 have f:∀k,k∈s.held->(fa F i).aw≠k\/s.held.length<=i->k≠n->k∈bO H':=fun k d g p=>by
  obtain⟨j,E,K,D⟩:=lL h d;refine(cE H' k).2 ?_;rw[A k p,E,GQ]
  ·exact fun c=>by cases c
  ·intro c;have c:j=i:=GZ c;subst c;rcases g with g|g
   ·exact g D
   ·omega
 have l:n∈bO H':=(cE H' n).2 (by rw[C];exact fun c=>by cases c);refine⟨⟨(jk H').1,m,fun k d=>?_,fun k d=>?_,fun k d=>?_,fun k d=>?_,fun k=>?_,fun k=>?_⟩,l⟩
 ·have:=(jk H').2 k d;rw[hl]at this;show(k:Int)<s.ar.cg;rw[h.ar];show(k:Int)<(N:Int)
  omega
 ·have d:0<s.pins k:=d;have hm:=h.aI.pinned k d;refine f k hm ?_ fun e=>by rw[e,v]at d;omega
  rcases Hi i s.held.length with a|a
  ·refine GJ fun e=>?_;have:=(h.fr i a).pins;rw[e,(r a).1]at this;omega
  ·exact GL a
 ·have d:s.first k≠none:=d;have hm:=h.aI.aD k d;refine f k hm ?_ fun e=>d (by rw[e,u]);rcases Hi i s.held.length with a|a
  ·refine GJ fun e=>d ?_;have:=(h.fr i a).first
   rw[e,(r a).2]at this;exact this
  ·exact GL a
 ·show Po.cI s.bH n x k=Po.cI s.now n x k;unfold Po.cI;split
  ·rfl
  ·exact h.aI.clean k d
 ·show Po.cX (Po.cI s.now n x k);unfold Po.cI;split
  ·exact q
  ·exact h.aI.ok k
 ·show Po.cX (Po.cI s.bH n x k);unfold Po.cI;split
  ·exact q
  ·exact h.aI.DI k
theorem dN.load(h:dN w B L P S b N hand mp F H s){T:Nat->Prop}(R:Touch T w w')(hT:∀j,dI P mp F j->j≠P->j≠mp->¬T j){i n:Nat}{x:Po.Pg}{u:Value}(W:i<=s.held.length)(E:i<s.ao)(V:n<N)(r:H.getD n none=none)(Q:Po.cX x)(Z:aJ w' u x.2)(hu:∀g,u.ownBlock=some g->g≠P/\g≠mp)
 (Y:i<s.held.length->(fa F i).pins=0/\(fa F i).aD=false) {used:Bool} (v:aF w' P B S b N L s.ao hand mp (F.set i ⟨n,x.1,u,0,false,0,used⟩)) (z:dm w' mp H') (hl:H'.length=N)
 (C:H'.getD n none=some i) (A:∀k,k≠n->H'.getD k none=if H.getD k none=some i then none else H.getD k none) (t:(bO H').length=if i<s.held.length then s.held.length else s.held.length+1):
 dN w' B L P S b N hand mp (F.set i ⟨n,x.1,u,0,false,0,used⟩) H' (Po.oF s H' n x):=by
 obtain⟨n1,O,M⟩:=gX h r;have X:=h.aS;have G:i<F.length:=by rw[h.row.len];omega
 have f:=bW F G ⟨n,x.1,u,0,false,0,used⟩;have y:∀j,j<s.held.length->(fa F j).aw≠n:=fun j d e=>by
  have:=h.jw j d;rw[e,r]at this;cases this
 have hle:s.held.length<=(bO H').length:=by rw[t];split<;>omega
 have K:(bO H').length<=s.ao:=by rw[t];have:=h.aI.lS;split<;>omega
 have D:∀k,k∈s.held->(fa F i).aw≠k\/s.held.length<=i->k≠n->k∈bO H':=fun k p m o=>by
  obtain⟨j,e1,e2,e3⟩:=lL h p;refine(cE H' k).2 ?_;rw[A k o,e1,GQ]
  ·exact fun c=>by cases c
  ·intro c;have c:j=i:=GZ c;subst c;rcases m with m|m
   ·exact m e3
   ·omega
 have J:n∈bO H':=(cE H' n).2 (by rw[C];exact fun c=>by cases c);refine⟨v,z,hl,h.ar,h.aS,h.hand,rfl,fun k j p=>?_,fun j d=>?_,fun j d=>?_,fun j d=>?_,?_,h.n16,h.ne,fun j g q=>?_⟩
 ·show j<(bO H').length/\_;by_cases o:k=n
  ·subst o;rw[C]at p;cases p;rw[f,GU rfl];exact⟨by rw[t];split<;>omega,rfl⟩
  ·rw[A k o]at p;split at p
   ·cases p
   ·next hne=>
    obtain⟨a,b⟩:=h.jx k j p;rw[f,GQ fun e=>hne (by rw[p,e])];exact⟨by omega,b⟩
 ·have d:j<(bO H').length:=d;rw[f];by_cases e:j=i
  ·subst e;rw[GU rfl];exact C
  ·rw[GQ e];have l:j<s.held.length:=by rw[t]at d;split at d<;>omega
   have U:=h.jw j l;rw[A _ (y j l),U,GQ];exact fun c=>e (GZ c)
 ·have d:j<(bO H').length:=d;rw[f];by_cases e:j=i
  ·subst e;rw[GU rfl];refine⟨by show x.1=(Po.cI s.now n x n).1;rw[Po.cC],by show aJ w' u (Po.cI s.now n x n).2;rw[Po.cC];exact Z,O,M,by show(0:Nat)<18446744073709551616;decide⟩
  ·rw[GQ e];have l:j<s.held.length:=by rw[t]at d;split at d<;>omega
   have hf:=(h.fr j l).aj R fun g q I=>hT g (GL (GL ⟨j,q⟩)) (h.yD j g q).1 (h.yD j g q).2 I;have hu:(Po.cI s.now n x) (fa F j).aw=s.now (fa F j).aw:=Po.dQ _ _ (y j l);exact⟨by show(fa F j).bl=((Po.cI s.now n x) (fa F j).aw).1;rw[hu];exact hf.bl,by show aJ w' (fa F j).u ((Po.cI s.now n x) (fa F j).aw).2;rw[hu];exact hf.body,hf.pins,hf.first,hf.fl⟩
 ·have d:(bO H').length<=j:=d;rw[f,GQ (by rw[t]at d;split at d<;>omega)];exact h.rest j (by omega)
 ·exact(qz h W E V r Q Y hl C A t).1
 ·rw[f]at q;split at q
  ·exact hu g q
  ·exact h.yD j g q
end
end Go.Proofs.YtbpodmallknhfaaGreat
