/- Parts of a proof. Conditions: as each row says. -/
import Derived.Test.YtbpodmallknhfaaGreatPl36
import Derived.Test.YtbpodmallknhfaaGreatPl07
import Derived.Test.YtbpodmallknhfaaGreatPl10
import Derived.Test.YtbpodmallknhfaaGreatPl19
import Derived.Test.YtbpodmallknhfaaGreatPl03
import Derived.Test.YtbpodmallknhfaaGreatPl31
import Derived.Test.YtbpodmallknhfaaGreatPl24
import Derived.Test.YtbpodmallknhfaaGreatPl32
import Derived.Test.YtbpodmallknhfaaGreatPl30
import Derived.Test.YtbpodmallknhfaaGreatPl25
import Derived.RangeFuncCalls
import Derived.Maps.AppendAt
namespace Go.Proofs.YtbpodmallknhfaaGreat
open Go.RowKit
theorem vD(tmps:Array Value)(w:World)(g:Nat)(d c e:Value)(h0:tmps.getD 3 undef=.pointer (some ⟨g,0,none⟩))(i:tmps.getD 4 undef=e)
 (r0:w.heap[g]?=some (.cells #[d,c] 59 (0,0))):
 (results Tryz.f51 tmps).run Tryz.prog w=.ok (.tuple #[.agg #[d,c],e]) w:=by
 have h:Tryz.f51.results=#[.cell 3 59,.tmp 4]:=rfl;have b:tmps[3]?.getD undef=.pointer (some ⟨g,0,none⟩):=by simpa using h0
 have a:tmps[4]?.getD undef=e:=by simpa using i
 have f:=run_loadVar_row (P:=Tryz.prog) w g 59 _ _ _ _ r0 Tryz.underlying59 rfl (by kernel_rfl);simp[results,h,b,a,asAddr,f]
theorem sS{w:World}(R k:Nat)(p:Option Addr)(l c:Nat)(m:Int)(h:w.heap[R]?=some (.cells #[.int .u64 (k:Int),.slice p l c] 59 (0,0))):
 Calls Tryz.prog 51 #[.int .i64 m,.pointer (some ⟨R,0,none⟩)] w fun e w'=>e=.returned (.tuple #[ed k (.slice p l c),.int .i64 0])/\Below w.heap.size w w':=by
 obtain⟨Q,f⟩:∃Q,Q=w.heap.size:=⟨_,rfl⟩
 obtain⟨W,g⟩:∃W,W=w.alloc (.cells #[.int .u64 0,.slice none 0 0] 59):=⟨_,rfl⟩
 have d:Below w.heap.size w W:=by rw[g];exact(GF _ _).alloc (GH _) _
 have a:W.heap[Q]?=some (.cells #[.int .u64 0,.slice none 0 0] 59 (0,0)):=by rw[g,f];exact GM _ _
 have b:=(d.block R (GN h)).trans h;have r:=ah b 0 (v:=.int .u64 (k:Int)) rfl;have q:=ah b 1 (v:=.slice p l c) rfl;have c0:=ah a 0 (v:=.int .u64 0) rfl;have c1:=ah a 1 (v:=.slice none 0 0) rfl;have f0:=aC a 0;have f1:=aC a 1;have n:=aN (i:=1) (aN (i:=0) a (.int .u64 (k:Int))) (.slice p l c);have t4:Touch (fun j=>j=Q) W ((W.setCell ⟨Q,0,none⟩ (.int .u64 (k:Int))).setCell ⟨Q,1,none⟩ (.slice p l c)):=(Touch.set (S:=fun j=>j=Q) Q 0 _ rfl).trans (Touch.set Q 1 _ rfl);have o:Hid (_/\_/\_/\_/\_):=⟨d,n,t4,f,GN a⟩
 clear d n t4 a b h;go_enter Tryz.func51,Tryz.ntmps51;go_upto_region 1 with(fail)
 rw[<-g,<-f];clear g f;go_wp2_with fail
 obtain⟨d,n,t4,f,hl⟩:=o.out;refine bodyPost_ret (vD _ _ Q _ _ _ rfl rfl n) rfl ?_;exact⟨rfl,d.trans (t4.one (by omega) hl)⟩
def Po.nG(s:Po.S)(m:Nat)(x:Po.Pg)(f:Nat):Po.S:={s with now:=Po.cI s.now m x,first:=Po.cI s.first m (some f)}
theorem Po.tt{s:Po.S}(h:Po.Good s){m:Nat}(hm:m∈s.held){x:Po.Pg}(b:Po.cX x)(f:Nat):Po.Good (Po.nG s m x f):=by
 refine⟨h.sorted,h.lS,h.Ej,h.pinned,fun j a=>?_,fun j a=>?_,fun j=>?_,h.DI⟩
 ·have a:Po.cI s.first m (some f) j≠none:=a;unfold Po.cI at a;split at a
  ·next e=>rw[e];exact hm
  ·exact h.aD j a
 ·have a:Po.cI s.first m (some f) j=none:=a;show s.bH j=Po.cI s.now m x j;unfold Po.cI at a⊢;split at a
  ·cases a
  ·next e=>rw[GQ e];exact h.clean j a
 ·show Po.cX (Po.cI s.now m x j);unfold Po.cI;split
  ·exact b
  ·exact h.ok j
def Gp(U V:Nat->Prop)(B L P S b N mp:Nat)(F:List Fr)(n:Nat)(d:Dk.ak)(lg:Wl.S)(s:Po.S)(m:Nat)(x:Po.Pg)(w:World)(e:Ending)(w':World):Prop:=
 (∃a h H1 p o d1 g s1,e=.returned (.int .i64 0)/\cB p o w' B L P S b N a mp h H1 n d1 g s1/\(Wl.Calm n d->Wl.Calm n d1)/\Po.Lf lg g/\Po.kJ s m x s1/\Po.fh s m/\Touch (fun j=>cr U V j\/j=P\/j=mp) w w'/\bA U p w/\bA V o w/\bA (dI P mp F) (dI P mp h) w)\/
 (¬Po.fh s m/\e=.returned (.int .i64 13)/\∃a h H1,cB U V w' B L P S b N a mp h H1 n d lg s/\dI P mp h=dI P mp F/\Touch (fun j=>cr U V j\/j=P\/j=mp) w w')\/
 (¬Wl.Calm n d/\e=.returned (.int .i64 6)/\∃q i f c,m7 q w' B i/\Wl.aX n i/\Touch (fun j=>cr U V j\/j=P\/j=mp) w w'/\bA U q w/\Po.Lf lg f/\(∀k x,c k x->(x=s.bH k\/x=s.now k)/\x.1<f.ag)/\∀l,Wl.Hd (Dk.aQ i l) f/\Rg.uc S b N (Dk.aQ i l) c)
theorem DU(f:Fr)(h:f.aD=false):f={f with aD:=false,first:=f.first}:=by
 cases f;cases h;rfl
theorem sJ{U V Z Y:Nat->Prop}{w w2 X w9:World}{B L P S b N hand a mp n:Nat}{F o:List Fr}{H H1:List (Option Nat)}{d d1:Dk.ak}{lg r:Wl.S}{s s1:Po.S}{m i:Nat}{x:Po.Pg}{y:Po.Pg}{dk:Nat->Po.Pg}(h:cB U V w B L P S b N hand mp F H n d lg s)(hx:Po.cX x)(aa:x.1<lg.stop)(hm:m<N)
 (v:dN X B L P S b N a mp o H1 {s1 with now:=Po.cI s.now m y,bH:=dk})
 (hi:i<s1.held.length) (C:(fa o i).aw=m) (E:m∈s1.held) (c:Po.qI s s1) (J:Po.Good s1) (T:jW Z Y X B L d1 r) (hw:Rg.pS S b N d1 s1.bH) (G:Wl.aX n d1) (I:Po.Lf lg r) (t:Po.vU r s1) (D:∀j,cr Z Y j->¬dI P mp o j)
 (ai:bA U Z w2) (ah:bA V Y w2) (hX:∀j,dI P mp o j->dI P mp F j\/w2.heap.size<=j\/w.heap.size<=j) (ad:w.heap.size<=w2.heap.size) {K:Value} (hB:aJ X K x.2) (A:∀g,K.ownBlock=some g->w.heap.size<=g/\g<w2.heap.size) (ht:Touch (·=P) X w9) (f:Fr) (f1:f.aw=(fa o i).aw) (f2:f.pins=(fa o i).pins) (f3:f.aD=true) (f4:f.first<18446744073709551616) (f5:f.bl=x.1) (f6:f.u=K) (f7:f.first=(s.first m).getD x.1)
 (Q:aF w9 P B S b N L s.ao a mp (o.set i f)):
 cB Z Y w9 B L P S b N a mp (o.set i f) H1 n d1 r (Po.nG s1 m x f.first)/\Po.kJ s m x (Po.nG s1 m x f.first)/\bA (dI P mp F) (dI P mp (o.set i f)) w:=by
 have ag:i<64:=by have q:=v.bounds.1;have l:=v.aS.2;have q:s1.held.length<=s1.ao:=q;have l:s1.ao<=64:=l;omega
 have af:i<o.length:=by rw[v.row.len];exact ag
 have aj:=v.fr i hi;have O:∀g,K.ownBlock=some g->g≠P/\g≠mp:=fun g M=>⟨fun e=>by have:=h.pm.row.lt;have:=(A g M).1;omega,fun e=>by have:=h.pm.map.lt;have:=(A g M).1;omega⟩
 have W:∀j,dI P mp (o.set i f) j->dI P mp o j\/K.ownBlock=some j:=by
  rintro j(e|e|⟨k,z⟩)
  ·exact GJ (GJ e)
  ·exact GJ (GL (GJ e))
  ·rw[bW o af]at z;split at z
   ·exact GL (by rw[<-f6];exact z)
   ·exact GJ (GL (GL ⟨k,z⟩))
 have R:dN w9 B L P S b N a mp (o.set i f) H1 (Po.nG s1 m x f.first):=by
  refine v.frame ht (fun j _ q l=>q l) hi f f1 (fun g M=>O g (by rw[<-f6];exact M)) (Po.nG s1 m x f.first) rfl rfl rfl (Po.tt J E hx f.first) ⟨?_,?_,?_,?_,f4⟩ (fun k z=>?_) (by show aF w9 P B S b N L s1.ao a mp _;rw[c.ao];exact Q)
  ·rw[f1,C,f5];show x.1=(Po.cI s1.now m x m).1;rw[Po.cC]
  ·rw[f1,C,f6];show aJ w9 K (Po.cI s1.now m x m).2;rw[Po.cC];exact ht.aP hB fun _ g M e=>(O g M).1 e
  ·rw[f1,f2];exact aj.pins
  ·rw[f1,C,f3,GU rfl];show Po.cI s1.first m (some f.first) m=_;rw[Po.cC]
  ·rw[f1,C]at z;refine⟨?_,rfl,Po.dQ _ _ z⟩;show Po.cI s1.now m x k=Po.cI s.now m y k;rw[Po.dQ _ _ z,Po.dQ _ _ z,c.now]
 refine⟨⟨dO T ht fun j p e=>D j p (e▸GJ rfl),R,h.dV,hw,fun j p ab=>?_,fun k=>⟨(t k).1,?_⟩,fun j p=>?_,G,h.n16⟩,⟨?_,c.pins,c.ao,c.ar,⟨E,?_⟩,fun k z ae=>?_,c.bH⟩,fun j p=>?_⟩
 ·rcases W j ab with q|q
  ·exact D j p q
  ·obtain⟨a1,a2⟩:=A j q;rcases p with p|p
   ·rcases ai j p with l|l
    ·have:=dG h.log j (GJ l);omega
    ·omega
   ·rcases ah j p with l|l
    ·have:=dG h.log j (GL l);omega
    ·omega
 ·show(Po.cI s1.now m x k).1<r.stop;unfold Po.cI;split
  ·rw[I.stop];exact aa
  ·exact(t k).2
 ·rw[I.at_,I.count];exact h.kz j p
 ·show Po.cI s1.now m x=_;rw[c.now]
 ·show Po.cI s1.first m (some f.first) m=_;rw[Po.cC,f7]
 ·show Po.cI s1.first m (some f.first) k=_;rw[Po.dQ _ _ z];exact c.first k ae
 ·rcases W j p with q|q
  ·rcases hX j q with l|l|l
   ·exact GJ l
   ·exact GL (GR ad l)
   ·exact GL l
  ·exact GL (A j q).1
structure BG(P B S b N L aS hand mp:Nat)(F:List Fr)(i k Q R:Nat)(qv rv:Array Value)(W:World)(D:Nat->Bool)(w:World):Prop where
 row:aF w P B S b N L aS hand mp (F.set i {fa F i with aD:=D 6,first:=if D 9 then k else(fa F i).first})
 q:w.heap[Q]?=some (.cells qv 59 (0,0))
 r:w.heap[R]?=some (.cells rv 59 (0,0))
 aj:Touch (·=P) W w
def CL(P i k Q:Nat)(j:Nat)(v:Value)(_:World):Prop:=
 match j with
 |0=>v=.pointer (some ⟨P,5+i*7,none⟩)
 |1=>v=.pointer (some ⟨P,5+i*7,none⟩)
 |2=>v=.pointer (some ⟨Q,0,none⟩)
 |3=>v=.int .u64 (k:Int)
 |4=>v=.pointer (some ⟨P,5+i*7,none⟩)
 |5=>v=.pointer (some ⟨P,5+i*7+4,none⟩)
 |7=>v=.pointer (some ⟨P,5+i*7,none⟩)
 |8=>v=.pointer (some ⟨P,5+i*7+5,none⟩)
 |_=>True
section
variable{P B S b N L aS hand mp:Nat}{F:List Fr}{i k Q R:Nat}{qv rv:Array Value}{W:World}{D:Nat->Bool}{w:World}
theorem BG.quiet(h:BG P B S b N L aS hand mp F i k Q R qv rv W D w)(j:Nat)(c:6≠j)(a:9≠j):BG P B S b N L aS hand mp F i k Q R qv rv W (Ord.bB D j) w:=
 ⟨by rw[aT D c,aT D a];exact h.row,h.q,h.r,h.aj⟩
theorem BG.FI(h:BG P B S b N L aS hand mp F i k Q R qv rv W D w)(e:F.length=64)(c:i<64)(d:Q≠P)(hR:R≠P):BG P B S b N L aS hand mp F i k Q R qv rv W (Ord.bB D 6) (w.setCell ⟨P,5+i*7+4,none⟩ (.bool true)):=by
 have a:Touch (·=P) w (w.setCell ⟨P,5+i*7+4,none⟩ (.bool true)):=Touch.set P _ _ rfl;refine⟨?_,a.row h.q d,a.row h.r hR,h.aj.trans a⟩;rw[aT D (show 9≠6 by decide),show Ord.bB D 6 6=true from GU rfl];exact aF.again e c h.row 4 (by decide) (.bool true) _ rfl
theorem BG.Gg(h:BG P B S b N L aS hand mp F i k Q R qv rv W D w)(e:F.length=64)(c:i<64)(d:Q≠P)(hR:R≠P):BG P B S b N L aS hand mp F i k Q R qv rv W (Ord.bB D 9) (w.setCell ⟨P,5+i*7+5,none⟩ (.int .u64 (k:Int))):=by
 have a:Touch (·=P) w (w.setCell ⟨P,5+i*7+5,none⟩ (.int .u64 (k:Int))):=Touch.set P _ _ rfl;refine⟨?_,a.row h.q d,a.row h.r hR,h.aj.trans a⟩;rw[aT D (show 6≠9 by decide),show Ord.bB D 9 9=true from GU rfl];exact aF.again e c h.row 5 (by decide) (.int .u64 (k:Int)) _ rfl
end
set_option maxHeartbeats 6400000 in
set_option maxRecDepth 20000 in
theorem og{U V:Nat->Prop}{w:World}{B L P S b N hand mp n:Nat}{F:List Fr}{H:List (Option Nat)}{d:Dk.ak}{lg:Wl.S}{s:Po.S}{m:Nat}(h:cB U V w B L P S b N hand mp F H n d lg s)(hs:Po.fh s m->lg.stop<=1000000000000)(hm:m<N)(x:Po.Pg)(u:Value)(hx:Po.cX x)(hB:aJ w u x.2)(bb:Po.fh s m->x.1<lg.stop):
 Calls Tryz.prog 21 #[.pointer (some ⟨P,0,none⟩),.int .i64 (m:Int),ed x.1 u] w fun e w'=>Gp U V B L P S b N mp F n d lg s m x w e w':=by
 obtain⟨p,cap,hu,-,-,-⟩:=hB.form;obtain⟨Q,hQ⟩:∃Q,Q=w.heap.size:=⟨_,rfl⟩
 obtain⟨W,hW⟩:∃W,W=w.alloc (.cells #[.int .u64 (x.1:Int),u] 59):=⟨_,rfl⟩
 have hb:Below w.heap.size w W:=by rw[hW];exact(GF _ _).alloc (GH _) _
 have bg:W.heap[Q]?=some (.cells #[.int .u64 (x.1:Int),u] 59 (0,0)):=by rw[hW,hQ];exact GM _ _
 have aw:=dz (h.below hb).pm.row (m:Int);rw[show pz N (m:Int)=0 from GU (by omega)]at aw;have aX:=GD aw;have bE:=GD (h.below hb);have bw:=GD (hB.below hb);have HB:=GD hb;have aC:=GD bg;have HQ:=GD hQ;have HH:=GD h;have HS:=GD hs;have HM:=GD hm;have HX:=GD hx;have bn:=GD bb;have aU:=hx.2.1;have bG:∀(fn:Fn)(first cap:Array Value)(w:World),(Instr.makeFunc fn first cap).run Tryz.prog w=.ok (.func fn first cap) w:=fun _ _ _ _=>rfl;clear h hs hm hx hB bb hb bg aw;subst hu;unfold ed;rw[aU]at aC bw hW⊢;go_enter Tryz.func21,Tryz.ntmps21;go_upto_region 1 with(fail)
 rw[<-hW,<-hQ];clear hW hQ aU;go_wp2_with fail
 refine aX.out.mono ?_;rintro e w1⟨rfl,aM⟩;have K:=(aM.block Q (GN aC.out)).trans aC.out;have p0:=ah K 0 (v:=.int .u64 (x.1:Int)) rfl;have p1:=ah K 1 (v:=.slice p 500 cap) rfl;have bt:=GD (oh x.1 (.slice p 500 cap) x.2 w1 (bw.out.below aM) (by rw[HX.out.2.1];decide));have aG:=GD aM;have bs:=GD K;clear aM K aX;unfold ed at*
 go_wp2_with fail
 refine bt.out.mono ?_;rintro e w2⟨u2,rfl,hO,av⟩;obtain⟨J,c2,bc,-⟩:=hO.aP.form;rw[HX.out.2.1]at bc;subst bc;obtain⟨R,hR⟩:∃R,R=w2.heap.size:=⟨_,rfl⟩
 obtain⟨W2,aN⟩:∃W2,W2=w2.alloc (.cells #[.int .u64 (x.1:Int),.slice J 500 c2] 59):=⟨_,rfl⟩
 have a6:Below w2.heap.size w2 W2:=by rw[aN];exact(GF _ _).alloc (GH _) _
 have bf:W2.heap[R]?=some (.cells #[.int .u64 (x.1:Int),.slice J 500 c2] 59 (0,0)):=by rw[aN,hR];exact GM _ _
 have aL:Below W.heap.size W W2:=(aG.out.trans (av.mono aG.out.size)).trans (a6.mono (GR aG.out.size av.size));have bu:=GD (bE.out.below aL);have bq:=GD bf;have bD:Hid (W2.heap[Q]?=some (.cells #[.int .u64 (x.1:Int),.slice p 500 cap] 59 (0,0))):=(aL.block Q (GN aC.out)).trans aC.out;have I:Hid (Below w.heap.size w W2):=HB.out.trans (aL.mono HB.out.size);have a8:=GD (hO.below a6);have aO:Hid (w.heap.size<=R/\w.heap.size<=w1.heap.size/\Q<R):=⟨by rw[hR];exact GR (GR HB.out.size aG.out.size) av.size,GR HB.out.size aG.out.size,by rw[hR];have:=GN bs.out;have:=av.size;omega⟩
 have aZ:∀g,w.heap.size<=g->¬cr U V g/\g≠P/\g≠mp:=fun g A=>⟨fun e=>by have:=dG HH.out.log g e;omega,fun e=>by have:=HH.out.pm.row.lt;omega,fun e=>by have:=HH.out.pm.map.lt;omega⟩
 have aR:=GD aZ;have aV:∀g,(Value.slice J 500 c2).ownBlock=some g->w.heap.size<=g:=fun g A=>GR aO.out.2.1 (Nat.le_of_not_lt fun hlt=>iP hO A hlt);have az:=GD aV;have bh:=pO m x R bu.out HM.out HS.out HX.out (Fb:=fun g=>w.heap.size<=g) aZ (fun bF w3 bA F3 h3 bd=>by
  have bz:=bd.row bq.out (fun e=>by have:=HH.out.pm.row.lt;have:=aO.out.1;omega);refine(sS R x.1 J 500 c2 (m:Int) bz).mono ?_;rintro e w4⟨rfl,bj⟩;rw[HX.out.2.1];refine⟨J,c2,rfl,(bd.aP a8.out.aP fun _ g A e=>?_).below bj,az.out,bj⟩;exact(aR.out g (az.out g A)).2.1 e)
 have aT:=GD bh;go_upto_region 7 with(fail)
 rw[<-aN,<-hR];clear hO av a6 bf aL aN hR aZ aV bh bt p0 p1 bs;go_wp2_with fail
 refine aT.out.mono ?_;intro e w4 Y;rcases Y with⟨i,f,j,H1,U1,V1,d1,ba,s1,dk,rfl,hi,ae,z,M,au,t,X,ar,-,hw,o,y,af,l,T,ht,ai,ag,hX,-⟩|⟨aH,rfl,f,j,aK,hX,ht⟩|⟨aI,rfl,U',d',bx,c,e1,e2,e3,e4,e5⟩
 case inr.inl=>
  have HE:Hid (_/\_/\_/\_):=⟨aH,aK,hX,ht⟩
  clear aH aK hX ht aT;go_wp2_with fail
  go_ret;obtain⟨aH,aK,hX,ht⟩:=HE.out;exact GL (GJ ⟨aH,rfl,f,j,H,aK,hX,(Touch.ax I.out).trans ht⟩)
 case inr.inr=>
  have HE:Hid (_/\_/\_/\_/\_/\_):=⟨aI,e1,e2,e3,e4,e5⟩
  clear aI e1 e2 e3 e4 e5 aT;go_wp2_with fail
  go_ret;obtain⟨aI,e1,e2,e3,e4,e5⟩:=HE.out;exact GL (GL ⟨aI,rfl,U',d',bx,c,e1,e2,(Touch.ax I.out).trans e3,e4.under I.out.size,e5⟩)
 have aY:i<64:=by have h1:=ar.bounds;have h2:=ar.aS;have hi:i<({s1 with now:=Po.cI s.now m (Lr.rC (m∈s.held) (s.now m) x),bH:=dk}:Po.S).held.length:=hi;omega
 have a:Hid (i<64):=aY;have C:=GD ar;have Z:=GD au;have HE:Hid (_/\_/\_/\_/\_/\_/\_/\_/\_/\_/\_/\_/\_/\_/\_/\_):=⟨hi,ae,z,M,t,X,hw,o,y,af,l,T,ht,ai,ag,hX⟩
 have k4:=ar.row.fr aY 4 (by decide) (v:=.bool (fa j i).aD) rfl;have bk:¬(cr U V R\/R=P\/R=mp):=fun e=>by
  obtain⟨a1,a2,a3⟩:=aR.out R aO.out.1;rcases e with e|e|e
  ·exact a1 e
  ·exact a2 e
  ·exact a3 e
 have bm:¬(cr U V Q\/Q=P\/Q=mp):=fun e=>by
  obtain⟨a1,a2,a3⟩:=aR.out Q (by rw[HQ.out];exact GH _);rcases e with e|e|e
  ·exact a1 e
  ·exact a2 e
  ·exact a3 e
 have aA:Hid (w4.heap[R]?=some (.cells #[.int .u64 (x.1:Int),.slice J 500 c2] 59 (0,0))):=ht.row bq.out bk;have br:Hid (w4.heap[Q]?=some (.cells #[.int .u64 (x.1:Int),.slice p 500 cap] 59 (0,0))):=ht.row bD.out bm;have bp:Hid (aJ w4 (.slice J 500 c2) x.2):=ht.aP a8.out.aP fun _ g A e=>by
  obtain⟨a1,a2,a3⟩:=aR.out g (az.out g A);rcases e with e|e|e
  ·exact a1 e
  ·exact a2 e
  ·exact a3 e
 clear aY hi ae z M au t X ar hw o y af l T ht ai ag hX bk bm aT;have aQ:Hid (Q≠P/\R≠P):=⟨fun e=>by have:=HQ.out;have:=HH.out.pm.row.lt;omega,fun e=>by have:=aO.out.1;have:=HH.out.pm.row.lt;omega⟩
 have ad:Hid (j.length=64):=C.out.row.len;have bo:Hid (∀g,(Value.slice J 500 c2).ownBlock=some g->g<W2.heap.size):=a8.out.aP.jg (by rw[HX.out.2.1];decide);cases hdt:(fa j i).aD with
 |true=>
  rw[hdt]at k4;have aE:=GD hdt;have k1:=C.out.row.fr a.out 1 (by decide) (v:=.int .u64 ((fa j i).bl:Int)) rfl;have k2:=C.out.row.fr a.out 2 (by decide) (v:=(fa j i).u) rfl;have f1:=C.out.row.free (5+i*7+1);have f2:=C.out.row.free (5+i*7+2);have p0:=ah aA.out 0 (v:=.int .u64 (x.1:Int)) rfl;have p1:=ah aA.out 1 (v:=.slice J 500 c2) rfl;have K:=C.out.row.set a.out 1 (by decide) (.int .u64 (x.1:Int)) {fa j i with bl:=x.1} rfl;have aq:=aF.again ad.out a.out K 2 (by decide) (.slice J 500 c2) {fa j i with bl:=x.1,u:=.slice J 500 c2} rfl;have a7:=GD aq;clear hdt K aq;go_wp2_with fail
  go_ret;obtain⟨hi,ae,z,M,t,X,hw,o,y,af,l,T,ht,ai,ag,hX⟩:=HE.out;have al:Touch (·=P) w4 ((w4.setCell ⟨P,5+i*7+1,none⟩ (.int .u64 (x.1:Int))).setCell ⟨P,5+i*7+2,none⟩ (.slice J 500 c2)):=(Touch.set (S:=(·=P)) P _ _ rfl).trans (Touch.set P _ _ rfl);have O:=(C.out.fr i hi).first
  rw[ae,aE.out,GU rfl]at O;have E:=sJ HH.out HX.out (bn.out Z.out) HM.out C.out hi ae z M t X hw o af l T ai ag hX I.out.size bp.out (fun g A=>⟨az.out g A,bo.out g A⟩) al {fa j i with bl:=x.1,u:=.slice J 500 c2} rfl rfl aE.out (C.out.fr i hi).fl rfl rfl (by
   have h1:=M.first m z;have O:s1.first m=_:=O;rw[h1]at O;rw[O];rfl) (by have h9:=a7.out;rw[show({s1 with now:=Po.cI s.now m (Lr.rC (m∈s.held) (s.now m) x),bH:=dk}:Po.S).ao=s.ao from M.ao]at h9;exact h9)
  exact GJ ⟨f,j.set i {fa j i with bl:=x.1,u:=.slice J 500 c2},H1,U1,V1,d1,ba,_,rfl,E.1,y,af,E.2.1,Z.out,((Touch.ax I.out).trans ht).trans (al.mono fun _ _ e=>GL (GJ e)),ai.under I.out.size,ag.under I.out.size,E.2.2⟩
 |false=>
  rw[hdt]at k4;have aE:=GD hdt;have bC:Hid (BG P B S b N L s1.ao f mp j i x.1 Q R #[.int .u64 (x.1:Int),.slice p 500 cap] #[.int .u64 (x.1:Int),.slice J 500 c2] w4 (fun _=>false) w4.drew):=by
   refine⟨?_,br.out,aA.out,(Touch.refl _ _).drew⟩;exact Eq.mpr (Ho (fun G=>aF w4.drew P B S b N L s1.ao f mp G) (wP (by rw[ad.out];exact a.out) _ (DU _ aE.out))) (C.out.row.below (GF _ _).ij)
  clear hdt;go_upto_region 11 with(fail)
  clear k4;refine Ord.walk (CL P i x.1 Q) (fun D _ w'=>BG P B S b N L s1.ao f mp j i x.1 Q R #[.int .u64 (x.1:Int),.slice p 500 cap] #[.int .u64 (x.1:Int),.slice J 500 c2] w4 D w') (fun _ _=>True) (by kernel_rfl) (by kernel_rfl) ?fr ?hfr ?hT (fun xs=>bC.out) ?he ?hend;case hfr=>
   intro xs;simp only[Ord.fill,Act.put,GP,GX,GV];rfl
  case hT=>
   intro k v wa wb ht hF;exact hF
  case he=>
   iterate 10 (refine Ord.aa (fun D xs w2 hD hC hP hR Y K' hK=>?_) ?_;rotate_left)
   rotate_left
   ·clear Y;go_simp;exact hK _ _ ⟨_,rfl,trivial,hR.quiet 0 (by decide) (by decide),rfl⟩
   ·clear Y;go_simp;exact hK _ _ ⟨_,rfl,trivial,hR.quiet 1 (by decide) (by decide),rfl⟩
   ·clear Y;go_simp;exact hK _ _ ⟨_,rfl,trivial,hR.quiet 2 (by decide) (by decide),rfl⟩
   ·have q2:=Ord.ab _ Y 2 (by decide);simp only[CL]at q2;simp only[q2]at hK⊢;clear Y;have k0:=ah hR.q 0 (v:=.int .u64 (x.1:Int)) rfl;go_simp;exact hK _ _ ⟨_,rfl,trivial,hR.quiet 3 (by decide) (by decide),rfl⟩
   ·have q0:=Ord.ab _ Y 0 (by decide);simp only[CL]at q0;simp only[q0]at hK⊢;clear Y;go_simp;exact hK _ _ ⟨_,rfl,trivial,hR.quiet 4 (by decide) (by decide),rfl⟩
   ·have q4:=Ord.ab _ Y 4 (by decide);simp only[CL]at q4;simp only[q4]at hK⊢;clear Y;go_simp;exact hK _ _ ⟨_,rfl,trivial,hR.quiet 5 (by decide) (by decide),rfl⟩
   ·have q5:=Ord.ab _ Y 5 (by decide);simp only[CL]at q5;simp only[q5]at hK⊢;clear Y;have A:=bW j (i:=i) (by rw[ad.out];exact a.out) {fa j i with aD:=D 6,first:=if D 9 then x.1 else(fa j i).first} i;rw[GU rfl]at A;have k4:=hR.row.fr a.out 4 (by decide) (v:=.bool (D 6)) (by rw[A];rfl);have f4:=hR.row.free (5+i*7+4);have hq:=hR.FI ad.out a.out aQ.out.1 aQ.out.2;clear A;go_simp;exact hK _ _ ⟨undef,rfl,trivial,hq,trivial⟩
   ·have q1:=Ord.ab _ Y 1 (by decide);simp only[CL]at q1;simp only[q1]at hK⊢;clear Y;go_simp;exact hK _ _ ⟨_,rfl,trivial,hR.quiet 7 (by decide) (by decide),rfl⟩
   ·have q7:=Ord.ab _ Y 7 (by decide);simp only[CL]at q7;simp only[q7]at hK⊢;clear Y;go_simp;exact hK _ _ ⟨_,rfl,trivial,hR.quiet 8 (by decide) (by decide),rfl⟩
   ·have q8:=Ord.ab _ Y 8 (by decide);simp only[CL]at q8;have q3:=Ord.ab _ Y 3 (by decide);simp only[CL]at q3;simp only[q8,q3]at hK⊢;clear Y;have A:=bW j (i:=i) (by rw[ad.out];exact a.out) {fa j i with aD:=D 6,first:=if D 9 then x.1 else(fa j i).first} i;rw[GU rfl]at A;have k5:=hR.row.fr a.out 5 (by decide) (v:=.int .u64 ((if D 9 then x.1 else(fa j i).first:Nat):Int)) (by rw[A];rfl);have f5:=hR.row.free (5+i*7+5);have hq:=hR.Gg ad.out a.out aQ.out.1 aQ.out.2;clear A;go_simp;exact hK _ _ ⟨undef,rfl,trivial,hq,trivial⟩
   exact Ord.ay
  case hend=>
   intro D xs w8 hR hF;have d6:=(hF 6 (by decide)).1;have d9:=(hF 9 (by decide)).1;have an:=hR.row;rw[d6,d9,GU rfl]at an;have aB:=GD an;have aW:=GD hR.r;have bB:=GD hR.aj;generalize xs 0=y0;generalize xs 1=y1;generalize xs 2=y2;generalize xs 3=y3;generalize xs 4=y4;generalize xs 5=y5;generalize xs 7=y7;generalize xs 8=y8;have A:=bW j (i:=i) (by rw[ad.out];exact a.out) {fa j i with aD:=true,first:=x.1} i;rw[GU rfl]at A;have k1:=aB.out.fr a.out 1 (by decide) (v:=.int .u64 ((fa j i).bl:Int)) (by rw[A];rfl);have k2:=aB.out.fr a.out 2 (by decide) (v:=(fa j i).u) (by rw[A];rfl);have f1:=aB.out.free (5+i*7+1);have f2:=aB.out.free (5+i*7+2);have p0:=ah aW.out 0 (v:=.int .u64 (x.1:Int)) rfl;have p1:=ah aW.out 1 (v:=.slice J 500 c2) rfl;have K:=aF.again ad.out a.out aB.out 1 (by decide) (.int .u64 (x.1:Int)) {fa j i with aD:=true,first:=x.1,bl:=x.1} rfl;have aq:=aF.again ad.out a.out K 2 (by decide) (.slice J 500 c2) {fa j i with aD:=true,first:=x.1,bl:=x.1,u:=.slice J 500 c2} rfl;have a7:=GD aq;clear hF hR d6 d9 an A K aq;go_wp2_with fail
   go_ret;obtain⟨hi,ae,z,M,t,X,hw,o,y,af,l,T,ht,ai,ag,hX⟩:=HE.out;have al:Touch (·=P) w4 ((w8.setCell ⟨P,5+i*7+1,none⟩ (.int .u64 (x.1:Int))).setCell ⟨P,5+i*7+2,none⟩ (.slice J 500 c2)):=(bB.out.trans (Touch.set (S:=(·=P)) P _ _ rfl)).trans (Touch.set P _ _ rfl);have O:=(C.out.fr i hi).first
   rw[ae,aE.out]at O;have O:s1.first m=none:=O;have E:=sJ HH.out HX.out (bn.out Z.out) HM.out C.out hi ae z M t X hw o af l T ai ag hX I.out.size bp.out (fun g A=>⟨az.out g A,bo.out g A⟩) al {fa j i with aD:=true,first:=x.1,bl:=x.1,u:=.slice J 500 c2} rfl rfl rfl HX.out.1 rfl rfl (by
    have h1:=M.first m z;rw[O]at h1;rw[<-h1];rfl) (by have h9:=a7.out;rw[M.ao]at h9;exact h9)
   exact GJ ⟨f,j.set i {fa j i with aD:=true,first:=x.1,bl:=x.1,u:=.slice J 500 c2},H1,U1,V1,d1,ba,_,rfl,E.1,y,af,E.2.1,Z.out,((Touch.ax I.out).trans ht).trans (al.mono fun _ _ e=>GL (GJ e)),ai.under I.out.size,ag.under I.out.size,E.2.2⟩
def FQ(U V:Nat->Prop)(B L P S b N mp:Nat)(F:List Fr)(n:Nat)(d:Dk.ak)(lg:Wl.S)(s:Po.S)(v:Value)(w:World)(e:Ending)(w':World):Prop:=
 e=.returned v/\∃a c H1,cB U V w' B L P S b N a mp c H1 n d lg s/\dI P mp c=dI P mp F/\Touch (fun j=>cr U V j\/j=P\/j=mp) w w'
theorem wV{U V:Nat->Prop}{w:World}{B L P S b N hand mp n:Nat}{F:List Fr}{H:List (Option Nat)}{d:Dk.ak}{lg:Wl.S}{s:Po.S}{m:Nat}(h:cB U V w B L P S b N hand mp F H n d lg s)(hC:Wl.Calm n d)(hm:m<N)(hf:¬Po.fh s m):
 Calls Tryz.prog 48 #[.pointer (some ⟨P,0,none⟩),.int .i64 (m:Int),.func (.func 49) #[.pointer (some ⟨P,0,none⟩)] #[]] w fun e w'=>FQ U V B L P S b N mp F n d lg s (.tuple #[.pointer none,.int .i64 13]) w e w':=by
 refine(gT m (s.now m) h hm (fun p=>absurd p hf) (h.pm.aI.ok m) (Fb:=fun g=>w.heap.size<=g) (fun g(E:w.heap.size<=g)=>⟨fun e=>by have:=dG h.log g e;omega,fun e=>by have:=h.pm.row.lt;omega,fun e=>by have:=h.pm.map.lt;omega⟩) (fun j w2 o J p f=>kP hC hm j p f)).mono ?_;intro e w' C;rcases C with⟨i,a,t,H1,I,G,d1,u,s1,dk,r,D,x,q,z,c,-⟩|⟨y,r,a,t,l,A,v⟩|⟨k,-⟩
 ·exact absurd c hf
 ·exact⟨r,a,t,H,l,A,v⟩
 ·exact absurd hC k
set_option maxHeartbeats 1600000 in
theorem ve{U V:Nat->Prop}{w:World}{B L P S b N hand mp n:Nat}{F:List Fr}{H:List (Option Nat)}{d:Dk.ak}{lg:Wl.S}{s:Po.S}{m:Nat}(h:cB U V w B L P S b N hand mp F H n d lg s)(hC:Wl.Calm n d)(hm:m<N)(hf:¬Po.fh s m):
 Calls Tryz.prog 23 #[.pointer (some ⟨P,0,none⟩),.int .i64 (m:Int)] w fun e w'=>FQ U V B L P S b N mp F n d lg s (.int .i64 13) w e w':=by
 have a:=dz h.pm.row (m:Int);rw[show pz N (m:Int)=0 from GU (by omega)]at a;have c:=GD a;have t:=GD h;have v:=GD hC;have r:=GD hm;have u:=GD hf;have q:∀(fn:Fn)(first cap:Array Value)(w:World),(Instr.makeFunc fn first cap).run Tryz.prog w=.ok (.func fn first cap) w:=fun _ _ _ _=>rfl;clear h hC hm hf a;go_enter Tryz.func23,Tryz.ntmps23;go_wp2_with fail
 refine c.out.mono ?_;rintro e w1⟨rfl,f⟩;have l:=GD f;have j:=GD (wV (t.out.below f) v.out r.out u.out);clear f c;go_wp2_with fail
 refine j.out.mono ?_;rintro e w2⟨rfl,g,x,H1,i,p,o⟩;have k:Hid (_/\_/\_):=⟨i,p,o⟩
 clear i p o j;go_wp2_with fail
 go_ret;exact⟨rfl,g,x,H1,k.out.1,k.out.2.1,(Touch.ax l.out).trans k.out.2.2⟩
set_option maxHeartbeats 1600000 in
theorem vg{U V:Nat->Prop}{w:World}{B L P S b N hand mp n:Nat}{F:List Fr}{H:List (Option Nat)}{d:Dk.ak}{lg:Wl.S}{s:Po.S}{m:Nat}(h:cB U V w B L P S b N hand mp F H n d lg s)(hC:Wl.Calm n d)(hm:m<N)(hf:¬Po.fh s m):
 Calls Tryz.prog 20 #[.pointer (some ⟨P,0,none⟩),.int .i64 (m:Int)] w fun e w'=>FQ U V B L P S b N mp F n d lg s (.tuple #[ed 0 (.slice none 0 0),.int .i64 13]) w e w':=by
 obtain⟨Q,D⟩:∃Q,Q=w.heap.size:=⟨_,rfl⟩
 obtain⟨W,C⟩:∃W,W=w.alloc (.cells #[.int .u64 0,.slice none 0 0] 59):=⟨_,rfl⟩
 have A:Below w.heap.size w W:=by rw[C];exact(GF _ _).alloc (GH _) _
 have q:W.heap[Q]?=some (.cells #[.int .u64 0,.slice none 0 0] 59 (0,0)):=by rw[C,D];exact GM _ _
 have c:=dz (h.below A).pm.row (m:Int);rw[show pz N (m:Int)=0 from GU (by omega)]at c;have g:=GD c;have I:=GD (h.below A);have T:=GD A;have o:=GD q;have G:=GD D;have u:=GD h;have R:=GD hC;have K:=GD hm;have M:=GD hf;have J:∀(fn:Fn)(first cap:Array Value)(w:World),(Instr.makeFunc fn first cap).run Tryz.prog w=.ok (.func fn first cap) w:=fun _ _ _ _=>rfl;clear h hC hm hf A q c;go_enter Tryz.func20,Tryz.ntmps20;go_upto_region 1 with(fail)
 rw[<-C,<-D];clear C D;go_wp2_with fail
 refine g.out.mono ?_;rintro e w1⟨rfl,k⟩;have y:=GD k;have x:=GD (wV (I.out.below k) R.out K.out M.out);clear k g;go_wp2_with fail
 refine x.out.mono ?_;rintro e w2⟨rfl,l,X,H1,f,r,p⟩;have t:¬(cr U V Q\/Q=P\/Q=mp):=fun e=>by
  have h0:=G.out;rcases e with e|e|e
  ·have:=dG u.out.log Q e;omega
  ·have:=u.out.pm.row.lt;omega
  ·have:=u.out.pm.map.lt;omega
 have a:=p.row ((y.out.block Q (GN o.out)).trans o.out) t;have c0:=ah a 0 (v:=.int .u64 0) rfl;have c1:=ah a 1 (v:=.slice none 0 0) rfl;have f0:=aC a 0;have f1:=aC a 1;have E:=aN (i:=1) (aN (i:=0) a (.int .u64 0)) (.slice none 0 0);have t4:Touch (fun j=>j=Q) w2 ((w2.setCell ⟨Q,0,none⟩ (.int .u64 0)).setCell ⟨Q,1,none⟩ (.slice none 0 0)):=(Touch.set (S:=fun j=>j=Q) Q 0 _ rfl).trans (Touch.set Q 1 _ rfl);have O:Hid (_/\_/\_/\_/\_):=⟨f,r,p,E,t4⟩
 clear f r p E t4 a t x;go_wp2_with fail
 obtain⟨f,r,p,E,t4⟩:=O.out;refine bodyPost_ret (kV _ _ Q _ _ _ rfl rfl E) rfl ?_;have Y:Q<W.heap.size:=GN o.out;refine⟨rfl,l,X,H1,f.bq t4 (fun j z e=>?_) (fun j z e=>?_),r,(((Touch.ax T.out).trans (Touch.ax y.out)).trans p).grow t4 fun j e=>GL (by have:=G.out;omega)⟩
 ·have:=dG u.out.log j z;have:=G.out;omega
 ·rw[r]at z;have:=u.out.pm.lt j z;have:=G.out;omega
theorem xG{w:World}(p:Option Addr)(m:Int)(x:Nat)(u:Value)(l:List Nat)(k:Nat)(i:1<=k)(g:aJ w u l)(a:∀W,Below w.heap.size w W->Calls Tryz.prog 47 #[.pointer p,.int .i64 m] W fun e w'=>e=.returned (.int .i64 (k:Int))/\Below W.heap.size W w'):
 Calls Tryz.prog 21 #[.pointer p,.int .i64 m,ed x u] w fun e w'=>e=.returned (.int .i64 (k:Int))/\Below w.heap.size w w':=by
 obtain⟨q,cap,hu,-⟩:=g.form;obtain⟨W,f⟩:∃W,W=w.alloc (.cells #[.int .u64 (x:Int),u] 59):=⟨_,rfl⟩
 have d:Below w.heap.size w W:=by rw[f];exact(GF _ _).alloc (GH _) _
 have b:=GD (a W d);have h:=GD d;have o:¬(k:Int)=0:=by omega
 have n:((k:Int)!=0)=true:=by simp;omega
 clear a d i g;subst hu;unfold ed;go_enter Tryz.func21,Tryz.ntmps21;go_upto_region 1 with(fail)
 rw[<-f];clear f;go_wp2_with fail
 refine b.out.mono ?_;rintro e w1⟨rfl,c⟩;have j:=GD c;clear c b;go_wp2_with fail
 go_ret;exact⟨rfl,h.out.trans (j.out.mono h.out.size)⟩
theorem xH{w:World}{P B S b N L aS hand mp:Nat}{F:List Fr}(h:aF w P B S b N L aS hand mp F){m:Int}(hm:0<=m/\m<(N:Int))(x:Nat)(u:Value)(l:List Nat)(o:aJ w u l)(hl:l.length≠500):
 Calls Tryz.prog 21 #[.pointer (some ⟨P,0,none⟩),.int .i64 m,ed x u] w fun e w'=>e=.returned (.int .i64 2)/\Below w.heap.size w w':=by
 obtain⟨q,cap,hu,-⟩:=o.form;obtain⟨Q,n⟩:∃Q,Q=w.heap.size:=⟨_,rfl⟩
 obtain⟨W,j⟩:∃W,W=w.alloc (.cells #[.int .u64 (x:Int),u] 59):=⟨_,rfl⟩
 have k:Below w.heap.size w W:=by rw[j];exact(GF _ _).alloc (GH _) _
 have g:W.heap[Q]?=some (.cells #[.int .u64 (x:Int),u] 59 (0,0)):=by rw[j,n];exact GM _ _
 have a:=dz (h.below k) m;rw[show pz N m=0 from GU hm]at a;have c:=GD a;have p:=GD k;have i:=GD g;obtain⟨z,hz⟩:∃z,z=l.length:=⟨_,rfl⟩
 have y:¬(z:Int)=500:=by omega
 have t:((z:Int)!=500)=true:=by simp;omega
 rw[<-hz]at hu;clear a k o h hm hl g hz;subst hu;unfold ed;go_enter Tryz.func21,Tryz.ntmps21;go_upto_region 1 with(fail)
 rw[<-j,<-n];clear j n;go_wp2_with fail
 refine c.out.mono ?_;rintro e w1⟨rfl,d⟩;have f:=(d.block Q (GN i.out)).trans i.out;have s:=ah f 1 (v:=.slice q z cap) rfl;have r:=GD d;clear d c f;go_wp2_with fail
 go_ret;exact⟨rfl,p.out.trans (r.out.mono p.out.size)⟩
theorem Cb(B S b N L fr mp:Nat):((((((Tryz.zeroCells100.setIfInBounds 0 (Value.pointer (some ⟨B,0,none⟩))).setIfInBounds 1 (Value.int .i64 (S:Int))).setIfInBounds 2 (Value.int .i64 (b:Int))).setIfInBounds 3 (Value.int .i64 (N:Int))).setIfInBounds 4 (Value.pointer (some ⟨L,0,none⟩))).setIfInBounds 453 (Value.int .i64 (fr:Int))).setIfInBounds 455 (Value.map (some mp))=(yS B S b N L fr 0 mp (List.replicate 64 Fr.zero)).toArray:=by kernel_rfl
def Gr(B S b N L fr:Nat)(w:World)(e:Ending)(w':World):Prop:=
 ∃P mp,e=.returned (.tuple #[.pointer (some ⟨P,0,none⟩),.int .i64 0])/\aF w' P B S b N L fr 0 mp (List.replicate 64 Fr.zero)/\dm w' mp (List.replicate N none)/\w.heap.size<=P/\w.heap.size<=mp/\P≠mp/\Below w.heap.size w w'
set_option maxHeartbeats 1600000 in
theorem vf{w:World}{B L T R n S b N a c:Nat}{d:Dk.ak}{k:Wl.Kn}{pl P:Value}{dn:Bool}(K:bc w B T R d)(M:Wl.aX n d)(hf:(kv S b N).Fits n)(I:n<=65536)(hl:aR w L k B a c pl P dn)(V:k.start≠0)(fr:Nat)(hfr:1<=fr/\fr<=64):
 Calls Tryz.prog 18 #[.pointer (some ⟨B,0,none⟩),.pointer (some ⟨L,0,none⟩),yR (kv S b N),.int .i64 (fr:Int)] w fun e w'=>Gr B S b N L fr w e w':=by
 have A:=kj.1 hf;obtain⟨W,J,s,r⟩:=th (kv S b N) w;have hs:=A.spare;have F:=A.base;have m:=GD (sj (hl.below r));have U:= @run_makeMap Tryz.prog;have H:¬(k.start:Int)=0:=by omega
 have G:((k.start:Int)==0)=false:=by simp;omega
 have p:=GD (qx (K.below r) M.sz (by omega) I (kv S b N) ⟨⟨by unfold kv;dsimp only;omega,by unfold kv;dsimp only;omega⟩,⟨by unfold kv;dsimp only;omega,by unfold kv;dsimp only;omega⟩,⟨by unfold kv;dsimp only;omega,by unfold kv;dsimp only;omega⟩⟩);have a0:=ah s 0 (v:=.int .i64 (S:Int)) rfl;have Y:=ah s 1 (v:=.int .i64 (b:Int)) rfl;have X:=ah s 2 (v:=.int .i64 (N:Int)) rfl;have HF:=GD hf;have t:=GD r;have Z:=GD hfr;have o:Hid (N<=65536):=by show _<=_;omega
 have e1:¬(fr:Int)<1:=by omega
 have e2:¬(64:Int)<(fr:Int):=by omega
 clear K M hf I hl V hfr A s r hs F;unfold yR;go_enter Tryz.func18,Tryz.ntmps18;go_upto_region 1 with(fail)
 rw[<-J];clear J;go_wp2_with fail
 refine m.out.mono ?_;rintro e w0⟨rfl,rfl⟩;clear m;go_wp2_with fail
 refine p.out.mono ?_;rintro e w1⟨l,he,-⟩;have he:=he HF.out;subst he;have h:=GD l;obtain⟨W2,g⟩:∃W2,W2=w1.alloc (.cells #[.pointer (some ⟨B,0,none⟩),.int .i64 (S:Int),.int .i64 (b:Int),.int .i64 (N:Int)] 95):=⟨_,rfl⟩
 have j:Below w1.heap.size w1 W2:=by rw[g];exact(GF _ _).alloc (GH _) _
 have f:fT W2 w1.heap.size B S b N:=by rw[g];exact GM _ _
 have x:=f.c0;have E:=f.c1;have D:=f.c2;have C:=f.c3;obtain⟨Q,z⟩:∃Q,Q=w1.heap.size:=⟨_,rfl⟩
 rw[<-z]at x E D C;have q:=GD j;clear l j f p a0 Y X;unfold Fq kv;dsimp only;go_upto_region 4 with(fail)
 rw[<-g,<-z];clear g z;go_upto_region 8 with(fail)
 go_wp2_with fail
 go_ret2
 have hz:=Cb B S b N L fr W2.heap.size;have i:w.heap.size<=W2.heap.size:=GR (GR t.out.size h.out.size) q.out.size;have hm:=Cq W2 o.out;have y:Below W2.heap.size W2 (W2.alloc (.map #[] 0)):=(GF _ _).alloc (GH _) _;have u:(W2.alloc (.map #[] 0)).heap.size=W2.heap.size+1:=by simp
 refine⟨W2.heap.size+1,W2.heap.size,rfl,⟨G9,?_⟩,?_,by omega,i,by omega,?_⟩
 ·rw[<-hz];have O:=GM (W2.alloc (.map #[] 0)) (.cells (((((((Tryz.zeroCells100.setIfInBounds 0 (Value.pointer (some ⟨B,0,none⟩))).setIfInBounds 1 (Value.int .i64 (S:Int))).setIfInBounds 2 (Value.int .i64 (b:Int))).setIfInBounds 3 (Value.int .i64 (N:Int))).setIfInBounds 4 (Value.pointer (some ⟨L,0,none⟩))).setIfInBounds 453 (Value.int .i64 (fr:Int))).setIfInBounds 455 (Value.map (some W2.heap.size))) 100);rw[u]at O;exact O
 ·exact hm.below ((GF _ _).alloc (GH _) _)
 ·exact((((t.out.trans (h.out.mono t.out.size)).trans (q.out.mono (GR t.out.size h.out.size))).trans (y.mono i)).alloc (by omega) _)
def j6(U V:Nat->Prop)(w:World)(B L:Nat)(d:Dk.ak)(lg:Wl.S):Prop:=jW U V w B L d lg/\lg.start≠0
def FF(d:Dk.ak)(lg:Wl.S):Prop:=Wl.Hd d lg/\lg.start≠0
def ea(d:Dk.ak)(a:Po.Ar)(f:Nat->Po.Pg):Prop:=∃S b N,a=kv S b N/\Rg.il (Dk.size d) S b N/\Rg.pS S b N d f
def DG(d:Dk.ak)(a:Po.Ar)(c:Nat->Po.Pg->Prop):Prop:=∃S b N,a=kv S b N/\Rg.il (Dk.size d) S b N/\Rg.uc S b N d c
theorem Cw{S b N c a d:Nat}(h:kv S b N=kv c a d):S=c/\b=a/\N=d:=by
 unfold kv at h;injection h with g f e
 exact⟨Int.ofNat_inj.1 g,Int.ofNat_inj.1 f,Int.ofNat_inj.1 e⟩
theorem rF{S b N i:Nat}:(kv S b N).Has i↔Rg.Has S b N i:=by
 unfold kv Po.Ar.Has Rg.Has;dsimp only;omega
theorem rk{U V:Nat->Prop}{w:World}{B L:Nat}{d:Dk.ak}{lg:Wl.S}(h:jW U V w B L d lg):Dk.size d<=65536:=by
 obtain⟨e,c,pl,b,-,-,a,-⟩:=h;exact a.own.size
theorem jK{U V:Nat->Prop}{w:World}{B L:Nat}{d:Dk.ak}{lg:Wl.S}(h:jW U V w B L d lg):Dk.Ok d:=by
 obtain⟨e,c,pl,b,-,-,a,-⟩:=h;exact a.own.ok
theorem jJ{U V X:Nat->Prop}{w:World}{B L P n:Nat}{d:Dk.ak}{lg:Wl.S}{s:Po.S}(h:cT j6 dM ea U V X w B L P d lg s)(c:Wl.aX n d):∃S b N hand mp F H,cB U V w B L P S b N hand mp F H n d lg s/\X=dI P mp F:=by
 obtain⟨S,b,N,hand,mp,F,H,a,f⟩:=h.own;obtain⟨l,k,m,e,g,hw⟩:=h.iK;obtain⟨rfl,rfl,rfl⟩:=Cw (a.ar.symm.trans e);rw[c.sz]at g;refine⟨S,b,N,hand,mp,F,H,⟨h.log.1,a,g,hw,by rw[<-f];exact h.off,h.fY,fun i j=>h.kz i ?_,c,by rw[<-c.sz];exact rk h.log.1⟩,f⟩;rw[a.ar];exact rF.2 j
theorem CR{U V:Nat->Prop}{w:World}{B L P S b N hand mp n:Nat}{F:List Fr}{H:List (Option Nat)}{d:Dk.ak}{lg:Wl.S}{s:Po.S}(h:cB U V w B L P S b N hand mp F H n d lg s)(a:lg.start≠0):cT j6 dM ea U V (dI P mp F) w B L P d lg s:=
 ⟨⟨h.log,a⟩,⟨S,b,N,hand,mp,F,H,h.pm,rfl⟩,⟨S,b,N,h.pm.ar,by rw[h.cy.sz];exact h.dV,h.hw⟩,h.off,h.fY,fun i c=>h.kz i (by rw[h.pm.ar]at c;exact rF.1 c)⟩
theorem gm{U V f d:Nat->Prop}{w w':World}{B L P S b N hand mp n:Nat}{F g:List Fr}{H1:List (Option Nat)}{d1:Dk.ak}{a:Wl.S}{s1:Po.S}(h:cB f d w' B L P S b N hand mp g H1 n d1 a s1)(l:Touch (fun j=>cr U V j\/j=P\/j=mp) w w')(hu:bA U f w)(k:bA V d w)(i:bA (dI P mp F) (dI P mp g) w)(c:a.start≠0):
 cA j6 dM ea U V (dI P mp F) w B L P w' d1 a s1:=
 ⟨f,d,dI P mp g,CR h c,l.mono fun j _ e=>(by
  rcases e with(e|e)|e|e
  ·exact GJ e
  ·exact GL (GJ e)
  ·exact GL (GL (GJ e))
  ·exact GL (GL (GL (GJ e)))),hu,k,i⟩
theorem gL{X a:Nat->Prop}{w:World}(h:a=X):bA X a w:=fun j b=>GJ (by rw[<-h];exact b)
theorem Ai{X T:Nat->Prop}{w w':World}{B L P:Nat}{s:Po.S}(h:dM X w B L P s)(a:Touch T w w')(hs:∀i,X i->¬T i):dM X w' B L P s:=by
 obtain⟨S,b,N,hand,mp,F,H,c,rfl⟩:=h;exact⟨S,b,N,hand,mp,F,H,c.bq a hs,rfl⟩
theorem DE{X:Nat->Prop}{w:World}{B L P:Nat}{s:Po.S}(h:dM X w B L P s):∀i,X i->i<w.heap.size:=by
 obtain⟨S,b,N,hand,mp,F,H,a,rfl⟩:=h;exact a.lt
theorem Aj{X:Nat->Prop}{w:World}{B L P:Nat}{s:Po.S}(h:dM X w B L P s):Po.Good s:=by
 obtain⟨S,b,N,hand,mp,F,H,a,rfl⟩:=h;exact a.aI
theorem sN{d:Dk.ak}{a:Po.Ar}{n:Nat}(hs:Dk.size d=n)(hf:a.Fits n)(h:∀i,a.Has i->d.waits.getD i none=none/\d.aL.getD i []=Dk.blank):ea d a fun _=>Po.blank:=by
 obtain⟨S,b,N,rfl⟩:=Bu hf;exact⟨S,b,N,rfl,by rw[hs];exact kj.1 hf,Rg.ya (fun i c=>(h i (rF.2 c)).1) fun i c=>(h i (rF.2 c)).2⟩
theorem DF{U V X:Nat->Prop}{w:World}{B L P n:Nat}{d:Dk.ak}{lg:Wl.S}{s:Po.S}(m:Nat)(h:cT j6 dM ea U V X w B L P d lg s)(hC:Wl.Calm n d)(hs:lg.stop<=1000000000000)(hm:(m:Int)<s.ar.cg)(hf:Po.fh s m):
 Calls Tryz.prog 20 #[.pointer (some ⟨P,0,none⟩),.int .i64 (m:Int)] w fun e w'=>
 ∃u D c x,e=.returned (.tuple #[ed (s.now m).1 u,.int .i64 0])/\Own w.heap.size w' u (s.now m).2/\mJ j6 dM ea U V X w B L P w' D c x u/\Wl.Calm n D/\Po.Lf lg c/\Po.qI s x/\m∈x.held/\((∀k,s.first k=none)->D=d/\c=lg):=by
 obtain⟨S,b,N,hand,mp,F,H,q,rfl⟩:=jJ h (Wl.dy hC (jK h.log.1));rw[q.pm.ar]at hm;refine(xL q hC hs (by have hm:(m:Int)<(N:Int):=hm;omega) hf).mono ?_;rintro e w'⟨u,i,C,T,H1,R,Q,d1,y,s1,M,K,⟨W,I,p,A,a,o,l,E,v,t,r,f⟩,z⟩;obtain⟨U2,V2,X2,g1,g2,g3,Z,Y⟩:=gm a E v t r (by rw[l.start];exact h.log.2);refine⟨u,d1,y,s1,M,K,⟨R,Q,dI P mp T,CR a (by rw[l.start];exact h.log.2),E.mono fun j _ e=>(by
  rcases e with(e|e)|e|e
  ·exact GJ e
  ·exact GL (GJ e)
  ·exact GL (GL (GJ e))
  ·exact GL (GL (GL (GJ e)))),v,t,r,fun g J e=>?_⟩,o hC,l,A,p,f⟩
 obtain⟨G,O⟩:=z g J;rcases e with e|e|e
 ·exact G (GJ e)
 ·exact G (GL e)
 ·exact O e
theorem DD{U V X:Nat->Prop}{w:World}{B L P n:Nat}{d:Dk.ak}{lg:Wl.S}{s:Po.S}(m:Nat)(h:cT j6 dM ea U V X w B L P d lg s)(hC:Wl.Calm n d)(hs:lg.stop<=1000000000000)(hm:(m:Int)<s.ar.cg)(hf:Po.fh s m)(hp:s.pins m<=1000000):
 Calls Tryz.prog 23 #[.pointer (some ⟨P,0,none⟩),.int .i64 (m:Int)] w fun e w'=>
 e=.returned (.int .i64 0)/\∃t c r,cA j6 dM ea U V X w B L P w' t c r/\Wl.Calm n t/\Po.Lf lg c/\Po.Pinned s m r:=by
 obtain⟨S,b,N,hand,mp,F,H,i,rfl⟩:=jJ h (Wl.dy hC (jK h.log.1));rw[i.pm.ar]at hm;refine(xJ i hC hs (by have hm:(m:Int)<(N:Int):=hm;omega) hf hp).mono ?_;rintro e w'⟨q,z,H1,y,x,d1,j,s1,v,g,a,f,k,u,p,o,l⟩;exact⟨v,d1,j,s1,gm g u p o l (by rw[f.start];exact h.log.2),a hC,f,k⟩
theorem DC{U V X:Nat->Prop}{w:World}{B L P n:Nat}{d:Dk.ak}{lg:Wl.S}{s:Po.S}(m:Nat)(x:Po.Pg)(u:Value)(h:cT j6 dM ea U V X w B L P d lg s)(R:Wl.aX n d)(hs:lg.stop<=1000000000000)(hm:(m:Int)<s.ar.cg)(hf:Po.fh s m)(O:Po.cX x)(T:aJ w u x.2)(hl:x.1<lg.stop):
 Calls Tryz.prog 21 #[.pointer (some ⟨P,0,none⟩),.int .i64 (m:Int),ed x.1 u] w fun e w'=>
 (∃f a I,e=.returned (.int .i64 0)/\cA j6 dM ea U V X w B L P w' f a I/\Wl.aX n f/\(Wl.Calm n d->Wl.Calm n f)/\Po.Lf lg a/\Po.kJ s m x I)\/
 (¬Wl.Calm n d/\e=.returned (.int .i64 6)/\∃r f a c,m7 r w' B f/\Wl.aX n f/\Touch (aB U V X) w w'/\bA U r w/\Po.Lf lg a/\(∀k x,c k x->(x=s.bH k\/x=s.now k)/\x.1<a.ag)/\∀o,FF (Dk.aQ f o) a/\DG (Dk.aQ f o) s.ar c):=by
 obtain⟨S,b,N,hand,mp,F,H,i,rfl⟩:=jJ h R;have q:=i.pm.ar;rw[q]at hm;refine(og i (fun _=>hs) (by have hm:(m:Int)<(N:Int):=hm;omega) x u O T fun _=>hl).mono ?_;intro e w' W;rcases W with⟨E,F1,H1,U1,V1,d1,t,s1,G,g,l,p,v,-,Q,D,C,A⟩|⟨y,-⟩|⟨z,G,r,f,a,c,e2,M,e4,Z,K,Y,J⟩
 ·exact GJ ⟨d1,t,s1,G,gm g Q D C A (by rw[p.start];exact h.log.2),g.cy,l,p,v⟩
 ·exact absurd hf y
 ·refine GL ⟨z,G,r,f,a,c,e2,M,e4.mono fun j _ e=>?_,Z,K,Y,fun o=>⟨⟨(J o).1,by rw[K.start];exact h.log.2⟩,S,b,N,q,by rw[(M.aQ o).sz];exact i.dV,(J o).2⟩⟩;rcases e with(e|e)|e|e
  ·exact GJ e
  ·exact GL (GJ e)
  ·exact GL (GL (GJ e))
  ·exact GL (GL (GL (GJ e)))
theorem Ak{U V X:Nat->Prop}{w:World}{B L P n:Nat}{d:Dk.ak}{lg:Wl.S}{s:Po.S}(m:Nat)(h:cT j6 dM ea U V X w B L P d lg s)(M:Wl.aX n d)(hs:lg.stop<=1000000000000)(hm:(m:Int)<s.ar.cg):
 Calls Tryz.prog 25 #[.pointer (some ⟨P,0,none⟩),.int .i64 (m:Int)] w fun e w'=>
 (∃f a E,e=.returned (.int .i64 0)/\cA j6 dM ea U V X w B L P w' f a E/\Wl.aX n f/\(Wl.Calm n d->Wl.Calm n f)/\Po.Lf lg a/\Po.iE s m E)\/
 (¬Wl.Calm n d/\e=.returned (.int .i64 6)/\∃r f a c,m7 r w' B f/\Wl.aX n f/\Touch (aB U V X) w w'/\bA U r w/\Po.Lf lg a/\(∀k x,c k x->(x=s.bH k\/x=s.now k)/\x.1<a.ag)/\∀o,FF (Dk.aQ f o) a/\DG (Dk.aQ f o) s.ar c):=by
 obtain⟨S,b,N,hand,mp,F,H,i,rfl⟩:=jJ h M;have q:=i.pm.ar;rw[q]at hm;refine(sU i hs (by have hm:(m:Int)<(N:Int):=hm;omega)).mono ?_;intro e w' O;rcases O with⟨C,F1,H1,Z,Y,d1,t,s1,D,g,l,p,u,K,A,z,y⟩|⟨v,D,r,f,a,c,W,J,T,R,I,Q,G⟩
 ·exact GJ ⟨d1,t,s1,D,gm g (K.mono fun j _ e=>e.elim GJ fun e=>GL (GJ e)) A z (gL y) (by rw[p.start];exact h.log.2),g.cy,l,p,u⟩
 ·refine GL ⟨v,D,r,f,a,c,W,J,T.mono fun j _ e=>?_,R,I,Q,fun o=>⟨⟨(G o).1,by rw[I.start];exact h.log.2⟩,S,b,N,q,by rw[(J.aQ o).sz];exact i.dV,(G o).2⟩⟩;rcases e with(e|e)|e
  ·exact GJ e
  ·exact GL (GJ e)
  ·exact GL (GL (GJ e))
theorem B8{U V:Nat->Prop}{w:World}{B L n:Nat}{d:Dk.ak}{lg:Wl.S}{a:Po.Ar}{f:Nat->Po.Pg}(h:j6 U V w B L d lg)(hC:Wl.Calm n d)(hf:a.Fits n)(hw:ea d a f):
 Calls Tryz.prog 19 #[.pointer (some ⟨B,0,none⟩),yR a] w fun e w'=>e=.returned (.int .i64 0)/\∃s i,j6 s V w' B L i lg/\Wl.Calm n i/\ea i a f/\Touch U w w'/\bA U s w:=by
 have g:=h.2;have h:=h.1;obtain⟨S,b,N,rfl,x,hw⟩:=hw;have o:=Wl.dy hC (jK h);have c:=rk h;obtain⟨l,k,pl,t,C,q,A,z,p,y⟩:=h;refine(BB A o hf (by rw[<-o.sz];exact c)).mono ?_;rintro e w'⟨r,hp,m⟩;have hm:=Rg.xV hC.off hw;rw[hm]at r hp;subst z;refine⟨r,DS B l k,d,⟨⟨l,k,pl,t,C.bq m fun j u v=>p j v (by rw[q];exact u),q,hp,rfl,p,y⟩,g⟩,hC,⟨S,b,N,rfl,x,hw⟩,m,fun _ h=>GJ h⟩
theorem vv(N:Nat):bO (List.replicate N none)=[]:=by
 refine Hk ?_;rw[eX];simp
theorem rK(i:Nat):fa (List.replicate 64 Fr.zero) i=Fr.zero:=by
 unfold fa;exact Dk.dx _ _ _
theorem sg{V:Nat->Prop}{U:Nat->Prop}{w:World}{B L:Nat}{d:Dk.ak}{lg:Wl.S}(h:jW U V w B L d lg):∃pl a,aR w L (Wl.kn lg) B lg.at_ lg.count pl a false:=by
 obtain⟨e,c,pl,a,b,-⟩:=h;exact⟨pl,a,b.log⟩
theorem B9{U V:Nat->Prop}{w:World}{B L n:Nat}{d:Dk.ak}{lg:Wl.S}{a:Po.Ar}{f:Nat->Po.Pg}(fr:Nat)(h:j6 U V w B L d lg)(hC:Wl.Calm n d)(hf:a.Fits n)(q:∀k,Po.cX (f k))(v:1<=fr)(C:fr<=64):
 Calls Tryz.prog 18 #[.pointer (some ⟨B,0,none⟩),.pointer (some ⟨L,0,none⟩),yR a,.int .i64 (fr:Int)] w fun e w'=>
 ∃P X,e=.returned (.tuple #[.pointer (some ⟨P,0,none⟩),.int .i64 0])/\dM X w' B L P (Po.fresh f fr a)/\(∀i,X i->w.heap.size<=i)/\Below w.heap.size w w':=by
 have p:=h.2;have h:=h.1;obtain⟨S,b,N,rfl⟩:=Bu hf;have A:=Wl.dy hC (jK h);have c:=rk h;have F:=kj.1 hf;have u:=F.base;obtain⟨pl,I,o⟩:=sg h;obtain⟨K,J,-,-,-,-,G,-⟩:=h;rw[A.sz]at c;refine(vf G A hf c o p fr ⟨v,C⟩).mono ?_;rintro e w'⟨P,mp,H,l,m,E,s,r,D⟩;have M:(Po.fresh f fr (kv S b N)).held=[]:=rfl;refine⟨P,dI P mp (List.replicate 64 Fr.zero),H,⟨S,b,N,0,mp,_,_,⟨l,m,G9,rfl,⟨v,C⟩,v,by rw[vv];rfl,fun k i x=>?_,fun i t=>absurd t (Ii i),fun i t=>absurd t (Ii i),fun i _=>rK i,Po.kW q,by omega,r,fun i g z=>?_⟩,rfl⟩,?_,D⟩
 ·rw[Dk.dx]at x;cases x
 ·rw[rK]at z;cases z
 ·rintro i(rfl|rfl|⟨j,y⟩)
  ·exact E
  ·exact s
  ·rw[rK]at y;cases y
section
variable{U V X:Nat->Prop}{w:World}{B L P n:Nat}{d:Dk.ak}{lg:Wl.S}{s:Po.S}
theorem mi(h:cT j6 dM ea U V X w B L P d lg s):∃S b N hand mp F H,dN w B L P S b N hand mp F H s:=by
 obtain⟨S,b,N,hand,mp,F,H,a,-⟩:=h.own;exact⟨S,b,N,hand,mp,F,H,a⟩
theorem uZ(m:Int)(h:cT j6 dM ea U V X w B L P d lg s)(hm:¬s.Has m):Calls Tryz.prog 20 #[.pointer (some ⟨P,0,none⟩),.int .i64 m] w fun e w'=>e=.returned (.tuple #[ed 0 (.slice none 0 0),.int .i64 2])/\Below w.heap.size w w':=by
 obtain⟨S,b,N,hand,mp,F,H,a⟩:=mi h;exact xK _ m 2 (by decide) (nk a.row (by unfold Po.S.Has at hm;rw[a.ar]at hm;exact hm))
theorem uY(m:Int)(h:cT j6 dM ea U V X w B L P d lg s)(hm:¬s.Has m):Calls Tryz.prog 23 #[.pointer (some ⟨P,0,none⟩),.int .i64 m] w fun e w'=>e=.returned (.int .i64 2)/\Below w.heap.size w w':=by
 obtain⟨S,b,N,hand,mp,F,H,a⟩:=mi h;exact xI _ m 2 (by decide) (nk a.row (by unfold Po.S.Has at hm;rw[a.ar]at hm;exact hm))
theorem rh(m:Int)(h:cT j6 dM ea U V X w B L P d lg s)(hm:¬s.Has m):Calls Tryz.prog 25 #[.pointer (some ⟨P,0,none⟩),.int .i64 m] w fun e w'=>e=.returned (.int .i64 2)/\Below w.heap.size w w':=by
 obtain⟨S,b,N,hand,mp,F,H,a⟩:=mi h;exact sT _ m 2 (by decide) (nk a.row (by unfold Po.S.Has at hm;rw[a.ar]at hm;exact hm))
theorem uX(m:Int)(k:Nat)(l:List Nat)(u:Value)(h:cT j6 dM ea U V X w B L P d lg s)(f:aJ w u l)(hm:¬s.Has m\/l.length≠500):Calls Tryz.prog 21 #[.pointer (some ⟨P,0,none⟩),.int .i64 m,ed k u] w fun e w'=>e=.returned (.int .i64 2)/\Below w.heap.size w w':=by
 obtain⟨S,b,N,hand,mp,F,H,c⟩:=mi h;by_cases a:0<=m/\m<(N:Int)
 ·refine xH c.row a k u l f (hm.resolve_left fun g=>g ?_);unfold Po.S.Has;rw[c.ar];exact a
 ·exact xG _ m k u l 2 (by decide) f (nk c.row a)
theorem pM(m:Int)(h:cT j6 dM ea U V X w B L P d lg s)(hI:bF m)(hm:s.Has m->s.pins m.toNat=0):Calls Tryz.prog 24 #[.pointer (some ⟨P,0,none⟩),.int .i64 m] w fun e w'=>e=.returned (.int .i64 7)/\Below w.heap.size w w':=by
 obtain⟨S,b,N,hand,mp,F,H,a⟩:=mi h;refine rj a m hI fun c=>hm ?_;unfold Po.S.Has;rw[a.ar];exact c
theorem Ca(h:cT j6 dM ea U V X w B L P d lg s):Calls Tryz.prog 11 #[.pointer (some ⟨P,0,none⟩)] w fun e w'=>∃v,e=.returned v/\Ints.Own w.heap.size w' v (s.held.map fun k:Nat=>(k:Int))/\Below w.heap.size w w':=by
 obtain⟨S,b,N,hand,mp,F,H,a⟩:=mi h;rw[a.held];exact oi a.row a.map
theorem B7(m:Nat)(h:cT j6 dM ea U V X w B L P d lg s)(hC:Wl.Calm n d)(hm:(m:Int)<s.ar.cg):Calls Tryz.prog 12 #[.pointer (some ⟨P,0,none⟩),.int .i64 (m:Int)] w fun e w'=>e=.returned (.int .i64 (s.pins m:Int))/\∃q,w'=w.drewN q:=by
 obtain⟨S,b,N,hand,mp,F,H,a,-⟩:=jJ h (Wl.dy hC (jK h.log.1));rw[a.pm.ar]at hm;refine(vd a (by have hm:(m:Int)<(N:Int):=hm;omega)).mono ?_;rintro e w'⟨f,c⟩;exact⟨f,0,c⟩
theorem Ah(m:Nat)(h:cT j6 dM ea U V X w B L P d lg s)(hC:Wl.Calm n d)(hm:(m:Int)<s.ar.cg)(h0:0<s.pins m)(hp:s.pins m<=1000000):Calls Tryz.prog 24 #[.pointer (some ⟨P,0,none⟩),.int .i64 (m:Int)] w fun e w'=>
 e=.returned (.int .i64 0)/\cA j6 dM ea U V X w B L P w' d lg (Po.iN s m):=by
 obtain⟨S,b,N,hand,mp,F,H,c,rfl⟩:=jJ h (Wl.dy hC (jK h.log.1));rw[c.pm.ar]at hm;refine(sQ c (by have hm:(m:Int)<(N:Int):=hm;omega) h0 hp).mono ?_;rintro e w'⟨i,f,j,a,g⟩;exact⟨i,gm a (f.mono fun _ _ e=>GL (GJ e)) (fun _ h=>GJ h) (fun _ h=>GJ h) (gL g) h.log.2⟩
theorem sO(m:Nat)(h:cT j6 dM ea U V X w B L P d lg s)(hC:Wl.Calm n d)(hm:(m:Int)<s.ar.cg)(hf:¬Po.fh s m):Calls Tryz.prog 20 #[.pointer (some ⟨P,0,none⟩),.int .i64 (m:Int)] w fun e w'=>
 e=.returned (.tuple #[ed 0 (.slice none 0 0),.int .i64 13])/\cA j6 dM ea U V X w B L P w' d lg s:=by
 obtain⟨S,b,N,hand,mp,F,H,c,rfl⟩:=jJ h (Wl.dy hC (jK h.log.1));rw[c.pm.ar]at hm;refine(vg c hC (by have hm:(m:Int)<(N:Int):=hm;omega) hf).mono ?_;rintro e w'⟨j,f,k,H1,a,i,g⟩;exact⟨j,gm a g (fun _ h=>GJ h) (fun _ h=>GJ h) (gL i) h.log.2⟩
theorem sM(m:Nat)(h:cT j6 dM ea U V X w B L P d lg s)(hC:Wl.Calm n d)(hm:(m:Int)<s.ar.cg)(hf:¬Po.fh s m):Calls Tryz.prog 23 #[.pointer (some ⟨P,0,none⟩),.int .i64 (m:Int)] w fun e w'=>
 e=.returned (.int .i64 13)/\cA j6 dM ea U V X w B L P w' d lg s:=by
 obtain⟨S,b,N,hand,mp,F,H,c,rfl⟩:=jJ h (Wl.dy hC (jK h.log.1));rw[c.pm.ar]at hm;refine(ve c hC (by have hm:(m:Int)<(N:Int):=hm;omega) hf).mono ?_;rintro e w'⟨j,f,k,H1,a,i,g⟩;exact⟨j,gm a g (fun _ h=>GJ h) (fun _ h=>GJ h) (gL i) h.log.2⟩
theorem sL(m:Nat)(x:Po.Pg)(u:Value)(h:cT j6 dM ea U V X w B L P d lg s)(hC:Wl.Calm n d)(hm:(m:Int)<s.ar.cg)(hf:¬Po.fh s m)(o:Po.cX x)(v:aJ w u x.2):Calls Tryz.prog 21 #[.pointer (some ⟨P,0,none⟩),.int .i64 (m:Int),ed x.1 u] w fun e w'=>
 e=.returned (.int .i64 13)/\cA j6 dM ea U V X w B L P w' d lg s:=by
 obtain⟨S,b,N,hand,mp,F,H,f,rfl⟩:=jJ h (Wl.dy hC (jK h.log.1));rw[f.pm.ar]at hm;refine(og f (fun j=>absurd j hf) (by have hm:(m:Int)<(N:Int):=hm;omega) x u o v fun j=>absurd j hf).mono ?_;intro e w' y;rcases y with⟨c,z,H1,C,A,d1,l,s1,k,a,i,r,q,hfr,-⟩|⟨-,k,c,z,H1,a,t,p⟩|⟨g,-⟩
 ·exact absurd hfr hf
 ·exact⟨k,gm a p (fun _ h=>GJ h) (fun _ h=>GJ h) (gL t) h.log.2⟩
 ·exact absurd hC g
end
def pU(a:List Nat->List Fr)(H:List (Option Nat)):List Nat->List Nat->List Nat
 |pre,[]=>pre
 |pre,k::r=>pU a H (if(fa (a pre) ((H.getD k none).getD 0)).aD then pre++[(H.getD k none).getD 0]else pre) r
def Eo(P B S b N L aS mp Q:Nat)(H:List (Option Nat))(a:List Nat->List Fr)(pre:List Nat)(W:World):Prop:=
 (∃hand,aF W P B S b N L aS hand mp (a pre))/\dm W mp H/\W.cell? ⟨Q,0,none⟩=some (.pointer (some ⟨P,0,none⟩))
def F6(H:List (Option Nat))(a:List Nat->List Fr)(pre:List Nat)(i:Nat):Prop:=(∃k,H.getD k none=some i/\(fa (a pre) i).aD=true)/\pre.length<65536
theorem oQ{W a:World}(h:Below W.heap.size W a):W.grownBy a none:=⟨h.os,h.tape,h.output,h.size,fun k b _=>h.block k b⟩
attribute [local go_sem] Oper.semAt_some in
set_option maxRecDepth 100000 in
set_option maxHeartbeats 4000000 in
theorem sR(P B S b N L aS mp Q:Nat)(H:List (Option Nat))(y:List Nat->List Fr)(w:World)(n:Nat)(hn:1<=n):
 EW Fence.wide n Tryz.prog 80 #[.pointer (some ⟨Q,0,none⟩)] (fun i:Nat=>#[.pointer (some ⟨P,5+i*7,none⟩)]) (Eo P B S b N L aS mp Q H y) (F6 H y) (fun xs=>xs=pU y H [] (bO H)) w:=by
 intro l J X W hW hJ hV ak hY h0;refine callsIn_of_wp Tryz.func80 rfl trivial ?_ rfl;simp only[Tryz.ntmps80,Ir,G2,Hz,Nat.reduceAdd,Nat.reduceSub,IT,IS,I3,IW,Hg,Iy];obtain⟨⟨ax,C⟩,D,aw⟩:=hV X [] W h0;have af:=GD (oi C D);have HJ:=GD hJ;have HV:=GD hV;have az:=GD ak;have HY:=GD hY;have H0:=GD h0;have HW:=GD hW;clear hJ hV ak hY h0 hW C D;obtain⟨f,E⟩:∃f,f=bO H:=⟨_,rfl⟩
 have aB:=GD E;have aC:Hid (∀k,k∈f->∃i,H.getD k none=some i):=fun k M=>by
  rw[E]at M;have h1:=(cE H k).1 M;cases e:H.getD k none with
  |none=>exact absurd e h1
  |some i=>exact⟨i,rfl⟩
 have aE:Hid (∀k,k∈f->k<H.length):=fun k M=>(jk H).2 k (by rw[<-E];exact M);rw[<-E]at af⊢;clear E;gi_wp2_with (refine⟨trivial,?_⟩;gi_at_call 11;refine(callsIn_wide.2 af.out).mono ?_;rintro e w1⟨v,rfl,hO,hb⟩;obtain⟨p,cap,Y,-,-,K⟩:=hO.aP.form;have HO:=GD hO;have HB:=GD hb;have HC:=GD K;have al:=GD Y;rw[Hb]at Y;subst Y;clear hO hb K af)
 obtain⟨len,hlen⟩:∃len,len=f.length:=⟨_,rfl⟩
 have t:=GD hlen;have HG:Hid (∃G,(0<len->p=some ⟨G,0,none⟩/\W.heap.size<=G/\G<w1.heap.size)/\∀j,j<len->w1.cell? ⟨G,j,none⟩=some (.int .i64 ((f.getD j 0:Nat):Int))):=by
  show∃G,_;have O:(f.map fun x:Nat=>(x:Int)).length=f.length:=Hb ..;rcases HO.out.form with⟨-,e0⟩|⟨g,c,Y,au,-,-,m⟩
  ·have h0:f.length=0:=by rw[<-O,e0];rfl
   exact⟨0,fun h=>absurd h (by omega),fun j h=>absurd h (by omega)⟩
  ·rw[al.out,O]at Y;simp only[Hc]at Y;obtain⟨cur,aj,-⟩:=m;refine⟨g,fun _=>⟨Y.1,au,GN aj⟩,fun j hj=>?_⟩;obtain⟨b0,aG,e1,hc⟩:=HC.out (by rw[O];omega);rw[Y.1]at e1;simp only[GO,Im,Jj]at e1;have h2:=hc j (by rw[O];omega);rw[<-e1.1,<-e1.2,H8]at h2;rw[h2];simp only[GG,Je];rw[GS (show j<f.length by omega)];rfl
 obtain⟨G,hG,ay⟩:=HG.out;have ag:=GD hG;have aF:Hid (J X [] w1):=HJ.out X [] W w1 H0.out (oQ HB.out);have aA:Hid (∀i,X i->i<W.heap.size):=az.out X [] W H0.out;rw[<-hlen];clear hG HG hlen HC HO al;gi_loopw [9] (fun i wr=>∃(j:Nat)(X1:Nat->Prop)(pre:List Nat),j<=len/\i=.int .i64 j/\J X1 pre wr/\(0<len->¬X1 G/\G<wr.heap.size)/\pU y H pre (f.drop j)=pU y H [] f/\(∀j,j<len->wr.cell? ⟨G,j,none⟩=some (.int .i64 ((f.getD j 0:Nat):Int)))/\pre.length<=j) (fun i _=>len-(intOf i).toNat)
 case atStart=>exact⟨0,X,[],G7 _,rfl,aF.out,fun h=>⟨fun hx=>by have:=aA.out G hx;have:=(ag.out h).2.1;omega,(ag.out h).2.2⟩,rfl,ay,GH 0⟩
 case round=>
  obtain⟨j,X1,pre,hj,rfl,r,U,z,I,Z⟩:=hrel;by_cases hlt:j<len
  case neg=>
   clear Z;obtain rfl:j=len:=by omega
   gi_wp2
   go_end0
   rw[Jb (by have:=t.out;omega)]at z;exact⟨⟨_,rfl⟩,pre,X1,z,r⟩
  have F:j<f.length:=by have:=t.out;omega
  obtain⟨k,M⟩:∃k,k=f.getD j 0:=⟨_,rfl⟩
  have R:f.getD j 0=f[j]:=by rw[GG,GS F];rfl
  have s:k∈f:=by rw[M,R];exact Ie F
  have q:f.drop j=k::f.drop (j+1):=by rw[M,R];exact List.drop_eq_getElem_cons F
  obtain⟨i,hi⟩:=aC.out k s;obtain⟨⟨hand,m⟩,o,aH⟩:=HV.out X1 pre wr r;have ai:=aE.out k s;have aa:=o.len;have hfr:=dT m o (k:Int) (by omega);have ab:=o.small (a:=(k:Int)) (by omega) (by omega) (by rw[kU];exact hi);rw[kU,hi]at hfr;have av:=I j hlt;rw[<-M]at av;have k4:=m.fr ab 4 (by decide) (v:=.bool (fa (y pre) i).aD) rfl;have ar:=ag.out (by omega);obtain⟨hp,aL,aK⟩:=ar;subst hp;have ao:f.length<=65536:=by rw[aB.out,eX];exact GR List.countP_le_length aa
  have aI:=GW ((j:Int)+1) (by have:=t.out;omega);have ae:Hid (pre.length<65536/\pre.length<=j):=⟨by have:=t.out;omega,Z⟩
  clear ao Z;have aJ:(j:Int)<(len:Int):=by omega
  have d:pU y H pre (f.drop j)=pU y H (if(fa (y pre) i).aD then pre++[i]else pre) (f.drop (j+1)):=by
   rw[q];show pU y H (if(fa (y pre) ((H.getD k none).getD 0)).aD then pre++[(H.getD k none).getD 0]else pre) _=_;rw[hi];rfl
  rw[z]at d;cases hd:(fa (y pre) i).aD with
  |true=>
   rw[hd]at k4;rw[hd,GU rfl]at d;obtain⟨fn,tmps,assign,body,hy,hR⟩:=HY.out X1 pre i wr r ⟨⟨k,hi,hd⟩,ae.out.1⟩;have ad:=GD d;have an:=GD r;have u:=GD U;have ah:=GD I;clear d r U I z M R s q hi ai aa ab m o hd F;gi_wp2_with (refine⟨trivial,?_⟩;gi_at_call 41;refine(callsIn_wide.2 hfr).mono ?_;rintro e w'⟨rfl,rfl⟩;unfold wO;dsimp only)
   refine hR.mono ?_;rintro e W3⟨rfl,X',V,A,T⟩;have HE:Hid (_/\_/\_):=⟨V,A,T⟩
   clear V A T hR hy;gi_wp2
   go_roundw
   case rel=>
    obtain⟨V,A,T⟩:=HE.out;refine⟨j+1,X',pre++[i],hlt,by go_num,V,fun h=>⟨fun hx=>?_,?_⟩,ad.out.symm,fun j' aq=>?_,by have:=ae.out.2;rw[GI,I1];omega⟩
    ·rcases T G hx with h1|h1
     ·exact(u.out h).1 h1
     ·have:=(u.out h).2;omega
    ·exact Hh (u.out h).2 A.size
    ·exact A.cell (ah.out j' aq) (u.out (by omega)).1
   case measure=>simp[intOf];omega
  |false=>
   rw[hd]at k4;rw[hd,GQ (by decide)]at d;have ad:=GD d;have an:=GD r;have u:=GD U;have ah:=GD I;clear d r U I z M R s q hi ai aa ab m o hd F;gi_wp2_with (refine⟨trivial,?_⟩;gi_at_call 41;refine(callsIn_wide.2 hfr).mono ?_;rintro e w'⟨rfl,rfl⟩;unfold wO;dsimp only)
   refine⟨fun _ h=>(by cases h),?_⟩;gi_wp2
   go_roundw
   case rel=>exact⟨j+1,X1,pre,hlt,by go_num,an.out,u.out,ad.out.symm,ah.out,by have:=ae.out.2;omega⟩
   case measure=>simp[intOf];omega
def Kind(W:World)(i:Nat):Prop:=∃o,W.heap[i]?=some o/\(o.isCells=true\/o.isWalk=true)
theorem dh{W:World}{i:Nat}{cs:Array Value}{t:TypeId}{f:Nat×Nat}(h:W.heap[i]?=some (.cells cs t f)):Kind W i:=⟨_,h,GJ rfl⟩
theorem tk{W:World}{base:Nat}{e:TypeId}{size:Nat}{v:Value}{k:Nat}{xs:List Value}(h:W.ownsRow base e size v k xs):∀i,v.ownBlock=some i->Kind W i:=fun i a=>by
 rcases h.2 with⟨b,-⟩|⟨g,cap,cur,b,-,c,-⟩
 ·rw[b]at a;cases a
 ·rw[b]at a;simp only[Value.ownBlock,GO]at a;subst a;exact dh c
theorem AV{W:World}{v:Value}{l:List Nat}(h:aJ W v l)(h0:0<l.length):∀i,v.ownBlock=some i->Kind W i:=fun i a=>by
 obtain⟨p,cap,b,-,-,hp⟩:=h.form;obtain⟨f,off,rfl,c⟩:=hp h0;rw[b]at a;simp only[Value.ownBlock,GO]at a;subst a;obtain⟨o,e,d⟩:=cells_of_cell (c 0 h0);exact⟨o,e,GJ d⟩
theorem wG{U V:Nat->Prop}{W:World}{B L P S b N hand mp n:Nat}{F:List Fr}{H:List (Option Nat)}{d:Dk.ak}{lg:Wl.S}{s:Po.S}(h:cB U V W B L P S b N hand mp F H n d lg s):∀i,cr U V i\/dI P mp F i->Kind W i:=by
 obtain⟨m,l,pl,k,c,rfl,g,rfl,-⟩:=h.log;rintro i((a|a)|a)
 ·rcases a with rfl|rfl|rfl
  ·exact dh g.eC
  ·obtain⟨es,clock,e,-⟩:=g.aL.own;exact⟨_,e,GL rfl⟩
  ·obtain⟨es,clock,e,-⟩:=g.waits.own;exact⟨_,e,GL rfl⟩
 ·rcases a with rfl|a|a
  ·exact dh c.log
  ·exact tk c.Ez i a
  ·exact tk c.CO.own i a
 ·rcases a with rfl|rfl|⟨j,f⟩
  ·exact dh h.pm.row.row
  ·obtain⟨es,clock,e,-⟩:=h.pm.map.own;exact⟨_,e,GL rfl⟩
  ·rcases Hi j s.held.length with hl|hl
   ·exact AV (h.pm.fr j hl).body (by rw[(h.pm.aI.ok _).2.1];decide) i f
   ·rw[h.pm.rest j hl]at f;cases f
theorem eF{W:World}{i l:Nat}{o:Obj}(h:Kind W i)(hl:W.heap[l]?=some o)(d:o.isCells=false)(c:o.isWalk=false):i≠l:=fun e=>by
 obtain⟨f,b,a⟩:=h;rw[e,hl]at b;cases b;rcases a with a|a
 ·rw[d]at a;cases a
 ·rw[c]at a;cases a
theorem gq(W:World)(l:Nat)(o:Obj):Touch (·=l) W (W.putObj l o):=⟨rfl,rfl,rfl,by simp[World.putObj],fun i _ a=>World.putObj_heap_other a⟩
theorem mM{W a:World}(h:W.grownBy a none):Touch (fun _=>False) W a:=⟨h.os,h.tape,h.output,h.size,fun i b _=>h.block i b (fun e=>by cases e)⟩
def mB(F:List Fr)(pre:List Nat):List Fr:=pre.foldl (fun F i=>F.set i {fa F i with aD:=false}) F
theorem lV(F:List Fr)(pre:List Nat)(i:Nat):mB F (pre++[i])=(mB F pre).set i {fa (mB F pre) i with aD:=false}:=by
 unfold mB;rw[List.foldl_append];rfl
theorem DV(F:List Fr){i:Nat}(h:F.length<=i):fa F i=Fr.zero:=by
 unfold fa;rw[GG,He h];rfl
theorem yx(F:List Fr)(i j:Nat)(h:(fa F j).aD=false):(fa (F.set i {fa F i with aD:=false}) j).aD=false:=by
 rcases Hi i F.length with a|a
 ·rw[bW F a];split
  ·rfl
  ·exact h
 ·rw[List.set_eq_of_length_le a];exact h
theorem Bj(F:List Fr)(i:Nat):(fa (F.set i {fa F i with aD:=false}) i).aD=false:=by
 rcases Hi i F.length with a|a
 ·rw[bW F a,GU rfl]
 ·rw[List.set_eq_of_length_le a,DV F a];rfl
theorem pT(F:List Fr)(H:List (Option Nat)):∀(a pre:List Nat),(∀j,(fa (mB F pre) j).aD=false->(fa (mB F (pU (mB F) H pre a)) j).aD=false)/\∀k∈a,(fa (mB F (pU (mB F) H pre a)) ((H.getD k none).getD 0)).aD=false
 | [],pre=>⟨fun _ h=>h,fun k d=>by cases d⟩
 |k::a,pre=>by
  obtain⟨i,f⟩:∃i,i=(H.getD k none).getD 0:=⟨_,rfl⟩
  have c:pU (mB F) H pre (k::a)=pU (mB F) H (if(fa (mB F pre) i).aD then pre++[i]else pre) a:=by rw[f];rfl
  obtain⟨g,m⟩:=pT F H a (if(fa (mB F pre) i).aD then pre++[i]else pre);rw[c];have d:(fa (mB F (if(fa (mB F pre) i).aD then pre++[i]else pre)) i).aD=false:=by
   cases hd:(fa (mB F pre) i).aD with
   |true=>rw[GU rfl,lV];exact Bj _ i
   |false=>rw[GQ (by decide)];exact hd
  refine⟨fun j e=>g j ?_,fun l b=>?_⟩
  ·cases hd:(fa (mB F pre) i).aD with
   |true=>rw[GU rfl,lV];exact yx _ i j e
   |false=>rw[GQ (by decide)];exact e
  ·rcases List.mem_cons.1 b with rfl|b
   ·rw[<-f];exact g i d
   ·exact m l b
theorem lB(w:World)(p:Option Addr):Calls Tryz.prog 53 #[.pointer p] w fun e w'=>
 e=.returned (.func (.func 80) #[] #[.pointer (some ⟨w.heap.size,0,none⟩)])/\w'=w.alloc (.cells #[.pointer p] 26):=by
 have a:∀(fn:Fn)(first cap:Array Value)(w:World),(Instr.makeFunc fn first cap).run Tryz.prog w=.ok (.func fn first cap) w:=fun _ _ _ _=>rfl;go_enter Tryz.func53,Tryz.ntmps53;go_wp2_with fail
 go_ret;exact⟨rfl,rfl⟩
def Er(U V:Nat->Prop)(w0:World)(B L P S b N hand mp Q R n:Nat)(F:List Fr)(H:List (Option Nat))(d:Dk.ak)(lg:Wl.S)(s:Po.S)(X:Nat->Prop)(pre:List Nat)(W:World):Prop:=
 ∃e c d1 a s1,X=(fun j=>cr e c j\/j=P)/\cB e c W B L P S b N hand mp (mB F pre) H n d1 a s1/\Wl.Calm n d1/\Po.Lf lg a/\(s1.now=s.now/\s1.pins=s.pins/\s1.ao=s.ao/\s1.ar=s.ar/\s1.held=s.held/\∀k,s1.first k=s.first k\/s1.first k=none)/\
  dI P mp (mB F pre)=dI P mp F/\W.heap[Q]?=some (.cells #[.pointer (some ⟨P,0,none⟩)] 26 (0,0))/\W.heap[Q+1]?=some (.cells #[.int .i64 0] 47 (0,0))/\W.heap[R]?=some (.cells #[.pointer (some ⟨P,0,none⟩)] 26 (0,0))/\
  Touch (fun j=>cr U V j\/j=P) w0 W/\bA U e w0/\bA V c w0
theorem Bv{U V:Nat->Prop}{w0:World}{B L P S b N hand mp Q R n Z:Nat}{F:List Fr}{H:List (Option Nat)}{d:Dk.ak}{lg:Wl.S}{s:Po.S}(hz:w0.heap.size<=Z)(X:Nat->Prop):tQ Z (Er U V w0 B L P S b N hand mp Q R n F H d lg s X):=by
 refine⟨fun pre W E h D=>?_,fun pre W l o C h hl m q p=>?_⟩
 ·obtain⟨z,y,d1,f,s1,e,c,w,g,hs,x,t,r,a,u,k,i⟩:=h;have hT:=mM D;exact⟨z,y,d1,f,s1,e,c.bq hT (fun _ _ h=>h) (fun _ _ h=>h),w,g,hs,x,hT.row t id,hT.row r id,hT.row a id,u.trans (hT.mono fun _ _ h=>h.elim),k,i⟩
 ·obtain⟨z,y,d1,f,s1,e,c,w,g,hs,x,t,r,a,u,k,i⟩:=h;have hT:=gq W l C;have A:=wG c;exact⟨z,y,d1,f,s1,e,c.bq hT (fun j v e=>eF (A j (GJ v)) m q p e) (fun j v e=>eF (A j (GL v)) m q p e),w,g,hs,x,hT.row t (fun e=>eF (dh t) m q p e),hT.row r (fun e=>eF (dh r) m q p e),hT.row a (fun e=>eF (dh a) m q p e),u.grow hT fun j e=>GL (by omega),k,i⟩
end Go.Proofs.YtbpodmallknhfaaGreat
namespace Go.Proofs.YtbpodmallknhfaaGreat
open Go.RowKit Go.Shelf
theorem nS{w:World}(ty:TypeId)(base:Nat)(v:Value)(l1:List eR.El)(h:eR.Own base w v l1)(x:Value)(f:List eR.El)(C:eR.aJ w x f)(h0:0<f.length)(hlen:l1.length+f.length<=1000000)(e:base<=w.heap.size):
 ∃i w',(Builtin.append_ #[66,66] ty #[v,x]).run Tryz.prog w=.ok i w'/\eR.Own base w' i (l1++f)/\Below base w w'/\w.grownBy w' v.ownBlock/\(i.ownBlock=v.ownBlock\/i.ownBlock=some w.heap.size):=by
 obtain⟨i0,A,o,n,m⟩:=info_parts eR.info;obtain⟨p,cap,rfl,_,D,hp⟩:=C.form;obtain⟨b,off,rfl,B⟩:=hp h0;obtain⟨i,w',z,a,d,-,s⟩:=run_append_own_at (P:=Tryz.prog) w base 66 ty 104 i0 (.agg #[.int .u32 0,.int .u64 0]) 2 16 Tryz.underlying66 A o n m rfl (by decide) v l1.length (eR.cells l1) h ⟨b,off,none⟩ f.length cap (eR.cells f) (eR.bz _) (by
  intro j u r;have q:j<f.length*2:=by
   rcases Hi j (f.length*2)with t|t
   ·exact t
   ·rw[He (by rw[eR.bz];exact t)]at r;simp at r
  have l:(⟨b,off,none⟩:Addr).add j=⟨b,off+j,none⟩:=by unfold Addr.add;split<;>simp_all
  rw[l,B j q,r]) (eR.kt f) (by unfold maxLen;omega) (by omega) e
 rw[<-eR.gC,<-GI]at a;refine⟨i,w',z,a,(GF _ _).grown d e ?_,d,s⟩;intro k y;rcases h.2 with⟨rfl,_⟩|⟨g,c,cur,rfl,E,_⟩
 ·simp[Value.ownBlock]at y
 ·simp only[Value.ownBlock,GO]at y;omega
def yT(F:List Fr)(pre:List Nat):List eR.El:=pre.map fun i=>((fa F i).aw,(fa F i).first)
def BF(P i a f:Nat)(v:Value)(A:Nat)(k:Nat)(u:Value)(w:World):Prop:=
 match k with
 |0=>u=v
 |1=>u=.pointer (some ⟨P,5+i*7,none⟩)
 |2=>u=.pointer (some ⟨P,5+i*7,none⟩)
 |3=>u=.pointer (some ⟨P,5+i*7,none⟩)
 |4=>u=.int .i64 (a:Int)
 |5=>u=.int .u32 (a:Int)
 |6=>u=.pointer (some ⟨P,5+i*7,none⟩)
 |7=>u=.pointer (some ⟨P,5+i*7,none⟩)
 |8=>u=.pointer (some ⟨P,5+i*7+5,none⟩)
 |9=>u=.int .u64 (f:Int)
 |10=>u=.agg #[.int .u32 (a:Int),.int .u64 (f:Int)]
 |11=>∃q,u=.slice (some ⟨q,0,none⟩) 1 1/\A<q/\v.ownBlock≠some q/\eR.aJ w u [(a,f)]
 |_=>True
def CK(A:Nat)(v:Value)(k:Nat):Prop:=k=A\/v.ownBlock=some k
structure Eh(W:World)(A:Nat)(v:Value)(l:List eR.El)(x:eR.El)(D:Nat->Bool)(xs:Nat->Value)(w:World):Prop where
 aj:Touch (CK A v) W w
 sz:A<w.heap.size
 s0:D 12=false->eR.Own (A+1) w v l/\Boxed w A 66 v
 s1:D 12=true->eR.Own (A+1) w (xs 12) (l++[x])/\(∀j,(xs 12).ownBlock=some j->v.ownBlock=some j\/W.heap.size<=j)/\∃u,Boxed w A 66 u/\(D 13=true->u=xs 12)
section
variable{W:World}{A:Nat}{v:Value}{l:List eR.El}{x:eR.El}{D:Nat->Bool}{xs:Nat->Value}{w:World}
theorem Eh.alloc(h:Eh W A v l x D xs w)(o:Obj):Eh W A v l x D xs (w.alloc o):=by
 have a:Below w.heap.size w (w.alloc o):=(GF _ w).alloc (GH _) _;refine⟨h.aj.trans (.ax a),by have:=h.sz;simp;omega,fun e=>⟨(h.s0 e).1.below a,(h.s0 e).2.alloc _⟩,fun e=>?_⟩;obtain⟨f,b,u,d,c⟩:=h.s1 e;exact⟨f.below a,b,u,d.alloc _,c⟩
theorem Eh.quiet(h:Eh W A v l x D xs w)(k:Nat)(u:Value)(a:k≠12)(d:k≠13):Eh W A v l x (Ord.bB D k) (Ord.set xs k u) w:=by
 have b:Ord.bB D k 12=D 12:=GQ (H4 a);have e:Ord.bB D k 13=D 13:=GQ (H4 d);have c:Ord.set xs k u 12=xs 12:=GQ (H4 a);exact⟨h.aj,h.sz,by rw[b];exact h.s0,by rw[b,e,c];exact h.s1⟩
end
def FP(P B S b N L aS mp R A:Nat)(w0:World)(H:List (Option Nat))(F:List Fr)(X:Nat->Prop)(pre:List Nat)(W:World):Prop:=
 ∃v,X=CK A v/\Eo P B S b N L aS mp R H (fun _=>F) pre W/\Boxed W A 66 v/\eR.Own (A+1) W v (yT F pre)/\Touch (fun j=>A<=j) w0 W/\(∀j,v.ownBlock=some j->w0.heap.size<=j)
theorem kp{base:Nat}{S:Nat->Prop}{w w':World}{v:Value}{l:List eR.El}(h:eR.Own base w v l)(b:Touch S w w')(hs:∀k,v.ownBlock=some k->¬S k):eR.Own base w' v l:=by
 refine⟨h.1,?_⟩;rcases h.2 with e|⟨g,cap,cur,a,d,c,r⟩
 ·exact GJ e
 ·exact GL ⟨g,cap,cur,a,d,b.row c (hs g (by rw[a];rfl)),r⟩
theorem fB{base:Nat}{w:World}{v:Value}{l:List eR.El}(h:eR.Own base w v l){k:Nat}(a:v.ownBlock=some k):base<=k/\k<w.heap.size/\Kind w k:=by
 rcases h.2 with⟨rfl,-⟩|⟨g,cap,cur,c,d,b,r⟩
 ·cases a
 ·rw[c]at a;simp only[Value.ownBlock,GO]at a;subst a;exact⟨d,GN b,dh b⟩
theorem vH{S:Nat->Prop}{w w':World}{q:Nat}{l:List eR.El}{n c:Nat}(h:eR.aJ w (.slice (some ⟨q,0,none⟩) n c) l)(g:Touch S w w')(hs:¬S q):eR.aJ w' (.slice (some ⟨q,0,none⟩) n c) l:=by
 obtain⟨p,cap,a,i,k,hp⟩:=h.form;refine⟨p,cap,a,i,k,fun h0=>?_⟩;obtain⟨b,off,d,m⟩:=hp h0;simp only[Hc]at a;rw[d]at a;simp only[GO,Im]at a;refine⟨b,off,d,fun j f=>?_⟩;have e:=m j f;rw[GS (by rw[eR.bz];exact f)]at e⊢;exact g.cell e (by rw[<-a.1.1];exact hs)
theorem mj{T:Nat->Prop}{P B S b N L aS mp R:Nat}{H:List (Option Nat)}{c:List Nat->List Fr}{pre a:List Nat}{W e:World}(h:Eo P B S b N L aS mp R H c pre W)(i:c a=c pre)(d:Touch T W e)(l:¬T P)(k:¬T mp)(j:¬T R):Eo P B S b N L aS mp R H c a e:=by
 obtain⟨⟨hand,f⟩,hm,g⟩:=h;exact⟨⟨hand,by rw[i];exact f.aj d l⟩,hm.aj d k,d.cell g j⟩
theorem An{P B S b N L aS mp R:Nat}{H:List (Option Nat)}{g:List Nat->List Fr}{pre:List Nat}{W:World}(h:Eo P B S b N L aS mp R H g pre W):Kind W P/\Kind W mp/\Kind W R:=by
 obtain⟨⟨hand,a⟩,hm,c⟩:=h;refine⟨dh a.row,?_,?_⟩
 ·obtain⟨es,clock,d,-⟩:=hm.own;exact⟨_,d,GL rfl⟩
 ·obtain⟨o,f,e⟩:=cells_of_cell c;exact⟨o,f,GJ e⟩
theorem Bf{P B S b N L aS mp R A Z:Nat}{w0:World}{H:List (Option Nat)}{F:List Fr}(hz:A<Z)(X:Nat->Prop):tQ Z (FP P B S b N L aS mp R A w0 H F X):=by
 refine⟨fun pre W q h p=>?_,fun pre W l o n h hl d i g=>?_⟩
 ·obtain⟨v,e,hV,a,j,m,c⟩:=h;have hT:=mM p;exact⟨v,e,mj hV rfl hT id id id,hT.row a id,kp j hT fun _ _=>id,m.trans (hT.mono fun _ _ h=>h.elim),c⟩
 ·obtain⟨v,e,hV,a,j,m,c⟩:=h;have hT:=gq W l n;have f:=An hV;refine⟨v,e,mj hV rfl hT (fun e=>eF f.1 d i g e) (fun e=>eF f.2.1 d i g e) (fun e=>eF f.2.2 d i g e),hT.row a (fun e=>eF (dh a) d i g e),kp j hT fun k f e=>eF (fB j f).2.2 d i g e,m.trans (hT.mono fun _ _ e=>by have e:_=l:=e;omega),c⟩
theorem Bh(F:List Fr)(H:List (Option Nat))(s:Po.S):∀(a pre:List Nat),(∀k∈a,∃i,H.getD k none=some i/\(fa F i).aw=k/\s.first k=if(fa F i).aD then some (fa F i).first else none)->
 yT F (pU (fun _=>F) H pre a)=yT F pre++a.filterMap fun k=>(s.first k).map fun f=>(k,f)
 | [],pre,_=>by simp[pU]
 |k::a,pre,h=>by
  obtain⟨i,j,g,e⟩:=h k (Hr ..);have b:pU (fun _=>F) H pre (k::a)=pU (fun _=>F) H (if(fa F i).aD then pre++[i]else pre) a:=by
   show pU (fun _=>F) H (if(fa F ((H.getD k none).getD 0)).aD then pre++[(H.getD k none).getD 0]else pre) a=_;rw[j];rfl
  rw[b,Bh F H s a _ fun d c=>h d (Hx _ c),I7,e];cases hd:(fa F i).aD with
  |true=>simp[yT,g]
  |false=>simp
attribute [local go_sem] Oper.semAt_some in
set_option maxRecDepth 100000 in
set_option maxHeartbeats 4000000 in
theorem vh{w:World}{P B S b N L aS hand mp:Nat}{F:List Fr}{H:List (Option Nat)}(h:aF w P B S b N L aS hand mp F)(hm:dm w mp H)(J:∀k i,H.getD k none=some i->i<64/\(fa F i).aw=k):
 CallsIn Fence.wide 5 Tryz.prog 27 #[.pointer (some ⟨P,0,none⟩)] w fun e w'=>∃v,e=.returned v/\eR.Own w.heap.size w' v (yT F (pU (fun _=>F) H [] (bO H)))/\Below w.heap.size w w':=by
 refine callsIn_of_wp_marks Tryz.func27 rfl trivial ?_ rfl;simp only[Tryz.ntmps27,Ir,G2,Hz,Nat.reduceAdd,Nat.reduceSub,IT,IS,I3,IW,Hg,Iy];obtain⟨A,d⟩:∃A,A=w.heap.size:=⟨_,rfl⟩
 obtain⟨W0,Q⟩:∃W0,W0=w.alloc (.cells #[.slice none 0 0] 66):=⟨_,rfl⟩
 have ae:W0.heap.size=A+1:=by rw[Q,d];simp
 have av:Boxed W0 A 66 (.slice none 0 0):=by rw[Q,d];exact Boxed.new w _ _
 have V:Below w.heap.size w W0:=by rw[Q];exact(GF _ w).alloc (GH _) _
 have M:=lB W0 (some ⟨P,0,none⟩);rw[ae]at M;have aO:=GD (h.below V);have HM:=GD (hm.below V);have HI:=GD J;have HB:=GD V;have Y:Hid (W0.heap.size=A+1):=ae;have a7:=GD av;have HA:=GD d;have a8:Hid (P<A/\mp<A):=⟨by rw[d];exact h.lt,by rw[d];exact hm.lt⟩
 clear h hm J V av ae;rw[<-d];clear d;gi_wp2
 rw[<-Q,<-HA.out];clear Q;gi_wp2_with (refine⟨trivial,?_⟩;gi_at_call 53;refine(callsIn_wide.2 M).mono ?_;rintro e w2⟨rfl,ao⟩;rw[ao];clear M ao)
 obtain⟨W1,O⟩:∃W1,W1=W0.alloc (.cells #[.pointer (some ⟨P,0,none⟩)] 26):=⟨_,rfl⟩
 rw[<-O];have aq:W1.heap.size=A+2:=by rw[O,World.size_alloc,Y.out]
 have au:W1.heap[A+1]?=some (.cells #[.pointer (some ⟨P,0,none⟩)] 26 (0,0)):=by
  have h:=GM W0 (.cells #[.pointer (some ⟨P,0,none⟩)] 26);rw[Y.out]at h;rw[O];exact h
 have R:Below W0.heap.size W0 W1:=by rw[O];exact(GF _ W0).alloc (GH _) _
 have bd:Hid (Below w.heap.size w W1):=HB.out.trans (R.mono (by rw[Y.out,<-HA.out];omega));have aK:FP P B S b N L aS mp (A+1) A W1 H F (CK A (.slice none 0 0)) [] W1:=
  ⟨_,rfl,⟨⟨hand,aO.out.below R⟩,HM.out.below R,ah au 0 rfl⟩,(R.block A (by rw[Y.out];omega)).trans a7.out,eR.cU _ _,Touch.refl _ _,fun j y=>by cases y⟩
 have bc:=GD aK;have T:Hid (W1.heap.size=A+2):=aq;clear O aq au R aK;refine gh (w:=W1) (w0:=W1) rfl (by decide) (gf:=80) (lb:=#[.pointer (some ⟨A+1,0,none⟩)]) rfl trivial (enters_of Tryz.func80 (by kernel_rfl) rfl)
  (sR P B S b N L aS mp (A+1) H (fun _=>F) W1 _ (by decide)) (GF _ _) (fun _=>rfl)
  (FP P B S b N L aS mp (A+1) A W1 H F) (CK A (.slice none 0 0)) (fun X=>Bf (by have:=T.out;omega) X) ?hV ?hlt bc.out
  (fun x=>{tmps:=#[.pointer (some ⟨P,0,none⟩),undef,.slice none 0 0,.pointer (some ⟨A,0,none⟩),.pointer (some ⟨P,5+x*7,none⟩),.pointer (some ⟨P,0,none⟩),.func (.func 80) #[] #[.pointer (some ⟨A+1,0,none⟩)],.pointer (some ⟨P,5+x*7,none⟩),undef,undef,undef,undef,undef,undef,undef,undef,undef,undef,undef,undef,undef,undef],defers:=[]}) ?assign ?body ?done
 case hV=>
  rintro X pre W⟨v,-,hV,-⟩;exact hV
 case hlt=>
  rintro X pre W⟨v,rfl,-,s,hO,-⟩i(rfl|hi)
  ·exact s.lt
  ·exact(fB hO hi).2.1
 case assign=>
  intro l x W K g;gi_wp2
  exact g
 case body=>
  rintro lb X pre i W⟨v,rfl,hV,s,hO,hT,G⟩⟨⟨k,hk,hd⟩,aA⟩;obtain⟨aE,aT⟩:=HI.out k i hk;have aC:k<65536:=by
   have h1:=HM.out.len;rcases Hi k H.length with h2|h2
   ·omega
   ·rw[GG,He h2]at hk;cases hk
  obtain⟨⟨ak,t⟩,Z,aG⟩:=hV;obtain⟨o,I⟩:∃o,o=(fa F i).aw:=⟨_,rfl⟩
  obtain⟨f,hf⟩:∃f,f=(fa F i).first:=⟨_,rfl⟩
  have c0:W.cell? ⟨P,5+i*7,none⟩=some (.int .i64 (o:Int)):=t.fr aE 0 (by decide) (v:=.int .i64 (o:Int)) (by rw[I];rfl);have c5:=t.fr aE 5 (by decide) (v:=.int .u64 (f:Int)) (by rw[hf];rfl);have ad:Value.int .u32 (IntKind.u32.wrap (o:Int))=.int .u32 (o:Int):=by
   have e:IntKind.u32.wrap (o:Int)=(o:Int)%4294967296:=by simp[IntKind.wrap,IntKind.bits,IntKind.signed]
   rw[e,Int.emod_eq_of_lt (by omega) (by omega)]
  obtain⟨L0,U⟩:∃L0,L0=yT F pre:=⟨_,rfl⟩
  rw[<-U]at hO;have aJ:L0.length<65536:=by rw[U];unfold yT;rw[Hb];exact aA
  have bl:=a8.out;have aB:∀j,j<A+2->j≠A->¬CK A v j:=fun j y ai hs=>by
   rcases hs with h|h
   ·exact ai h
   ·have:=G j h;have:=T.out;omega
  have HN:=GD aB;have HV:Hid (Eo P B S b N L aS mp (A+1) H (fun _=>F) pre W):=⟨⟨ak,t⟩,Z,aG⟩
  have HT:=GD hT;have aN:=GD G;have bb:=GD U;have ba:=GD aJ;have HF:Hid (o=(fa F i).aw/\f=(fa F i).first):=⟨I,hf⟩
  have aQ:=GD ad;have a2:A<W.heap.size:=s.lt;have ag:P≠A:=by omega
  clear aB t Z aG hT G U aJ I hf hk hd aA aT aC ad;gi_wp2
  refine Ord.In.walk (fun _=>trivial) (BF P i o f v A) (Eh W A v L0 (o,f)) (Touch (CK A v)) (by kernel_rfl) (by kernel_rfl) ?fr ?hfr ?hT ?hR ?he ?hend;case hfr=>
   intro xs;simp only[Ord.fill,Act.put,GP,GX,GV];rfl
  case hT=>
   intro k u w1 w2 ht n;rcases k with _|_|_|_|_|_|_|_|_|_|_|_|k
   ·exact n
   ·exact n
   ·exact n
   ·exact n
   ·exact n
   ·exact n
   ·exact n
   ·exact n
   ·exact n
   ·exact n
   ·exact n
   ·obtain⟨q,rfl,h2,h4,h5⟩:=n;refine⟨q,rfl,h2,h4,vH h5 ht ?_⟩;rintro(h|h)
    ·omega
    ·exact h4 h
   ·trivial
  case hR=>
   intro xs;exact⟨(Touch.refl _ W).drew,a2,fun _=>⟨hO.below ((GF _ W).drew),s⟩,fun e=>by cases e⟩
  case he=>
   iterate 14 (refine Ord.In.aa (fun D xs w2 hD hC hP hR d K' g=>?_) ?_;rotate_left)
   rotate_left
   ·have h5:D 12=false:=by
     cases e:D 12 with
     |false=>rfl
     |true=>have:=Ord.af hC 12 0 (by kernel_rfl) e;rw[hD]at this;cases this
    have hc:=(hR.s0 h5).2.cell;clear d;go_simp;exact g _ _ ⟨_,rfl,Touch.refl _ _,hR.quiet 0 _ (by decide) (by decide),rfl⟩
   ·clear d;go_simp;exact g _ _ ⟨_,rfl,Touch.refl _ _,hR.quiet 1 _ (by decide) (by decide),rfl⟩
   ·have q1:=Ord.ab _ d 1 (by decide);simp only[BF]at q1;simp only[q1]at g⊢;clear d;go_simp;exact g _ _ ⟨_,rfl,Touch.refl _ _,hR.quiet 2 _ (by decide) (by decide),rfl⟩
   ·have q2:=Ord.ab _ d 2 (by decide);simp only[BF]at q2;simp only[q2]at g⊢;clear d;go_simp;exact g _ _ ⟨_,rfl,Touch.refl _ _,hR.quiet 3 _ (by decide) (by decide),rfl⟩
   ·have q3:=Ord.ab _ d 3 (by decide);simp only[BF]at q3;simp only[q3]at g⊢;clear d;have hc:=hR.aj.cell c0 (HN.out P (by omega) ag);go_simp;exact g _ _ ⟨_,rfl,Touch.refl _ _,hR.quiet 4 _ (by decide) (by decide),rfl⟩
   ·have q4:=Ord.ab _ d 4 (by decide);simp only[BF]at q4;simp only[q4]at g⊢;clear d;go_simp;exact g _ _ ⟨_,rfl,Touch.refl _ _,hR.quiet 5 _ (by decide) (by decide),aQ.out⟩
   ·clear d;go_simp;exact g _ _ ⟨_,rfl,Touch.refl _ _,hR.quiet 6 _ (by decide) (by decide),rfl⟩
   ·have q6:=Ord.ab _ d 6 (by decide);simp only[BF]at q6;simp only[q6]at g⊢;clear d;go_simp;exact g _ _ ⟨_,rfl,Touch.refl _ _,hR.quiet 7 _ (by decide) (by decide),rfl⟩
   ·have q7:=Ord.ab _ d 7 (by decide);simp only[BF]at q7;simp only[q7]at g⊢;clear d;go_simp;exact g _ _ ⟨_,rfl,Touch.refl _ _,hR.quiet 8 _ (by decide) (by decide),rfl⟩
   ·have q8:=Ord.ab _ d 8 (by decide);simp only[BF]at q8;simp only[q8]at g⊢;clear d;have hc:=hR.aj.cell c5 (HN.out P (by omega) ag);go_simp;exact g _ _ ⟨_,rfl,Touch.refl _ _,hR.quiet 9 _ (by decide) (by decide),rfl⟩
   ·have q5:=Ord.ab _ d 5 (by decide);have q9:=Ord.ab _ d 9 (by decide);simp only[BF]at q5 q9;simp only[q5,q9]at g⊢;clear d;go_simp;exact g _ _ ⟨_,rfl,Touch.refl _ _,hR.quiet 10 _ (by decide) (by decide),rfl⟩
   ·have an:=Ord.ab _ d 10 (by decide);simp only[BF]at an;simp only[an]at g⊢;clear d;have h5:D 12=false:=by
     cases e:D 12 with
     |false=>rfl
     |true=>have:=Ord.af hC 12 11 (by kernel_rfl) e;rw[hD]at this;cases this
    have aV:v.ownBlock≠some w2.heap.size:=fun e=>by have:=(fB (hR.s0 h5).1 e).2.1;omega
    have aR:=hR.sz;go_simp;exact g _ _ ⟨_,rfl,Touch.ax ((GF _ w2).alloc (GH _) _),(hR.alloc _).quiet 11 _ (by decide) (by decide),⟨w2.heap.size,rfl,aR,aV,eR.wU w2 (o,f) _⟩⟩
   ·have q0:=Ord.ab _ d 0 (by decide);simp only[BF]at q0;obtain⟨q,q4,bg,bf,az⟩:=Ord.ab _ d 11 (by decide);simp only[q0,q4]at g⊢;rw[q4]at az;clear d;obtain⟨E,m⟩:=hR.s0 hD;obtain⟨v5,w5,ar,aZ,bk,r,aI⟩:=nS 66 (A+1) v L0 E _ [(o,f)] az (by simp) (by have:=ba.out;simp;omega) hR.sz;have h6:D 13=false:=by
     cases e:D 13 with
     |false=>rfl
     |true=>have:=Ord.af hC 13 12 (by kernel_rfl) e;rw[hD]at this;cases this
    have ai:some A≠v.ownBlock:=fun e=>by have:=(fB E e.symm).1;omega
    refine(GU (by rfl)).mpr ?_;refine fW (.tmp 8) (.tmp 19) _ _ rfl _ _ rfl rfl v5 w5 ar ?_;have z:Touch (CK A v) w2 w5:=⟨r.os,r.tape,r.output,r.size,fun i hi hs=>r.block i hi fun e=>hs (GL e.symm)⟩
    refine g _ _ ⟨v5,rfl,z,?_,trivial⟩;have x5:Ord.set xs 12 v5 12=v5:=GU rfl;have d5:Ord.bB D 12 12=true:=GU rfl;have d6:Ord.bB D 12 13=D 13:=GQ (by decide);refine⟨hR.aj.trans z,Hh hR.sz r.size,(fun e=>by rw[d5]at e;cases e),fun _=>⟨by rw[x5];exact aZ,?_,v,(r.block A hR.sz ai).trans m,fun e=>by rw[d6,h6]at e;cases e⟩⟩;rw[x5];intro j y;rcases aI with h|h
    ·exact GJ (by rw[<-h];exact y)
    ·rw[h]at y;simp only[GO]at y;have:=hR.aj.size;exact GL (by omega)
   ·clear d;have h5:D 12=true:=hP {on:=12,ground:=.data} (by simp) rfl;obtain⟨E,aW,u,m,-⟩:=hR.s1 h5;obtain⟨p5,aM,e5⟩:=E.aP.slice;simp only[e5]at g⊢;have bj:=m.cell;have bh:=m.frozen;obtain⟨n5,C⟩:∃n5,n5=(L0++[(o,f)]).length:=⟨_,rfl⟩
    rw[<-C]at g e5⊢;have z:=Touch.set (S:=CK A v) (a:=w2) A 0 (.slice p5 n5 aM) (GJ rfl);have aU:∀k,(xs 12).ownBlock=some k->k≠A:=fun k hk e=>by have:=(fB E hk).1;omega
    have aX:=kp E (Touch.set (S:=(·=A)) (a:=w2) A 0 (.slice p5 n5 aM) rfl) aU;have bm:=GD C;clear C;go_simp;refine g _ _ ⟨undef,rfl,z,?_,trivial⟩;have x5:Ord.set xs 13 undef 12=xs 12:=GQ (by decide);have d5:Ord.bB D 13 12=D 12:=GQ (by decide);refine⟨hR.aj.trans z,Hh hR.sz z.size,(fun e=>by rw[d5,h5]at e;cases e),fun _=>⟨by rw[x5];exact aX,by rw[x5];exact aW,_,m.set _,fun _=>by rw[x5];exact e5.symm⟩⟩
   exact Ord.In.ay
  case hend=>
   intro D xs w9 hR n;obtain⟨aY,aD,u,aH,hu⟩:=hR.s1 (n 12 (by decide)).1;obtain rfl:=hu (n 13 (by decide)).1;have al:=GD hR.aj;clear n hR;gi_wp2
   have a1:yT F (pre++[i])=L0++[(o,f)]:=by
    rw[bb.out,HF.out.1,HF.out.2];unfold yT;rw[List.map_append];rfl
   refine⟨CK A (xs 12),⟨xs 12,rfl,mj HV.out rfl al.out (HN.out P (by omega) ag) (HN.out mp (by omega) (by omega)) (HN.out (A+1) (by omega) (by omega)),aH,by rw[a1];exact aY,HT.out.trans (al.out.mono fun j _ y=>?_),fun j y=>?_⟩,al.out,fun j y=>?_⟩
   ·rcases y with h|h
    ·exact Nat.le_of_eq h.symm
    ·have:=aN.out j h;have:=T.out;omega
   ·rcases aD j y with h|h
    ·exact aN.out j h
    ·exact GR HT.out.size h
   ·rcases y with h|h
    ·exact GJ (GJ h)
    ·rcases aD j h with h|h
     ·exact GJ (GL h)
     ·exact GL h
 case done=>
  rintro D xs X W hD hS⟨v,rfl,hV,s,hO,hT,G⟩g;have hc:=s.cell;obtain⟨p,c,hv⟩:=hO.aP.slice;obtain⟨n5,C⟩:∃n5,n5=(yT F xs).length:=⟨_,rfl⟩
  rw[<-C]at hv;have HO:=GD hO;have HT:=GD hT;have HK:=GD g;have HD:=GD hD;have a6:=GD hS;have HV:=GD hv;subst hv;clear hD hS hV s hO hT G g C;gi_wp2
  refine⟨by simp,.inl ⟨_,_,rfl,run_takeDeferred HK.out,?_⟩⟩;refine⟨_,results_tmp rfl _ _ _,_,rfl,?_,?_⟩
  ·have h2:=kp HO.out (gq W D (.deferred none)) fun k hk e=>eF (fB HO.out hk).2.2 HK.out rfl rfl e;rw[<-a6.out];exact h2.from (G8 A)
  ·have aL:=HA.out;have h1:Below w.heap.size w W:=(bd.out).trans (HT.out.below (fun j y=>by rw[<-aL];exact y) (by have:=T.out;omega));have h9:=h1.trans (belowK_b (w:=w) (GH _) W D (.deferred (some [])) (.deferred none) (by have:=HD.out;have:=T.out;omega) HK.out rfl rfl);rw[<-aL]at h9;exact h9
theorem sV{w:World}{P B S b N L aS hand mp:Nat}{F:List Fr}{H:List (Option Nat)}(h:aF w P B S b N L aS hand mp F)(hm:dm w mp H)(a:∀k i,H.getD k none=some i->i<64/\(fa F i).aw=k):
 Calls Tryz.prog 27 #[.pointer (some ⟨P,0,none⟩)] w fun e w'=>∃v,e=.returned v/\eR.Own w.heap.size w' v (yT F (pU (fun _=>F) H [] (bO H)))/\Below w.heap.size w w':=callsIn_wide.1 (vh h hm a)
theorem Al{U V X:Nat->Prop}{w:World}{B L P n:Nat}{d:Dk.ak}{lg:Wl.S}{s:Po.S}(h:cT j6 dM ea U V X w B L P d lg s)(hC:Wl.Calm n d):
 Calls Tryz.prog 27 #[.pointer (some ⟨P,0,none⟩)] w fun e w'=>∃v,e=.returned v/\eR.Own w.heap.size w' v (Po.tF s)/\Below w.heap.size w w':=by
 obtain⟨S,b,N,hand,mp,F,H,a,-⟩:=jJ h (Wl.dy hC (jK h.log.1));have o:=a.pm.bounds;have m:=a.pm.aS;have j:=sV a.pm.row a.pm.map fun k i c=>⟨by have:=(a.pm.jx k i c).1;omega,(a.pm.jx k i c).2⟩
 have e:yT F (pU (fun _=>F) H [] (bO H))=Po.tF s:=by
  rw[Bh F H s (bO H) [] fun k c=>?_]
  ·unfold Po.tF;rw[a.pm.held];rfl
  ·have f:=(cE H k).1 c;cases e:H.getD k none with
   |none=>exact absurd e f
   |some i=>
    have g:=a.pm.jx k i e;refine⟨i,rfl,g.2,?_⟩;have l:=(a.pm.fr i g.1).first
    rw[g.2]at l;exact l
 rw[e]at j;exact j
end Go.Proofs.YtbpodmallknhfaaGreat
