/- Parts of a proof. Conditions: as each row says. -/
import Derived.Test.YtbpodmallknhfaaGreatPl37
import Derived.RangeFuncCalls
namespace Go.Proofs.YtbpodmallknhfaaGreat
open Go.RowKit Go.Shelf
theorem tx(tmps:Array Value)(w:World)(g:Nat)(v:Value)(h:tmps.getD 2 undef=.pointer (some ⟨g,0,none⟩))(r:w.heap[g]?=some (.cells #[v] 47 (0,0))):
 (results Tryz.f26 tmps).run Tryz.prog w=.ok v w:=by
 have b:Tryz.f26.results=#[.cell 2 47]:=rfl;have c:tmps[2]?.getD undef=.pointer (some ⟨g,0,none⟩):=by simpa using h
 have c0:=ah r 0 (v:=v) rfl;have a:(loadVar 47 ⟨g,0,none⟩).run Tryz.prog w=.ok v w:=by simp[loadVar,run_underlying Tryz.underlying47,c0]
 simp[results,b,c,asAddr,a]
def FT(U V:Nat->Prop)(B L P S b N hand mp:Nat)(F:List Fr)(H:List (Option Nat))(n:Nat)(lg:Wl.S)(s:Po.S)(K:Nat)(w w':World):Prop:=
 ∃d c d1 a s1 e,cB d c w' B L P S b N hand mp e H n d1 a s1/\Wl.Calm n d1/\Po.Lf lg a/\Po.nn s s1/\dI P mp e=dI P mp F/\Touch (fun j=>(cr U V j\/j=P)\/K<=j) w w'/\bA U d w/\bA V c w
theorem D6{U V:Nat->Prop}{w W D:World}{B L P S b N hand mp Q R n:Nat}{F:List Fr}{H:List (Option Nat)}{d:Dk.ak}{lg:Wl.S}{s:Po.S}{X T:Nat->Prop}{pre:List Nat}(h:Er U V w B L P S b N hand mp Q R n F H d lg s X pre W)(hp:pre=pU (mB F) H [] (bO H))
 (z:Touch T W D) (hT:∀i,T i->Q<=i/\(i=Q+1\/∃o,W.heap[i]?=some o/\o.isCells=false/\o.isWalk=false)) (hQ:Q+1<w.heap.size) (hlt:∀i,cr U V i\/dI P mp F i->i<Q):FT U V B L P S b N hand mp F H n lg s Q w D:=by
 obtain⟨G,E,d1,t,s1,rfl,c,M,x,⟨e1,Z,Y,O,e5,e6⟩,C,hq,hr,I,u,m,l⟩:=h;have f:∀i,cr G E i\/dI P mp (mB F pre) i->¬T i:=fun i a v=>by
  rcases(hT i v).2 with rfl|⟨o,J,r,q⟩
  ·rcases a with(a|a)|a
   ·rcases m _ a with h|h
    ·have:=hlt _ (GJ (GJ h));omega
    ·omega
   ·rcases l _ a with h|h
    ·have:=hlt _ (GJ (GL h));omega
    ·omega
   ·rw[C]at a;have:=hlt _ (GL a);omega
  ·exact eF (wG c i a) J r q rfl
 refine⟨G,E,d1,t,s1,mB F pre,c.bq z (fun i a=>f i (GJ a)) (fun i a=>f i (GL a)),M,x,⟨e1,Z,Y,O,fun k=>?_⟩,C,(u.mono fun j _ K=>GJ K).grow z fun i a=>GJ (GL (hT i a).1),m,l⟩;by_cases A:k∈s1.held
 ·have g:k∈bO H:=c.pm.held▸A;have y:=(cE H k).1 g;cases e:H.getD k none with
  |none=>exact absurd e y
  |some i=>
   have r:=c.pm.jx k i e;have q:=(c.pm.fr i r.1).first
   rw[r.2]at q;have p:=(pT F H (bO H) []).2 k g;rw[<-hp,e]at p;have p:(fa (mB F pre) i).aD=false:=p;rw[q,p];rfl
 ·exact c.pm.aI.lQ A
theorem Cy{U V:Nat->Prop}{w W:World}{B L P S b N hand mp Q R n:Nat}{F:List Fr}{H:List (Option Nat)}{d:Dk.ak}{lg:Wl.S}{s:Po.S}{X:Nat->Prop}{pre:List Nat}{i:Nat}(h:Er U V w B L P S b N hand mp Q R n F H d lg s X pre W)(T:F6 H (mB F) pre i)
 (hs:lg.stop<=1000000000000) (hQ:Q+1<w.heap.size/\R<w.heap.size) (hlt:∀i,cr U V i\/dI P mp F i->i<Q) (hR:Q<=R):
 Calls Tryz.prog 52 #[.pointer (some ⟨P,0,none⟩),.pointer (some ⟨P,5+i*7,none⟩)] W fun e J=>e=.returned (.int .i64 0)/\∃I,Er U V w B L P S b N hand mp Q R n F H d lg s I (pre++[i]) J/\Touch X W J/\bA X I W:=by
 obtain⟨U1,V1,d1,O,s1,rfl,c,G,v,⟨e1,e2,e3,e4,e5,e6⟩,hX,Z,Y,z,r,p,o⟩:=h;obtain⟨⟨k,hk,hd⟩,-⟩:=T;have x:=c.pm.jx k i hk;refine(ml c x.1 (by rw[v.stop];exact hs)).mono ?_;rintro e W3(⟨M,K,d',y,rfl,f,q,u,t,l,g,-⟩|⟨A,-⟩)
 ·have hW:w.heap.size<=W.heap.size:=r.size;have C:∀i,Q<=i->i<w.heap.size->¬(cr U1 V1 i\/i=P):=fun i h1 h2 m=>by
   rcases m with(m|m)|m
   ·rcases p _ m with h|h
    ·have:=hlt _ (GJ (GJ h));omega
    ·omega
   ·rcases o _ m with h|h
    ·have:=hlt _ (GJ (GL h));omega
    ·omega
   ·have:=hlt _ (GL (GJ m));omega
  have E:bA U M w:=fun j a=>by
   rcases l j a with h|h
   ·exact p j h
   ·exact GL (by omega)
  have D:bA V K w:=fun j a=>by
   rcases g j a with h|h
   ·exact o j h
   ·exact GL (by omega)
  rw[<-lV]at f;refine⟨rfl,_,⟨M,K,d',y,_,rfl,f,q G,v.trans u,⟨e1,e2,e3,e4,e5,fun j=>?_⟩,?_,t.row Z (C Q (GH _) (by omega)),t.row Y (C (Q+1) (by omega) (by omega)),t.row z (C R hR hQ.2),r.grow t fun j a=>?_,E,D⟩,t,fun j a=>?_⟩
  ·show Po.cI s1.first _ none j=_\/Po.cI s1.first _ none j=_;unfold Po.cI;split
   ·exact GL rfl
   ·exact e6 j
  ·rw[lV,ix (mB F pre) (i:=i) (by have:=c.pm.bounds;have:=c.pm.aS;have:=x.1;rw[c.pm.row.len];omega) {fa (mB F pre) i with aD:=false} rfl];exact hX
  ·rcases a with(a|a)|a
   ·rcases p j a with h|h
    ·exact GJ (GJ (GJ h))
    ·exact GL h
   ·rcases o j a with h|h
    ·exact GJ (GJ (GL h))
    ·exact GL h
   ·exact GJ (GL a)
  ·rcases a with(a|a)|a
   ·rcases l j a with h|h
    ·exact GJ (GJ (GJ h))
    ·exact GL h
   ·rcases g j a with h|h
    ·exact GJ (GJ (GL h))
    ·exact GL h
   ·exact GJ (GL a)
 ·exact absurd G A
attribute [local go_sem] Oper.semAt_some in
set_option maxRecDepth 100000 in
set_option maxHeartbeats 4000000 in
theorem pN{U V:Nat->Prop}{w:World}{B L P S b N hand mp n:Nat}{F:List Fr}{H:List (Option Nat)}{d:Dk.ak}{lg:Wl.S}{s:Po.S}(h:cB U V w B L P S b N hand mp F H n d lg s)(hC:Wl.Calm n d)(hs:lg.stop<=1000000000000):
 CallsIn Fence.wide 5 Tryz.prog 26 #[.pointer (some ⟨P,0,none⟩)] w fun e w'=>e=.returned (.int .i64 0)/\FT U V B L P S b N hand mp F H n lg s w.heap.size w w':=by
 refine callsIn_of_wp_marks Tryz.func26 rfl trivial ?_ rfl;simp only[Tryz.ntmps26,Ir,G2,Hz,Nat.reduceAdd,Nat.reduceSub,IT,IS,I3,IW,Hg,Iy];obtain⟨Q,E⟩:∃Q,Q=w.heap.size:=⟨_,rfl⟩
 obtain⟨W0,c⟩:∃W0,W0=(w.alloc (.cells #[.pointer (some ⟨P,0,none⟩)] 26)).alloc (.cells #[.int .i64 0] 47):=⟨_,rfl⟩
 have y:W0.heap.size=Q+2:=by rw[c,E];simp
 have z:W0.heap[Q]?=some (.cells #[.pointer (some ⟨P,0,none⟩)] 26 (0,0)):=by
  rw[c,E];exact(Boxed.new w _ _).alloc _
 have Y:W0.heap[Q+1]?=some (.cells #[.int .i64 0] 47 (0,0)):=by
  have h:=GM (w.alloc (.cells #[.pointer (some ⟨P,0,none⟩)] 26)) (.cells #[.int .i64 0] 47);rw[World.size_alloc,<-E]at h;rw[c];exact h
 have G:Below w.heap.size w W0:=by
  rw[c];exact((GF _ w).alloc (GH _) _).alloc (by simp) _
 have m:=h.below G;have ad:Hid (∀i,cr U V i\/dI P mp F i->i<Q):=fun i C=>by
  rw[E];rcases C with C|C
  ·exact dG h.log i C
  ·exact h.pm.lt i C
 have k:=fw m.pm.row;have p:=lB W0 (some ⟨P,0,none⟩);rw[y]at p;have cQ:=ah z 0 (v:=.pointer (some ⟨P,0,none⟩)) rfl;have an:=GD m;have HC:=GD hC;have HS:=GD hs;have HB:=GD G;have t:Hid (W0.heap.size=Q+2):=y;have al:=GD z;have aj:=GD Y;have HQ:=GD E;clear h hC hs m G z Y y;rw[<-E];clear E;gi_wp2
 rw[<-c,<-HQ.out];clear c;gi_wp2_with (first
  |(refine⟨trivial,?_⟩;gi_at_call 38;refine(callsIn_wide.2 k).mono ?_;rintro e w2⟨rfl,g⟩;rw[g];clear k g)
  |(refine⟨trivial,?_⟩;gi_at_call 53;refine(callsIn_wide.2 p).mono ?_;rintro e w2⟨rfl,g⟩;rw[g];clear p g))
 obtain⟨W1,q⟩:∃W1,W1=W0.alloc (.cells #[.pointer (some ⟨P,0,none⟩)] 26):=⟨_,rfl⟩
 rw[<-q];have O:W1.heap.size=Q+3:=by rw[q,World.size_alloc,t.out]
 have R:W1.heap[Q+2]?=some (.cells #[.pointer (some ⟨P,0,none⟩)] 26 (0,0)):=by
  have h:=GM W0 (.cells #[.pointer (some ⟨P,0,none⟩)] 26);rw[t.out]at h;rw[q];exact h
 have r:Below W0.heap.size W0 W1:=by rw[q];exact(GF _ W0).alloc (GH _) _
 have ae:Hid (Below w.heap.size w W1):=HB.out.trans (r.mono (by rw[t.out,<-HQ.out];omega));have u:=an.out.below r;have Z:Er U V W1 B L P S b N hand mp Q (Q+2) n F H d lg s (fun j=>cr U V j\/j=P) [] W1:=
  ⟨U,V,d,lg,s,rfl,u,HC.out,GJ rfl,⟨rfl,rfl,rfl,rfl,rfl,fun _=>GJ rfl⟩,rfl,(r.block Q (by rw[t.out];omega)).trans al.out,(r.block (Q+1) (by rw[t.out];omega)).trans aj.out,R,Touch.refl _ _,fun _ h=>GJ h,fun _ h=>GJ h⟩
 have aq:=GD Z;have I:Hid (W1.heap.size=Q+3):=O;clear q O R r u Z;refine gh (w:=W1) (w0:=W1) rfl (by decide) (gf:=80) (lb:=#[.pointer (some ⟨Q+2,0,none⟩)]) rfl trivial (enters_of Tryz.func80 (by kernel_rfl) rfl)
  (sR P B S b N L s.ao mp (Q+2) H (mB F) W1 _ (by decide)) (GF _ _) (fun _=>rfl)
  (Er U V W1 B L P S b N hand mp Q (Q+2) n F H d lg s) (fun j=>cr U V j\/j=P) (fun X=>Bv (GH _) X) ?hV ?hlt aq.out
  (fun x=>{tmps:=#[.pointer (some ⟨P,0,none⟩),.pointer (some ⟨Q,0,none⟩),.pointer (some ⟨Q+1,0,none⟩),.pointer (some ⟨P,5+x*7,none⟩),undef,.pointer (some ⟨P,0,none⟩),.bool false,.pointer (some ⟨P,0,none⟩),.func (.func 80) #[] #[.pointer (some ⟨Q+2,0,none⟩)],.pointer (some ⟨P,5+x*7,none⟩),undef,undef,undef,undef,undef,undef],defers:=[]}) ?assign ?body ?done
 case hV=>
  rintro X pre W⟨U1,V1,d1,f,s1,-,o,-,-,⟨-,-,e3,-⟩,-,-,-,af,-⟩;exact⟨⟨hand,by rw[<-e3];exact o.pm.row⟩,o.pm.map,ah af 0 rfl⟩
 case hlt=>
  rintro X pre W⟨U1,V1,d1,f,s1,rfl,o,-⟩i(C|rfl)
  ·exact dG o.log i C
  ·exact o.pm.row.lt
 case assign=>
  intro l x W K hK;gi_wp2
  exact hK
 case body=>
  intro l X pre x W hI hY;have M:=Cy hI hY HS.out (by have:=I.out;omega) ad.out (by omega);have av:W.cell? ⟨Q,0,none⟩=some (.pointer (some ⟨P,0,none⟩)):=by
   obtain⟨U1,V1,d1,f,s1,-,-,-,-,-,-,hq,-⟩:=hI;exact ah hq 0 rfl
  have aa:=GD M;clear M hI hY;gi_wp2_with (refine⟨trivial,?_⟩;gi_at_call 52;refine(CallsIn.inRound l (callsIn_wide.2 aa.out)).mono ?_;rintro e w'⟨rfl,hX⟩;have HX:=GD hX;clear hX aa)
  exact HX.out
 case done=>
  intro D xs X W hD hS hI hK;have a:W.heap[Q+1]?=some (.cells #[.int .i64 0] 47 (0,0)):=by
   obtain⟨U1,V1,d1,f,s1,-,-,-,-,-,-,-,hr,-⟩:=hI;exact hr
  have au:=ah a 0 rfl;have hfr:=aC a 0;have ab:=GD a;have HD:=GD hD;have ai:=GD hS;have HI:=GD hI;have HK:=GD hK;clear hD hS hI hK a;gi_wp2
  have aw:Q+3<=D:=by have:=HD.out;have:=I.out;omega
  have ag:(W.setCell ⟨Q+1,0,none⟩ (.int .i64 0)).heap[D]?=some (.deferred (some [])):=(Touch.set (S:=(·=Q+1)) (Q+1) 0 _ rfl).row HK.out (by omega);refine⟨by simp,.inl ⟨_,_,rfl,run_takeDeferred ag,?_⟩⟩;refine⟨_,tx _ _ (Q+1) (.int .i64 0) rfl ?_,rfl,?_⟩
  ·rw[World.putObj_heap_other (by omega),aN ab.out];rfl
  ·have ar:∀j,Q<=j->w.heap.size<=j:=fun j A=>by rw[<-HQ.out];exact A
   obtain⟨U1,V1,d1,f,s1,F1,h1,h2,h3,h4,h5,h6,h7,h8⟩:=D6 HI.out ai.out (T:=fun j=>j=Q+1\/j=D) (((Touch.set (S:=fun j=>j=Q+1\/j=D) (Q+1) 0 _ (GJ rfl))).trans ((gq _ D _).mono fun j _ A=>GL A)) (by
    rintro i(rfl|rfl)
    ·exact⟨by omega,GJ rfl⟩
    ·exact⟨by omega,GL ⟨_,HK.out,rfl,rfl⟩⟩) (by have:=I.out;omega) ad.out
   have J:=ae.out.size;exact⟨U1,V1,d1,f,s1,F1,h1,h2,h3,h4,h5,(Touch.ax ae.out).trans (h6.mono fun j _ A=>A.elim GJ fun A=>GL A),h7.under J,h8.under J⟩
theorem om{U V:Nat->Prop}{w:World}{B L P S b N hand mp n:Nat}{F:List Fr}{H:List (Option Nat)}{d:Dk.ak}{lg:Wl.S}{s:Po.S}(h:cB U V w B L P S b N hand mp F H n d lg s)(hC:Wl.Calm n d)(hs:lg.stop<=1000000000000):
 Calls Tryz.prog 26 #[.pointer (some ⟨P,0,none⟩)] w fun e w'=>e=.returned (.int .i64 0)/\FT U V B L P S b N hand mp F H n lg s w.heap.size w w':=callsIn_wide.1 (pN h hC hs)
theorem sP{U V X:Nat->Prop}{w:World}{B L P n:Nat}{d:Dk.ak}{lg:Wl.S}{s:Po.S}(h:cT j6 dM ea U V X w B L P d lg s)(hC:Wl.Calm n d)(hs:lg.stop<=1000000000000):Calls Tryz.prog 26 #[.pointer (some ⟨P,0,none⟩)] w fun e w'=>
 e=.returned (.int .i64 0)/\∃k a g,cA j6 dM ea U V X w B L P w' k a g/\Wl.Calm n k/\Po.Lf lg a/\Po.nn s g:=by
 obtain⟨S,b,N,hand,mp,F,H,f,rfl⟩:=jJ h (Wl.dy hC (jK h.log.1));refine(om f hC hs).mono ?_;rintro e w'⟨rfl,x,v,d1,c,s1,y,t,r,i,q,p,o,m,l⟩;refine⟨rfl,d1,c,s1,gm t (o.mono fun j u e=>?_) m l (gL p) (by rw[i.start];exact h.log.2),r,i,q⟩;rcases e with(e|e)|e
 ·exact GJ e
 ·exact GL (GJ e)
 ·omega
end Go.Proofs.YtbpodmallknhfaaGreat
namespace Go.Proofs.YtbpodmallknhfaaGreat
open Go.RowKit
theorem qW(s:Wl.S)(x:Lr.R):(Wl.dq s x).1.start=s.start:=by
 unfold Wl.dq;by_cases h:Lr.rU (Wl.aV s x)
 ·rw[Lr.fF h];split<;>rfl
 ·rw[Lr.eW h]
theorem Av:bh m7 j6 dM FF ea DG where
 Fg:=fun h=>by
  obtain⟨y,v,b,-⟩:=h;exact b.own.ok
 sW:=fun h z hs=>⟨dO h.1 z hs,h.2⟩
 DH:=fun h=>dG h.1
 dev:=fun h=>C8 h.1
 AB:=Ai
 FE:=DE
 AE:=Aj
 tm:=fun _ hs hf h=>sN hs hf h
 new:=C7
 make:=fun{U w B n}a c h hf=>(sh (a:Int) (c:Int) h Wl.kZ ⟨by omega,by have:=hf.2.2.2;have:=(show Dk.size (Dk.fresh n n)<=65536 by obtain⟨y,v,C,-⟩:=h;exact C.own.size);have:=(Wl.kZ (n:=n)).sz;have:=hf.1;omega⟩ ⟨by omega,by have:=hf.2.1;omega⟩).mono fun e w' p=>by
  obtain⟨L,H,s,G,b,f,r,q,F,E,D⟩:=p.1 hf;exact⟨L,H,s,G,b,⟨f,by show(52:Nat)≠0;decide⟩,q,r,F,E,D⟩
 append:=fun x o n u c t h A hf _ hs=>(xg x o n u c t h.1 A hf hs).mono fun e w' p=>by
  obtain⟨b,s,f,r,q⟩:=p;exact⟨b,s,⟨f,by rw[qW];exact h.2⟩,r,q⟩
 EF:=fun h hC hf _ _ hw=>B8 h hC hf hw
 qo:=fun fr h hC hf _ _ i b f=>B9 fr h hC hf i b f
 get:=fun m h hC hs hm hf=>DF m h hC hs hm hf
 rJ:=fun m h _ _ hm=>uZ m h hm
 tu:=fun m h hC hm hf=>sO m h hC hm hf
 put:=fun m x u h j hs hm hf g d hl=>DC m x u h j hs hm hf g d hl
 dC:=fun m k l u h _ _ _ d hm=>uX m k l u h d hm
 nZ:=fun m x u h hC hm hf g d=>sL m x u h hC hm hf g d
 Fc:=fun m h hC hs hm hf hp=>DD m h hC hs hm hf hp
 rl:=fun m h _ _ hm=>uY m h hm
 sX:=fun m h hC hm hf=>sM m h hC hm hf
 pins:=fun m h hC hm _=>B7 m h hC hm
 iN:=fun m h hC hm h0 hp=>Ah m h hC hm h0 hp
 fk:=fun m h _ hI hm=>pM m h hI hm
 flush:=fun m h j hs hm=>Ak m h j hs hm
 mv:=fun m h _ _ hm=>rh m h hm
 iV:=fun h hC hs=>sP h hC hs
 aD:=fun h hC=>Al h hC
 held:=fun h _=>Ca h
end Go.Proofs.YtbpodmallknhfaaGreat
