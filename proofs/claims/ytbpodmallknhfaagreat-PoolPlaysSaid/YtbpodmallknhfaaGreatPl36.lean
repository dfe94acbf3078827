/- Parts of a proof. Conditions: as each row says. -/
import Derived.Test.YtbpodmallknhfaaGreatPl35
namespace Go.Proofs.YtbpodmallknhfaaGreat
open Go.RowKit
theorem count_set:∀(H:List (Option Nat))(k:Nat)(x:Option Nat),k<H.length->(H.set k x).countP Option.isSome+(if(H.getD k none).isSome then 1 else 0)=H.countP Option.isSome+(if x.isSome then 1 else 0)
 | [],k,x,h=>by simp at h
 |y::H,0,x,_=>by
  show(x::H).countP _+(if y.isSome then 1 else 0)=(y::H).countP _+_;rw[List.countP_cons,List.countP_cons];omega
 |y::H,k+1,x,h=>by
  have a:=count_set H k x (by simpa using h);show(y::H.set k x).countP _+(if(H.getD k none).isSome then 1 else 0)=(y::H).countP _+_;rw[List.countP_cons,List.countP_cons];omega
theorem bJ(H:List (Option Nat)){k:Nat}(a:k<H.length)(x:Option Nat)(j:Nat):(H.set k x).getD j none=if j=k then x else H.getD j none:=by
 by_cases h:j=k
 ·subst h;rw[GU rfl,GG,Ix a];rfl
 ·rw[GQ h,GG,Iw (H4 h),<-GG]
section
variable{w w':World}{P B S b N L aS hand mp:Nat}{F:List Fr}
theorem aF.again{g:Fr}(k:F.length=64){i:Nat}(d:i<64)(h:aF w P B S b N L aS hand mp (F.set i g))(j:Nat)(c:j<7)(v:Value)(f:Fr)(e:oT f=(oT g).set j v):aF (w.setCell ⟨P,5+i*7+j,none⟩ v) P B S b N L aS hand mp (F.set i f):=by
 have a:=h.set d j c v f (by rw[bW F (by omega),GU rfl];exact e);rw[List.set_set]at a;exact a
theorem aF.BS(h:aF w P B S b N L aS hand mp F){i:Nat}(a:i<64)(f:Fr):
 aF (((((((w.setCell ⟨P,5+i*7,none⟩ (.int .i64 (f.aw:Int))).setCell ⟨P,5+i*7+1,none⟩ (.int .u64 (f.bl:Int))).setCell ⟨P,5+i*7+2,none⟩ f.u).setCell ⟨P,5+i*7+3,none⟩ (.int .i64 (f.pins:Int))).setCell ⟨P,5+i*7+4,none⟩ (.bool f.aD)).setCell ⟨P,5+i*7+5,none⟩ (.int .u64 (f.first:Int))).setCell ⟨P,5+i*7+6,none⟩ (.bool f.used)) P B S b N L aS hand mp (F.set i f):=by
 have h0:=h.set a 0 (by decide) (.int .i64 (f.aw:Int)) {fa F i with aw:=f.aw} rfl;rw[Ia]at h0;have j:=aF.again h.len a h0 1 (by decide) (.int .u64 (f.bl:Int)) {fa F i with aw:=f.aw,bl:=f.bl} rfl;have g:=aF.again h.len a j 2 (by decide) f.u {fa F i with aw:=f.aw,bl:=f.bl,u:=f.u} rfl;have e:=aF.again h.len a g 3 (by decide) (.int .i64 (f.pins:Int)) {fa F i with aw:=f.aw,bl:=f.bl,u:=f.u,pins:=f.pins} rfl;have d:=aF.again h.len a e 4 (by decide) (.bool f.aD) {fa F i with aw:=f.aw,bl:=f.bl,u:=f.u,pins:=f.pins,aD:=f.aD} rfl;have c:=aF.again h.len a d 5 (by decide) (.int .u64 (f.first:Int)) {fa F i with aw:=f.aw,bl:=f.bl,u:=f.u,pins:=f.pins,aD:=f.aD,first:=f.first} rfl;exact aF.again h.len a c 6 (by decide) (.bool f.used) f rfl
end
def FR(Fb:Nat->Prop)(U V:Nat->Prop)(B L P S b N mp:Nat)(F:List Fr)(H:List (Option Nat))(n:Nat)(d:Dk.ak)(lg:Wl.S)(s:Po.S)(m:Nat)(y:Po.Pg)(w:World)(e:Ending)(w':World):Prop:=
 (∃i a h H1 p o d1 f s1 dk,e=.returned (.tuple #[.pointer (some ⟨P,5+i*7,none⟩),.int .i64 0])/\i<s1.held.length/\(fa h i).aw=m/\m∈s1.held/\Po.qI s s1/\Po.fh s m/\Po.Good s1/\jW p o w' B L d1 f/\
  dN w' B L P S b N a mp h H1 {s1 with now:=Po.cI s.now m (Lr.rC (m∈s.held) (s.now m) y),bH:=dk}/\(y=s.now m->dk=s1.bH)/\Rg.pS S b N d1 s1.bH/\Wl.aX n d1/\(Wl.Calm n d->Wl.Calm n d1)/\Po.Lf lg f/\Po.vU f s1/\(∀j,cr p o j->¬dI P mp h j)/\
  Touch (fun j=>cr U V j\/j=P\/j=mp) w w'/\bA U p w/\bA V o w/\(∀j,dI P mp h j->dI P mp F j\/w.heap.size<=j\/Fb j)/\((∀k,s.first k=none)->d1=d/\f=lg))\/
 (¬Po.fh s m/\e=.returned (.tuple #[.pointer none,.int .i64 13])/\∃a h,cB U V w' B L P S b N a mp h H n d lg s/\dI P mp h=dI P mp F/\Touch (fun j=>cr U V j\/j=P\/j=mp) w w')\/
 (¬Wl.Calm n d/\e=.returned (.tuple #[.pointer none,.int .i64 6])/\∃r l g c,m7 r w' B l/\Wl.aX n l/\Touch (fun j=>cr U V j\/j=P\/j=mp) w w'/\bA U r w/\Po.Lf lg g/\(∀k x,c k x->(x=s.bH k\/x=s.now k)/\x.1<g.ag)/\∀q,Wl.Hd (Dk.aQ l q) g/\Rg.uc S b N (Dk.aQ l q) c)
theorem Po.sq(s:Po.S)(m:Nat):Po.cI s.now m (s.now m)=s.now:=Po.ew _ _ _ rfl
section
variable{w w':World}{B L P S b N hand mp:Nat}{F:List Fr}{H:List (Option Nat)}{s:Po.S}
structure H7(s:Po.S)(H a:List (Option Nat))(N m i:Nat):Prop where
 len:a.length=N
 at_:a.getD m none=some i
 Fe:∀k,k≠m->a.getD k none=if H.getD k none=some i then none else H.getD k none
 aS:(bO a).length=if i<s.held.length then s.held.length else s.held.length+1
theorem wL(h:dN w B L P S b N hand mp F H s){m i:Nat}(g:i=s.held.length)(hm:m<N)(c:H.getD m none=none):H7 s H (H.set m (some i)) N m i:=by
 have a:m<H.length:=by rw[h.hlen];exact hm
 refine⟨by rw[G4];exact h.hlen,by rw[bJ H a,GU rfl],fun k f=>?_,?_⟩
 ·rw[bJ H a,GQ f,GQ];intro e;have:=(h.jx k i e).1;omega
 ·have d:=count_set H m (some i) a;rw[c]at d;have j:=h.bounds.2;rw[eX,GQ (by omega)];simp at d;omega
theorem ts(h:dN w B L P S b N hand mp F H s){m i:Nat}(l:i<s.held.length)(hm:m<N)(c:H.getD m none=none):H7 s H ((H.set (fa F i).aw none).set m (some i)) N m i:=by
 have d:m<H.length:=by rw[h.hlen];exact hm
 have hp:=j9 h l;have a:(fa F i).aw<H.length:=by rw[h.hlen];exact hp
 have g:=h.jw i l;have j:m≠(fa F i).aw:=fun e=>by rw[e,g]at c;cases c
 have f:(H.set (fa F i).aw none).length=H.length:=G4;refine⟨by rw[G4,G4];exact h.hlen,by rw[bJ _ (by rw[f];exact d),GU rfl],fun k p=>?_,?_⟩
 ·rw[bJ _ (by rw[f];exact d),GQ p,bJ H a];by_cases e:k=(fa F i).aw
  ·rw[GU e,e,g,GU rfl]
  ·rw[GQ e,GQ];intro q;exact e (h.jx k i q).2.symm
 ·have o:=count_set H (fa F i).aw none a;rw[g]at o;have n:=count_set (H.set (fa F i).aw none) m (some i) (by rw[f];exact d);rw[bJ H a,GQ j,c]at n;have r:=h.bounds.2;rw[eX,GU l];simp at o n;omega
theorem lW{U V:Nat->Prop}{n:Nat}{d:Dk.ak}{lg:Wl.S}{c:List (Option Nat)}(h:cB U V w B L P S b N hand mp F H n d lg s)(A:Touch (fun j=>j=P\/j=mp) w w'){i m:Nat}{y:Po.Pg}{u:Value}(D:i<=s.held.length)(r:i<s.ao)(hm:m<N)(f:H.getD m none=none)(J:Po.cX y)(M:aJ w u y.2)
 (hu:∀g,u.ownBlock=some g->¬cr U V g/\g≠P/\g≠mp) (E:i<s.held.length->(fa F i).pins=0/\(fa F i).aD=false) (o:aF w' P B S b N L s.ao hand mp (F.set i ⟨m,y.1,u,0,false,0,true⟩)) (p:dm w' mp c) (a:H7 s H c N m i):
 Po.Good {s with held:=bO c}/\m∈bO c/\i<(bO c).length/\jW U V w' B L d lg/\dN w' B L P S b N hand mp (F.set i ⟨m,y.1,u,0,false,0,true⟩) c (Po.oF s c m y)/\(∀j,cr U V j->¬dI P mp (F.set i ⟨m,y.1,u,0,false,0,true⟩) j)/\
 (∀j,dI P mp (F.set i ⟨m,y.1,u,0,false,0,true⟩) j->dI P mp F j\/u.ownBlock=some j)/\s.bH m=s.now m:=by
 obtain⟨T,R,I⟩:=gX h.pm f;have t:=h.pm.aI.clean m I;have C:i<F.length:=by rw[h.pm.row.len];have:=h.pm.aS;omega
 have G:∀j,dI P mp (F.set i ⟨m,y.1,u,0,false,0,true⟩) j->dI P mp F j\/u.ownBlock=some j:=by
  rintro j(e|e|⟨k,x⟩)
  ·exact GJ (GJ e)
  ·exact GJ (GL (GJ e))
  ·rw[bW F C]at x;split at x
   ·exact GL x
   ·exact GJ (GL (GL ⟨k,x⟩))
 have l:=qz h.pm D r hm f (h.pm.aI.ok m) E a.len a.at_ a.Fe a.aS;have Q:Po.oF s c m (s.now m)={s with held:=bO c}:=by
  unfold Po.oF;rw[Po.ew s.now m _ rfl,Po.ew s.bH m _ t]
 rw[Q]at l;refine⟨l.1,l.2,by rw[a.aS];split<;>omega,dO h.log A fun j q e=>?_,h.pm.load A (fun j _ v O e=>?_) D r hm f J (A.aP M fun _ g z e=>?_) (fun g z=>(hu g z).2) E o p a.len a.at_ a.Fe a.aS,fun j q K=>?_,G,t⟩
 ·rcases e with e|e
  ·exact h.off j q (GJ e)
  ·exact h.off j q (GL (GJ e))
 ·rcases e with e|e
  ·exact v e
  ·exact O e
 ·rcases e with e|e
  ·exact(hu g z).2.1 e
  ·exact(hu g z).2.2 e
 ·rcases G j K with v|v
  ·exact h.off j q v
  ·exact(hu j v).1 q
end
set_option maxHeartbeats 12800000 in
set_option maxRecDepth 20000 in
theorem gT{Fb U V:Nat->Prop}{w:World}{B L P S b N hand mp n:Nat}{F:List Fr}{H:List (Option Nat)}{d:Dk.ak}{lg:Wl.S}{s:Po.S}(m:Nat)(y:Po.Pg)(h:cB U V w B L P S b N hand mp F H n d lg s)(hm:m<N)(hs:Po.fh s m->lg.stop<=1000000000000)(hy:Po.cX y)
 (bt:∀g,Fb g->¬cr U V g/\g≠P/\g≠mp)
 (ay:m∉s.held->∀w2 bq F2,cB U V w2 B L P S b N bq mp F2 H n d lg s->Touch (·=P) w w2->Calls Tryz.prog 49 #[.pointer (some ⟨P,0,none⟩),.int .i64 (m:Int)] w2 fun e w'=>∃p c,e=.returned (.tuple #[ed y.1 (.slice p y.2.length c),.int .i64 0])/\aJ w' (.slice p y.2.length c) y.2/\(∀g,(Value.slice p y.2.length c).ownBlock=some g->Fb g)/\Below w2.heap.size w2 w'):
 Calls Tryz.prog 48 #[.pointer (some ⟨P,0,none⟩),.int .i64 (m:Int),.func (.func 49) #[.pointer (some ⟨P,0,none⟩)] #[]] w fun e w'=>FR Fb U V B L P S b N mp F H n d lg s m y w e w':=by
 have bk: -9223372036854775808<=(m:Int)/\(m:Int)<=9223372036854775807:=by have:=h.pm.n16;omega
 have hfr:=dT h.pm.row h.pm.map (m:Int) bk;rw[kU]at hfr;have x:=GD h;have HM:=GD hm;have HS:=GD hs;have HY:=GD hy;have bD:=GD bt;have bE:=GD ay;cases hm0:H.getD m none with
 |some i=>
  obtain⟨hi,bL⟩:=h.pm.jx m i hm0;have M:m∈s.held:=by rw[h.pm.held];exact(cE H m).2 (by rw[hm0];exact fun c=>by cases c)
  have a2:i<64:=by have:=h.pm.bounds;have:=h.pm.aS;omega
  rw[hm0]at hfr;have aX:=GD hfr;have HI:Hid (i<s.held.length/\i<64):=⟨hi,a2⟩
  have aU:=GD M;have b8:=GD bL;have g6:=h.pm.row.fr a2 6 (by decide) (v:=.bool (fa F i).used) rfl;have f6:=h.pm.row.free (5+i*7+6);have aA:=h.pm.row.set a2 6 (by decide) (.bool true) {fa F i with used:=true} rfl;have b7:=GD aA;clear h hm hs hy bt ay bk hfr hm0 hi bL M a2 aA;go_enter Tryz.func48,Tryz.ntmps48;go_wp2_with fail
  refine aX.out.mono ?_;rintro e w1⟨rfl,rfl⟩;unfold wO;dsimp only;clear aX;go_wp2_with fail
  go_ret2
  have ag:fU F (F.set i {fa F i with used:=true}):=(fU.refl F).set (by rw[x.out.pm.row.len];exact HI.out.2) true;have b3:dN (w1.setCell ⟨P,5+i*7+6,none⟩ (.bool true)) B L P S b N hand mp (F.set i {fa F i with used:=true}) H s:=x.out.pm.same (T:=(·=P)) (Touch.set P _ _ rfl) (fun j _ A e=>A e) b7.out x.out.pm.hand ag fun j A=>by
   rw[bW F (by rw[x.out.pm.row.len];exact HI.out.2),GQ (by have:=HI.out.1;omega)];exact x.out.pm.rest j A
  have hX:=lz (P:=P) (mp:=mp) ag;refine GJ ⟨i,hand,F.set i {fa F i with used:=true},H,U,V,d,lg,s,s.bH,rfl,HI.out.1,?_,aU.out,⟨rfl,rfl,rfl,rfl,fun _ _=>rfl,fun _=>GJ rfl⟩,GJ aU.out,x.out.pm.aI,?_,?_,fun _=>rfl,x.out.hw,x.out.cy,id,GJ rfl,x.out.fY,?_,Touch.set P _ _ (GL (GJ rfl)),fun _ h=>GJ h,fun _ h=>GJ h,?_,fun _=>⟨rfl,rfl⟩⟩
  ·rw[bW F (by rw[x.out.pm.row.len];exact HI.out.2),GU rfl];exact b8.out
  ·exact dO x.out.log (Touch.set (S:=(·=P)) P _ _ rfl) fun j A e=>x.out.off j A (e▸GJ rfl)
  ·rw[show Lr.rC (m∈s.held) (s.now m) y=s.now m from Lr.fF aU.out _ _,Po.sq];exact b3
  ·rw[hX];exact x.out.off
  ·rw[hX];exact fun j A=>GJ A
 |none=>
  rw[hm0]at hfr;have hb:=h.pm.bounds;have bj:=oe h.pm.row h.pm.map h.pm.aS.1 h.pm.aS.2 h.pm.hand (by rw[hb.2];exact hb.1);rw[hb.2]at bj;have aX:=GD hfr;have bV:=GD bj;have aR:=GD hm0;have bb:=GD (gX h.pm hm0);have b0:=GD hb;have b9:=GD h.pm.aS;clear h hm hs hy bt ay bk hfr hm0 hb bj;go_enter Tryz.func48,Tryz.ntmps48;go_wp2_with fail
  refine aX.out.mono ?_;rintro e w0⟨rfl,rfl⟩;unfold wO;dsimp only;clear aX;go_wp2_with fail
  refine bV.out.mono ?_;rintro e w1⟨i,t,ok,z,rfl,aB,bN,ag,bg,aY,hA,hB⟩;have bG:∀j,s.held.length<=j->fa z j=Fr.zero:=fun j A=>by
   by_cases hl:s.held.length<s.ao
   ·rw[(hA hl).2.2];exact x.out.pm.rest j A
   ·rw[bg j (by omega)];exact x.out.pm.rest j A
  have bc:=x.out.pm.same aY (fun j _ r h2=>r h2) aB bN ag bG;have bs:=lz (P:=P) (mp:=mp) ag;have aV:Hid (cB U V w1 B L P S b N t mp z H n d lg s):=⟨dO x.out.log aY fun j A e=>x.out.off j A (e▸GJ rfl),bc,x.out.dV,x.out.hw,by rw[bs];exact x.out.off,x.out.fY,x.out.kz,x.out.cy,x.out.n16⟩
  have bu:=GD bs;have aQ:=GD aY;have bT:=GD ag;have HA:=GD hA;have HB:=GD hB;clear aB bN ag bg aY hA hB bG bc bs bV;rcases ID ok with ai|ai
  case inr=>
   have cb:=GD ai;subst ai;clear bE;go_wp2_with fail
   go_ret2
   have b4:¬s.held.length<s.ao:=fun hl=>by
    have:=(HA.out hl).2.1;cases this
   refine GL (GJ ⟨fun hf=>?_,rfl,t,z,aV.out,bu.out,aQ.out.mono fun j _ e=>GL (GJ e)⟩);rcases hf with hf|hf
   ·exact bb.out.1 hf
   ·refine hf ⟨by have:=b0.out.1;omega,fun k hk=>?_⟩;obtain⟨j,-,e2,e3⟩:=lL x.out.pm hk;have r:=(x.out.pm.fr j e2).pins;rw[e3]at r;have h2:=(HB.out b4).2 trivial j (by have:=b0.out.1;omega);omega
  have bM:i<s.ao/\i<=s.held.length/\(i<s.held.length->(fa F i).pins=0):=by
   by_cases hl:s.held.length<s.ao
   ·have r:=(HA.out hl).1;exact⟨by omega,by omega,fun h2=>by omega⟩
   ·have r:=(HB.out hl).1 ai;exact⟨r.1,by have:=r.1;omega,fun _=>r.2⟩
  have ab:=GD bM;have f:Hid (i<64):=by show _<_;have:=b9.out;omega
  have ay:=bE.out bb.out.1 w1 t z aV.out aQ.out;have bZ:=GD ay;subst ai;clear ay bM bE HA HB;go_wp2_with fail
  refine bZ.out.mono ?_;rintro e w2⟨pu,cu,rfl,bS,bR,a6⟩;obtain⟨R,hR⟩:∃R,R=w2.heap.size:=⟨_,rfl⟩
  obtain⟨W2,a8⟩:∃W2,W2=w2.alloc (.cells #[.int .u64 (y.1:Int),.slice pu y.2.length cu] 59):=⟨_,rfl⟩
  have bp:Below w2.heap.size w2 W2:=by rw[a8];exact(GF _ _).alloc (GH _) _
  have au:Below w1.heap.size w1 W2:=a6.trans (bp.mono a6.size);have aC:W2.heap[R]?=some (.cells #[.int .u64 (y.1:Int),.slice pu y.2.length cu] 59 (0,0)):=by rw[a8,hR];exact GM _ _
  have l:=GD (aV.out.below au);have bF:=GD (bS.below bp);have aW:=GD bR;have bX:=GD aC;have bw:Hid (Touch (fun j=>cr U V j\/j=P\/j=mp) w0 W2):=(aQ.out.mono fun j _ e=>GL (GJ e)).trans (Touch.ax au);have bU:Hid (w0.heap.size<=R):=by show _<=_;rw[hR];exact GR aQ.out.size a6.size
  have bh:Hid (w0.heap.size<=W2.heap.size):=GR aQ.out.size au.size;unfold ed;go_upto_region 7 with(fail)
  rw[<-a8,<-hR];clear bS bR a6 bp au aC a8 hR bZ;have c5:=l.out.pm.row.pk;have bm:=l.out.pm.map.jj;rw[l.out.pm.bounds.2]at bm;have ca:(i:Int)<64:=by have:=f.out;omega
  by_cases aL:i<s.held.length
  case pos=>
   have bf:(i:Int)<(s.held.length:Int):=by omega
   have J:=GD aL;have G:Po.fh s m:=GL (Po.td (k:=(fa z i).aw) (by rw[x.out.pm.held];exact(cE H _).2 (by rw[l.out.pm.jw i J.out];exact fun c=>by cases c)) ((l.out.pm.fr i J.out).pins.trans ((bT.out.pins i).trans (ab.out.2.2 J.out))));have bB:=GD (oj l.out aL (HS.out G));have bC:=GD G;clear G;clear aL;go_wp2_with fail
   refine bB.out.mono ?_;intro e w3 an;rcases an with⟨rfl,wg,ai,ad,bd⟩|⟨aZ,rfl,bP⟩
   case inr=>
    have HE:Hid (_/\_):=⟨aZ,bP⟩
    clear aZ bP bB bm c5;go_wp2_with fail
    go_ret2
    obtain⟨aZ,U',d',b2,c,e1,e2,e3,e4,e5,e6⟩:=HE.out;refine GL (GL ⟨aZ,rfl,U',d',b2,c,e1,e2,bw.out.trans (e3.mono fun j _ e=>?_),fun j A=>?_,e5,e6⟩)
    ·rcases e with e|e
     ·exact GJ e
     ·exact GL (GJ e)
    ·rcases e4 j A with r|r
     ·exact GJ r
     ·exact GL (GR bh.out r)
   obtain⟨U1,V1,d1,b1,aH,W,a1,av,aM,an,O⟩:=ai;obtain⟨K,ba⟩:∃K,K=z.set i {fa z i with aD:=false}:=⟨_,rfl⟩
   have aN:i<z.length:=by rw[l.out.pm.row.len];exact f.out
   have Y:fa K i={fa z i with aD:=false}:=by rw[ba,bW z aN,GU rfl]
   have a7:dI P mp K=dI P mp F:=by rw[ba,ix z aN {fa z i with aD:=false} rfl,bu.out]
   rw[<-ba]at aH;have ar:(fa K i).aw=(fa z i).aw:=by rw[Y]
   have bI:∀g,(Value.slice pu y.2.length cu).ownBlock=some g->g<W2.heap.size:=bF.out.jg (by rw[HY.out.2.1];decide);have bQ:¬(cr U V R\/R=P):=fun h=>by
    have r:=bU.out;rcases h with h|h
    ·have:=dG x.out.log R h;omega
    ·have:=x.out.pm.row.lt;omega
   have Z:Hid (w3.heap[R]?=some (.cells #[.int .u64 (y.1:Int),.slice pu y.2.length cu] 59 (0,0))):=ad.row (av.row bX.out bQ) fun e=>by
    have r:=bU.out;have h2:=x.out.pm.map.lt;omega
   have a:Hid (aF w3 P B S b N L s.ao t mp K):=aH.pm.row.aj ad aH.pm.ne;have aT:=GD bd;have bA:Hid ((H.set (fa z i).aw none).length=N):=by show _=_;rw[G4];exact x.out.pm.hlen
   have aa:=GD aH;have bY:Hid (_/\_/\_/\_/\_/\_/\_):=⟨W,a1,av,aM,an,O,ad⟩
   have HF:Hid (fa K i={fa z i with aD:=false}/\dI P mp K=dI P mp F/\(fa K i).aw=(fa z i).aw):=⟨Y,a7,ar⟩
   have b6:=GD bI;clear aH W a1 av aM an O ba aN Y a7 ar bI bQ ad bd bB bm c5 bf;have k0:=a.out.fr f.out 0 (by decide) (v:=.int .i64 ((fa K i).aw:Int)) rfl;rw[Ia]at k0;have k1:=a.out.fr f.out 1 (by decide) (v:=.int .u64 ((fa K i).bl:Int)) rfl;have k2:=a.out.fr f.out 2 (by decide) (v:=(fa K i).u) rfl;have k3:=a.out.fr f.out 3 (by decide) (v:=.int .i64 ((fa K i).pins:Int)) rfl;have k4:=a.out.fr f.out 4 (by decide) (v:=.bool (fa K i).aD) rfl;have k5:=a.out.fr f.out 5 (by decide) (v:=.int .u64 ((fa K i).first:Int)) rfl;have k6:=a.out.fr f.out 6 (by decide) (v:=.bool (fa K i).used) rfl;have f0:=a.out.free (5+i*7);have f1:=a.out.free (5+i*7+1);have f2:=a.out.free (5+i*7+2);have f3:=a.out.free (5+i*7+3);have f4:=a.out.free (5+i*7+4);have f5:=a.out.free (5+i*7+5);have f6:=a.out.free (5+i*7+6);have p0:=ah Z.out 0 (v:=.int .u64 (y.1:Int)) rfl;have p1:=ah Z.out 1 (v:=.slice pu y.2.length cu) rfl;have o:=a.out.BS f.out ⟨m,y.1,.slice pu y.2.length cu,0,false,0,false⟩;obtain⟨W5,X⟩:∃W5,W5=(((((((w3.setCell ⟨P,5+i*7,none⟩ (.int .i64 (m:Int))).setCell ⟨P,5+i*7+1,none⟩ (.int .u64 (y.1:Int))).setCell ⟨P,5+i*7+2,none⟩ (.slice pu y.2.length cu)).setCell ⟨P,5+i*7+3,none⟩ (.int .i64 0)).setCell ⟨P,5+i*7+4,none⟩ (.bool false)).setCell ⟨P,5+i*7+5,none⟩ (.int .u64 0)).setCell ⟨P,5+i*7+6,none⟩ (.bool false)):=⟨_,rfl⟩
   have af:Touch (·=P) w3 W5:=by
    rw[X];exact((((((Touch.set (S:=(·=P)) P _ _ rfl).trans (Touch.set P _ _ rfl)).trans (Touch.set P _ _ rfl)).trans (Touch.set P _ _ rfl)).trans (Touch.set P _ _ rfl)).trans (Touch.set P _ _ rfl)).trans (Touch.set P _ _ rfl)
   have o:aF W5 P B S b N L s.ao t mp (K.set i ⟨m,y.1,.slice pu y.2.length cu,0,false,0,false⟩):=by rw[X];exact o
   have Q:P≠mp:=x.out.pm.ne;obtain⟨W6,bK,E,ae⟩:=(aT.out.aj af (fun e=>Q e.symm)).put (k:=m) (by rw[bA.out];exact HM.out) f.out;have q:=o.aj ae Q;have I:K.length=64:=a.out.len;have g6:=q.fr f.out 6 (by decide) (v:=.bool false) (by rw[bW K (by rw[I];exact f.out),GU rfl];rfl);have e6:=q.free (5+i*7+6);have m5:=o.pk;have C:=aF.again I f.out q 6 (by decide) (.bool true) ⟨m,y.1,.slice pu y.2.length cu,0,false,0,true⟩ rfl;have D:dm (W6.setCell ⟨P,5+i*7+6,none⟩ (.bool true)) mp ((H.set (fa z i).aw none).set m (some i)):=E.aj (Touch.set (S:=(·=P)) P _ _ rfl) fun e=>Q e.symm;have az:Touch (fun j=>j=P\/j=mp) w3 (W6.setCell ⟨P,5+i*7+6,none⟩ (.bool true)):=((af.mono fun _ _ e=>GJ e).trans (ae.mono fun _ _ e=>GL e)).trans (Touch.set P _ _ (GJ rfl));have bx:=GD C;have bz:=GD D;have aO:=GD az;clear o af Q E ae q I C D az;go_upto_region 15 with(fail)
   rw[<-X];clear k0 k1 k2 k3 k4 k5 k6 f0 f1 f2 f3 f4 f5 f6 p0 p1 X;go_wp2_with fail
   go_ret2
   obtain⟨W,a1,av,aM,an,O,ad⟩:=bY.out;obtain⟨Y,a7,ar⟩:=HF.out;have h7:=ts aa.out.pm J.out HM.out aR.out;rw[ar]at h7;have bJ:=bh.out;have bo:=lW (m:=m) (y:=y) aa.out ((ad.mono fun _ _ e=>GL e).trans aO.out) ab.out.2.1 ab.out.1 HM.out aR.out HY.out (av.aP bF.out fun _ g hg e=>?_) (fun g hg=>?_) (fun _=>?_) bx.out bz.out h7
   ·obtain⟨aq,M,aK,aG,aE,al,br,bn⟩:=bo;have hold:(fa z i).aw≠m:=fun e=>by
     have r:=l.out.pm.jw i J.out;rw[e,aR.out]at r;cases r
    have G:=bC.out;refine GJ ⟨i,t,K.set i ⟨m,y.1,.slice pu y.2.length cu,0,false,0,true⟩,(H.set (fa z i).aw none).set m (some i),U1,V1,d1,b1,{Po.dg s (fa z i).aw with held:=bO ((H.set (fa z i).aw none).set m (some i))},Po.cI (Po.dg s (fa z i).aw).bH m y,rfl,aK,?_,M,⟨rfl,rfl,rfl,rfl,fun k hk=>?_,fun k=>?_⟩,G,aq,aG,?_,fun e=>?_,aa.out.hw,aa.out.cy,W,a1,aa.out.fY,al,?_,fun j A=>?_,fun j A=>?_,fun j A=>?_,fun hn=>O (hn _)⟩
    ·rw[bW K (by rw[a.out.len];exact f.out),GU rfl]
    ·refine Po.dQ _ _ fun e=>(cE _ k).1 hk ?_;rw[h7.Fe k (by rw[e];exact hold),e,l.out.pm.jw i J.out,GU rfl]
    ·show Po.cI s.bH _ _ k=_\/Po.cI s.bH _ _ k=_;unfold Po.cI;split
     ·next e=>exact GL (by rw[e])
     ·exact GJ rfl
    ·rw[Lr.eW bb.out.1];exact aE
    ·exact Po.ew _ _ _ (by rw[e];exact bn)
    ·refine((bw.out.trans (av.mono fun j _ e=>?_)).trans (ad.mono fun j _ e=>GL (GL e))).trans (aO.out.mono fun j _ e=>GL e);rcases e with e|e
     ·exact GJ e
     ·exact GL (GJ e)
    ·rcases aM j A with r|r
     ·exact GJ r
     ·exact GL (GR bJ r)
    ·rcases an j A with r|r
     ·exact GJ r
     ·exact GL (GR bJ r)
    ·rcases br j A with r|r
     ·exact GJ (by rw[<-a7];exact r)
     ·exact GL (GL (aW.out j r))
   ·obtain⟨r,h2,h3⟩:=bD.out g (aW.out g hg);rcases e with e|e
    ·exact r e
    ·exact h2 e
   ·obtain⟨r,h2,h3⟩:=bD.out g (aW.out g hg);have h4:=b6.out g hg;refine⟨fun e=>?_,h2,h3⟩;rcases e with e|e
    ·rcases aM g e with h5|h5
     ·exact r (GJ h5)
     ·omega
    ·rcases an g e with h5|h5
     ·exact r (GL h5)
     ·omega
   ·rw[Y];exact⟨(bT.out.pins i).trans (ab.out.2.2 J.out),rfl⟩
  case neg=>
   have bf:¬(i:Int)<(s.held.length:Int):=by omega
   have J:Hid (¬i<s.held.length):=aL;have Z:=bX;have a:=GD l.out.pm.row;have aT:=GD l.out.pm.map;have bA:Hid (H.length=N):=x.out.pm.hlen;clear aL;have k0:=a.out.fr f.out 0 (by decide) (v:=.int .i64 ((fa z i).aw:Int)) rfl;rw[Ia]at k0;have k1:=a.out.fr f.out 1 (by decide) (v:=.int .u64 ((fa z i).bl:Int)) rfl;have k2:=a.out.fr f.out 2 (by decide) (v:=(fa z i).u) rfl;have k3:=a.out.fr f.out 3 (by decide) (v:=.int .i64 ((fa z i).pins:Int)) rfl;have k4:=a.out.fr f.out 4 (by decide) (v:=.bool (fa z i).aD) rfl;have k5:=a.out.fr f.out 5 (by decide) (v:=.int .u64 ((fa z i).first:Int)) rfl;have k6:=a.out.fr f.out 6 (by decide) (v:=.bool (fa z i).used) rfl;have f0:=a.out.free (5+i*7);have f1:=a.out.free (5+i*7+1);have f2:=a.out.free (5+i*7+2);have f3:=a.out.free (5+i*7+3);have f4:=a.out.free (5+i*7+4);have f5:=a.out.free (5+i*7+5);have f6:=a.out.free (5+i*7+6);have p0:=ah Z.out 0 (v:=.int .u64 (y.1:Int)) rfl;have p1:=ah Z.out 1 (v:=.slice pu y.2.length cu) rfl;have o:=a.out.BS f.out ⟨m,y.1,.slice pu y.2.length cu,0,false,0,false⟩;obtain⟨W5,X⟩:∃W5,W5=(((((((W2.setCell ⟨P,5+i*7,none⟩ (.int .i64 (m:Int))).setCell ⟨P,5+i*7+1,none⟩ (.int .u64 (y.1:Int))).setCell ⟨P,5+i*7+2,none⟩ (.slice pu y.2.length cu)).setCell ⟨P,5+i*7+3,none⟩ (.int .i64 0)).setCell ⟨P,5+i*7+4,none⟩ (.bool false)).setCell ⟨P,5+i*7+5,none⟩ (.int .u64 0)).setCell ⟨P,5+i*7+6,none⟩ (.bool false)):=⟨_,rfl⟩
   have af:Touch (·=P) W2 W5:=by
    rw[X];exact((((((Touch.set (S:=(·=P)) P _ _ rfl).trans (Touch.set P _ _ rfl)).trans (Touch.set P _ _ rfl)).trans (Touch.set P _ _ rfl)).trans (Touch.set P _ _ rfl)).trans (Touch.set P _ _ rfl)).trans (Touch.set P _ _ rfl)
   have o:aF W5 P B S b N L s.ao t mp (z.set i ⟨m,y.1,.slice pu y.2.length cu,0,false,0,false⟩):=by rw[X];exact o
   have Q:P≠mp:=x.out.pm.ne;obtain⟨W6,bK,E,ae⟩:=(aT.out.aj af (fun e=>Q e.symm)).put (k:=m) (by rw[bA.out];exact HM.out) f.out;have q:=o.aj ae Q;have I:z.length=64:=a.out.len;have g6:=q.fr f.out 6 (by decide) (v:=.bool false) (by rw[bW z (by rw[I];exact f.out),GU rfl];rfl);have e6:=q.free (5+i*7+6);have m5:=o.pk;have C:=aF.again I f.out q 6 (by decide) (.bool true) ⟨m,y.1,.slice pu y.2.length cu,0,false,0,true⟩ rfl;have D:dm (W6.setCell ⟨P,5+i*7+6,none⟩ (.bool true)) mp (H.set m (some i)):=E.aj (Touch.set (S:=(·=P)) P _ _ rfl) fun e=>Q e.symm;have az:Touch (fun j=>j=P\/j=mp) W2 (W6.setCell ⟨P,5+i*7+6,none⟩ (.bool true)):=((af.mono fun _ _ e=>GJ e).trans (ae.mono fun _ _ e=>GL e)).trans (Touch.set P _ _ (GJ rfl));have bx:=GD C;have bz:=GD D;have aO:=GD az;clear o af Q E ae q I C D az;go_upto_region 15 with(fail)
   rw[<-X];clear k0 k1 k2 k3 k4 k5 k6 f0 f1 f2 f3 f4 f5 f6 p0 p1 X;go_wp2_with fail
   go_ret2
   have b5:i=s.held.length:=by have:=ab.out.2.1;have:=J.out;omega
   have h7:=wL l.out.pm b5 HM.out aR.out;have bo:=lW (m:=m) (y:=y) l.out aO.out ab.out.2.1 ab.out.1 HM.out aR.out HY.out bF.out (fun g hg=>bD.out g (aW.out g hg)) (fun h=>absurd h J.out) bx.out bz.out h7;obtain⟨aq,M,aK,aG,aE,al,br,bn⟩:=bo;refine GJ ⟨i,t,z.set i ⟨m,y.1,.slice pu y.2.length cu,0,false,0,true⟩,H.set m (some i),U,V,d,lg,{s with held:=bO (H.set m (some i))},Po.cI s.bH m y,rfl,aK,?_,M,⟨rfl,rfl,rfl,rfl,fun k hk=>rfl,fun k=>GJ rfl⟩,GL (fun hf=>by have:=hf.1;have:=ab.out.1;omega),aq,aG,?_,fun e=>?_,l.out.hw,l.out.cy,id,GJ rfl,l.out.fY,al,?_,fun j A=>GJ A,fun j A=>GJ A,fun j A=>?_,fun _=>⟨rfl,rfl⟩⟩
   ·rw[bW z (by rw[a.out.len];exact f.out),GU rfl]
   ·rw[Lr.eW bb.out.1];exact aE
   ·exact Po.ew _ _ _ (by rw[e];exact bn)
   ·exact bw.out.trans (aO.out.mono fun j _ e=>GL e)
   ·rcases br j A with r|r
    ·exact GJ (by rw[<-bu.out];exact r)
    ·exact GL (GL (aW.out j r))
set_option maxHeartbeats 12800000 in
set_option maxRecDepth 20000 in
theorem pO{Fb U V:Nat->Prop}{w:World}{B L P S b N hand mp n:Nat}{F:List Fr}{H:List (Option Nat)}{d:Dk.ak}{lg:Wl.S}{s:Po.S}(m:Nat)(y:Po.Pg)(G:Nat)(h:cB U V w B L P S b N hand mp F H n d lg s)(hm:m<N)(hs:Po.fh s m->lg.stop<=1000000000000)(hy:Po.cX y)
 (bu:∀g,Fb g->¬cr U V g/\g≠P/\g≠mp)
 (az:m∉s.held->∀w2 br F2,cB U V w2 B L P S b N br mp F2 H n d lg s->Touch (·=P) w w2->Calls Tryz.prog 51 #[.int .i64 (m:Int),.pointer (some ⟨G,0,none⟩)] w2 fun e w'=>∃p c,e=.returned (.tuple #[ed y.1 (.slice p y.2.length c),.int .i64 0])/\aJ w' (.slice p y.2.length c) y.2/\(∀g,(Value.slice p y.2.length c).ownBlock=some g->Fb g)/\Below w2.heap.size w2 w'):
 Calls Tryz.prog 48 #[.pointer (some ⟨P,0,none⟩),.int .i64 (m:Int),.func (.func 51) #[] #[.pointer (some ⟨G,0,none⟩)]] w fun e w'=>FR Fb U V B L P S b N mp F H n d lg s m y w e w':=by
 have bm: -9223372036854775808<=(m:Int)/\(m:Int)<=9223372036854775807:=by have:=h.pm.n16;omega
 have hfr:=dT h.pm.row h.pm.map (m:Int) bm;rw[kU]at hfr;have x:=GD h;have HM:=GD hm;have HS:=GD hs;have HY:=GD hy;have bE:=GD bu;have bF:=GD az;cases hm0:H.getD m none with
 |some i=>
  obtain⟨hi,bM⟩:=h.pm.jx m i hm0;have O:m∈s.held:=by rw[h.pm.held];exact(cE H m).2 (by rw[hm0];exact fun c=>by cases c)
  have a6:i<64:=by have:=h.pm.bounds;have:=h.pm.aS;omega
  rw[hm0]at hfr;have aY:=GD hfr;have HI:Hid (i<s.held.length/\i<64):=⟨hi,a6⟩
  have aV:=GD O;have b9:=GD bM;have g6:=h.pm.row.fr a6 6 (by decide) (v:=.bool (fa F i).used) rfl;have f6:=h.pm.row.free (5+i*7+6);have aB:=h.pm.row.set a6 6 (by decide) (.bool true) {fa F i with used:=true} rfl;have b8:=GD aB;clear h hm hs hy bu az bm hfr hm0 hi bM O a6 aB;go_enter Tryz.func48,Tryz.ntmps48;go_wp2_with fail
  refine aY.out.mono ?_;rintro e w1⟨rfl,rfl⟩;unfold wO;dsimp only;clear aY;go_wp2_with fail
  go_ret2
  have ai:fU F (F.set i {fa F i with used:=true}):=(fU.refl F).set (by rw[x.out.pm.row.len];exact HI.out.2) true;have b4:dN (w1.setCell ⟨P,5+i*7+6,none⟩ (.bool true)) B L P S b N hand mp (F.set i {fa F i with used:=true}) H s:=x.out.pm.same (T:=(·=P)) (Touch.set P _ _ rfl) (fun j _ A e=>A e) b8.out x.out.pm.hand ai fun j A=>by
   rw[bW F (by rw[x.out.pm.row.len];exact HI.out.2),GQ (by have:=HI.out.1;omega)];exact x.out.pm.rest j A
  have hX:=lz (P:=P) (mp:=mp) ai;refine GJ ⟨i,hand,F.set i {fa F i with used:=true},H,U,V,d,lg,s,s.bH,rfl,HI.out.1,?_,aV.out,⟨rfl,rfl,rfl,rfl,fun _ _=>rfl,fun _=>GJ rfl⟩,GJ aV.out,x.out.pm.aI,?_,?_,fun _=>rfl,x.out.hw,x.out.cy,id,GJ rfl,x.out.fY,?_,Touch.set P _ _ (GL (GJ rfl)),fun _ h=>GJ h,fun _ h=>GJ h,?_,fun _=>⟨rfl,rfl⟩⟩
  ·rw[bW F (by rw[x.out.pm.row.len];exact HI.out.2),GU rfl];exact b9.out
  ·exact dO x.out.log (Touch.set (S:=(·=P)) P _ _ rfl) fun j A e=>x.out.off j A (e▸GJ rfl)
  ·rw[show Lr.rC (m∈s.held) (s.now m) y=s.now m from Lr.fF aV.out _ _,Po.sq];exact b4
  ·rw[hX];exact x.out.off
  ·rw[hX];exact fun j A=>GJ A
 |none=>
  rw[hm0]at hfr;have hb:=h.pm.bounds;have bk:=oe h.pm.row h.pm.map h.pm.aS.1 h.pm.aS.2 h.pm.hand (by rw[hb.2];exact hb.1);rw[hb.2]at bk;have aY:=GD hfr;have bX:=GD bk;have aT:=GD hm0;have bc:=GD (gX h.pm hm0);have b1:=GD hb;have ca:=GD h.pm.aS;clear h hm hs hy bu az bm hfr hm0 hb bk;go_enter Tryz.func48,Tryz.ntmps48;go_wp2_with fail
  refine aY.out.mono ?_;rintro e w0⟨rfl,rfl⟩;unfold wO;dsimp only;clear aY;go_wp2_with fail
  refine bX.out.mono ?_;rintro e w1⟨i,t,ok,z,rfl,aC,bP,ai,bh,aZ,hA,hB⟩;have bI:∀j,s.held.length<=j->fa z j=Fr.zero:=fun j A=>by
   by_cases hl:s.held.length<s.ao
   ·rw[(hA hl).2.2];exact x.out.pm.rest j A
   ·rw[bh j (by omega)];exact x.out.pm.rest j A
  have bd:=x.out.pm.same aZ (fun j _ r h2=>r h2) aC bP ai bI;have bt:=lz (P:=P) (mp:=mp) ai;have aW:Hid (cB U V w1 B L P S b N t mp z H n d lg s):=⟨dO x.out.log aZ fun j A e=>x.out.off j A (e▸GJ rfl),bd,x.out.dV,x.out.hw,by rw[bt];exact x.out.off,x.out.fY,x.out.kz,x.out.cy,x.out.n16⟩
  have bw:=GD bt;have aR:=GD aZ;have bU:=GD ai;have HA:=GD hA;have HB:=GD hB;clear aC bP ai bh aZ hA hB bI bd bt bX;rcases ID ok with al|al
  case inr=>
   have cc:=GD al;subst al;clear bF;go_wp2_with fail
   go_ret2
   have b5:¬s.held.length<s.ao:=fun hl=>by
    have:=(HA.out hl).2.1;cases this
   refine GL (GJ ⟨fun hf=>?_,rfl,t,z,aW.out,bw.out,aR.out.mono fun j _ e=>GL (GJ e)⟩);rcases hf with hf|hf
   ·exact bc.out.1 hf
   ·refine hf ⟨by have:=b1.out.1;omega,fun k hk=>?_⟩;obtain⟨j,-,e2,e3⟩:=lL x.out.pm hk;have r:=(x.out.pm.fr j e2).pins;rw[e3]at r;have h2:=(HB.out b5).2 trivial j (by have:=b1.out.1;omega);omega
  have bN:i<s.ao/\i<=s.held.length/\(i<s.held.length->(fa F i).pins=0):=by
   by_cases hl:s.held.length<s.ao
   ·have r:=(HA.out hl).1;exact⟨by omega,by omega,fun h2=>by omega⟩
   ·have r:=(HB.out hl).1 al;exact⟨r.1,by have:=r.1;omega,fun _=>r.2⟩
  have ad:=GD bN;have f:Hid (i<64):=by show _<_;have:=ca.out;omega
  have az:=bF.out bc.out.1 w1 t z aW.out aR.out;have b0:=GD az;subst al;clear az bN bF HA HB;go_wp2_with fail
  refine b0.out.mono ?_;rintro e w2⟨pu,cu,rfl,bT,bS,a7⟩;obtain⟨R,hR⟩:∃R,R=w2.heap.size:=⟨_,rfl⟩
  obtain⟨W2,ba⟩:∃W2,W2=w2.alloc (.cells #[.int .u64 (y.1:Int),.slice pu y.2.length cu] 59):=⟨_,rfl⟩
  have bq:Below w2.heap.size w2 W2:=by rw[ba];exact(GF _ _).alloc (GH _) _
  have av:Below w1.heap.size w1 W2:=a7.trans (bq.mono a7.size);have aE:W2.heap[R]?=some (.cells #[.int .u64 (y.1:Int),.slice pu y.2.length cu] 59 (0,0)):=by rw[ba,hR];exact GM _ _
  have l:=GD (aW.out.below av);have bG:=GD (bT.below bq);have aX:=GD bS;have bY:=GD aE;have bx:Hid (Touch (fun j=>cr U V j\/j=P\/j=mp) w0 W2):=(aR.out.mono fun j _ e=>GL (GJ e)).trans (Touch.ax av);have bV:Hid (w0.heap.size<=R):=by show _<=_;rw[hR];exact GR aR.out.size a7.size
  have bj:Hid (w0.heap.size<=W2.heap.size):=GR aR.out.size av.size;unfold ed;go_upto_region 7 with(fail)
  rw[<-ba,<-hR];clear bT bS a7 bq av aE ba hR b0;have c5:=l.out.pm.row.pk;have bn:=l.out.pm.map.jj;rw[l.out.pm.bounds.2]at bn;have cb:(i:Int)<64:=by have:=f.out;omega
  by_cases aM:i<s.held.length
  case pos=>
   have bg:(i:Int)<(s.held.length:Int):=by omega
   have K:=GD aM;have I:Po.fh s m:=GL (Po.td (k:=(fa z i).aw) (by rw[x.out.pm.held];exact(cE H _).2 (by rw[l.out.pm.jw i K.out];exact fun c=>by cases c)) ((l.out.pm.fr i K.out).pins.trans ((bU.out.pins i).trans (ad.out.2.2 K.out))));have bC:=GD (oj l.out aM (HS.out I));have bD:=GD I;clear I;clear aM;go_wp2_with fail
   refine bC.out.mono ?_;intro e w3 aq;rcases aq with⟨rfl,wg,al,ae,bf⟩|⟨a1,rfl,bQ⟩
   case inr=>
    have HE:Hid (_/\_):=⟨a1,bQ⟩
    clear a1 bQ bC bn c5;go_wp2_with fail
    go_ret2
    obtain⟨a1,U',d',b3,c,e1,e2,e3,e4,e5,e6⟩:=HE.out;refine GL (GL ⟨a1,rfl,U',d',b3,c,e1,e2,bx.out.trans (e3.mono fun j _ e=>?_),fun j A=>?_,e5,e6⟩)
    ·rcases e with e|e
     ·exact GJ e
     ·exact GL (GJ e)
    ·rcases e4 j A with r|r
     ·exact GJ r
     ·exact GL (GR bj.out r)
   obtain⟨U1,V1,d1,b2,aK,X,a2,ay,aN,aq,Q⟩:=al;obtain⟨M,bb⟩:∃M,M=z.set i {fa z i with aD:=false}:=⟨_,rfl⟩
   have aO:i<z.length:=by rw[l.out.pm.row.len];exact f.out
   have Z:fa M i={fa z i with aD:=false}:=by rw[bb,bW z aO,GU rfl]
   have a8:dI P mp M=dI P mp F:=by rw[bb,ix z aO {fa z i with aD:=false} rfl,bw.out]
   rw[<-bb]at aK;have au:(fa M i).aw=(fa z i).aw:=by rw[Z]
   have bJ:∀g,(Value.slice pu y.2.length cu).ownBlock=some g->g<W2.heap.size:=bG.out.jg (by rw[HY.out.2.1];decide);have bR:¬(cr U V R\/R=P):=fun h=>by
    have r:=bV.out;rcases h with h|h
    ·have:=dG x.out.log R h;omega
    ·have:=x.out.pm.row.lt;omega
   have aa:Hid (w3.heap[R]?=some (.cells #[.int .u64 (y.1:Int),.slice pu y.2.length cu] 59 (0,0))):=ae.row (ay.row bY.out bR) fun e=>by
    have r:=bV.out;have h2:=x.out.pm.map.lt;omega
   have a:Hid (aF w3 P B S b N L s.ao t mp M):=aK.pm.row.aj ae aK.pm.ne;have aU:=GD bf;have bB:Hid ((H.set (fa z i).aw none).length=N):=by show _=_;rw[G4];exact x.out.pm.hlen
   have ab:=GD aK;have bZ:Hid (_/\_/\_/\_/\_/\_/\_):=⟨X,a2,ay,aN,aq,Q,ae⟩
   have HF:Hid (fa M i={fa z i with aD:=false}/\dI P mp M=dI P mp F/\(fa M i).aw=(fa z i).aw):=⟨Z,a8,au⟩
   have b7:=GD bJ;clear aK X a2 ay aN aq Q bb aO Z a8 au bJ bR ae bf bC bn c5 bg;have k0:=a.out.fr f.out 0 (by decide) (v:=.int .i64 ((fa M i).aw:Int)) rfl;rw[Ia]at k0;have k1:=a.out.fr f.out 1 (by decide) (v:=.int .u64 ((fa M i).bl:Int)) rfl;have k2:=a.out.fr f.out 2 (by decide) (v:=(fa M i).u) rfl;have k3:=a.out.fr f.out 3 (by decide) (v:=.int .i64 ((fa M i).pins:Int)) rfl;have k4:=a.out.fr f.out 4 (by decide) (v:=.bool (fa M i).aD) rfl;have k5:=a.out.fr f.out 5 (by decide) (v:=.int .u64 ((fa M i).first:Int)) rfl;have k6:=a.out.fr f.out 6 (by decide) (v:=.bool (fa M i).used) rfl;have f0:=a.out.free (5+i*7);have f1:=a.out.free (5+i*7+1);have f2:=a.out.free (5+i*7+2);have f3:=a.out.free (5+i*7+3);have f4:=a.out.free (5+i*7+4);have f5:=a.out.free (5+i*7+5);have f6:=a.out.free (5+i*7+6);have p0:=ah aa.out 0 (v:=.int .u64 (y.1:Int)) rfl;have p1:=ah aa.out 1 (v:=.slice pu y.2.length cu) rfl;have o:=a.out.BS f.out ⟨m,y.1,.slice pu y.2.length cu,0,false,0,false⟩;obtain⟨W5,Y⟩:∃W5,W5=(((((((w3.setCell ⟨P,5+i*7,none⟩ (.int .i64 (m:Int))).setCell ⟨P,5+i*7+1,none⟩ (.int .u64 (y.1:Int))).setCell ⟨P,5+i*7+2,none⟩ (.slice pu y.2.length cu)).setCell ⟨P,5+i*7+3,none⟩ (.int .i64 0)).setCell ⟨P,5+i*7+4,none⟩ (.bool false)).setCell ⟨P,5+i*7+5,none⟩ (.int .u64 0)).setCell ⟨P,5+i*7+6,none⟩ (.bool false)):=⟨_,rfl⟩
   have ag:Touch (·=P) w3 W5:=by
    rw[Y];exact((((((Touch.set (S:=(·=P)) P _ _ rfl).trans (Touch.set P _ _ rfl)).trans (Touch.set P _ _ rfl)).trans (Touch.set P _ _ rfl)).trans (Touch.set P _ _ rfl)).trans (Touch.set P _ _ rfl)).trans (Touch.set P _ _ rfl)
   have o:aF W5 P B S b N L s.ao t mp (M.set i ⟨m,y.1,.slice pu y.2.length cu,0,false,0,false⟩):=by rw[Y];exact o
   have W:P≠mp:=x.out.pm.ne;obtain⟨W6,bL,E,af⟩:=(aU.out.aj ag (fun e=>W e.symm)).put (k:=m) (by rw[bB.out];exact HM.out) f.out;have q:=o.aj af W;have J:M.length=64:=a.out.len;have g6:=q.fr f.out 6 (by decide) (v:=.bool false) (by rw[bW M (by rw[J];exact f.out),GU rfl];rfl);have e6:=q.free (5+i*7+6);have m5:=o.pk;have C:=aF.again J f.out q 6 (by decide) (.bool true) ⟨m,y.1,.slice pu y.2.length cu,0,false,0,true⟩ rfl;have D:dm (W6.setCell ⟨P,5+i*7+6,none⟩ (.bool true)) mp ((H.set (fa z i).aw none).set m (some i)):=E.aj (Touch.set (S:=(·=P)) P _ _ rfl) fun e=>W e.symm;have aA:Touch (fun j=>j=P\/j=mp) w3 (W6.setCell ⟨P,5+i*7+6,none⟩ (.bool true)):=((ag.mono fun _ _ e=>GJ e).trans (af.mono fun _ _ e=>GL e)).trans (Touch.set P _ _ (GJ rfl));have bz:=GD C;have bA:=GD D;have aQ:=GD aA;clear o ag W E af q J C D aA;go_upto_region 15 with(fail)
   rw[<-Y];clear k0 k1 k2 k3 k4 k5 k6 f0 f1 f2 f3 f4 f5 f6 p0 p1 Y;go_wp2_with fail
   go_ret2
   obtain⟨X,a2,ay,aN,aq,Q,ae⟩:=bZ.out;obtain⟨Z,a8,au⟩:=HF.out;have h7:=ts ab.out.pm K.out HM.out aT.out;rw[au]at h7;have bK:=bj.out;have bp:=lW (m:=m) (y:=y) ab.out ((ae.mono fun _ _ e=>GL e).trans aQ.out) ad.out.2.1 ad.out.1 HM.out aT.out HY.out (ay.aP bG.out fun _ g hg e=>?_) (fun g hg=>?_) (fun _=>?_) bz.out bA.out h7
   ·obtain⟨ar,O,aL,aH,aG,an,bs,bo⟩:=bp;have hold:(fa z i).aw≠m:=fun e=>by
     have r:=l.out.pm.jw i K.out;rw[e,aT.out]at r;cases r
    have I:=bD.out;refine GJ ⟨i,t,M.set i ⟨m,y.1,.slice pu y.2.length cu,0,false,0,true⟩,(H.set (fa z i).aw none).set m (some i),U1,V1,d1,b2,{Po.dg s (fa z i).aw with held:=bO ((H.set (fa z i).aw none).set m (some i))},Po.cI (Po.dg s (fa z i).aw).bH m y,rfl,aL,?_,O,⟨rfl,rfl,rfl,rfl,fun k hk=>?_,fun k=>?_⟩,I,ar,aH,?_,fun e=>?_,ab.out.hw,ab.out.cy,X,a2,ab.out.fY,an,?_,fun j A=>?_,fun j A=>?_,fun j A=>?_,fun hn=>Q (hn _)⟩
    ·rw[bW M (by rw[a.out.len];exact f.out),GU rfl]
    ·refine Po.dQ _ _ fun e=>(cE _ k).1 hk ?_;rw[h7.Fe k (by rw[e];exact hold),e,l.out.pm.jw i K.out,GU rfl]
    ·show Po.cI s.bH _ _ k=_\/Po.cI s.bH _ _ k=_;unfold Po.cI;split
     ·next e=>exact GL (by rw[e])
     ·exact GJ rfl
    ·rw[Lr.eW bc.out.1];exact aG
    ·exact Po.ew _ _ _ (by rw[e];exact bo)
    ·refine((bx.out.trans (ay.mono fun j _ e=>?_)).trans (ae.mono fun j _ e=>GL (GL e))).trans (aQ.out.mono fun j _ e=>GL e);rcases e with e|e
     ·exact GJ e
     ·exact GL (GJ e)
    ·rcases aN j A with r|r
     ·exact GJ r
     ·exact GL (GR bK r)
    ·rcases aq j A with r|r
     ·exact GJ r
     ·exact GL (GR bK r)
    ·rcases bs j A with r|r
     ·exact GJ (by rw[<-a8];exact r)
     ·exact GL (GL (aX.out j r))
   ·obtain⟨r,h2,h3⟩:=bE.out g (aX.out g hg);rcases e with e|e
    ·exact r e
    ·exact h2 e
   ·obtain⟨r,h2,h3⟩:=bE.out g (aX.out g hg);have h4:=b7.out g hg;refine⟨fun e=>?_,h2,h3⟩;rcases e with e|e
    ·rcases aN g e with h5|h5
     ·exact r (GJ h5)
     ·omega
    ·rcases aq g e with h5|h5
     ·exact r (GL h5)
     ·omega
   ·rw[Z];exact⟨(bU.out.pins i).trans (ad.out.2.2 K.out),rfl⟩
  case neg=>
   have bg:¬(i:Int)<(s.held.length:Int):=by omega
   have K:Hid (¬i<s.held.length):=aM;have aa:=bY;have a:=GD l.out.pm.row;have aU:=GD l.out.pm.map;have bB:Hid (H.length=N):=x.out.pm.hlen;clear aM;have k0:=a.out.fr f.out 0 (by decide) (v:=.int .i64 ((fa z i).aw:Int)) rfl;rw[Ia]at k0;have k1:=a.out.fr f.out 1 (by decide) (v:=.int .u64 ((fa z i).bl:Int)) rfl;have k2:=a.out.fr f.out 2 (by decide) (v:=(fa z i).u) rfl;have k3:=a.out.fr f.out 3 (by decide) (v:=.int .i64 ((fa z i).pins:Int)) rfl;have k4:=a.out.fr f.out 4 (by decide) (v:=.bool (fa z i).aD) rfl;have k5:=a.out.fr f.out 5 (by decide) (v:=.int .u64 ((fa z i).first:Int)) rfl;have k6:=a.out.fr f.out 6 (by decide) (v:=.bool (fa z i).used) rfl;have f0:=a.out.free (5+i*7);have f1:=a.out.free (5+i*7+1);have f2:=a.out.free (5+i*7+2);have f3:=a.out.free (5+i*7+3);have f4:=a.out.free (5+i*7+4);have f5:=a.out.free (5+i*7+5);have f6:=a.out.free (5+i*7+6);have p0:=ah aa.out 0 (v:=.int .u64 (y.1:Int)) rfl;have p1:=ah aa.out 1 (v:=.slice pu y.2.length cu) rfl;have o:=a.out.BS f.out ⟨m,y.1,.slice pu y.2.length cu,0,false,0,false⟩;obtain⟨W5,Y⟩:∃W5,W5=(((((((W2.setCell ⟨P,5+i*7,none⟩ (.int .i64 (m:Int))).setCell ⟨P,5+i*7+1,none⟩ (.int .u64 (y.1:Int))).setCell ⟨P,5+i*7+2,none⟩ (.slice pu y.2.length cu)).setCell ⟨P,5+i*7+3,none⟩ (.int .i64 0)).setCell ⟨P,5+i*7+4,none⟩ (.bool false)).setCell ⟨P,5+i*7+5,none⟩ (.int .u64 0)).setCell ⟨P,5+i*7+6,none⟩ (.bool false)):=⟨_,rfl⟩
   have ag:Touch (·=P) W2 W5:=by
    rw[Y];exact((((((Touch.set (S:=(·=P)) P _ _ rfl).trans (Touch.set P _ _ rfl)).trans (Touch.set P _ _ rfl)).trans (Touch.set P _ _ rfl)).trans (Touch.set P _ _ rfl)).trans (Touch.set P _ _ rfl)).trans (Touch.set P _ _ rfl)
   have o:aF W5 P B S b N L s.ao t mp (z.set i ⟨m,y.1,.slice pu y.2.length cu,0,false,0,false⟩):=by rw[Y];exact o
   have W:P≠mp:=x.out.pm.ne;obtain⟨W6,bL,E,af⟩:=(aU.out.aj ag (fun e=>W e.symm)).put (k:=m) (by rw[bB.out];exact HM.out) f.out;have q:=o.aj af W;have J:z.length=64:=a.out.len;have g6:=q.fr f.out 6 (by decide) (v:=.bool false) (by rw[bW z (by rw[J];exact f.out),GU rfl];rfl);have e6:=q.free (5+i*7+6);have m5:=o.pk;have C:=aF.again J f.out q 6 (by decide) (.bool true) ⟨m,y.1,.slice pu y.2.length cu,0,false,0,true⟩ rfl;have D:dm (W6.setCell ⟨P,5+i*7+6,none⟩ (.bool true)) mp (H.set m (some i)):=E.aj (Touch.set (S:=(·=P)) P _ _ rfl) fun e=>W e.symm;have aA:Touch (fun j=>j=P\/j=mp) W2 (W6.setCell ⟨P,5+i*7+6,none⟩ (.bool true)):=((ag.mono fun _ _ e=>GJ e).trans (af.mono fun _ _ e=>GL e)).trans (Touch.set P _ _ (GJ rfl));have bz:=GD C;have bA:=GD D;have aQ:=GD aA;clear o ag W E af q J C D aA;go_upto_region 15 with(fail)
   rw[<-Y];clear k0 k1 k2 k3 k4 k5 k6 f0 f1 f2 f3 f4 f5 f6 p0 p1 Y;go_wp2_with fail
   go_ret2
   have b6:i=s.held.length:=by have:=ad.out.2.1;have:=K.out;omega
   have h7:=wL l.out.pm b6 HM.out aT.out;have bp:=lW (m:=m) (y:=y) l.out aQ.out ad.out.2.1 ad.out.1 HM.out aT.out HY.out bG.out (fun g hg=>bE.out g (aX.out g hg)) (fun h=>absurd h K.out) bz.out bA.out h7;obtain⟨ar,O,aL,aH,aG,an,bs,bo⟩:=bp;refine GJ ⟨i,t,z.set i ⟨m,y.1,.slice pu y.2.length cu,0,false,0,true⟩,H.set m (some i),U,V,d,lg,{s with held:=bO (H.set m (some i))},Po.cI s.bH m y,rfl,aL,?_,O,⟨rfl,rfl,rfl,rfl,fun k hk=>rfl,fun k=>GJ rfl⟩,GL (fun hf=>by have:=hf.1;have:=ad.out.1;omega),ar,aH,?_,fun e=>?_,l.out.hw,l.out.cy,id,GJ rfl,l.out.fY,an,?_,fun j A=>GJ A,fun j A=>GJ A,fun j A=>?_,fun _=>⟨rfl,rfl⟩⟩
   ·rw[bW z (by rw[a.out.len];exact f.out),GU rfl]
   ·rw[Lr.eW bc.out.1];exact aG
   ·exact Po.ew _ _ _ (by rw[e];exact bo)
   ·exact bx.out.trans (aQ.out.mono fun j _ e=>GL e)
   ·rcases bs j A with r|r
    ·exact GJ (by rw[<-bw.out];exact r)
    ·exact GL (GL (aX.out j r))
theorem Rg.xA{n S b N m:Nat}{d:Dk.ak}{f:Nat->Po.Pg}(k:Wl.aX n d)(q:d.off=false)(s:Rg.il n S b N)(h:Rg.pS S b N d f)(hm:m<N):Pg.read d (b:Int) (m:Int)=(f m,0):=by
 have r:=s.base;obtain⟨l1,l⟩:=wF r hm;have p:∀j,j<4->Rg.QS d (b+4*m+j):=fun j e x g=>by
  have:=h.idle _ (Rg.cK (S:=S) (b:=b) (N:=N) hm e);rw[this]at g;cases g
 have a:∀j,j<4->Dk.read d ((b+4*m+j:Nat):Int)=(Rg.lv d (b+4*m+j),0):=fun j e=>by
  rw[Rg.nh k q (by omega),Rg.gQ (p j e)]
 have h0:=a 0 (by decide);have v:=a 1 (by decide);have u:=a 2 (by decide);have t:=a 3 (by decide);have o:Dk.iw d (b+4*m) 4=(Rg.hm d (b+4*m),0):=by
  unfold Dk.iw Dk.iw Dk.iw Dk.iw Dk.iw;rw[Ia]at h0;rw[show b+4*m+1+1=b+4*m+2 by omega,show b+4*m+2+1=b+4*m+3 by omega,h0,v,u,t];simp[Rg.hm]
 have i:=h.home m hm;unfold Pg.read;rw[k.sz,GQ (by rw[l1];decide),l,o,GQ (fun c=>c rfl)];dsimp only;rw[i.1,i.2]
theorem Wl.dy{n:Nat}{d:Dk.ak}(h:Wl.Calm n d)(a:Dk.Ok d):Wl.aX n d:=⟨a,h.sz,h.bD⟩
theorem kP{U V:Nat->Prop}{w w2:World}{B L P S b N a mp n:Nat}{v:List Fr}{H:List (Option Nat)}{d:Dk.ak}{lg:Wl.S}{s:Po.S}{m:Nat}(hC:Wl.Calm n d)(hm:m<N)(f:m∉s.held)(h:cB U V w2 B L P S b N a mp v H n d lg s)(l:Touch (·=P) w w2):
 Calls Tryz.prog 49 #[.pointer (some ⟨P,0,none⟩),.int .i64 (m:Int)] w2 fun e w'=>∃p c,e=.returned (.tuple #[ed (s.now m).1 (.slice p (s.now m).2.length c),.int .i64 0])/\aJ w' (.slice p (s.now m).2.length c) (s.now m).2/\(∀g,(Value.slice p (s.now m).2.length c).ownBlock=some g->w.heap.size<=g)/\Below w2.heap.size w2 w':=by
 obtain⟨z,y,pl,x,o,hV,i,-⟩:=h.log;have t:=h.pm.n16;have k:=u9 h.pm.row i (m:Int) (by omega);rw[Rg.xA h.cy hC.off h.dV h.hw hm,h.pm.aI.clean m (h.pm.aI.lQ f)]at k;refine k.mono ?_;rintro e w'⟨u,rfl,j,r⟩;obtain⟨p,c,hu,-⟩:=j.aP.form;subst hu;exact⟨p,c,rfl,j.aP,fun g q=>GR l.size (Nat.le_of_not_lt fun hlt=>iP j q hlt),r⟩
theorem Po.Fy{α:Type}(f:Nat->α)(k:Nat):Po.cI f k (f k)=f:=Po.ew f k _ rfl
theorem dN.frame{w w':World}{B L P S b N hand mp:Nat}{F:List Fr}{H:List (Option Nat)}{s:Po.S}(h:dN w B L P S b N hand mp F H s){T:Nat->Prop}(t:Touch T w w')(hT:∀j,dI P mp F j->j≠P->¬T j){i:Nat}(C:i<s.held.length)(f:Fr)(hp:f.aw=(fa F i).aw)(D:∀g,f.u.ownBlock=some g->g≠P/\g≠mp)
 (d:Po.S) (o:d.held=s.held) (hfr:d.ao=s.ao) (E:d.ar=s.ar) (l:Po.Good d) (hf:yN w' d f) (z:∀k,k≠f.aw->d.now k=s.now k/\d.pins k=s.pins k/\d.first k=s.first k) (n:aF w' P B S b N L s.ao hand mp (F.set i f)):dN w' B L P S b N hand mp (F.set i f) H d:=by
 have p:i<F.length:=by rw[h.row.len];have:=h.bounds;have:=h.aS;omega
 have a:=bW F p f;refine⟨by rw[hfr];exact n,h.map.aj t (hT mp (GL (GJ rfl)) (H4 h.ne)),h.hlen,by rw[E];exact h.ar,by rw[hfr];exact h.aS,by rw[hfr];exact h.hand,by rw[o];exact h.held,fun k j A=>?_,fun j c=>?_,fun j c=>?_,fun j c=>?_,l,h.n16,h.ne,fun j g l=>?_⟩
 ·obtain⟨m,v⟩:=h.jx k j A;rw[o,a];refine⟨m,?_⟩;split
  ·next e=>rw[hp,<-e];exact v
  ·exact v
 ·rw[o]at c;rw[a];split
  ·next e=>rw[hp,<-e];exact h.jw j c
  ·exact h.jw j c
 ·rw[o]at c;rw[a];split
  ·exact hf
  ·next e=>
   have m:=(h.fr j c).aj t fun g l q=>hT g (GL (GL ⟨j,l⟩)) (h.yD j g l).1 q;obtain⟨r,y,x⟩:=z (fa F j).aw fun G=>e (ta h c C (by rw[G,hp]));exact⟨by rw[r];exact m.bl,by rw[r];exact m.body,by rw[y];exact m.pins,by rw[x];exact m.first,m.fl⟩
 ·rw[o]at c;rw[a,GQ (by omega)];exact h.rest j c
 ·rw[a]at l;split at l
  ·exact D g l
  ·exact h.yD j g l
def Gc(U V:Nat->Prop)(B L P S b N mp:Nat)(F:List Fr)(n:Nat)(d:Dk.ak)(lg:Wl.S)(s:Po.S)(m:Nat)(w:World)(i c:Nat)(e:List Fr)(H1:List (Option Nat))(g f:Nat->Prop)(d1:Dk.ak)(a:Wl.S)(s1:Po.S)(w':World):Prop:=
 i<s1.held.length/\(fa e i).aw=m/\m∈s1.held/\Po.qI s s1/\cB g f w' B L P S b N c mp e H1 n d1 a s1/\(Wl.Calm n d->Wl.Calm n d1)/\Po.Lf lg a/\Touch (fun j=>cr U V j\/j=P\/j=mp) w w'/\bA U g w/\bA V f w/\bA (dI P mp F) (dI P mp e) w/\((∀k,s.first k=none)->d1=d/\a=lg)
theorem CT{U V:Nat->Prop}{w:World}{B L P S b N hand mp n:Nat}{F:List Fr}{H:List (Option Nat)}{d:Dk.ak}{lg:Wl.S}{s:Po.S}{m:Nat}(h:cB U V w B L P S b N hand mp F H n d lg s)(hC:Wl.Calm n d)(hf:Po.fh s m){e:Ending}{w':World}(X:FR (fun g=>w.heap.size<=g) U V B L P S b N mp F H n d lg s m (s.now m) w e w'):
 ∃i a Q H1 O M d1 f s1,e=.returned (.tuple #[.pointer (some ⟨P,5+i*7,none⟩),.int .i64 0])/\Gc U V B L P S b N mp F n d lg s m w i a Q H1 O M d1 f s1 w':=by
 rcases X with⟨i,a,Q,H1,O,M,d1,f,s1,dk,Y,T,z,v,u,J,I,x,r,K,hw,o,q,p,k,t,R,G,E,W,l⟩|⟨A,-⟩|⟨C,-⟩
 ·refine⟨i,a,Q,H1,O,M,d1,f,s1,Y,T,z,v,u,⟨x,?_,h.dV,hw,t,k,?_,o,h.n16⟩,q,p,R,G,E,fun j D=>?_,l⟩
  ·rw[K rfl,show Lr.rC (m∈s.held) (s.now m) (s.now m)=s.now m from by by_cases c:m∈s.held;exact Lr.fF c _ _;exact Lr.eW c _ _,Po.Fy,<-u.now]at r;exact r
  ·intro j D;rw[p.at_,p.count];exact h.kz j D
  ·rcases W j D with y|y|y
   ·exact GJ y
   ·exact GL y
   ·exact GL y
 ·exact absurd hf A
 ·exact absurd hC C
theorem kV(tmps:Array Value)(w:World)(g:Nat)(d c e:Value)(h0:tmps.getD 4 undef=.pointer (some ⟨g,0,none⟩))(i:tmps.getD 5 undef=e)
 (r0:w.heap[g]?=some (.cells #[d,c] 59 (0,0))):
 (results Tryz.f20 tmps).run Tryz.prog w=.ok (.tuple #[.agg #[d,c],e]) w:=by
 have h:Tryz.f20.results=#[.cell 4 59,.tmp 5]:=rfl;have b:tmps[4]?.getD undef=.pointer (some ⟨g,0,none⟩):=by simpa using h0
 have a:tmps[5]?.getD undef=e:=by simpa using i
 have f:=run_loadVar_row (P:=Tryz.prog) w g 59 _ _ _ _ r0 Tryz.underlying59 rfl (by kernel_rfl);simp[results,h,b,a,asAddr,f]
def Gw(U V:Nat->Prop)(B L P S b N mp:Nat)(F:List Fr)(n:Nat)(d:Dk.ak)(lg:Wl.S)(s:Po.S)(m:Nat)(w:World)(e:Ending)(w':World):Prop:=
 ∃u i a j H1 h f d1 c s1,e=.returned (.tuple #[ed (s.now m).1 u,.int .i64 0])/\Own w.heap.size w' u (s.now m).2/\Gc U V B L P S b N mp F n d lg s m w i a j H1 h f d1 c s1 w'/\(∀g,u.ownBlock=some g->¬cr h f g/\¬dI P mp j g)
set_option maxHeartbeats 3200000 in
set_option maxRecDepth 20000 in
theorem xL{U V:Nat->Prop}{w:World}{B L P S b N hand mp n:Nat}{F:List Fr}{H:List (Option Nat)}{d:Dk.ak}{lg:Wl.S}{s:Po.S}{m:Nat}(h:cB U V w B L P S b N hand mp F H n d lg s)(hC:Wl.Calm n d)(hs:lg.stop<=1000000000000)(hm:m<N)(hf:Po.fh s m):
 Calls Tryz.prog 20 #[.pointer (some ⟨P,0,none⟩),.int .i64 (m:Int)] w fun e w'=>Gw U V B L P S b N mp F n d lg s m w e w':=by
 obtain⟨Q,hQ⟩:∃Q,Q=w.heap.size:=⟨_,rfl⟩
 obtain⟨W,hW⟩:∃W,W=w.alloc (.cells #[.int .u64 0,.slice none 0 0] 59):=⟨_,rfl⟩
 have hb:Below w.heap.size w W:=by rw[hW];exact(GF _ _).alloc (GH _) _
 have ae:W.heap[Q]?=some (.cells #[.int .u64 0,.slice none 0 0] 59 (0,0)):=by rw[hW,hQ];exact GM _ _
 have aa:W.heap.size=Q+1:=by rw[hW,hQ];simp
 have aB:=GD (h.below hb);have G:∀W',W'=W->Calls Tryz.prog 47 #[.pointer (some ⟨P,0,none⟩),.int .i64 (m:Int)] W' fun e w'=>e=.returned (.int .i64 0)/\Below W'.heap.size W' w':=fun W' e=>by
  have:=dz (h.below hb).pm.row (m:Int);rw[show pz N (m:Int)=0 from GU (by omega)]at this;rw[e];exact this
 have I:=GD (G W rfl);have HB:=GD hb;have aA:=GD ae;have an:=GD aa;have HQ:=GD hQ;have Z:=GD h;have HC:=GD hC;have HS:=GD hs;have HM:=GD hm;have HF:=GD hf;have aG:∀(fn:Fn)(first cap:Array Value)(w:World),(Instr.makeFunc fn first cap).run Tryz.prog w=.ok (.func fn first cap) w:=fun _ _ _ _=>rfl;clear h hC hs hm hf hb ae aa G;go_enter Tryz.func20,Tryz.ntmps20;go_upto_region 1 with(fail)
 rw[<-hW,<-hQ];clear hW hQ;go_wp2_with fail
 refine I.out.mono ?_;rintro e w1⟨rfl,R⟩;have f:=GD (aB.out.below R);have E:=GD R;have ag:=gT m (s.now m) f.out HM.out (fun _=>HS.out) (f.out.pm.aI.ok m) (fun g(hg:w1.heap.size<=g)=>⟨fun e=>by have:=dG f.out.log g e;omega,fun e=>by have:=f.out.pm.row.lt;omega,fun e=>by have:=f.out.pm.map.lt;omega⟩) (fun ay w2 az F2 h2 aw=>kP HC.out HM.out ay h2 aw);have au:=GD ag;clear R ag I;go_wp2_with fail
 refine au.out.mono ?_;intro e w2 hA;obtain⟨i,T,J,H1,U1,V1,d1,av,s1,rfl,ai⟩:=CT f.out HC.out HF.out hA;have aD:=GD ai;obtain⟨hi,q,t,r,a,l,M,X,D,C,A,k⟩:=ai;have hfr:=a.pm.fr i hi;have O:i<64:=by have:=a.pm.bounds;have:=a.pm.aS;omega
 have k1:=a.pm.row.fr O 1 (by decide) (v:=.int .u64 ((fa J i).bl:Int)) rfl;have k2:=a.pm.row.fr O 2 (by decide) (v:=(fa J i).u) rfl;have K:=oh (fa J i).bl (fa J i).u _ w2 hfr.body (by rw[(a.pm.aI.ok _).2.1];decide);rw[q,r.now]at K;have x:=hfr.bl;rw[q,r.now]at x;have ar:=GD K;have aq:=GD x;have aj:¬(cr U V Q\/Q=P\/Q=mp):=fun e=>by
  have h0:=HQ.out;rcases e with e|e|e
  ·have:=dG Z.out.log Q e;omega
  ·have:=Z.out.pm.row.lt;omega
  ·have:=Z.out.pm.map.lt;omega
 have ad:w1.heap[Q]?=some (.cells #[.int .u64 0,.slice none 0 0] 59 (0,0)):=(E.out.block Q (by have:=an.out;omega)).trans aA.out;have ab:=X.row ad aj;have ao:=GD ab;have aE:=GD a;obtain⟨pu,cu,hu,-⟩:=hfr.body.form;have HU:=GD hu;clear hA au hi q t r a l M X D C A k hfr O K x aj ad ab;unfold ed at*
 generalize(fa J i).bl=bl at*
 generalize(fa J i).u=bu at*
 subst hu;go_wp2_with fail
 refine ar.out.mono ?_;rintro e w3⟨u,rfl,Y,p⟩;obtain⟨pw,cw,hw,-⟩:=Y.aP.form;subst hw;have o:=(p.block Q (GN ao.out)).trans ao.out;have c0:=ah o 0 (v:=.int .u64 0) rfl;have c1:=ah o 1 (v:=.slice none 0 0) rfl;have f0:=aC o 0;have f1:=aC o 1;have h4:=aN (i:=1) (aN (i:=0) o (.int .u64 (bl:Int))) (.slice pw (s.now m).2.length cw);have t4:Touch (fun j=>j=Q) w3 ((w3.setCell ⟨Q,0,none⟩ (.int .u64 (bl:Int))).setCell ⟨Q,1,none⟩ (.slice pw (s.now m).2.length cw)):=(Touch.set (S:=fun j=>j=Q) Q 0 _ rfl).trans (Touch.set Q 1 _ rfl);have HE:Hid (_/\_/\_/\_):=⟨Y,p,h4,t4⟩
 clear Y p o h4 t4 ar k1 k2;go_wp2_with fail
 obtain⟨Y,p,h4,t4⟩:=HE.out;refine bodyPost_ret (kV _ _ Q _ _ _ rfl rfl h4) rfl ?_;obtain⟨hi,q,t,r,a,l,M,X,D,C,A,k⟩:=aD.out;have z:w.heap.size<=w1.heap.size:=GR HB.out.size E.out.size;have aF:Q<w1.heap.size:=by have:=an.out;have:=E.out.size;omega
 have al:¬cr U1 V1 Q/\¬dI P mp J Q:=by
  have h0:=HQ.out;refine⟨fun e=>?_,fun e=>?_⟩
  ·rcases e with e|e
   ·rcases D Q e with c|c
    ·have:=dG Z.out.log Q (GJ c);omega
    ·omega
   ·rcases C Q e with c|c
    ·have:=dG Z.out.log Q (GL c);omega
    ·omega
  ·rcases A Q e with c|c
   ·have:=Z.out.pm.lt Q c;omega
   ·omega
 have af:=(a.below p).bq t4 (fun j y e=>al.1 (e▸y)) fun j y e=>al.2 (e▸y);refine⟨.slice pw (s.now m).2.length cw,i,T,J,H1,U1,V1,d1,av,s1,by unfold ed;rw[aq.out];rfl,?_,⟨hi,q,t,r,af,l,M,?_,fun j y=>?_,fun j y=>?_,fun j y=>?_,k⟩,fun g hg=>?_⟩
 ·exact(ka Y t4 fun j y e=>by have:=X.size;omega).from (GR z X.size)
 ·exact((((Touch.ax HB.out).trans (Touch.ax E.out)).trans X).trans (Touch.ax p)).grow t4 fun j e=>GL (by have:=HQ.out;omega)
 ·rcases D j y with c|c
  ·exact GJ c
  ·exact GL (GR z c)
 ·rcases C j y with c|c
  ·exact GJ c
  ·exact GL (GR z c)
 ·rcases A j y with c|c
  ·exact GJ c
  ·exact GL (GR z c)
 ·have c:=iP Y hg;refine⟨fun e=>c (dG a.log g e),fun e=>c (a.pm.lt g e)⟩
theorem cB.frame{U V:Nat->Prop}{w w':World}{B L P S b N hand mp n:Nat}{F:List Fr}{H:List (Option Nat)}{d:Dk.ak}{lg:Wl.S}{s:Po.S}(h:cB U V w B L P S b N hand mp F H n d lg s)(o:Touch (·=P) w w'){i:Nat}(t:i<s.held.length)(f:Fr)(hp:f.aw=(fa F i).aw)(hu:f.u=(fa F i).u)
 (a:Po.S) (v:a.held=s.held) (hfr:a.ao=s.ao) (y:a.ar=s.ar) (m:Po.Good a) (hf:yN w' a f) (q:∀k,k≠f.aw->a.now k=s.now k/\a.pins k=s.pins k/\a.first k=s.first k) (x:a.bH=s.bH) (p:Po.vU lg a) (c:aF w' P B S b N L s.ao hand mp (F.set i f)):cB U V w' B L P S b N hand mp (F.set i f) H n d lg a:=by
 have l:i<F.length:=by rw[h.pm.row.len];have:=h.pm.bounds;have:=h.pm.aS;omega
 refine⟨dO h.log o fun j r e=>h.off j r (e▸GJ rfl),h.pm.frame o (fun j _ A z=>A z) t f hp (fun g m=>h.pm.yD i g (by rw[<-hu];exact m)) a v hfr y m hf q c,h.dV,by rw[x];exact h.hw,?_,p,h.kz,h.cy,h.n16⟩;rw[ix F l f hu];exact h.off
def Po.nc(s:Po.S)(m k:Nat):Po.S:={s with pins:=Po.cI s.pins m k}
theorem Po.yf{s:Po.S}(h:Po.Good s){m:Nat}(hm:m∈s.held)(k:Nat):Po.Good (Po.nc s m k):=by
 refine⟨h.sorted,h.lS,h.Ej,fun j a=>?_,h.aD,h.clean,h.ok,h.DI⟩;have a:0<Po.cI s.pins m k j:=a;unfold Po.cI at a;split at a
 ·next e=>rw[e];exact hm
 ·exact h.pinned j a
theorem cB.pins{U V:Nat->Prop}{w w':World}{B L P S b N hand mp n:Nat}{F:List Fr}{H:List (Option Nat)}{d:Dk.ak}{lg:Wl.S}{s:Po.S}(h:cB U V w B L P S b N hand mp F H n d lg s)(f:Touch (·=P) w w'){i m:Nat}(l:i<s.held.length)(c:(fa F i).aw=m)(hm:m∈s.held)(k:Nat)
 (a:aF w' P B S b N L s.ao hand mp (F.set i {fa F i with pins:=k})):cB U V w' B L P S b N hand mp (F.set i {fa F i with pins:=k}) H n d lg (Po.nc s m k):=by
 have hf:=(h.pm.fr i l).aj f fun g p e=>(h.pm.yD i g p).1 e;refine h.frame f l {fa F i with pins:=k} rfl rfl (Po.nc s m k) rfl rfl rfl (Po.yf h.pm.aI hm k) ⟨hf.bl,hf.body,?_,hf.first,hf.fl⟩ (fun j o=>⟨rfl,?_,rfl⟩) rfl h.fY a
 ·show Po.cI s.pins m k (fa F i).aw=k;rw[c,Po.cC]
 ·refine Po.dQ _ _ ?_;rw[<-c];exact o
def Gq(U V:Nat->Prop)(B L P S b N mp:Nat)(F:List Fr)(n:Nat)(d:Dk.ak)(lg:Wl.S)(s:Po.S)(m:Nat)(w:World)(e:Ending)(w':World):Prop:=
 ∃a h H1 g f d1 c s1,e=.returned (.int .i64 0)/\cB g f w' B L P S b N a mp h H1 n d1 c s1/\(Wl.Calm n d->Wl.Calm n d1)/\Po.Lf lg c/\Po.Pinned s m s1/\Touch (fun j=>cr U V j\/j=P\/j=mp) w w'/\bA U g w/\bA V f w/\bA (dI P mp F) (dI P mp h) w
set_option maxHeartbeats 3200000 in
set_option maxRecDepth 20000 in
theorem xJ{U V:Nat->Prop}{w:World}{B L P S b N hand mp n:Nat}{F:List Fr}{H:List (Option Nat)}{d:Dk.ak}{lg:Wl.S}{s:Po.S}{m:Nat}(h:cB U V w B L P S b N hand mp F H n d lg s)(hC:Wl.Calm n d)(hs:lg.stop<=1000000000000)(hm:m<N)(hf:Po.fh s m)(hp:s.pins m<=1000000):
 Calls Tryz.prog 23 #[.pointer (some ⟨P,0,none⟩),.int .i64 (m:Int)] w fun e w'=>Gq U V B L P S b N mp F n d lg s m w e w':=by
 have o:=dz h.pm.row (m:Int);rw[show pz N (m:Int)=0 from GU (by omega)]at o;have t:=GD o;have HH:=GD h;have HC:=GD hC;have HS:=GD hs;have HM:=GD hm;have HF:=GD hf;have HP:=GD hp;have ae:∀(fn:Fn)(first cap:Array Value)(w:World),(Instr.makeFunc fn first cap).run Tryz.prog w=.ok (.func fn first cap) w:=fun _ _ _ _=>rfl;clear h hC hs hm hf o hp;go_enter Tryz.func23,Tryz.ntmps23;go_wp2_with fail
 refine t.out.mono ?_;rintro e w1⟨rfl,z⟩;have c:=GD (HH.out.below z);have K:=GD z;have G:=gT m (s.now m) c.out HM.out (fun _=>HS.out) (c.out.pm.aI.ok m) (fun g(hg:w1.heap.size<=g)=>⟨fun e=>by have:=dG c.out.log g e;omega,fun e=>by have:=c.out.pm.row.lt;omega,fun e=>by have:=c.out.pm.map.lt;omega⟩) (fun R w2 Z F2 h2 Q=>kP HC.out HM.out R h2 Q);have J:=GD G;clear z G t;go_wp2_with fail
 refine J.out.mono ?_;intro e w2 hA;obtain⟨i,A,k,H1,U1,V1,d1,O,s1,rfl,I⟩:=CT c.out HC.out HF.out hA;have ad:=GD I;obtain⟨M,q,l,f,a,-⟩:=I;have hfr:=a.pm.fr i M;have x:i<64:=by have:=a.pm.bounds;have:=a.pm.aS;omega
 have D:(fa k i).pins=s.pins m:=by rw[<-hfr.pins,q,f.pins]
 have k3:=a.pm.row.fr x 3 (by decide) (v:=.int .i64 ((fa k i).pins:Int)) rfl;have f3:=a.pm.row.free (5+i*7+3);have hw:=GW (((fa k i).pins:Int)+1) (by have:=HP.out;omega);have r:=a.pm.row.set x 3 (by decide) (.int .i64 (((fa k i).pins+1:Nat):Int)) {fa k i with pins:=(fa k i).pins+1} rfl;have aa:=GD r;have ab:=GD D;clear hA J M q l f a hfr x D r;go_wp2_with fail
 go_ret;obtain⟨M,q,l,f,a,y,T,ht,Y,X,W,-⟩:=ad.out;have u:=K.out.size;have E:=a.pins (w':=w2.setCell ⟨P,5+i*7+3,none⟩ (.int .i64 (((fa k i).pins+1:Nat):Int))) (Touch.set P _ _ rfl) M q l ((fa k i).pins+1) aa.out;have hX:dI P mp (k.set i {fa k i with pins:=(fa k i).pins+1})=dI P mp k:=ix k (by rw[a.pm.row.len];have:=a.pm.bounds;have:=a.pm.aS;omega) _ rfl;refine⟨A,k.set i {fa k i with pins:=(fa k i).pins+1},H1,U1,V1,d1,O,Po.nc s1 m ((fa k i).pins+1),rfl,E,y,T,⟨f.now,?_,f.ao,f.ar,f.first,f.bH⟩,((Touch.ax K.out).trans ht).trans (Touch.set P _ _ (GL (GJ rfl))),fun j C=>?_,fun j C=>?_,fun j C=>?_⟩
 ·show Po.cI s1.pins m _=_;rw[f.pins,ab.out]
 ·rcases Y j C with p|p
  ·exact GJ p
  ·exact GL (GR u p)
 ·rcases X j C with p|p
  ·exact GJ p
  ·exact GL (GR u p)
 ·rw[hX]at C;rcases W j C with p|p
  ·exact GJ p
  ·exact GL (GR u p)
theorem vd{U V:Nat->Prop}{w:World}{B L P S b N hand mp n:Nat}{F:List Fr}{H:List (Option Nat)}{d:Dk.ak}{lg:Wl.S}{s:Po.S}{m:Nat}(h:cB U V w B L P S b N hand mp F H n d lg s)(hm:m<N):
 Calls Tryz.prog 12 #[.pointer (some ⟨P,0,none⟩),.int .i64 (m:Int)] w fun e w'=>e=.returned (.int .i64 (s.pins m:Int))/\w'=w:=by
 have l:=h.pm.n16;have j:=GD (fw h.pm.row);have hfr:=dT h.pm.row h.pm.map (m:Int) (by omega);rw[kU]at hfr;cases hm0:H.getD m none with
 |none=>
  rw[hm0]at hfr;have a:=GD hfr;have c:=GD (gX h.pm hm0).2.1;clear h hm hfr hm0;go_enter Tryz.func12,Tryz.ntmps12;go_wp2_with fail
  refine j.out.mono ?_;rintro e w1⟨rfl,rfl⟩;clear j;go_wp2_with fail
  refine a.out.mono ?_;rintro e w2⟨rfl,rfl⟩;unfold wO;dsimp only;clear a;go_wp2_with fail
  go_ret;exact⟨by rw[c.out];rfl,rfl⟩
 |some i=>
  obtain⟨k,f⟩:=h.pm.jx m i hm0;have g:i<64:=by have:=h.pm.bounds;have:=h.pm.aS;omega
  have hf:=h.pm.fr i k;have c:Hid (s.pins m=(fa F i).pins):=by show _=_;rw[<-hf.pins,f]
  have o:=h.pm.row.fr g 3 (by decide) (v:=.int .i64 ((fa F i).pins:Int)) rfl;rw[hm0]at hfr;have a:=GD hfr;clear h hm hfr hm0 k f g hf;go_enter Tryz.func12,Tryz.ntmps12;go_wp2_with fail
  refine j.out.mono ?_;rintro e w1⟨rfl,rfl⟩;clear j;go_wp2_with fail
  refine a.out.mono ?_;rintro e w2⟨rfl,rfl⟩;unfold wO;dsimp only;clear a;go_wp2_with fail
  go_ret;exact⟨by rw[c.out];rfl,rfl⟩
set_option maxHeartbeats 1600000 in
theorem sQ{U V:Nat->Prop}{w:World}{B L P S b N hand mp n:Nat}{F:List Fr}{H:List (Option Nat)}{d:Dk.ak}{lg:Wl.S}{s:Po.S}{m:Nat}(h:cB U V w B L P S b N hand mp F H n d lg s)(hm:m<N)(h0:0<s.pins m)(hp:s.pins m<=1000000):
 Calls Tryz.prog 24 #[.pointer (some ⟨P,0,none⟩),.int .i64 (m:Int)] w fun e w'=>e=.returned (.int .i64 0)/\Touch (·=P) w w'/\∃z,cB U V w' B L P S b N hand mp z H n d lg (Po.iN s m)/\dI P mp z=dI P mp F:=by
 have C:=h.pm.n16;have y:=GD (fw h.pm.row);have hfr:=dT h.pm.row h.pm.map (m:Int) (by omega);rw[kU]at hfr;have a:=h.pm.aI.pinned m h0;obtain⟨i,l,q,j⟩:=lL h.pm a;have c:i<64:=by have:=h.pm.bounds;have:=h.pm.aS;omega
 have hf:=h.pm.fr i q;have k:(fa F i).pins=s.pins m:=by rw[<-hf.pins,j]
 have E:=h.pm.row.fr c 3 (by decide) (v:=.int .i64 ((fa F i).pins:Int)) rfl;have f3:=h.pm.row.free (5+i*7+3);have A:¬((fa F i).pins:Int)=0:=by omega
 have t:(((fa F i).pins:Int)==0)=false:=by simp;omega
 have hw:IntKind.i64.wrap (((fa F i).pins:Int)-1)=(((fa F i).pins-1:Nat):Int):=by rw[GW _ (by omega)];omega
 have f:=h.pm.row.set c 3 (by decide) (.int .i64 (((fa F i).pins-1:Nat):Int)) {fa F i with pins:=(fa F i).pins-1} rfl;have g:=h.pins (w':=w.setCell ⟨P,5+i*7+3,none⟩ (.int .i64 (((fa F i).pins-1:Nat):Int))) (Touch.set P _ _ rfl) q j a ((fa F i).pins-1) f;have u:dI P mp (F.set i {fa F i with pins:=(fa F i).pins-1})=dI P mp F:=ix F (by rw[h.pm.row.len];exact c) _ rfl;rw[l]at hfr;have p:=GD hfr;have o:=GD g;have D:=GD u;have r:=GD k;clear h hm hfr l q j c hf f g u a h0 hp k;go_enter Tryz.func24,Tryz.ntmps24;go_wp2_with fail
 refine y.out.mono ?_;rintro e w1⟨rfl,rfl⟩;clear y;go_wp2_with fail
 refine p.out.mono ?_;rintro e w2⟨rfl,rfl⟩;unfold wO;dsimp only;clear p;go_wp2_with fail
 go_ret;refine⟨rfl,Touch.set P _ _ rfl,_,?_,D.out⟩;have x:=o.out;rw[r.out]at x⊢;exact x
set_option maxHeartbeats 1600000 in
theorem xK{w:World}(p:Option Addr)(m:Int)(k:Nat)(r:1<=k)(c:∀W,Below w.heap.size w W->Calls Tryz.prog 47 #[.pointer p,.int .i64 m] W fun e w'=>e=.returned (.int .i64 (k:Int))/\Below W.heap.size W w'):
 Calls Tryz.prog 20 #[.pointer p,.int .i64 m] w fun e w'=>e=.returned (.tuple #[ed 0 (.slice none 0 0),.int .i64 (k:Int)])/\Below w.heap.size w w':=by
 obtain⟨Q,l⟩:∃Q,Q=w.heap.size:=⟨_,rfl⟩
 obtain⟨W,h⟩:∃W,W=w.alloc (.cells #[.int .u64 0,.slice none 0 0] 59):=⟨_,rfl⟩
 have o:Below w.heap.size w W:=by rw[h];exact(GF _ _).alloc (GH _) _
 have g:W.heap[Q]?=some (.cells #[.int .u64 0,.slice none 0 0] 59 (0,0)):=by rw[h,l];exact GM _ _
 have d:=GD (c W o);have q:=GD o;have f:=GD g;have s:=GD l;have x:¬(k:Int)=0:=by omega
 have u:((k:Int)!=0)=true:=by simp;omega
 clear c o g r;go_enter Tryz.func20,Tryz.ntmps20;go_upto_region 1 with(fail)
 rw[<-h,<-l];clear h l;go_wp2_with fail
 refine d.out.mono ?_;rintro e w1⟨rfl,b⟩;have a:=(b.block Q (GN f.out)).trans f.out;have c0:=ah a 0 (v:=.int .u64 0) rfl;have c1:=ah a 1 (v:=.slice none 0 0) rfl;have f0:=aC a 0;have f1:=aC a 1;have n:=aN (i:=1) (aN (i:=0) a (.int .u64 0)) (.slice none 0 0);have t4:Touch (fun j=>j=Q) w1 ((w1.setCell ⟨Q,0,none⟩ (.int .u64 0)).setCell ⟨Q,1,none⟩ (.slice none 0 0)):=(Touch.set (S:=fun j=>j=Q) Q 0 _ rfl).trans (Touch.set Q 1 _ rfl);have t:Hid (_/\_/\_):=⟨b,n,t4⟩
 clear b a n t4 d;go_wp2_with fail
 obtain⟨b,n,t4⟩:=t.out;refine bodyPost_ret (kV _ _ Q _ _ _ rfl rfl n) rfl ?_;exact⟨rfl,(q.out.trans (b.mono q.out.size)).trans (t4.one (by have:=s.out;omega) (Hh (GN f.out) b.size))⟩
theorem xI{w:World}(p:Option Addr)(m:Int)(k:Nat)(d:1<=k)(a:∀W,Below w.heap.size w W->Calls Tryz.prog 47 #[.pointer p,.int .i64 m] W fun e w'=>e=.returned (.int .i64 (k:Int))/\Below W.heap.size W w'):
 Calls Tryz.prog 23 #[.pointer p,.int .i64 m] w fun e w'=>e=.returned (.int .i64 (k:Int))/\Below w.heap.size w w':=by
 have b:=GD (a w (GF _ _));have h:¬(k:Int)=0:=by omega
 have g:((k:Int)!=0)=true:=by simp;omega
 clear a d;go_enter Tryz.func23,Tryz.ntmps23;go_wp2_with fail
 refine b.out.mono ?_;rintro e w1⟨rfl,c⟩;have f:=GD c;clear c b;go_wp2_with fail
 go_ret;exact⟨rfl,f.out⟩
theorem sT{w:World}(p:Option Addr)(m:Int)(k:Nat)(d:1<=k)(a:∀W,Below w.heap.size w W->Calls Tryz.prog 47 #[.pointer p,.int .i64 m] W fun e w'=>e=.returned (.int .i64 (k:Int))/\Below W.heap.size W w'):
 Calls Tryz.prog 25 #[.pointer p,.int .i64 m] w fun e w'=>e=.returned (.int .i64 (k:Int))/\Below w.heap.size w w':=by
 have b:=GD (a w (GF _ _));have h:¬(k:Int)=0:=by omega
 have g:((k:Int)!=0)=true:=by simp;omega
 clear a d;go_enter Tryz.func25,Tryz.ntmps25;go_wp2_with fail
 refine b.out.mono ?_;rintro e w1⟨rfl,c⟩;have f:=GD c;clear c b;go_wp2_with fail
 go_ret;exact⟨rfl,f.out⟩
theorem nk{w:World}{P B S b N L aS hand mp:Nat}{F:List Fr}(h:aF w P B S b N L aS hand mp F){m:Int}(hm:¬(0<=m/\m<(N:Int))):∀W,Below w.heap.size w W->Calls Tryz.prog 47 #[.pointer (some ⟨P,0,none⟩),.int .i64 m] W fun e w'=>e=.returned (.int .i64 ((2:Nat):Int))/\Below W.heap.size W w':=fun W c=>by
 have a:=dz (h.below c) m;rw[show pz N m=2 from GQ hm]at a;exact a
theorem oi{w:World}{P B S b N L aS hand mp:Nat}{F:List Fr}{H:List (Option Nat)}(h:aF w P B S b N L aS hand mp F)(hm:dm w mp H):
 Calls Tryz.prog 11 #[.pointer (some ⟨P,0,none⟩)] w fun e w'=>∃v,e=.returned v/\Ints.Own w.heap.size w' v ((bO H).map fun x:Nat=>(x:Int))/\Below w.heap.size w w':=by
 have f:=GD (fw h);have c5:=h.pk;have g:=GD (vt mp w);have d:=GD (qX hm);clear h hm;go_enter Tryz.func11,Tryz.ntmps11;go_wp2_with fail
 refine f.out.mono ?_;rintro e w1⟨rfl,rfl⟩;clear f;go_wp2_with fail
 refine g.out.mono ?_;rintro e w2⟨rfl,rfl⟩;clear g;go_wp2_with fail
 refine d.out.mono ?_;rintro e j⟨v,rfl,c,a⟩;have i:Hid (_/\_):=⟨c,a⟩
 clear c a d;go_wp2_with fail
 go_ret;exact⟨v,rfl,i.out⟩
theorem rj{w:World}{B L P S b N hand mp:Nat}{F:List Fr}{H:List (Option Nat)}{s:Po.S}(h:dN w B L P S b N hand mp F H s)(m:Int)(c: -9223372036854775808<=m/\m<=9223372036854775807)(h0:(0<=m/\m<(N:Int))->s.pins m.toNat=0):
 Calls Tryz.prog 24 #[.pointer (some ⟨P,0,none⟩),.int .i64 m] w fun e w'=>e=.returned (.int .i64 7)/\Below w.heap.size w w':=by
 have k:=GD (fw h.row);have hfr:=dT h.row h.map m c;cases hm0:hz H m with
 |none=>
  rw[hm0]at hfr;have a:=GD hfr;clear h hfr hm0 h0 c;go_enter Tryz.func24,Tryz.ntmps24;go_wp2_with fail
  refine k.out.mono ?_;rintro e w1⟨rfl,rfl⟩;clear k;go_wp2_with fail
  refine a.out.mono ?_;rintro e w2⟨rfl,rfl⟩;unfold wO;dsimp only;clear a;go_wp2_with fail
  go_ret;exact⟨rfl,GF _ _⟩
 |some i=>
  have g:0<=m/\H.getD m.toNat none=some i:=by
   unfold hz at hm0;split at hm0
   ·next h1=>exact⟨h1,hm0⟩
   ·cases hm0
  obtain⟨l,f⟩:=h.jx _ i g.2;have hlt:=j9 h l;have hf:=h.fr i l;have j:i<64:=by have:=h.bounds;have:=h.aS;omega
  have d:(fa F i).pins=0:=by rw[<-hf.pins,f];exact h0 (by omega)
  have n:=h.row.fr j 3 (by decide) (v:=.int .i64 ((fa F i).pins:Int)) rfl;rw[d]at n;rw[hm0]at hfr;have a:=GD hfr;clear h hfr hm0 h0 c g l f hlt hf j d;go_enter Tryz.func24,Tryz.ntmps24;go_wp2_with fail
  refine k.out.mono ?_;rintro e w1⟨rfl,rfl⟩;clear k;go_wp2_with fail
  refine a.out.mono ?_;rintro e w2⟨rfl,rfl⟩;unfold wO;dsimp only;clear a;go_wp2_with fail
  go_ret;exact⟨rfl,GF _ _⟩
def Gx(U V:Nat->Prop)(B L P S b N mp:Nat)(F:List Fr)(n:Nat)(d:Dk.ak)(lg:Wl.S)(s:Po.S)(m:Nat)(w:World)(e:Ending)(w':World):Prop:=
 (∃a h H1 g f d1 c s1,e=.returned (.int .i64 0)/\cB g f w' B L P S b N a mp h H1 n d1 c s1/\(Wl.Calm n d->Wl.Calm n d1)/\Po.Lf lg c/\Po.iE s m s1/\Touch (fun j=>cr U V j\/j=P) w w'/\bA U g w/\bA V f w/\dI P mp h=dI P mp F)\/
 (¬Wl.Calm n d/\e=.returned (.int .i64 6)/\D9 U V B P S b N n lg s w w')
theorem Po.pP(s:Po.S)(m:Nat):Po.iE s m (Po.dg s m):=by
 refine⟨rfl,rfl,rfl,rfl,Po.cC _ _ _,fun k a _=>Po.dQ _ _ a,fun k=>?_⟩;show Po.cI s.bH m _ k=_\/Po.cI s.bH m _ k=_;unfold Po.cI;split
 ·next e=>exact GL (by rw[e])
 ·exact GJ rfl
theorem bA.under{U b:Nat->Prop}{w w1:World}(h:bA U b w1)(hs:w.heap.size<=w1.heap.size):bA U b w:=fun j c=>by
 rcases h j c with a|a
 ·exact GJ a
 ·exact GL (GR hs a)
set_option maxHeartbeats 1600000 in
theorem sU{U V:Nat->Prop}{w:World}{B L P S b N hand mp n:Nat}{F:List Fr}{H:List (Option Nat)}{d:Dk.ak}{lg:Wl.S}{s:Po.S}{m:Nat}(h:cB U V w B L P S b N hand mp F H n d lg s)(hs:lg.stop<=1000000000000)(hm:m<N):
 Calls Tryz.prog 25 #[.pointer (some ⟨P,0,none⟩),.int .i64 (m:Int)] w fun e w'=>Gx U V B L P S b N mp F n d lg s m w e w':=by
 have A:=h.pm.n16;have g:=dz h.pm.row (m:Int);rw[show pz N (m:Int)=0 from GU (by omega)]at g;have l:=GD g;have HH:=GD h;have HS:=GD hs;have u: -9223372036854775808<=(m:Int)/\(m:Int)<=9223372036854775807:=by omega
 have D:=GD u;have HM:=GD hm;clear h hs hm g A u;go_enter Tryz.func25,Tryz.ntmps25;go_wp2_with fail
 refine l.out.mono ?_;rintro e w1⟨rfl,q⟩;have a:=GD (HH.out.below q);have f:=GD q;have hfr:=dT a.out.pm.row a.out.pm.map (m:Int) D.out;rw[kU]at hfr;clear q l;cases hm0:H.getD m none with
 |none=>
  rw[hm0]at hfr;have j:=GD hfr;have E:=GD (gX a.out.pm hm0).2.2;clear hfr hm0;go_wp2_with fail
  refine j.out.mono ?_;rintro e w2⟨rfl,rfl⟩;unfold wO;dsimp only;clear j;go_wp2_with fail
  go_ret;exact GJ ⟨hand,F,H,U,V,d,lg,s,rfl,a.out,id,GJ rfl,⟨rfl,rfl,rfl,rfl,E.out,fun _ _ _=>rfl,fun _=>GJ rfl⟩,Touch.ax f.out,fun _ h=>GJ h,fun _ h=>GJ h,rfl⟩
 |some i=>
  rw[hm0]at hfr;have j:=GD hfr;have p:=a.out.pm.jx m i hm0;have x:=GD p;have r:=GD (ml a.out p.1 HS.out);clear hfr hm0 p;go_wp2_with fail
  refine j.out.mono ?_;rintro e w2⟨rfl,rfl⟩;unfold wO;dsimp only;clear j;go_wp2_with fail
  refine r.out.mono ?_;intro e w3 o;rcases sZ o with⟨rfl,t⟩|⟨k,rfl,v⟩
  ·have C:=GD t;clear t o r;go_wp2_with fail
   go_ret;obtain⟨U1,Z,d1,y,G,O,M,K,J,I,-⟩:=C.out;rw[x.out.2]at G;exact GJ ⟨hand,F.set i {fa F i with aD:=false},H,U1,Z,d1,y,Po.dg s m,rfl,G,O,M,Po.pP s m,(Touch.ax f.out).trans K,J.under f.out.size,I.under f.out.size,ix F (by rw[a.out.pm.row.len];have:=a.out.pm.bounds;have:=a.out.pm.aS;have:=x.out.1;omega) {fa F i with aD:=false} rfl⟩
  ·have HE:Hid (_/\_):=⟨k,v⟩
   clear k v o r;go_wp2_with fail
   go_ret;obtain⟨k,U',Y,z,c,X,W,T,R,Q⟩:=HE.out;exact GL ⟨k,rfl,U',Y,z,c,X,W,(Touch.ax f.out).trans T,R.under f.out.size,Q⟩
end Go.Proofs.YtbpodmallknhfaaGreat
