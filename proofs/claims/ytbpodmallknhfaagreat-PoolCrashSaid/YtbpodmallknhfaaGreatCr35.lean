/- Parts of a proof. Conditions: as each row says. -/
import Derived.Test.YtbpodmallknhfaaGreatCr34
namespace Go.Proofs.YtbpodmallknhfaaGreat
open Go.RowKit
theorem count_set:∀(H:List (Option Nat))(k:Nat)(x:Option Nat),k<H.length->(H.set k x).countP Option.isSome+(if(H.getD k none).isSome then 1 else 0)=H.countP Option.isSome+(if x.isSome then 1 else 0)
 | [],k,x,h=>by simp at h
 |y::H,0,x,_=>by
  show(x::H).countP _+(if y.isSome then 1 else 0)=(y::H).countP _+_;rw[List.countP_cons,List.countP_cons];omega
 |y::H,k+1,x,h=>by
  have a:=count_set H k x (by simpa using h);show(y::H.set k x).countP _+(if(H.getD k none).isSome then 1 else 0)=(y::H).countP _+_;rw[List.countP_cons,List.countP_cons];omega
theorem gZ(H:List (Option Nat)){k:Nat}(a:k<H.length)(x:Option Nat)(j:Nat):(H.set k x).getD j none=if j=k then x else H.getD j none:=by
 by_cases h:j=k
 ·subst h;rw[if_pos rfl,List.getD_eq_getElem?_getD,List.getElem?_set_self a];rfl
 ·rw[if_neg h,List.getD_eq_getElem?_getD,List.getElem?_set_ne (Ne.symm h),<-List.getD_eq_getElem?_getD]
section
variable{w w':World}{P B S b N L aN hand mp:Nat}{F:List Fr}
theorem aO.again{g:Fr}(k:F.length=64){i:Nat}(d:i<64)(h:aO w P B S b N L aN hand mp (F.set i g))(j:Nat)(c:j<7)(v:Value)(f:Fr)(e:pI f=(pI g).set j v):aO (w.setCell ⟨P,5+i*7+j,none⟩ v) P B S b N L aN hand mp (F.set i f):=by
 have a:=h.set d j c v f (by rw[cr F (by omega),if_pos rfl];exact e);rw[List.set_set]at a;exact a
theorem aO.CX(h:aO w P B S b N L aN hand mp F){i:Nat}(a:i<64)(f:Fr):
 aO (((((((w.setCell ⟨P,5+i*7,none⟩ (.int .i64 (f.aA:Int))).setCell ⟨P,5+i*7+1,none⟩ (.int .u64 (f.bj:Int))).setCell ⟨P,5+i*7+2,none⟩ f.u).setCell ⟨P,5+i*7+3,none⟩ (.int .i64 (f.pins:Int))).setCell ⟨P,5+i*7+4,none⟩ (.bool f.bo)).setCell ⟨P,5+i*7+5,none⟩ (.int .u64 (f.first:Int))).setCell ⟨P,5+i*7+6,none⟩ (.bool f.used)) P B S b N L aN hand mp (F.set i f):=by
 have h0:=h.set a 0 (by decide) (.int .i64 (f.aA:Int)) {fa F i with aA:=f.aA} rfl;rw[Nat.add_zero]at h0;have j:=aO.again h.len a h0 1 (by decide) (.int .u64 (f.bj:Int)) {fa F i with aA:=f.aA,bj:=f.bj} rfl;have g:=aO.again h.len a j 2 (by decide) f.u {fa F i with aA:=f.aA,bj:=f.bj,u:=f.u} rfl;have e:=aO.again h.len a g 3 (by decide) (.int .i64 (f.pins:Int)) {fa F i with aA:=f.aA,bj:=f.bj,u:=f.u,pins:=f.pins} rfl;have d:=aO.again h.len a e 4 (by decide) (.bool f.bo) {fa F i with aA:=f.aA,bj:=f.bj,u:=f.u,pins:=f.pins,bo:=f.bo} rfl;have c:=aO.again h.len a d 5 (by decide) (.int .u64 (f.first:Int)) {fa F i with aA:=f.aA,bj:=f.bj,u:=f.u,pins:=f.pins,bo:=f.bo,first:=f.first} rfl;exact aO.again h.len a c 6 (by decide) (.bool f.used) f rfl
end
def Ha(Fb:Nat->Prop)(U V:Nat->Prop)(B L P S b N mp:Nat)(F:List Fr)(H:List (Option Nat))(n:Nat)(d:Dk.aq)(lg:Wl.S)(s:Po.S)(m:Nat)(y:Po.Pg)(w:World)(e:Ending)(w':World):Prop:=
 (∃i a h H1 p o d1 f s1 dk,e=.returned (.tuple #[.pointer (some ⟨P,5+i*7,none⟩),.int .i64 0])/\i<s1.held.length/\(fa h i).aA=m/\m∈s1.held/\Po.qb s s1/\Po.jJ s m/\Po.Good s1/\ij p o w' B L d1 f/\
  eh w' B L P S b N a mp h H1 {s1 with now:=Po.cW s.now m (Lr.ru (m∈s.held) (s.now m) y),bJ:=dk}/\(y=s.now m->dk=s1.bJ)/\Rg.qi S b N d1 s1.bJ/\Wl.aY n d1/\(Wl.Calm n d->Wl.Calm n d1)/\Po.Lf lg f/\Po.xe f s1/\(∀j,cY p o j->¬eQ P mp h j)/\
  Touch (fun j=>cY U V j\/j=P\/j=mp) w w'/\br U p w/\br V o w/\(∀j,eQ P mp h j->eQ P mp F j\/w.heap.size<=j\/Fb j)/\((∀k,s.first k=none)->d1=d/\f=lg))\/
 (¬Po.jJ s m/\e=.returned (.tuple #[.pointer none,.int .i64 13])/\∃a h,cX U V w' B L P S b N a mp h H n d lg s/\eQ P mp h=eQ P mp F/\Touch (fun j=>cY U V j\/j=P\/j=mp) w w')\/
 (¬Wl.Calm n d/\e=.returned (.tuple #[.pointer none,.int .i64 6])/\∃r l g c,gB r w' B l/\Wl.aY n l/\Touch (fun j=>cY U V j\/j=P\/j=mp) w w'/\br U r w/\Po.Lf lg g/\(∀k x,c k x->(x=s.bJ k\/x=s.now k)/\x.1<g.ae)/\∀q,Wl.Hd (Dk.ay l q) g/\Rg.sZ S b N (Dk.ay l q) c)
theorem Po.tp(s:Po.S)(m:Nat):Po.cW s.now m (s.now m)=s.now:=Po.ey _ _ _ rfl
section
variable{w w':World}{B L P S b N hand mp:Nat}{F:List Fr}{H:List (Option Nat)}{s:Po.S}
structure H7(s:Po.S)(H a:List (Option Nat))(N m i:Nat):Prop where
 len:a.length=N
 at_:a.getD m none=some i
 GL:∀k,k≠m->a.getD k none=if H.getD k none=some i then none else H.getD k none
 aN:(cJ a).length=if i<s.held.length then s.held.length else s.held.length+1
theorem xL(h:eh w B L P S b N hand mp F H s){m i:Nat}(g:i=s.held.length)(hm:m<N)(c:H.getD m none=none):H7 s H (H.set m (some i)) N m i:=by
 have a:m<H.length:=by rw[h.hlen];exact hm
 refine⟨by rw[List.length_set];exact h.hlen,by rw[gZ H a,if_pos rfl],fun k f=>?_,?_⟩
 ·rw[gZ H a,if_neg f,if_neg];intro e;have:=(h.nR k i e).1;omega
 ·have d:=count_set H m (some i) a;rw[c]at d;have j:=h.bounds.2;rw[gy,if_neg (by omega)];simp at d;omega
theorem uB(h:eh w B L P S b N hand mp F H s){m i:Nat}(l:i<s.held.length)(hm:m<N)(c:H.getD m none=none):H7 s H ((H.set (fa F i).aA none).set m (some i)) N m i:=by
 have d:m<H.length:=by rw[h.hlen];exact hm
 have hp:=lZ h l;have a:(fa F i).aA<H.length:=by rw[h.hlen];exact hp
 have g:=h.jN i l;have j:m≠(fa F i).aA:=fun e=>by rw[e,g]at c;cases c
 have f:(H.set (fa F i).aA none).length=H.length:=List.length_set;refine⟨by rw[List.length_set,List.length_set];exact h.hlen,by rw[gZ _ (by rw[f];exact d),if_pos rfl],fun k p=>?_,?_⟩
 ·rw[gZ _ (by rw[f];exact d),if_neg p,gZ H a];by_cases e:k=(fa F i).aA
  ·rw[if_pos e,e,g,if_pos rfl]
  ·rw[if_neg e,if_neg];intro q;exact e (h.nR k i q).2.symm
 ·have o:=count_set H (fa F i).aA none a;rw[g]at o;have n:=count_set (H.set (fa F i).aA none) m (some i) (by rw[f];exact d);rw[gZ H a,if_neg j,c]at n;have r:=h.bounds.2;rw[gy,if_pos l];simp at o n;omega
theorem mu{U V:Nat->Prop}{n:Nat}{d:Dk.aq}{lg:Wl.S}{c:List (Option Nat)}(h:cX U V w B L P S b N hand mp F H n d lg s)(A:Touch (fun j=>j=P\/j=mp) w w'){i m:Nat}{y:Po.Pg}{u:Value}(D:i<=s.held.length)(r:i<s.aC)(hm:m<N)(f:H.getD m none=none)(J:Po.cK y)(M:aV w u y.2)
 (hu:∀g,u.ownBlock=some g->¬cY U V g/\g≠P/\g≠mp) (E:i<s.held.length->(fa F i).pins=0/\(fa F i).bo=false) (o:aO w' P B S b N L s.aC hand mp (F.set i ⟨m,y.1,u,0,false,0,true⟩)) (p:dJ w' mp c) (a:H7 s H c N m i):
 Po.Good {s with held:=cJ c}/\m∈cJ c/\i<(cJ c).length/\ij U V w' B L d lg/\eh w' B L P S b N hand mp (F.set i ⟨m,y.1,u,0,false,0,true⟩) c (Po.pr s c m y)/\(∀j,cY U V j->¬eQ P mp (F.set i ⟨m,y.1,u,0,false,0,true⟩) j)/\
 (∀j,eQ P mp (F.set i ⟨m,y.1,u,0,false,0,true⟩) j->eQ P mp F j\/u.ownBlock=some j)/\s.bJ m=s.now m:=by
 obtain⟨T,R,I⟩:=gU h.pm f;have t:=h.pm.aQ.clean m I;have C:i<F.length:=by rw[h.pm.row.len];have:=h.pm.aN;omega
 have G:∀j,eQ P mp (F.set i ⟨m,y.1,u,0,false,0,true⟩) j->eQ P mp F j\/u.ownBlock=some j:=by
  rintro j(e|e|⟨k,x⟩)
  ·exact Or.inl (Or.inl e)
  ·exact Or.inl (Or.inr (Or.inl e))
  ·rw[cr F C]at x;split at x
   ·exact Or.inr x
   ·exact Or.inl (Or.inr (Or.inr ⟨k,x⟩))
 have l:=ry h.pm D r hm f (h.pm.aQ.ok m) E a.len a.at_ a.GL a.aN;have Q:Po.pr s c m (s.now m)={s with held:=cJ c}:=by
  unfold Po.pr;rw[Po.ey s.now m _ rfl,Po.ey s.bJ m _ t]
 rw[Q]at l;refine⟨l.1,l.2,by rw[a.aN];split<;>omega,dS h.log A fun j q e=>?_,h.pm.load A (fun j _ v O e=>?_) D r hm f J (A.bz M fun _ g z e=>?_) (fun g z=>(hu g z).2) E o p a.len a.at_ a.GL a.aN,fun j q K=>?_,G,t⟩
 ·rcases e with e|e
  ·exact h.off j q (Or.inl e)
  ·exact h.off j q (Or.inr (Or.inl e))
 ·rcases e with e|e
  ·exact v e
  ·exact O e
 ·rcases e with e|e
  ·exact(hu g z).2.1 e
  ·exact(hu g z).2.2 e
 ·rcases G j K with v|v
  ·exact h.off j q v
  ·exact(hu j v).1 q
end
set_option maxHeartbeats 12800000 in
set_option maxRecDepth 20000 in
theorem jZ{Fb U V:Nat->Prop}{w:World}{B L P S b N hand mp n:Nat}{F:List Fr}{H:List (Option Nat)}{d:Dk.aq}{lg:Wl.S}{s:Po.S}(m:Nat)(y:Po.Pg)(h:cX U V w B L P S b N hand mp F H n d lg s)(hm:m<N)(hs:Po.jJ s m->lg.stop<=1000000000000)(hy:Po.cK y)
 (bs:∀g,Fb g->¬cY U V g/\g≠P/\g≠mp)
 (av:m∉s.held->∀w2 bp F2,cX U V w2 B L P S b N bp mp F2 H n d lg s->Touch (·=P) w w2->Calls Tryz.prog 49 #[.pointer (some ⟨P,0,none⟩),.int .i64 (m:Int)] w2 fun e w'=>∃p c,e=.returned (.tuple #[fZ y.1 (.slice p y.2.length c),.int .i64 0])/\aV w' (.slice p y.2.length c) y.2/\(∀g,(Value.slice p y.2.length c).ownBlock=some g->Fb g)/\Below w2.heap.size w2 w'):
 Calls Tryz.prog 48 #[.pointer (some ⟨P,0,none⟩),.int .i64 (m:Int),.func (.func 49) #[.pointer (some ⟨P,0,none⟩)] #[]] w fun e w'=>Ha Fb U V B L P S b N mp F H n d lg s m y w e w':=by
 have bh: -9223372036854775808<=(m:Int)/\(m:Int)<=9223372036854775807:=by have:=h.pm.n16;omega
 have hfr:=iy h.pm.row h.pm.map (m:Int) bh;rw[sF]at hfr;have x:=Lib.hid h;have HM:=Lib.hid hm;have HS:=Lib.hid hs;have HY:=Lib.hid hy;have bD:=Lib.hid bs;have bE:=Lib.hid av;cases hm0:H.getD m none with
 |some i=>
  obtain⟨hi,bM⟩:=h.pm.nR m i hm0;have M:m∈s.held:=by rw[h.pm.held];exact(dd H m).2 (by rw[hm0];exact fun c=>by cases c)
  have aZ:i<64:=by have:=h.pm.bounds;have:=h.pm.aN;omega
  rw[hm0]at hfr;have aU:=Lib.hid hfr;have HI:Hid (i<s.held.length/\i<64):=⟨hi,aZ⟩
  have aR:=Lib.hid M;have b7:=Lib.hid bM;have g6:=h.pm.row.fr aZ 6 (by decide) (v:=.bool (fa F i).used) rfl;have f6:=h.pm.row.free (5+i*7+6);have ax:=h.pm.row.set aZ 6 (by decide) (.bool true) {fa F i with used:=true} rfl;have b6:=Lib.hid ax;clear h hm hs hy bs av bh hfr hm0 hi bM M aZ ax;go_enter Tryz.func48,Tryz.ntmps48;go_wp2_with fail
  refine aU.out.mono ?_;rintro e w1⟨rfl,rfl⟩;unfold DI;dsimp only;clear aU;go_wp2_with fail
  go_ret2
  have ag:fW F (F.set i {fa F i with used:=true}):=(fW.refl F).set (by rw[x.out.pm.row.len];exact HI.out.2) true;have b2:eh (w1.setCell ⟨P,5+i*7+6,none⟩ (.bool true)) B L P S b N hand mp (F.set i {fa F i with used:=true}) H s:=x.out.pm.same (T:=(·=P)) (Touch.set P _ _ rfl) (fun j _ A e=>A e) b6.out x.out.pm.hand ag fun j A=>by
   rw[cr F (by rw[x.out.pm.row.len];exact HI.out.2),if_neg (by have:=HI.out.1;omega)];exact x.out.pm.rest j A
  have hX:=lW (P:=P) (mp:=mp) ag;refine Or.inl ⟨i,hand,F.set i {fa F i with used:=true},H,U,V,d,lg,s,s.bJ,rfl,HI.out.1,?_,aR.out,⟨rfl,rfl,rfl,rfl,fun _ _=>rfl,fun _=>Or.inl rfl⟩,Or.inl aR.out,x.out.pm.aQ,?_,?_,fun _=>rfl,x.out.hw,x.out.bG,id,Or.inl rfl,x.out.im,?_,Touch.set P _ _ (Or.inr (Or.inl rfl)),fun _ h=>Or.inl h,fun _ h=>Or.inl h,?_,fun _=>⟨rfl,rfl⟩⟩
  ·rw[cr F (by rw[x.out.pm.row.len];exact HI.out.2),if_pos rfl];exact b7.out
  ·exact dS x.out.log (Touch.set (S:=(·=P)) P _ _ rfl) fun j A e=>x.out.off j A (e▸Or.inl rfl)
  ·rw[show Lr.ru (m∈s.held) (s.now m) y=s.now m from Lr.ed aR.out _ _,Po.tp];exact b2
  ·rw[hX];exact x.out.off
  ·rw[hX];exact fun j A=>Or.inl A
 |none=>
  rw[hm0]at hfr;have hb:=h.pm.bounds;have bg:=oV h.pm.row h.pm.map h.pm.aN.1 h.pm.aN.2 h.pm.hand (by rw[hb.2];exact hb.1);rw[hb.2]at bg;have aU:=Lib.hid hfr;have bV:=Lib.hid bg;have aM:=Lib.hid hm0;have a8:=Lib.hid (gU h.pm hm0);have bZ:=Lib.hid hb;have b8:=Lib.hid h.pm.aN;clear h hm hs hy bs av bh hfr hm0 hb bg;go_enter Tryz.func48,Tryz.ntmps48;go_wp2_with fail
  refine aU.out.mono ?_;rintro e w0⟨rfl,rfl⟩;unfold DI;dsimp only;clear aU;go_wp2_with fail
  refine bV.out.mono ?_;rintro e w1⟨i,t,ok,z,rfl,ay,bO,ag,bd,aW,hA,hB⟩;have bH:∀j,s.held.length<=j->fa z j=Fr.zero:=fun j A=>by
   by_cases hl:s.held.length<s.aC
   ·rw[(hA hl).2.2];exact x.out.pm.rest j A
   ·rw[bd j (by omega)];exact x.out.pm.rest j A
  have ba:=x.out.pm.same aW (fun j _ r h2=>r h2) ay bO ag bH;have br:=lW (P:=P) (mp:=mp) ag;have aS:Hid (cX U V w1 B L P S b N t mp z H n d lg s):=⟨dS x.out.log aW fun j A e=>x.out.off j A (e▸Or.inl rfl),ba,x.out.dW,x.out.hw,by rw[br];exact x.out.off,x.out.im,x.out.kf,x.out.bG,x.out.n16⟩
  have bt:=Lib.hid br;have aL:=Lib.hid aW;have bT:=Lib.hid ag;have HA:=Lib.hid hA;have HB:=Lib.hid hB;clear ay bO ag bd aW hA hB bH ba br bV;rcases Bool.eq_false_or_eq_true ok with ai|ai
  case inr=>
   have ca:=Lib.hid ai;subst ai;clear bE;go_wp2_with fail
   go_ret2
   have b3:¬s.held.length<s.aC:=fun hl=>by
    have:=(HA.out hl).2.1;cases this
   refine Or.inr (Or.inl ⟨fun hf=>?_,rfl,t,z,aS.out,bt.out,aL.out.mono fun j _ e=>Or.inr (Or.inl e)⟩);rcases hf with hf|hf
   ·exact a8.out.1 hf
   ·refine hf ⟨by have:=bZ.out.1;omega,fun k hk=>?_⟩;obtain⟨j,-,e2,e3⟩:=od x.out.pm hk;have r:=(x.out.pm.fr j e2).pins;rw[e3]at r;have h2:=(HB.out b3).2 trivial j (by have:=bZ.out.1;omega);omega
  have bN:i<s.aC/\i<=s.held.length/\(i<s.held.length->(fa F i).pins=0):=by
   by_cases hl:s.held.length<s.aC
   ·have r:=(HA.out hl).1;exact⟨by omega,by omega,fun h2=>by omega⟩
   ·have r:=(HB.out hl).1 ai;exact⟨r.1,by have:=r.1;omega,fun _=>r.2⟩
  have ab:=Lib.hid bN;have f:Hid (i<64):=by show _<_;have:=b8.out;omega
  have av:=bE.out a8.out.1 w1 t z aS.out aL.out;have bY:=Lib.hid av;subst ai;clear av bN bE HA HB;go_wp2_with fail
  refine bY.out.mono ?_;rintro e w2⟨pu,cu,rfl,bS,bR,a1⟩;obtain⟨R,hR⟩:∃R,R=w2.heap.size:=⟨_,rfl⟩
  obtain⟨W2,a6⟩:∃W2,W2=w2.alloc (.cells #[.int .u64 (y.1:Int),.slice pu y.2.length cu] 59):=⟨_,rfl⟩
  have bn:Below w2.heap.size w2 W2:=by rw[a6];exact(Below.refl _ _).alloc (Nat.le_refl _) _
  have ar:Below w1.heap.size w1 W2:=a1.trans (bn.mono a1.size);have az:W2.heap[R]?=some (.cells #[.int .u64 (y.1:Int),.slice pu y.2.length cu] 59 (0,0)):=by rw[a6,hR];exact heap_alloc_last _ _
  have l:=Lib.hid (aS.out.below ar);have bF:=Lib.hid (bS.below bn);have aT:=Lib.hid bR;have bW:=Lib.hid az;have bu:Hid (Touch (fun j=>cY U V j\/j=P\/j=mp) w0 W2):=(aL.out.mono fun j _ e=>Or.inr (Or.inl e)).trans (Touch.aE ar);have bU:Hid (w0.heap.size<=R):=by show _<=_;rw[hR];exact Nat.le_trans aL.out.size a1.size
  have bf:Hid (w0.heap.size<=W2.heap.size):=Nat.le_trans aL.out.size ar.size;unfold fZ;go_upto_region 7 with(fail)
  rw[<-a6,<-hR];clear bS bR a1 bn ar az a6 hR bY;have c5:=l.out.pm.row.qC;have bk:=l.out.pm.map.jA;rw[l.out.pm.bounds.2]at bk;have b9:(i:Int)<64:=by have:=f.out;omega
  by_cases aH:i<s.held.length
  case pos=>
   have bc:(i:Int)<(s.held.length:Int):=by omega
   have J:=Lib.hid aH;have G:Po.jJ s m:=Or.inr (Po.ue (k:=(fa z i).aA) (by rw[x.out.pm.held];exact(dd H _).2 (by rw[l.out.pm.jN i J.out];exact fun c=>by cases c)) ((l.out.pm.fr i J.out).pins.trans ((bT.out.pins i).trans (ab.out.2.2 J.out))));have bB:=Lib.hid (oY l.out aH (HS.out G));have bC:=Lib.hid G;clear G;clear aH;go_wp2_with fail
   refine bB.out.mono ?_;intro e w3 ak;rcases ak with⟨rfl,wg,ai,ad,bb⟩|⟨aX,rfl,bP⟩
   case inr=>
    have HE:Hid (_/\_):=⟨aX,bP⟩
    clear aX bP bB bk c5;go_wp2_with fail
    go_ret2
    obtain⟨aX,U',d',b1,c,e1,e2,e3,e4,e5,e6⟩:=HE.out;refine Or.inr (Or.inr ⟨aX,rfl,U',d',b1,c,e1,e2,bu.out.trans (e3.mono fun j _ e=>?_),fun j A=>?_,e5,e6⟩)
    ·rcases e with e|e
     ·exact Or.inl e
     ·exact Or.inr (Or.inl e)
    ·rcases e4 j A with r|r
     ·exact Or.inl r
     ·exact Or.inr (Nat.le_trans bf.out r)
   obtain⟨U1,V1,d1,b0,aF,W,aY,au,aI,ak,O⟩:=ai;obtain⟨K,a7⟩:∃K,K=z.set i {fa z i with bo:=false}:=⟨_,rfl⟩
   have aJ:i<z.length:=by rw[l.out.pm.row.len];exact f.out
   have Y:fa K i={fa z i with bo:=false}:=by rw[a7,cr z aJ,if_pos rfl]
   have a2:eQ P mp K=eQ P mp F:=by rw[a7,ku z aJ {fa z i with bo:=false} rfl,bt.out]
   rw[<-a7]at aF;have ao:(fa K i).aA=(fa z i).aA:=by rw[Y]
   have bI:∀g,(Value.slice pu y.2.length cu).ownBlock=some g->g<W2.heap.size:=bF.out.ju (by rw[HY.out.2.1];decide);have bQ:¬(cY U V R\/R=P):=fun h=>by
    have r:=bU.out;rcases h with h|h
    ·have:=fg x.out.log R h;omega
    ·have:=x.out.pm.row.lt;omega
   have Z:Hid (w3.heap[R]?=some (.cells #[.int .u64 (y.1:Int),.slice pu y.2.length cu] 59 (0,0))):=ad.row (au.row bW.out bQ) fun e=>by
    have r:=bU.out;have h2:=x.out.pm.map.lt;omega
   have a:Hid (aO w3 P B S b N L s.aC t mp K):=aF.pm.row.al ad aF.pm.ne;have aP:=Lib.hid bb;have bA:Hid ((H.set (fa z i).aA none).length=N):=by show _=_;rw[List.length_set];exact x.out.pm.hlen
   have aa:=Lib.hid aF;have bX:Hid (_/\_/\_/\_/\_/\_/\_):=⟨W,aY,au,aI,ak,O,ad⟩
   have HF:Hid (fa K i={fa z i with bo:=false}/\eQ P mp K=eQ P mp F/\(fa K i).aA=(fa z i).aA):=⟨Y,a2,ao⟩
   have b5:=Lib.hid bI;clear aF W aY au aI ak O a7 aJ Y a2 ao bI bQ ad bb bB bk c5 bc;have k0:=a.out.fr f.out 0 (by decide) (v:=.int .i64 ((fa K i).aA:Int)) rfl;rw[Nat.add_zero]at k0;have k1:=a.out.fr f.out 1 (by decide) (v:=.int .u64 ((fa K i).bj:Int)) rfl;have k2:=a.out.fr f.out 2 (by decide) (v:=(fa K i).u) rfl;have k3:=a.out.fr f.out 3 (by decide) (v:=.int .i64 ((fa K i).pins:Int)) rfl;have k4:=a.out.fr f.out 4 (by decide) (v:=.bool (fa K i).bo) rfl;have k5:=a.out.fr f.out 5 (by decide) (v:=.int .u64 ((fa K i).first:Int)) rfl;have k6:=a.out.fr f.out 6 (by decide) (v:=.bool (fa K i).used) rfl;have f0:=a.out.free (5+i*7);have f1:=a.out.free (5+i*7+1);have f2:=a.out.free (5+i*7+2);have f3:=a.out.free (5+i*7+3);have f4:=a.out.free (5+i*7+4);have f5:=a.out.free (5+i*7+5);have f6:=a.out.free (5+i*7+6);have p0:=ah Z.out 0 (v:=.int .u64 (y.1:Int)) rfl;have p1:=ah Z.out 1 (v:=.slice pu y.2.length cu) rfl;have o:=a.out.CX f.out ⟨m,y.1,.slice pu y.2.length cu,0,false,0,false⟩;obtain⟨W5,X⟩:∃W5,W5=(((((((w3.setCell ⟨P,5+i*7,none⟩ (.int .i64 (m:Int))).setCell ⟨P,5+i*7+1,none⟩ (.int .u64 (y.1:Int))).setCell ⟨P,5+i*7+2,none⟩ (.slice pu y.2.length cu)).setCell ⟨P,5+i*7+3,none⟩ (.int .i64 0)).setCell ⟨P,5+i*7+4,none⟩ (.bool false)).setCell ⟨P,5+i*7+5,none⟩ (.int .u64 0)).setCell ⟨P,5+i*7+6,none⟩ (.bool false)):=⟨_,rfl⟩
   have af:Touch (·=P) w3 W5:=by
    rw[X];exact((((((Touch.set (S:=(·=P)) P _ _ rfl).trans (Touch.set P _ _ rfl)).trans (Touch.set P _ _ rfl)).trans (Touch.set P _ _ rfl)).trans (Touch.set P _ _ rfl)).trans (Touch.set P _ _ rfl)).trans (Touch.set P _ _ rfl)
   have o:aO W5 P B S b N L s.aC t mp (K.set i ⟨m,y.1,.slice pu y.2.length cu,0,false,0,false⟩):=by rw[X];exact o
   have Q:P≠mp:=x.out.pm.ne;obtain⟨W6,bL,E,ae⟩:=(aP.out.al af (fun e=>Q e.symm)).put (k:=m) (by rw[bA.out];exact HM.out) f.out;have q:=o.al ae Q;have I:K.length=64:=a.out.len;have g6:=q.fr f.out 6 (by decide) (v:=.bool false) (by rw[cr K (by rw[I];exact f.out),if_pos rfl];rfl);have e6:=q.free (5+i*7+6);have m5:=o.qC;have C:=aO.again I f.out q 6 (by decide) (.bool true) ⟨m,y.1,.slice pu y.2.length cu,0,false,0,true⟩ rfl;have D:dJ (W6.setCell ⟨P,5+i*7+6,none⟩ (.bool true)) mp ((H.set (fa z i).aA none).set m (some i)):=E.al (Touch.set (S:=(·=P)) P _ _ rfl) fun e=>Q e.symm;have aw:Touch (fun j=>j=P\/j=mp) w3 (W6.setCell ⟨P,5+i*7+6,none⟩ (.bool true)):=((af.mono fun _ _ e=>Or.inl e).trans (ae.mono fun _ _ e=>Or.inr e)).trans (Touch.set P _ _ (Or.inl rfl));have bw:=Lib.hid C;have bx:=Lib.hid D;have aK:=Lib.hid aw;clear o af Q E ae q I C D aw;go_upto_region 15 with(fail)
   rw[<-X];clear k0 k1 k2 k3 k4 k5 k6 f0 f1 f2 f3 f4 f5 f6 p0 p1 X;go_wp2_with fail
   go_ret2
   obtain⟨W,aY,au,aI,ak,O,ad⟩:=bX.out;obtain⟨Y,a2,ao⟩:=HF.out;have h7:=uB aa.out.pm J.out HM.out aM.out;rw[ao]at h7;have bK:=bf.out;have bm:=mu (m:=m) (y:=y) aa.out ((ad.mono fun _ _ e=>Or.inr e).trans aK.out) ab.out.2.1 ab.out.1 HM.out aM.out HY.out (au.bz bF.out fun _ g hg e=>?_) (fun g hg=>?_) (fun _=>?_) bw.out bx.out h7
   ·obtain⟨an,M,aG,aD,aB,aj,bq,bl⟩:=bm;have hold:(fa z i).aA≠m:=fun e=>by
     have r:=l.out.pm.jN i J.out;rw[e,aM.out]at r;cases r
    have G:=bC.out;refine Or.inl ⟨i,t,K.set i ⟨m,y.1,.slice pu y.2.length cu,0,false,0,true⟩,(H.set (fa z i).aA none).set m (some i),U1,V1,d1,b0,{Po.dt s (fa z i).aA with held:=cJ ((H.set (fa z i).aA none).set m (some i))},Po.cW (Po.dt s (fa z i).aA).bJ m y,rfl,aG,?_,M,⟨rfl,rfl,rfl,rfl,fun k hk=>?_,fun k=>?_⟩,G,an,aD,?_,fun e=>?_,aa.out.hw,aa.out.bG,W,aY,aa.out.im,aj,?_,fun j A=>?_,fun j A=>?_,fun j A=>?_,fun hn=>O (hn _)⟩
    ·rw[cr K (by rw[a.out.len];exact f.out),if_pos rfl]
    ·refine Po.eD _ _ fun e=>(dd _ k).1 hk ?_;rw[h7.GL k (by rw[e];exact hold),e,l.out.pm.jN i J.out,if_pos rfl]
    ·show Po.cW s.bJ _ _ k=_\/Po.cW s.bJ _ _ k=_;unfold Po.cW;split
     ·next e=>exact Or.inr (by rw[e])
     ·exact Or.inl rfl
    ·rw[Lr.dN a8.out.1];exact aB
    ·exact Po.ey _ _ _ (by rw[e];exact bl)
    ·refine((bu.out.trans (au.mono fun j _ e=>?_)).trans (ad.mono fun j _ e=>Or.inr (Or.inr e))).trans (aK.out.mono fun j _ e=>Or.inr e);rcases e with e|e
     ·exact Or.inl e
     ·exact Or.inr (Or.inl e)
    ·rcases aI j A with r|r
     ·exact Or.inl r
     ·exact Or.inr (Nat.le_trans bK r)
    ·rcases ak j A with r|r
     ·exact Or.inl r
     ·exact Or.inr (Nat.le_trans bK r)
    ·rcases bq j A with r|r
     ·exact Or.inl (by rw[<-a2];exact r)
     ·exact Or.inr (Or.inr (aT.out j r))
   ·obtain⟨r,h2,h3⟩:=bD.out g (aT.out g hg);rcases e with e|e
    ·exact r e
    ·exact h2 e
   ·obtain⟨r,h2,h3⟩:=bD.out g (aT.out g hg);have h4:=b5.out g hg;refine⟨fun e=>?_,h2,h3⟩;rcases e with e|e
    ·rcases aI g e with h5|h5
     ·exact r (Or.inl h5)
     ·omega
    ·rcases ak g e with h5|h5
     ·exact r (Or.inr h5)
     ·omega
   ·rw[Y];exact⟨(bT.out.pins i).trans (ab.out.2.2 J.out),rfl⟩
  case neg=>
   have bc:¬(i:Int)<(s.held.length:Int):=by omega
   have J:Hid (¬i<s.held.length):=aH;have Z:=bW;have a:=Lib.hid l.out.pm.row;have aP:=Lib.hid l.out.pm.map;have bA:Hid (H.length=N):=x.out.pm.hlen;clear aH;have k0:=a.out.fr f.out 0 (by decide) (v:=.int .i64 ((fa z i).aA:Int)) rfl;rw[Nat.add_zero]at k0;have k1:=a.out.fr f.out 1 (by decide) (v:=.int .u64 ((fa z i).bj:Int)) rfl;have k2:=a.out.fr f.out 2 (by decide) (v:=(fa z i).u) rfl;have k3:=a.out.fr f.out 3 (by decide) (v:=.int .i64 ((fa z i).pins:Int)) rfl;have k4:=a.out.fr f.out 4 (by decide) (v:=.bool (fa z i).bo) rfl;have k5:=a.out.fr f.out 5 (by decide) (v:=.int .u64 ((fa z i).first:Int)) rfl;have k6:=a.out.fr f.out 6 (by decide) (v:=.bool (fa z i).used) rfl;have f0:=a.out.free (5+i*7);have f1:=a.out.free (5+i*7+1);have f2:=a.out.free (5+i*7+2);have f3:=a.out.free (5+i*7+3);have f4:=a.out.free (5+i*7+4);have f5:=a.out.free (5+i*7+5);have f6:=a.out.free (5+i*7+6);have p0:=ah Z.out 0 (v:=.int .u64 (y.1:Int)) rfl;have p1:=ah Z.out 1 (v:=.slice pu y.2.length cu) rfl;have o:=a.out.CX f.out ⟨m,y.1,.slice pu y.2.length cu,0,false,0,false⟩;obtain⟨W5,X⟩:∃W5,W5=(((((((W2.setCell ⟨P,5+i*7,none⟩ (.int .i64 (m:Int))).setCell ⟨P,5+i*7+1,none⟩ (.int .u64 (y.1:Int))).setCell ⟨P,5+i*7+2,none⟩ (.slice pu y.2.length cu)).setCell ⟨P,5+i*7+3,none⟩ (.int .i64 0)).setCell ⟨P,5+i*7+4,none⟩ (.bool false)).setCell ⟨P,5+i*7+5,none⟩ (.int .u64 0)).setCell ⟨P,5+i*7+6,none⟩ (.bool false)):=⟨_,rfl⟩
   have af:Touch (·=P) W2 W5:=by
    rw[X];exact((((((Touch.set (S:=(·=P)) P _ _ rfl).trans (Touch.set P _ _ rfl)).trans (Touch.set P _ _ rfl)).trans (Touch.set P _ _ rfl)).trans (Touch.set P _ _ rfl)).trans (Touch.set P _ _ rfl)).trans (Touch.set P _ _ rfl)
   have o:aO W5 P B S b N L s.aC t mp (z.set i ⟨m,y.1,.slice pu y.2.length cu,0,false,0,false⟩):=by rw[X];exact o
   have Q:P≠mp:=x.out.pm.ne;obtain⟨W6,bL,E,ae⟩:=(aP.out.al af (fun e=>Q e.symm)).put (k:=m) (by rw[bA.out];exact HM.out) f.out;have q:=o.al ae Q;have I:z.length=64:=a.out.len;have g6:=q.fr f.out 6 (by decide) (v:=.bool false) (by rw[cr z (by rw[I];exact f.out),if_pos rfl];rfl);have e6:=q.free (5+i*7+6);have m5:=o.qC;have C:=aO.again I f.out q 6 (by decide) (.bool true) ⟨m,y.1,.slice pu y.2.length cu,0,false,0,true⟩ rfl;have D:dJ (W6.setCell ⟨P,5+i*7+6,none⟩ (.bool true)) mp (H.set m (some i)):=E.al (Touch.set (S:=(·=P)) P _ _ rfl) fun e=>Q e.symm;have aw:Touch (fun j=>j=P\/j=mp) W2 (W6.setCell ⟨P,5+i*7+6,none⟩ (.bool true)):=((af.mono fun _ _ e=>Or.inl e).trans (ae.mono fun _ _ e=>Or.inr e)).trans (Touch.set P _ _ (Or.inl rfl));have bw:=Lib.hid C;have bx:=Lib.hid D;have aK:=Lib.hid aw;clear o af Q E ae q I C D aw;go_upto_region 15 with(fail)
   rw[<-X];clear k0 k1 k2 k3 k4 k5 k6 f0 f1 f2 f3 f4 f5 f6 p0 p1 X;go_wp2_with fail
   go_ret2
   have b4:i=s.held.length:=by have:=ab.out.2.1;have:=J.out;omega
   have h7:=xL l.out.pm b4 HM.out aM.out;have bm:=mu (m:=m) (y:=y) l.out aK.out ab.out.2.1 ab.out.1 HM.out aM.out HY.out bF.out (fun g hg=>bD.out g (aT.out g hg)) (fun h=>absurd h J.out) bw.out bx.out h7;obtain⟨an,M,aG,aD,aB,aj,bq,bl⟩:=bm;refine Or.inl ⟨i,t,z.set i ⟨m,y.1,.slice pu y.2.length cu,0,false,0,true⟩,H.set m (some i),U,V,d,lg,{s with held:=cJ (H.set m (some i))},Po.cW s.bJ m y,rfl,aG,?_,M,⟨rfl,rfl,rfl,rfl,fun k hk=>rfl,fun k=>Or.inl rfl⟩,Or.inr (fun hf=>by have:=hf.1;have:=ab.out.1;omega),an,aD,?_,fun e=>?_,l.out.hw,l.out.bG,id,Or.inl rfl,l.out.im,aj,?_,fun j A=>Or.inl A,fun j A=>Or.inl A,fun j A=>?_,fun _=>⟨rfl,rfl⟩⟩
   ·rw[cr z (by rw[a.out.len];exact f.out),if_pos rfl]
   ·rw[Lr.dN a8.out.1];exact aB
   ·exact Po.ey _ _ _ (by rw[e];exact bl)
   ·exact bu.out.trans (aK.out.mono fun j _ e=>Or.inr e)
   ·rcases bq j A with r|r
    ·exact Or.inl (by rw[<-bt.out];exact r)
    ·exact Or.inr (Or.inr (aT.out j r))
set_option maxHeartbeats 12800000 in
set_option maxRecDepth 20000 in
theorem qw{Fb U V:Nat->Prop}{w:World}{B L P S b N hand mp n:Nat}{F:List Fr}{H:List (Option Nat)}{d:Dk.aq}{lg:Wl.S}{s:Po.S}(m:Nat)(y:Po.Pg)(G:Nat)(h:cX U V w B L P S b N hand mp F H n d lg s)(hm:m<N)(hs:Po.jJ s m->lg.stop<=1000000000000)(hy:Po.cK y)
 (bt:∀g,Fb g->¬cY U V g/\g≠P/\g≠mp)
 (aw:m∉s.held->∀w2 bq F2,cX U V w2 B L P S b N bq mp F2 H n d lg s->Touch (·=P) w w2->Calls Tryz.prog 51 #[.int .i64 (m:Int),.pointer (some ⟨G,0,none⟩)] w2 fun e w'=>∃p c,e=.returned (.tuple #[fZ y.1 (.slice p y.2.length c),.int .i64 0])/\aV w' (.slice p y.2.length c) y.2/\(∀g,(Value.slice p y.2.length c).ownBlock=some g->Fb g)/\Below w2.heap.size w2 w'):
 Calls Tryz.prog 48 #[.pointer (some ⟨P,0,none⟩),.int .i64 (m:Int),.func (.func 51) #[] #[.pointer (some ⟨G,0,none⟩)]] w fun e w'=>Ha Fb U V B L P S b N mp F H n d lg s m y w e w':=by
 have bk: -9223372036854775808<=(m:Int)/\(m:Int)<=9223372036854775807:=by have:=h.pm.n16;omega
 have hfr:=iy h.pm.row h.pm.map (m:Int) bk;rw[sF]at hfr;have x:=Lib.hid h;have HM:=Lib.hid hm;have HS:=Lib.hid hs;have HY:=Lib.hid hy;have bE:=Lib.hid bt;have bF:=Lib.hid aw;cases hm0:H.getD m none with
 |some i=>
  obtain⟨hi,bN⟩:=h.pm.nR m i hm0;have O:m∈s.held:=by rw[h.pm.held];exact(dd H m).2 (by rw[hm0];exact fun c=>by cases c)
  have a1:i<64:=by have:=h.pm.bounds;have:=h.pm.aN;omega
  rw[hm0]at hfr;have aW:=Lib.hid hfr;have HI:Hid (i<s.held.length/\i<64):=⟨hi,a1⟩
  have aS:=Lib.hid O;have b8:=Lib.hid bN;have g6:=h.pm.row.fr a1 6 (by decide) (v:=.bool (fa F i).used) rfl;have f6:=h.pm.row.free (5+i*7+6);have ay:=h.pm.row.set a1 6 (by decide) (.bool true) {fa F i with used:=true} rfl;have b7:=Lib.hid ay;clear h hm hs hy bt aw bk hfr hm0 hi bN O a1 ay;go_enter Tryz.func48,Tryz.ntmps48;go_wp2_with fail
  refine aW.out.mono ?_;rintro e w1⟨rfl,rfl⟩;unfold DI;dsimp only;clear aW;go_wp2_with fail
  go_ret2
  have ai:fW F (F.set i {fa F i with used:=true}):=(fW.refl F).set (by rw[x.out.pm.row.len];exact HI.out.2) true;have b3:eh (w1.setCell ⟨P,5+i*7+6,none⟩ (.bool true)) B L P S b N hand mp (F.set i {fa F i with used:=true}) H s:=x.out.pm.same (T:=(·=P)) (Touch.set P _ _ rfl) (fun j _ A e=>A e) b7.out x.out.pm.hand ai fun j A=>by
   rw[cr F (by rw[x.out.pm.row.len];exact HI.out.2),if_neg (by have:=HI.out.1;omega)];exact x.out.pm.rest j A
  have hX:=lW (P:=P) (mp:=mp) ai;refine Or.inl ⟨i,hand,F.set i {fa F i with used:=true},H,U,V,d,lg,s,s.bJ,rfl,HI.out.1,?_,aS.out,⟨rfl,rfl,rfl,rfl,fun _ _=>rfl,fun _=>Or.inl rfl⟩,Or.inl aS.out,x.out.pm.aQ,?_,?_,fun _=>rfl,x.out.hw,x.out.bG,id,Or.inl rfl,x.out.im,?_,Touch.set P _ _ (Or.inr (Or.inl rfl)),fun _ h=>Or.inl h,fun _ h=>Or.inl h,?_,fun _=>⟨rfl,rfl⟩⟩
  ·rw[cr F (by rw[x.out.pm.row.len];exact HI.out.2),if_pos rfl];exact b8.out
  ·exact dS x.out.log (Touch.set (S:=(·=P)) P _ _ rfl) fun j A e=>x.out.off j A (e▸Or.inl rfl)
  ·rw[show Lr.ru (m∈s.held) (s.now m) y=s.now m from Lr.ed aS.out _ _,Po.tp];exact b3
  ·rw[hX];exact x.out.off
  ·rw[hX];exact fun j A=>Or.inl A
 |none=>
  rw[hm0]at hfr;have hb:=h.pm.bounds;have bh:=oV h.pm.row h.pm.map h.pm.aN.1 h.pm.aN.2 h.pm.hand (by rw[hb.2];exact hb.1);rw[hb.2]at bh;have aW:=Lib.hid hfr;have bW:=Lib.hid bh;have aP:=Lib.hid hm0;have ba:=Lib.hid (gU h.pm hm0);have b0:=Lib.hid hb;have b9:=Lib.hid h.pm.aN;clear h hm hs hy bt aw bk hfr hm0 hb bh;go_enter Tryz.func48,Tryz.ntmps48;go_wp2_with fail
  refine aW.out.mono ?_;rintro e w0⟨rfl,rfl⟩;unfold DI;dsimp only;clear aW;go_wp2_with fail
  refine bW.out.mono ?_;rintro e w1⟨i,t,ok,z,rfl,az,bP,ai,bf,aX,hA,hB⟩;have bI:∀j,s.held.length<=j->fa z j=Fr.zero:=fun j A=>by
   by_cases hl:s.held.length<s.aC
   ·rw[(hA hl).2.2];exact x.out.pm.rest j A
   ·rw[bf j (by omega)];exact x.out.pm.rest j A
  have bb:=x.out.pm.same aX (fun j _ r h2=>r h2) az bP ai bI;have bs:=lW (P:=P) (mp:=mp) ai;have aT:Hid (cX U V w1 B L P S b N t mp z H n d lg s):=⟨dS x.out.log aX fun j A e=>x.out.off j A (e▸Or.inl rfl),bb,x.out.dW,x.out.hw,by rw[bs];exact x.out.off,x.out.im,x.out.kf,x.out.bG,x.out.n16⟩
  have bu:=Lib.hid bs;have aM:=Lib.hid aX;have bU:=Lib.hid ai;have HA:=Lib.hid hA;have HB:=Lib.hid hB;clear az bP ai bf aX hA hB bI bb bs bW;rcases Bool.eq_false_or_eq_true ok with aj|aj
  case inr=>
   have cb:=Lib.hid aj;subst aj;clear bF;go_wp2_with fail
   go_ret2
   have b4:¬s.held.length<s.aC:=fun hl=>by
    have:=(HA.out hl).2.1;cases this
   refine Or.inr (Or.inl ⟨fun hf=>?_,rfl,t,z,aT.out,bu.out,aM.out.mono fun j _ e=>Or.inr (Or.inl e)⟩);rcases hf with hf|hf
   ·exact ba.out.1 hf
   ·refine hf ⟨by have:=b0.out.1;omega,fun k hk=>?_⟩;obtain⟨j,-,e2,e3⟩:=od x.out.pm hk;have r:=(x.out.pm.fr j e2).pins;rw[e3]at r;have h2:=(HB.out b4).2 trivial j (by have:=b0.out.1;omega);omega
  have bO:i<s.aC/\i<=s.held.length/\(i<s.held.length->(fa F i).pins=0):=by
   by_cases hl:s.held.length<s.aC
   ·have r:=(HA.out hl).1;exact⟨by omega,by omega,fun h2=>by omega⟩
   ·have r:=(HB.out hl).1 aj;exact⟨r.1,by have:=r.1;omega,fun _=>r.2⟩
  have ad:=Lib.hid bO;have f:Hid (i<64):=by show _<_;have:=b9.out;omega
  have aw:=bF.out ba.out.1 w1 t z aT.out aM.out;have bZ:=Lib.hid aw;subst aj;clear aw bO bF HA HB;go_wp2_with fail
  refine bZ.out.mono ?_;rintro e w2⟨pu,cu,rfl,bT,bS,a2⟩;obtain⟨R,hR⟩:∃R,R=w2.heap.size:=⟨_,rfl⟩
  obtain⟨W2,a7⟩:∃W2,W2=w2.alloc (.cells #[.int .u64 (y.1:Int),.slice pu y.2.length cu] 59):=⟨_,rfl⟩
  have bp:Below w2.heap.size w2 W2:=by rw[a7];exact(Below.refl _ _).alloc (Nat.le_refl _) _
  have au:Below w1.heap.size w1 W2:=a2.trans (bp.mono a2.size);have aB:W2.heap[R]?=some (.cells #[.int .u64 (y.1:Int),.slice pu y.2.length cu] 59 (0,0)):=by rw[a7,hR];exact heap_alloc_last _ _
  have l:=Lib.hid (aT.out.below au);have bH:=Lib.hid (bT.below bp);have aU:=Lib.hid bS;have bX:=Lib.hid aB;have bw:Hid (Touch (fun j=>cY U V j\/j=P\/j=mp) w0 W2):=(aM.out.mono fun j _ e=>Or.inr (Or.inl e)).trans (Touch.aE au);have bV:Hid (w0.heap.size<=R):=by show _<=_;rw[hR];exact Nat.le_trans aM.out.size a2.size
  have bg:Hid (w0.heap.size<=W2.heap.size):=Nat.le_trans aM.out.size au.size;unfold fZ;go_upto_region 7 with(fail)
  rw[<-a7,<-hR];clear bT bS a2 bp au aB a7 hR bZ;have c5:=l.out.pm.row.qC;have bl:=l.out.pm.map.jA;rw[l.out.pm.bounds.2]at bl;have ca:(i:Int)<64:=by have:=f.out;omega
  by_cases aI:i<s.held.length
  case pos=>
   have bd:(i:Int)<(s.held.length:Int):=by omega
   have K:=Lib.hid aI;have I:Po.jJ s m:=Or.inr (Po.ue (k:=(fa z i).aA) (by rw[x.out.pm.held];exact(dd H _).2 (by rw[l.out.pm.jN i K.out];exact fun c=>by cases c)) ((l.out.pm.fr i K.out).pins.trans ((bU.out.pins i).trans (ad.out.2.2 K.out))));have bC:=Lib.hid (oY l.out aI (HS.out I));have bD:=Lib.hid I;clear I;clear aI;go_wp2_with fail
   refine bC.out.mono ?_;intro e w3 an;rcases an with⟨rfl,wg,aj,ae,bc⟩|⟨aY,rfl,bQ⟩
   case inr=>
    have HE:Hid (_/\_):=⟨aY,bQ⟩
    clear aY bQ bC bl c5;go_wp2_with fail
    go_ret2
    obtain⟨aY,U',d',b2,c,e1,e2,e3,e4,e5,e6⟩:=HE.out;refine Or.inr (Or.inr ⟨aY,rfl,U',d',b2,c,e1,e2,bw.out.trans (e3.mono fun j _ e=>?_),fun j A=>?_,e5,e6⟩)
    ·rcases e with e|e
     ·exact Or.inl e
     ·exact Or.inr (Or.inl e)
    ·rcases e4 j A with r|r
     ·exact Or.inl r
     ·exact Or.inr (Nat.le_trans bg.out r)
   obtain⟨U1,V1,d1,b1,aG,X,aZ,av,aJ,an,Q⟩:=aj;obtain⟨M,a8⟩:∃M,M=z.set i {fa z i with bo:=false}:=⟨_,rfl⟩
   have aK:i<z.length:=by rw[l.out.pm.row.len];exact f.out
   have Z:fa M i={fa z i with bo:=false}:=by rw[a8,cr z aK,if_pos rfl]
   have a6:eQ P mp M=eQ P mp F:=by rw[a8,ku z aK {fa z i with bo:=false} rfl,bu.out]
   rw[<-a8]at aG;have ar:(fa M i).aA=(fa z i).aA:=by rw[Z]
   have bK:∀g,(Value.slice pu y.2.length cu).ownBlock=some g->g<W2.heap.size:=bH.out.ju (by rw[HY.out.2.1];decide);have bR:¬(cY U V R\/R=P):=fun h=>by
    have r:=bV.out;rcases h with h|h
    ·have:=fg x.out.log R h;omega
    ·have:=x.out.pm.row.lt;omega
   have aa:Hid (w3.heap[R]?=some (.cells #[.int .u64 (y.1:Int),.slice pu y.2.length cu] 59 (0,0))):=ae.row (av.row bX.out bR) fun e=>by
    have r:=bV.out;have h2:=x.out.pm.map.lt;omega
   have a:Hid (aO w3 P B S b N L s.aC t mp M):=aG.pm.row.al ae aG.pm.ne;have aR:=Lib.hid bc;have bB:Hid ((H.set (fa z i).aA none).length=N):=by show _=_;rw[List.length_set];exact x.out.pm.hlen
   have ab:=Lib.hid aG;have bY:Hid (_/\_/\_/\_/\_/\_/\_):=⟨X,aZ,av,aJ,an,Q,ae⟩
   have HF:Hid (fa M i={fa z i with bo:=false}/\eQ P mp M=eQ P mp F/\(fa M i).aA=(fa z i).aA):=⟨Z,a6,ar⟩
   have b6:=Lib.hid bK;clear aG X aZ av aJ an Q a8 aK Z a6 ar bK bR ae bc bC bl c5 bd;have k0:=a.out.fr f.out 0 (by decide) (v:=.int .i64 ((fa M i).aA:Int)) rfl;rw[Nat.add_zero]at k0;have k1:=a.out.fr f.out 1 (by decide) (v:=.int .u64 ((fa M i).bj:Int)) rfl;have k2:=a.out.fr f.out 2 (by decide) (v:=(fa M i).u) rfl;have k3:=a.out.fr f.out 3 (by decide) (v:=.int .i64 ((fa M i).pins:Int)) rfl;have k4:=a.out.fr f.out 4 (by decide) (v:=.bool (fa M i).bo) rfl;have k5:=a.out.fr f.out 5 (by decide) (v:=.int .u64 ((fa M i).first:Int)) rfl;have k6:=a.out.fr f.out 6 (by decide) (v:=.bool (fa M i).used) rfl;have f0:=a.out.free (5+i*7);have f1:=a.out.free (5+i*7+1);have f2:=a.out.free (5+i*7+2);have f3:=a.out.free (5+i*7+3);have f4:=a.out.free (5+i*7+4);have f5:=a.out.free (5+i*7+5);have f6:=a.out.free (5+i*7+6);have p0:=ah aa.out 0 (v:=.int .u64 (y.1:Int)) rfl;have p1:=ah aa.out 1 (v:=.slice pu y.2.length cu) rfl;have o:=a.out.CX f.out ⟨m,y.1,.slice pu y.2.length cu,0,false,0,false⟩;obtain⟨W5,Y⟩:∃W5,W5=(((((((w3.setCell ⟨P,5+i*7,none⟩ (.int .i64 (m:Int))).setCell ⟨P,5+i*7+1,none⟩ (.int .u64 (y.1:Int))).setCell ⟨P,5+i*7+2,none⟩ (.slice pu y.2.length cu)).setCell ⟨P,5+i*7+3,none⟩ (.int .i64 0)).setCell ⟨P,5+i*7+4,none⟩ (.bool false)).setCell ⟨P,5+i*7+5,none⟩ (.int .u64 0)).setCell ⟨P,5+i*7+6,none⟩ (.bool false)):=⟨_,rfl⟩
   have ag:Touch (·=P) w3 W5:=by
    rw[Y];exact((((((Touch.set (S:=(·=P)) P _ _ rfl).trans (Touch.set P _ _ rfl)).trans (Touch.set P _ _ rfl)).trans (Touch.set P _ _ rfl)).trans (Touch.set P _ _ rfl)).trans (Touch.set P _ _ rfl)).trans (Touch.set P _ _ rfl)
   have o:aO W5 P B S b N L s.aC t mp (M.set i ⟨m,y.1,.slice pu y.2.length cu,0,false,0,false⟩):=by rw[Y];exact o
   have W:P≠mp:=x.out.pm.ne;obtain⟨W6,bM,E,af⟩:=(aR.out.al ag (fun e=>W e.symm)).put (k:=m) (by rw[bB.out];exact HM.out) f.out;have q:=o.al af W;have J:M.length=64:=a.out.len;have g6:=q.fr f.out 6 (by decide) (v:=.bool false) (by rw[cr M (by rw[J];exact f.out),if_pos rfl];rfl);have e6:=q.free (5+i*7+6);have m5:=o.qC;have C:=aO.again J f.out q 6 (by decide) (.bool true) ⟨m,y.1,.slice pu y.2.length cu,0,false,0,true⟩ rfl;have D:dJ (W6.setCell ⟨P,5+i*7+6,none⟩ (.bool true)) mp ((H.set (fa z i).aA none).set m (some i)):=E.al (Touch.set (S:=(·=P)) P _ _ rfl) fun e=>W e.symm;have ax:Touch (fun j=>j=P\/j=mp) w3 (W6.setCell ⟨P,5+i*7+6,none⟩ (.bool true)):=((ag.mono fun _ _ e=>Or.inl e).trans (af.mono fun _ _ e=>Or.inr e)).trans (Touch.set P _ _ (Or.inl rfl));have bx:=Lib.hid C;have bA:=Lib.hid D;have aL:=Lib.hid ax;clear o ag W E af q J C D ax;go_upto_region 15 with(fail)
   rw[<-Y];clear k0 k1 k2 k3 k4 k5 k6 f0 f1 f2 f3 f4 f5 f6 p0 p1 Y;go_wp2_with fail
   go_ret2
   obtain⟨X,aZ,av,aJ,an,Q,ae⟩:=bY.out;obtain⟨Z,a6,ar⟩:=HF.out;have h7:=uB ab.out.pm K.out HM.out aP.out;rw[ar]at h7;have bL:=bg.out;have bn:=mu (m:=m) (y:=y) ab.out ((ae.mono fun _ _ e=>Or.inr e).trans aL.out) ad.out.2.1 ad.out.1 HM.out aP.out HY.out (av.bz bH.out fun _ g hg e=>?_) (fun g hg=>?_) (fun _=>?_) bx.out bA.out h7
   ·obtain⟨ao,O,aH,aF,aD,ak,br,bm⟩:=bn;have hold:(fa z i).aA≠m:=fun e=>by
     have r:=l.out.pm.jN i K.out;rw[e,aP.out]at r;cases r
    have I:=bD.out;refine Or.inl ⟨i,t,M.set i ⟨m,y.1,.slice pu y.2.length cu,0,false,0,true⟩,(H.set (fa z i).aA none).set m (some i),U1,V1,d1,b1,{Po.dt s (fa z i).aA with held:=cJ ((H.set (fa z i).aA none).set m (some i))},Po.cW (Po.dt s (fa z i).aA).bJ m y,rfl,aH,?_,O,⟨rfl,rfl,rfl,rfl,fun k hk=>?_,fun k=>?_⟩,I,ao,aF,?_,fun e=>?_,ab.out.hw,ab.out.bG,X,aZ,ab.out.im,ak,?_,fun j A=>?_,fun j A=>?_,fun j A=>?_,fun hn=>Q (hn _)⟩
    ·rw[cr M (by rw[a.out.len];exact f.out),if_pos rfl]
    ·refine Po.eD _ _ fun e=>(dd _ k).1 hk ?_;rw[h7.GL k (by rw[e];exact hold),e,l.out.pm.jN i K.out,if_pos rfl]
    ·show Po.cW s.bJ _ _ k=_\/Po.cW s.bJ _ _ k=_;unfold Po.cW;split
     ·next e=>exact Or.inr (by rw[e])
     ·exact Or.inl rfl
    ·rw[Lr.dN ba.out.1];exact aD
    ·exact Po.ey _ _ _ (by rw[e];exact bm)
    ·refine((bw.out.trans (av.mono fun j _ e=>?_)).trans (ae.mono fun j _ e=>Or.inr (Or.inr e))).trans (aL.out.mono fun j _ e=>Or.inr e);rcases e with e|e
     ·exact Or.inl e
     ·exact Or.inr (Or.inl e)
    ·rcases aJ j A with r|r
     ·exact Or.inl r
     ·exact Or.inr (Nat.le_trans bL r)
    ·rcases an j A with r|r
     ·exact Or.inl r
     ·exact Or.inr (Nat.le_trans bL r)
    ·rcases br j A with r|r
     ·exact Or.inl (by rw[<-a6];exact r)
     ·exact Or.inr (Or.inr (aU.out j r))
   ·obtain⟨r,h2,h3⟩:=bE.out g (aU.out g hg);rcases e with e|e
    ·exact r e
    ·exact h2 e
   ·obtain⟨r,h2,h3⟩:=bE.out g (aU.out g hg);have h4:=b6.out g hg;refine⟨fun e=>?_,h2,h3⟩;rcases e with e|e
    ·rcases aJ g e with h5|h5
     ·exact r (Or.inl h5)
     ·omega
    ·rcases an g e with h5|h5
     ·exact r (Or.inr h5)
     ·omega
   ·rw[Z];exact⟨(bU.out.pins i).trans (ad.out.2.2 K.out),rfl⟩
  case neg=>
   have bd:¬(i:Int)<(s.held.length:Int):=by omega
   have K:Hid (¬i<s.held.length):=aI;have aa:=bX;have a:=Lib.hid l.out.pm.row;have aR:=Lib.hid l.out.pm.map;have bB:Hid (H.length=N):=x.out.pm.hlen;clear aI;have k0:=a.out.fr f.out 0 (by decide) (v:=.int .i64 ((fa z i).aA:Int)) rfl;rw[Nat.add_zero]at k0;have k1:=a.out.fr f.out 1 (by decide) (v:=.int .u64 ((fa z i).bj:Int)) rfl;have k2:=a.out.fr f.out 2 (by decide) (v:=(fa z i).u) rfl;have k3:=a.out.fr f.out 3 (by decide) (v:=.int .i64 ((fa z i).pins:Int)) rfl;have k4:=a.out.fr f.out 4 (by decide) (v:=.bool (fa z i).bo) rfl;have k5:=a.out.fr f.out 5 (by decide) (v:=.int .u64 ((fa z i).first:Int)) rfl;have k6:=a.out.fr f.out 6 (by decide) (v:=.bool (fa z i).used) rfl;have f0:=a.out.free (5+i*7);have f1:=a.out.free (5+i*7+1);have f2:=a.out.free (5+i*7+2);have f3:=a.out.free (5+i*7+3);have f4:=a.out.free (5+i*7+4);have f5:=a.out.free (5+i*7+5);have f6:=a.out.free (5+i*7+6);have p0:=ah aa.out 0 (v:=.int .u64 (y.1:Int)) rfl;have p1:=ah aa.out 1 (v:=.slice pu y.2.length cu) rfl;have o:=a.out.CX f.out ⟨m,y.1,.slice pu y.2.length cu,0,false,0,false⟩;obtain⟨W5,Y⟩:∃W5,W5=(((((((W2.setCell ⟨P,5+i*7,none⟩ (.int .i64 (m:Int))).setCell ⟨P,5+i*7+1,none⟩ (.int .u64 (y.1:Int))).setCell ⟨P,5+i*7+2,none⟩ (.slice pu y.2.length cu)).setCell ⟨P,5+i*7+3,none⟩ (.int .i64 0)).setCell ⟨P,5+i*7+4,none⟩ (.bool false)).setCell ⟨P,5+i*7+5,none⟩ (.int .u64 0)).setCell ⟨P,5+i*7+6,none⟩ (.bool false)):=⟨_,rfl⟩
   have ag:Touch (·=P) W2 W5:=by
    rw[Y];exact((((((Touch.set (S:=(·=P)) P _ _ rfl).trans (Touch.set P _ _ rfl)).trans (Touch.set P _ _ rfl)).trans (Touch.set P _ _ rfl)).trans (Touch.set P _ _ rfl)).trans (Touch.set P _ _ rfl)).trans (Touch.set P _ _ rfl)
   have o:aO W5 P B S b N L s.aC t mp (z.set i ⟨m,y.1,.slice pu y.2.length cu,0,false,0,false⟩):=by rw[Y];exact o
   have W:P≠mp:=x.out.pm.ne;obtain⟨W6,bM,E,af⟩:=(aR.out.al ag (fun e=>W e.symm)).put (k:=m) (by rw[bB.out];exact HM.out) f.out;have q:=o.al af W;have J:z.length=64:=a.out.len;have g6:=q.fr f.out 6 (by decide) (v:=.bool false) (by rw[cr z (by rw[J];exact f.out),if_pos rfl];rfl);have e6:=q.free (5+i*7+6);have m5:=o.qC;have C:=aO.again J f.out q 6 (by decide) (.bool true) ⟨m,y.1,.slice pu y.2.length cu,0,false,0,true⟩ rfl;have D:dJ (W6.setCell ⟨P,5+i*7+6,none⟩ (.bool true)) mp (H.set m (some i)):=E.al (Touch.set (S:=(·=P)) P _ _ rfl) fun e=>W e.symm;have ax:Touch (fun j=>j=P\/j=mp) W2 (W6.setCell ⟨P,5+i*7+6,none⟩ (.bool true)):=((ag.mono fun _ _ e=>Or.inl e).trans (af.mono fun _ _ e=>Or.inr e)).trans (Touch.set P _ _ (Or.inl rfl));have bx:=Lib.hid C;have bA:=Lib.hid D;have aL:=Lib.hid ax;clear o ag W E af q J C D ax;go_upto_region 15 with(fail)
   rw[<-Y];clear k0 k1 k2 k3 k4 k5 k6 f0 f1 f2 f3 f4 f5 f6 p0 p1 Y;go_wp2_with fail
   go_ret2
   have b5:i=s.held.length:=by have:=ad.out.2.1;have:=K.out;omega
   have h7:=xL l.out.pm b5 HM.out aP.out;have bn:=mu (m:=m) (y:=y) l.out aL.out ad.out.2.1 ad.out.1 HM.out aP.out HY.out bH.out (fun g hg=>bE.out g (aU.out g hg)) (fun h=>absurd h K.out) bx.out bA.out h7;obtain⟨ao,O,aH,aF,aD,ak,br,bm⟩:=bn;refine Or.inl ⟨i,t,z.set i ⟨m,y.1,.slice pu y.2.length cu,0,false,0,true⟩,H.set m (some i),U,V,d,lg,{s with held:=cJ (H.set m (some i))},Po.cW s.bJ m y,rfl,aH,?_,O,⟨rfl,rfl,rfl,rfl,fun k hk=>rfl,fun k=>Or.inl rfl⟩,Or.inr (fun hf=>by have:=hf.1;have:=ad.out.1;omega),ao,aF,?_,fun e=>?_,l.out.hw,l.out.bG,id,Or.inl rfl,l.out.im,ak,?_,fun j A=>Or.inl A,fun j A=>Or.inl A,fun j A=>?_,fun _=>⟨rfl,rfl⟩⟩
   ·rw[cr z (by rw[a.out.len];exact f.out),if_pos rfl]
   ·rw[Lr.dN ba.out.1];exact aD
   ·exact Po.ey _ _ _ (by rw[e];exact bm)
   ·exact bw.out.trans (aL.out.mono fun j _ e=>Or.inr e)
   ·rcases br j A with r|r
    ·exact Or.inl (by rw[<-bu.out];exact r)
    ·exact Or.inr (Or.inr (aU.out j r))
theorem Rg.yE{n S b N m:Nat}{d:Dk.aq}{f:Nat->Po.Pg}(k:Wl.aY n d)(q:d.off=false)(s:Rg.gC n S b N)(h:Rg.qi S b N d f)(hm:m<N):Pg.read d (b:Int) (m:Int)=(f m,0):=by
 have r:=s.base;obtain⟨l1,l⟩:=xG r hm;have p:∀j,j<4->Rg.QS d (b+4*m+j):=fun j e x g=>by
  have:=h.idle _ (Rg.cE (S:=S) (b:=b) (N:=N) hm e);rw[this]at g;cases g
 have a:∀j,j<4->Dk.read d ((b+4*m+j:Nat):Int)=(Rg.lv d (b+4*m+j),0):=fun j e=>by
  rw[Rg.nX k q (by omega),Rg.gP (p j e)]
 have h0:=a 0 (by decide);have v:=a 1 (by decide);have u:=a 2 (by decide);have t:=a 3 (by decide);have o:Dk.iw d (b+4*m) 4=(Rg.hm d (b+4*m),0):=by
  unfold Dk.iw Dk.iw Dk.iw Dk.iw Dk.iw;rw[Nat.add_zero]at h0;rw[show b+4*m+1+1=b+4*m+2 by omega,show b+4*m+2+1=b+4*m+3 by omega,h0,v,u,t];simp[Rg.hm]
 have i:=h.home m hm;unfold Pg.read;rw[k.sz,if_neg (by rw[l1];decide),l,o,if_neg (fun c=>c rfl)];dsimp only;rw[i.1,i.2]
theorem Wl.jh{n:Nat}{d:Dk.aq}(h:Wl.Calm n d)(a:Dk.Ok d):Wl.aY n d:=⟨a,h.sz,h.aW⟩
theorem oO{U V:Nat->Prop}{w w2:World}{B L P S b N a mp n:Nat}{x:List Fr}{H:List (Option Nat)}{d:Dk.aq}{lg:Wl.S}{s:Po.S}{m:Nat}(hC:Wl.Calm n d)(hm:m<N)(f:m∉s.held)(h:cX U V w2 B L P S b N a mp x H n d lg s)(o:Touch (·=P) w w2):
 Calls Tryz.prog 49 #[.pointer (some ⟨P,0,none⟩),.int .i64 (m:Int)] w2 fun e w'=>∃p c,e=.returned (.tuple #[fZ (s.now m).1 (.slice p (s.now m).2.length c),.int .i64 0])/\aV w' (.slice p (s.now m).2.length c) (s.now m).2/\(∀g,(Value.slice p (s.now m).2.length c).ownBlock=some g->w.heap.size<=g)/\Below w2.heap.size w2 w':=by
 obtain⟨A,z,pl,y,q,C,j,-⟩:=h.log;have v:=h.pm.n16;have l:=vP h.pm.row j (m:Int) (by omega);rw[Rg.yE h.bG hC.off h.dW h.hw hm,h.pm.aQ.clean m (h.pm.aQ.pJ f)]at l;refine l.mono ?_;rintro e w'⟨u,rfl,k,t⟩;obtain⟨p,c,hu,-⟩:=k.bz.form;subst hu;exact⟨p,c,rfl,k.bz,fun g r=>Nat.le_trans o.size (Nat.le_of_not_lt fun i=>iV k r i),t⟩
theorem Po.GZ{α:Type}(f:Nat->α)(k:Nat):Po.cW f k (f k)=f:=Po.ey f k _ rfl
theorem eh.frame{w w':World}{B L P S b N hand mp:Nat}{F:List Fr}{H:List (Option Nat)}{s:Po.S}(h:eh w B L P S b N hand mp F H s){T:Nat->Prop}(t:Touch T w w')(hT:∀j,eQ P mp F j->j≠P->¬T j){i:Nat}(C:i<s.held.length)(f:Fr)(hp:f.aA=(fa F i).aA)(D:∀g,f.u.ownBlock=some g->g≠P/\g≠mp)
 (d:Po.S) (o:d.held=s.held) (hfr:d.aC=s.aC) (E:d.ar=s.ar) (l:Po.Good d) (hf:Ah w' d f) (z:∀k,k≠f.aA->d.now k=s.now k/\d.pins k=s.pins k/\d.first k=s.first k) (n:aO w' P B S b N L s.aC hand mp (F.set i f)):eh w' B L P S b N hand mp (F.set i f) H d:=by
 have p:i<F.length:=by rw[h.row.len];have:=h.bounds;have:=h.aN;omega
 have a:=cr F p f;refine⟨by rw[hfr];exact n,h.map.al t (hT mp (Or.inr (Or.inl rfl)) (Ne.symm h.ne)),h.hlen,by rw[E];exact h.ar,by rw[hfr];exact h.aN,by rw[hfr];exact h.hand,by rw[o];exact h.held,fun k j A=>?_,fun j c=>?_,fun j c=>?_,fun j c=>?_,l,h.n16,h.ne,fun j g l=>?_⟩
 ·obtain⟨m,v⟩:=h.nR k j A;rw[o,a];refine⟨m,?_⟩;split
  ·next e=>rw[hp,<-e];exact v
  ·exact v
 ·rw[o]at c;rw[a];split
  ·next e=>rw[hp,<-e];exact h.jN j c
  ·exact h.jN j c
 ·rw[o]at c;rw[a];split
  ·exact hf
  ·next e=>
   have m:=(h.fr j c).al t fun g l q=>hT g (Or.inr (Or.inr ⟨j,l⟩)) (h.zS j g l).1 q;obtain⟨r,y,x⟩:=z (fa F j).aA fun G=>e (tZ h c C (by rw[G,hp]));exact⟨by rw[r];exact m.bj,by rw[r];exact m.body,by rw[y];exact m.pins,by rw[x];exact m.first,m.fl⟩
 ·rw[o]at c;rw[a,if_neg (by omega)];exact h.rest j c
 ·rw[a]at l;split at l
  ·exact D g l
  ·exact h.zS j g l
def Hu(U V:Nat->Prop)(B L P S b N mp:Nat)(F:List Fr)(n:Nat)(d:Dk.aq)(lg:Wl.S)(s:Po.S)(m:Nat)(w:World)(i c:Nat)(e:List Fr)(H1:List (Option Nat))(g f:Nat->Prop)(d1:Dk.aq)(a:Wl.S)(s1:Po.S)(w':World):Prop:=
 i<s1.held.length/\(fa e i).aA=m/\m∈s1.held/\Po.qb s s1/\cX g f w' B L P S b N c mp e H1 n d1 a s1/\(Wl.Calm n d->Wl.Calm n d1)/\Po.Lf lg a/\Touch (fun j=>cY U V j\/j=P\/j=mp) w w'/\br U g w/\br V f w/\br (eQ P mp F) (eQ P mp e) w/\((∀k,s.first k=none)->d1=d/\a=lg)
theorem Ee{U V:Nat->Prop}{w:World}{B L P S b N hand mp n:Nat}{F:List Fr}{H:List (Option Nat)}{d:Dk.aq}{lg:Wl.S}{s:Po.S}{m:Nat}(h:cX U V w B L P S b N hand mp F H n d lg s)(hC:Wl.Calm n d)(hf:Po.jJ s m){e:Ending}{w':World}(X:Ha (fun g=>w.heap.size<=g) U V B L P S b N mp F H n d lg s m (s.now m) w e w'):
 ∃i a Q H1 O M d1 f s1,e=.returned (.tuple #[.pointer (some ⟨P,5+i*7,none⟩),.int .i64 0])/\Hu U V B L P S b N mp F n d lg s m w i a Q H1 O M d1 f s1 w':=by
 rcases X with⟨i,a,Q,H1,O,M,d1,f,s1,dk,Y,T,z,v,u,J,I,x,r,K,hw,o,q,p,k,t,R,G,E,W,l⟩|⟨A,-⟩|⟨C,-⟩
 ·refine⟨i,a,Q,H1,O,M,d1,f,s1,Y,T,z,v,u,⟨x,?_,h.dW,hw,t,k,?_,o,h.n16⟩,q,p,R,G,E,fun j D=>?_,l⟩
  ·rw[K rfl,show Lr.ru (m∈s.held) (s.now m) (s.now m)=s.now m from by by_cases c:m∈s.held;exact Lr.ed c _ _;exact Lr.dN c _ _,Po.GZ,<-u.now]at r;exact r
  ·intro j D;rw[p.at_,p.count];exact h.kf j D
  ·rcases W j D with y|y|y
   ·exact Or.inl y
   ·exact Or.inr y
   ·exact Or.inr y
 ·exact absurd hf A
 ·exact absurd hC C
theorem wF(tmps:Array Value)(w:World)(g:Nat)(d c e:Value)(h0:tmps.getD 4 undef=.pointer (some ⟨g,0,none⟩))(i:tmps.getD 5 undef=e)
 (r0:w.heap[g]?=some (.cells #[d,c] 59 (0,0))):
 (results Tryz.f20 tmps).run Tryz.prog w=.ok (.tuple #[.agg #[d,c],e]) w:=by
 have h:Tryz.f20.results=#[.cell 4 59,.tmp 5]:=rfl;have b:tmps[4]?.getD undef=.pointer (some ⟨g,0,none⟩):=by simpa using h0
 have a:tmps[5]?.getD undef=e:=by simpa using i
 have f:=run_loadVar_row (P:=Tryz.prog) w g 59 _ _ _ _ r0 Tryz.underlying59 rfl (by kernel_rfl);simp[results,h,b,a,asAddr,f]
def Iv(U V:Nat->Prop)(B L P S b N mp:Nat)(F:List Fr)(n:Nat)(d:Dk.aq)(lg:Wl.S)(s:Po.S)(m:Nat)(w:World)(e:Ending)(w':World):Prop:=
 ∃u i a j H1 h f d1 c s1,e=.returned (.tuple #[fZ (s.now m).1 u,.int .i64 0])/\Own w.heap.size w' u (s.now m).2/\Hu U V B L P S b N mp F n d lg s m w i a j H1 h f d1 c s1 w'/\(∀g,u.ownBlock=some g->¬cY h f g/\¬eQ P mp j g)
set_option maxHeartbeats 3200000 in
set_option maxRecDepth 20000 in
theorem yO{U V:Nat->Prop}{w:World}{B L P S b N hand mp n:Nat}{F:List Fr}{H:List (Option Nat)}{d:Dk.aq}{lg:Wl.S}{s:Po.S}{m:Nat}(h:cX U V w B L P S b N hand mp F H n d lg s)(hC:Wl.Calm n d)(hs:lg.stop<=1000000000000)(hm:m<N)(hf:Po.jJ s m):
 Calls Tryz.prog 20 #[.pointer (some ⟨P,0,none⟩),.int .i64 (m:Int)] w fun e w'=>Iv U V B L P S b N mp F n d lg s m w e w':=by
 obtain⟨Q,hQ⟩:∃Q,Q=w.heap.size:=⟨_,rfl⟩
 obtain⟨W,hW⟩:∃W,W=w.alloc (.cells #[.int .u64 0,.slice none 0 0] 59):=⟨_,rfl⟩
 have hb:Below w.heap.size w W:=by rw[hW];exact(Below.refl _ _).alloc (Nat.le_refl _) _
 have ae:W.heap[Q]?=some (.cells #[.int .u64 0,.slice none 0 0] 59 (0,0)):=by rw[hW,hQ];exact heap_alloc_last _ _
 have aa:W.heap.size=Q+1:=by rw[hW,hQ];simp
 have aA:=Lib.hid (h.below hb);have G:∀W',W'=W->Calls Tryz.prog 47 #[.pointer (some ⟨P,0,none⟩),.int .i64 (m:Int)] W' fun e w'=>e=.returned (.int .i64 0)/\Below W'.heap.size W' w':=fun W' e=>by
  have:=iz (h.below hb).pm.row (m:Int);rw[show wZ N (m:Int)=0 from if_pos (by omega)]at this;rw[e];exact this
 have I:=Lib.hid (G W rfl);have HB:=Lib.hid hb;have az:=Lib.hid ae;have al:=Lib.hid aa;have HQ:=Lib.hid hQ;have Z:=Lib.hid h;have HC:=Lib.hid hC;have HS:=Lib.hid hs;have HM:=Lib.hid hm;have HF:=Lib.hid hf;have aF:∀(fn:Fn)(first cap:Array Value)(w:World),(Instr.makeFunc fn first cap).run Tryz.prog w=.ok (.func fn first cap) w:=fun _ _ _ _=>rfl;clear h hC hs hm hf hb ae aa G;go_enter Tryz.func20,Tryz.ntmps20;go_upto_region 1 with(fail)
 rw[<-hW,<-hQ];clear hW hQ;go_wp2_with fail
 refine I.out.mono ?_;rintro e w1⟨rfl,R⟩;have f:=Lib.hid (aA.out.below R);have E:=Lib.hid R;have ag:=jZ m (s.now m) f.out HM.out (fun _=>HS.out) (f.out.pm.aQ.ok m) (fun g(hg:w1.heap.size<=g)=>⟨fun e=>by have:=fg f.out.log g e;omega,fun e=>by have:=f.out.pm.row.lt;omega,fun e=>by have:=f.out.pm.map.lt;omega⟩) (fun ax w2 ay F2 h2 aw=>oO HC.out HM.out ax h2 aw);have au:=Lib.hid ag;clear R ag I;go_wp2_with fail
 refine au.out.mono ?_;intro e w2 hA;obtain⟨i,T,J,H1,U1,V1,d1,av,s1,rfl,ai⟩:=Ee f.out HC.out HF.out hA;have aB:=Lib.hid ai;obtain⟨hi,q,t,r,a,l,M,X,D,C,A,k⟩:=ai;have hfr:=a.pm.fr i hi;have O:i<64:=by have:=a.pm.bounds;have:=a.pm.aN;omega
 have k1:=a.pm.row.fr O 1 (by decide) (v:=.int .u64 ((fa J i).bj:Int)) rfl;have k2:=a.pm.row.fr O 2 (by decide) (v:=(fa J i).u) rfl;have K:=oX (fa J i).bj (fa J i).u _ w2 hfr.body (by rw[(a.pm.aQ.ok _).2.1];decide);rw[q,r.now]at K;have x:=hfr.bj;rw[q,r.now]at x;have ar:=Lib.hid K;have ao:=Lib.hid x;have aj:¬(cY U V Q\/Q=P\/Q=mp):=fun e=>by
  have h0:=HQ.out;rcases e with e|e|e
  ·have:=fg Z.out.log Q e;omega
  ·have:=Z.out.pm.row.lt;omega
  ·have:=Z.out.pm.map.lt;omega
 have ad:w1.heap[Q]?=some (.cells #[.int .u64 0,.slice none 0 0] 59 (0,0)):=(E.out.block Q (by have:=al.out;omega)).trans az.out;have ab:=X.row ad aj;have an:=Lib.hid ab;have aC:=Lib.hid a;obtain⟨pu,cu,hu,-⟩:=hfr.body.form;have HU:=Lib.hid hu;clear hA au hi q t r a l M X D C A k hfr O K x aj ad ab;unfold fZ at*
 generalize(fa J i).bj=bj at*
 generalize(fa J i).u=bu at*
 subst hu;go_wp2_with fail
 refine ar.out.mono ?_;rintro e w3⟨u,rfl,Y,p⟩;obtain⟨pw,cw,hw,-⟩:=Y.bz.form;subst hw;have o:=(p.block Q (lt_of_block an.out)).trans an.out;have c0:=ah o 0 (v:=.int .u64 0) rfl;have c1:=ah o 1 (v:=.slice none 0 0) rfl;have f0:=aI o 0;have f1:=aI o 1;have h4:=aT (i:=1) (aT (i:=0) o (.int .u64 (bj:Int))) (.slice pw (s.now m).2.length cw);have t4:Touch (fun j=>j=Q) w3 ((w3.setCell ⟨Q,0,none⟩ (.int .u64 (bj:Int))).setCell ⟨Q,1,none⟩ (.slice pw (s.now m).2.length cw)):=(Touch.set (S:=fun j=>j=Q) Q 0 _ rfl).trans (Touch.set Q 1 _ rfl);have HE:Hid (_/\_/\_/\_):=⟨Y,p,h4,t4⟩
 clear Y p o h4 t4 ar k1 k2;go_wp2_with fail
 obtain⟨Y,p,h4,t4⟩:=HE.out;refine bodyPost_ret (wF _ _ Q _ _ _ rfl rfl h4) rfl ?_;obtain⟨hi,q,t,r,a,l,M,X,D,C,A,k⟩:=aB.out;have z:w.heap.size<=w1.heap.size:=Nat.le_trans HB.out.size E.out.size;have aD:Q<w1.heap.size:=by have:=al.out;have:=E.out.size;omega
 have ak:¬cY U1 V1 Q/\¬eQ P mp J Q:=by
  have h0:=HQ.out;refine⟨fun e=>?_,fun e=>?_⟩
  ·rcases e with e|e
   ·rcases D Q e with c|c
    ·have:=fg Z.out.log Q (Or.inl c);omega
    ·omega
   ·rcases C Q e with c|c
    ·have:=fg Z.out.log Q (Or.inr c);omega
    ·omega
  ·rcases A Q e with c|c
   ·have:=Z.out.pm.lt Q c;omega
   ·omega
 have af:=(a.below p).bQ t4 (fun j y e=>ak.1 (e▸y)) fun j y e=>ak.2 (e▸y);refine⟨.slice pw (s.now m).2.length cw,i,T,J,H1,U1,V1,d1,av,s1,by unfold fZ;rw[ao.out];rfl,?_,⟨hi,q,t,r,af,l,M,?_,fun j y=>?_,fun j y=>?_,fun j y=>?_,k⟩,fun g hg=>?_⟩
 ·exact(kx Y t4 fun j y e=>by have:=X.size;omega).from (Nat.le_trans z X.size)
 ·exact((((Touch.aE HB.out).trans (Touch.aE E.out)).trans X).trans (Touch.aE p)).grow t4 fun j e=>Or.inr (by have:=HQ.out;omega)
 ·rcases D j y with c|c
  ·exact Or.inl c
  ·exact Or.inr (Nat.le_trans z c)
 ·rcases C j y with c|c
  ·exact Or.inl c
  ·exact Or.inr (Nat.le_trans z c)
 ·rcases A j y with c|c
  ·exact Or.inl c
  ·exact Or.inr (Nat.le_trans z c)
 ·have c:=iV Y hg;refine⟨fun e=>c (fg a.log g e),fun e=>c (a.pm.lt g e)⟩
theorem cX.frame{U V:Nat->Prop}{w w':World}{B L P S b N hand mp n:Nat}{F:List Fr}{H:List (Option Nat)}{d:Dk.aq}{lg:Wl.S}{s:Po.S}(h:cX U V w B L P S b N hand mp F H n d lg s)(o:Touch (·=P) w w'){i:Nat}(t:i<s.held.length)(f:Fr)(hp:f.aA=(fa F i).aA)(hu:f.u=(fa F i).u)
 (a:Po.S) (v:a.held=s.held) (hfr:a.aC=s.aC) (x:a.ar=s.ar) (m:Po.Good a) (hf:Ah w' a f) (q:∀k,k≠f.aA->a.now k=s.now k/\a.pins k=s.pins k/\a.first k=s.first k) (hd:a.bJ=s.bJ) (p:Po.xe lg a) (c:aO w' P B S b N L s.aC hand mp (F.set i f)):cX U V w' B L P S b N hand mp (F.set i f) H n d lg a:=by
 have l:i<F.length:=by rw[h.pm.row.len];have:=h.pm.bounds;have:=h.pm.aN;omega
 refine⟨dS h.log o fun j r e=>h.off j r (e▸Or.inl rfl),h.pm.frame o (fun j _ z y=>z y) t f hp (fun g m=>h.pm.zS i g (by rw[<-hu];exact m)) a v hfr x m hf q c,h.dW,by rw[hd];exact h.hw,?_,p,h.kf,h.bG,h.n16⟩;rw[ku F l f hu];exact h.off
def Po.nW(s:Po.S)(m k:Nat):Po.S:={s with pins:=Po.cW s.pins m k}
theorem Po.zt{s:Po.S}(h:Po.Good s){m:Nat}(hm:m∈s.held)(k:Nat):Po.Good (Po.nW s m k):=by
 refine⟨h.sorted,h.qg,h.G2,fun j a=>?_,h.bo,h.clean,h.ok,h.Ga⟩;have a:0<Po.cW s.pins m k j:=a;unfold Po.cW at a;split at a
 ·next e=>rw[e];exact hm
 ·exact h.pinned j a
theorem cX.pins{U V:Nat->Prop}{w w':World}{B L P S b N hand mp n:Nat}{F:List Fr}{H:List (Option Nat)}{d:Dk.aq}{lg:Wl.S}{s:Po.S}(h:cX U V w B L P S b N hand mp F H n d lg s)(f:Touch (·=P) w w'){i m:Nat}(l:i<s.held.length)(c:(fa F i).aA=m)(hm:m∈s.held)(k:Nat)
 (a:aO w' P B S b N L s.aC hand mp (F.set i {fa F i with pins:=k})):cX U V w' B L P S b N hand mp (F.set i {fa F i with pins:=k}) H n d lg (Po.nW s m k):=by
 have hf:=(h.pm.fr i l).al f fun g p e=>(h.pm.zS i g p).1 e;refine h.frame f l {fa F i with pins:=k} rfl rfl (Po.nW s m k) rfl rfl rfl (Po.zt h.pm.aQ hm k) ⟨hf.bj,hf.body,?_,hf.first,hf.fl⟩ (fun j o=>⟨rfl,?_,rfl⟩) rfl h.im a
 ·show Po.cW s.pins m k (fa F i).aA=k;rw[c,Po.cI]
 ·refine Po.eD _ _ ?_;rw[<-c];exact o
def Il(U V:Nat->Prop)(B L P S b N mp:Nat)(F:List Fr)(n:Nat)(d:Dk.aq)(lg:Wl.S)(s:Po.S)(m:Nat)(w:World)(e:Ending)(w':World):Prop:=
 ∃a h H1 g f d1 c s1,e=.returned (.int .i64 0)/\cX g f w' B L P S b N a mp h H1 n d1 c s1/\(Wl.Calm n d->Wl.Calm n d1)/\Po.Lf lg c/\Po.Pinned s m s1/\Touch (fun j=>cY U V j\/j=P\/j=mp) w w'/\br U g w/\br V f w/\br (eQ P mp F) (eQ P mp h) w
set_option maxHeartbeats 3200000 in
set_option maxRecDepth 20000 in
theorem yN{U V:Nat->Prop}{w:World}{B L P S b N hand mp n:Nat}{F:List Fr}{H:List (Option Nat)}{d:Dk.aq}{lg:Wl.S}{s:Po.S}{m:Nat}(h:cX U V w B L P S b N hand mp F H n d lg s)(hC:Wl.Calm n d)(hs:lg.stop<=1000000000000)(hm:m<N)(hf:Po.jJ s m)(hp:s.pins m<=1000000):
 Calls Tryz.prog 23 #[.pointer (some ⟨P,0,none⟩),.int .i64 (m:Int)] w fun e w'=>Il U V B L P S b N mp F n d lg s m w e w':=by
 have o:=iz h.pm.row (m:Int);rw[show wZ N (m:Int)=0 from if_pos (by omega)]at o;have t:=Lib.hid o;have HH:=Lib.hid h;have HC:=Lib.hid hC;have HS:=Lib.hid hs;have HM:=Lib.hid hm;have HF:=Lib.hid hf;have HP:=Lib.hid hp;have ae:∀(fn:Fn)(first cap:Array Value)(w:World),(Instr.makeFunc fn first cap).run Tryz.prog w=.ok (.func fn first cap) w:=fun _ _ _ _=>rfl;clear h hC hs hm hf o hp;go_enter Tryz.func23,Tryz.ntmps23;go_wp2_with fail
 refine t.out.mono ?_;rintro e w1⟨rfl,z⟩;have c:=Lib.hid (HH.out.below z);have K:=Lib.hid z;have G:=jZ m (s.now m) c.out HM.out (fun _=>HS.out) (c.out.pm.aQ.ok m) (fun g(hg:w1.heap.size<=g)=>⟨fun e=>by have:=fg c.out.log g e;omega,fun e=>by have:=c.out.pm.row.lt;omega,fun e=>by have:=c.out.pm.map.lt;omega⟩) (fun R w2 Z F2 h2 Q=>oO HC.out HM.out R h2 Q);have J:=Lib.hid G;clear z G t;go_wp2_with fail
 refine J.out.mono ?_;intro e w2 hA;obtain⟨i,A,k,H1,U1,V1,d1,O,s1,rfl,I⟩:=Ee c.out HC.out HF.out hA;have ad:=Lib.hid I;obtain⟨M,q,l,f,a,-⟩:=I;have hfr:=a.pm.fr i M;have x:i<64:=by have:=a.pm.bounds;have:=a.pm.aN;omega
 have D:(fa k i).pins=s.pins m:=by rw[<-hfr.pins,q,f.pins]
 have k3:=a.pm.row.fr x 3 (by decide) (v:=.int .i64 ((fa k i).pins:Int)) rfl;have f3:=a.pm.row.free (5+i*7+3);have hw:=IntWalk.i64_in (((fa k i).pins:Int)+1) (by have:=HP.out;omega);have r:=a.pm.row.set x 3 (by decide) (.int .i64 (((fa k i).pins+1:Nat):Int)) {fa k i with pins:=(fa k i).pins+1} rfl;have aa:=Lib.hid r;have ab:=Lib.hid D;clear hA J M q l f a hfr x D r;go_wp2_with fail
 go_ret;obtain⟨M,q,l,f,a,y,T,ht,Y,X,W,-⟩:=ad.out;have u:=K.out.size;have E:=a.pins (w':=w2.setCell ⟨P,5+i*7+3,none⟩ (.int .i64 (((fa k i).pins+1:Nat):Int))) (Touch.set P _ _ rfl) M q l ((fa k i).pins+1) aa.out;have hX:eQ P mp (k.set i {fa k i with pins:=(fa k i).pins+1})=eQ P mp k:=ku k (by rw[a.pm.row.len];have:=a.pm.bounds;have:=a.pm.aN;omega) _ rfl;refine⟨A,k.set i {fa k i with pins:=(fa k i).pins+1},H1,U1,V1,d1,O,Po.nW s1 m ((fa k i).pins+1),rfl,E,y,T,⟨f.now,?_,f.aC,f.ar,f.first,f.bJ⟩,((Touch.aE K.out).trans ht).trans (Touch.set P _ _ (Or.inr (Or.inl rfl))),fun j C=>?_,fun j C=>?_,fun j C=>?_⟩
 ·show Po.cW s1.pins m _=_;rw[f.pins,ab.out]
 ·rcases Y j C with p|p
  ·exact Or.inl p
  ·exact Or.inr (Nat.le_trans u p)
 ·rcases X j C with p|p
  ·exact Or.inl p
  ·exact Or.inr (Nat.le_trans u p)
 ·rw[hX]at C;rcases W j C with p|p
  ·exact Or.inl p
  ·exact Or.inr (Nat.le_trans u p)
theorem vR{U V:Nat->Prop}{w:World}{B L P S b N hand mp n:Nat}{F:List Fr}{H:List (Option Nat)}{d:Dk.aq}{lg:Wl.S}{s:Po.S}{m:Nat}(h:cX U V w B L P S b N hand mp F H n d lg s)(hm:m<N):
 Calls Tryz.prog 12 #[.pointer (some ⟨P,0,none⟩),.int .i64 (m:Int)] w fun e w'=>e=.returned (.int .i64 (s.pins m:Int))/\w'=w:=by
 have l:=h.pm.n16;have j:=Lib.hid (oW h.pm.row);have hfr:=iy h.pm.row h.pm.map (m:Int) (by omega);rw[sF]at hfr;cases hm0:H.getD m none with
 |none=>
  rw[hm0]at hfr;have a:=Lib.hid hfr;have c:=Lib.hid (gU h.pm hm0).2.1;clear h hm hfr hm0;go_enter Tryz.func12,Tryz.ntmps12;go_wp2_with fail
  refine j.out.mono ?_;rintro e w1⟨rfl,rfl⟩;clear j;go_wp2_with fail
  refine a.out.mono ?_;rintro e w2⟨rfl,rfl⟩;unfold DI;dsimp only;clear a;go_wp2_with fail
  go_ret;exact⟨by rw[c.out];rfl,rfl⟩
 |some i=>
  obtain⟨k,f⟩:=h.pm.nR m i hm0;have g:i<64:=by have:=h.pm.bounds;have:=h.pm.aN;omega
  have hf:=h.pm.fr i k;have c:Hid (s.pins m=(fa F i).pins):=by show _=_;rw[<-hf.pins,f]
  have o:=h.pm.row.fr g 3 (by decide) (v:=.int .i64 ((fa F i).pins:Int)) rfl;rw[hm0]at hfr;have a:=Lib.hid hfr;clear h hm hfr hm0 k f g hf;go_enter Tryz.func12,Tryz.ntmps12;go_wp2_with fail
  refine j.out.mono ?_;rintro e w1⟨rfl,rfl⟩;clear j;go_wp2_with fail
  refine a.out.mono ?_;rintro e w2⟨rfl,rfl⟩;unfold DI;dsimp only;clear a;go_wp2_with fail
  go_ret;exact⟨by rw[c.out];rfl,rfl⟩
def Iw(U V:Nat->Prop)(B L P S b N mp:Nat)(F:List Fr)(n:Nat)(d:Dk.aq)(lg:Wl.S)(s:Po.S)(m:Nat)(w:World)(e:Ending)(w':World):Prop:=
 (∃a h H1 g f d1 c s1,e=.returned (.int .i64 0)/\cX g f w' B L P S b N a mp h H1 n d1 c s1/\(Wl.Calm n d->Wl.Calm n d1)/\Po.Lf lg c/\Po.mA s m s1/\Touch (fun j=>cY U V j\/j=P) w w'/\br U g w/\br V f w/\eQ P mp h=eQ P mp F)\/
 (¬Wl.Calm n d/\e=.returned (.int .i64 6)/\FC U V B P S b N n lg s w w')
theorem Po.qy(s:Po.S)(m:Nat):Po.mA s m (Po.dt s m):=by
 refine⟨rfl,rfl,rfl,rfl,Po.cI _ _ _,fun k a _=>Po.eD _ _ a,fun k=>?_⟩;show Po.cW s.bJ m _ k=_\/Po.cW s.bJ m _ k=_;unfold Po.cW;split
 ·next e=>exact Or.inr (by rw[e])
 ·exact Or.inl rfl
theorem br.under{U b:Nat->Prop}{w w1:World}(h:br U b w1)(hs:w.heap.size<=w1.heap.size):br U b w:=fun j c=>by
 rcases h j c with a|a
 ·exact Or.inl a
 ·exact Or.inr (Nat.le_trans hs a)
set_option maxHeartbeats 1600000 in
theorem tS{U V:Nat->Prop}{w:World}{B L P S b N hand mp n:Nat}{F:List Fr}{H:List (Option Nat)}{d:Dk.aq}{lg:Wl.S}{s:Po.S}{m:Nat}(h:cX U V w B L P S b N hand mp F H n d lg s)(hs:lg.stop<=1000000000000)(hm:m<N):
 Calls Tryz.prog 25 #[.pointer (some ⟨P,0,none⟩),.int .i64 (m:Int)] w fun e w'=>Iw U V B L P S b N mp F n d lg s m w e w':=by
 have A:=h.pm.n16;have g:=iz h.pm.row (m:Int);rw[show wZ N (m:Int)=0 from if_pos (by omega)]at g;have l:=Lib.hid g;have HH:=Lib.hid h;have HS:=Lib.hid hs;have u: -9223372036854775808<=(m:Int)/\(m:Int)<=9223372036854775807:=by omega
 have D:=Lib.hid u;have HM:=Lib.hid hm;clear h hs hm g A u;go_enter Tryz.func25,Tryz.ntmps25;go_wp2_with fail
 refine l.out.mono ?_;rintro e w1⟨rfl,q⟩;have a:=Lib.hid (HH.out.below q);have f:=Lib.hid q;have hfr:=iy a.out.pm.row a.out.pm.map (m:Int) D.out;rw[sF]at hfr;clear q l;cases hm0:H.getD m none with
 |none=>
  rw[hm0]at hfr;have j:=Lib.hid hfr;have E:=Lib.hid (gU a.out.pm hm0).2.2;clear hfr hm0;go_wp2_with fail
  refine j.out.mono ?_;rintro e w2⟨rfl,rfl⟩;unfold DI;dsimp only;clear j;go_wp2_with fail
  go_ret;exact Or.inl ⟨hand,F,H,U,V,d,lg,s,rfl,a.out,id,Or.inl rfl,⟨rfl,rfl,rfl,rfl,E.out,fun _ _ _=>rfl,fun _=>Or.inl rfl⟩,Touch.aE f.out,fun _ h=>Or.inl h,fun _ h=>Or.inl h,rfl⟩
 |some i=>
  rw[hm0]at hfr;have j:=Lib.hid hfr;have p:=a.out.pm.nR m i hm0;have x:=Lib.hid p;have r:=Lib.hid (qU a.out p.1 HS.out);clear hfr hm0 p;go_wp2_with fail
  refine j.out.mono ?_;rintro e w2⟨rfl,rfl⟩;unfold DI;dsimp only;clear j;go_wp2_with fail
  refine r.out.mono ?_;intro e w3 o;rcases tY o with⟨rfl,t⟩|⟨k,rfl,v⟩
  ·have C:=Lib.hid t;clear t o r;go_wp2_with fail
   go_ret;obtain⟨U1,Z,d1,y,G,O,M,K,J,I,-⟩:=C.out;rw[x.out.2]at G;exact Or.inl ⟨hand,F.set i {fa F i with bo:=false},H,U1,Z,d1,y,Po.dt s m,rfl,G,O,M,Po.qy s m,(Touch.aE f.out).trans K,J.under f.out.size,I.under f.out.size,ku F (by rw[a.out.pm.row.len];have:=a.out.pm.bounds;have:=a.out.pm.aN;have:=x.out.1;omega) {fa F i with bo:=false} rfl⟩
  ·have HE:Hid (_/\_):=⟨k,v⟩
   clear k v o r;go_wp2_with fail
   go_ret;obtain⟨k,U',Y,z,c,X,W,T,R,Q⟩:=HE.out;exact Or.inr ⟨k,rfl,U',Y,z,c,X,W,(Touch.aE f.out).trans T,R.under f.out.size,Q⟩
theorem wG(tmps:Array Value)(w:World)(g:Nat)(d c e:Value)(h0:tmps.getD 3 undef=.pointer (some ⟨g,0,none⟩))(i:tmps.getD 4 undef=e)
 (r0:w.heap[g]?=some (.cells #[d,c] 59 (0,0))):
 (results Tryz.f51 tmps).run Tryz.prog w=.ok (.tuple #[.agg #[d,c],e]) w:=by
 have h:Tryz.f51.results=#[.cell 3 59,.tmp 4]:=rfl;have b:tmps[3]?.getD undef=.pointer (some ⟨g,0,none⟩):=by simpa using h0
 have a:tmps[4]?.getD undef=e:=by simpa using i
 have f:=run_loadVar_row (P:=Tryz.prog) w g 59 _ _ _ _ r0 Tryz.underlying59 rfl (by kernel_rfl);simp[results,h,b,a,asAddr,f]
theorem tR{w:World}(R k:Nat)(p:Option Addr)(l c:Nat)(m:Int)(h:w.heap[R]?=some (.cells #[.int .u64 (k:Int),.slice p l c] 59 (0,0))):
 Calls Tryz.prog 51 #[.int .i64 m,.pointer (some ⟨R,0,none⟩)] w fun e w'=>e=.returned (.tuple #[fZ k (.slice p l c),.int .i64 0])/\Below w.heap.size w w':=by
 obtain⟨Q,f⟩:∃Q,Q=w.heap.size:=⟨_,rfl⟩
 obtain⟨W,g⟩:∃W,W=w.alloc (.cells #[.int .u64 0,.slice none 0 0] 59):=⟨_,rfl⟩
 have d:Below w.heap.size w W:=by rw[g];exact(Below.refl _ _).alloc (Nat.le_refl _) _
 have a:W.heap[Q]?=some (.cells #[.int .u64 0,.slice none 0 0] 59 (0,0)):=by rw[g,f];exact heap_alloc_last _ _
 have b:=(d.block R (lt_of_block h)).trans h;have r:=ah b 0 (v:=.int .u64 (k:Int)) rfl;have q:=ah b 1 (v:=.slice p l c) rfl;have c0:=ah a 0 (v:=.int .u64 0) rfl;have c1:=ah a 1 (v:=.slice none 0 0) rfl;have f0:=aI a 0;have f1:=aI a 1;have n:=aT (i:=1) (aT (i:=0) a (.int .u64 (k:Int))) (.slice p l c);have t4:Touch (fun j=>j=Q) W ((W.setCell ⟨Q,0,none⟩ (.int .u64 (k:Int))).setCell ⟨Q,1,none⟩ (.slice p l c)):=(Touch.set (S:=fun j=>j=Q) Q 0 _ rfl).trans (Touch.set Q 1 _ rfl);have o:Hid (_/\_/\_/\_/\_):=⟨d,n,t4,f,lt_of_block a⟩
 clear d n t4 a b h;go_enter Tryz.func51,Tryz.ntmps51;go_upto_region 1 with(fail)
 rw[<-g,<-f];clear g f;go_wp2_with fail
 obtain⟨d,n,t4,f,hl⟩:=o.out;refine bodyPost_ret (wG _ _ Q _ _ _ rfl rfl n) rfl ?_;exact⟨rfl,d.trans (t4.one (by omega) hl)⟩
def Po.ox(s:Po.S)(m:Nat)(x:Po.Pg)(f:Nat):Po.S:={s with now:=Po.cW s.now m x,first:=Po.cW s.first m (some f)}
theorem Po.uC{s:Po.S}(h:Po.Good s){m:Nat}(hm:m∈s.held){x:Po.Pg}(b:Po.cK x)(f:Nat):Po.Good (Po.ox s m x f):=by
 refine⟨h.sorted,h.qg,h.G2,h.pinned,fun j a=>?_,fun j a=>?_,fun j=>?_,h.Ga⟩
 ·have a:Po.cW s.first m (some f) j≠none:=a;unfold Po.cW at a;split at a
  ·next e=>rw[e];exact hm
  ·exact h.bo j a
 ·have a:Po.cW s.first m (some f) j=none:=a;show s.bJ j=Po.cW s.now m x j;unfold Po.cW at a⊢;split at a
  ·cases a
  ·next e=>rw[if_neg e];exact h.clean j a
 ·show Po.cK (Po.cW s.now m x j);unfold Po.cW;split
  ·exact b
  ·exact h.ok j
def Ik(U V:Nat->Prop)(B L P S b N mp:Nat)(F:List Fr)(n:Nat)(d:Dk.aq)(lg:Wl.S)(s:Po.S)(m:Nat)(x:Po.Pg)(w:World)(e:Ending)(w':World):Prop:=
 (∃a h H1 p o d1 g s1,e=.returned (.int .i64 0)/\cX p o w' B L P S b N a mp h H1 n d1 g s1/\(Wl.Calm n d->Wl.Calm n d1)/\Po.Lf lg g/\Po.rJ s m x s1/\Po.jJ s m/\Touch (fun j=>cY U V j\/j=P\/j=mp) w w'/\br U p w/\br V o w/\br (eQ P mp F) (eQ P mp h) w)\/
 (¬Po.jJ s m/\e=.returned (.int .i64 13)/\∃a h H1,cX U V w' B L P S b N a mp h H1 n d lg s/\eQ P mp h=eQ P mp F/\Touch (fun j=>cY U V j\/j=P\/j=mp) w w')\/
 (¬Wl.Calm n d/\e=.returned (.int .i64 6)/\∃q i f c,gB q w' B i/\Wl.aY n i/\Touch (fun j=>cY U V j\/j=P\/j=mp) w w'/\br U q w/\Po.Lf lg f/\(∀k x,c k x->(x=s.bJ k\/x=s.now k)/\x.1<f.ae)/\∀l,Wl.Hd (Dk.ay i l) f/\Rg.sZ S b N (Dk.ay i l) c)
theorem E9(f:Fr)(h:f.bo=false):f={f with bo:=false,first:=f.first}:=by
 cases f;cases h;rfl
theorem tM{U V Z Y:Nat->Prop}{w w2 X w9:World}{B L P S b N hand a mp n:Nat}{F o:List Fr}{H H1:List (Option Nat)}{d d1:Dk.aq}{lg r:Wl.S}{s s1:Po.S}{m i:Nat}{x:Po.Pg}{y:Po.Pg}{dk:Nat->Po.Pg}(h:cX U V w B L P S b N hand mp F H n d lg s)(hx:Po.cK x)(aa:x.1<lg.stop)(hm:m<N)
 (v:eh X B L P S b N a mp o H1 {s1 with now:=Po.cW s.now m y,bJ:=dk})
 (hi:i<s1.held.length) (C:(fa o i).aA=m) (E:m∈s1.held) (c:Po.qb s s1) (J:Po.Good s1) (T:ij Z Y X B L d1 r) (hw:Rg.qi S b N d1 s1.bJ) (G:Wl.aY n d1) (I:Po.Lf lg r) (t:Po.xe r s1) (D:∀j,cY Z Y j->¬eQ P mp o j)
 (ai:br U Z w2) (ah:br V Y w2) (hX:∀j,eQ P mp o j->eQ P mp F j\/w2.heap.size<=j\/w.heap.size<=j) (ad:w.heap.size<=w2.heap.size) {K:Value} (hB:aV X K x.2) (A:∀g,K.ownBlock=some g->w.heap.size<=g/\g<w2.heap.size) (ht:Touch (·=P) X w9) (f:Fr) (f1:f.aA=(fa o i).aA) (f2:f.pins=(fa o i).pins) (f3:f.bo=true) (f4:f.first<18446744073709551616) (f5:f.bj=x.1) (f6:f.u=K) (f7:f.first=(s.first m).getD x.1)
 (Q:aO w9 P B S b N L s.aC a mp (o.set i f)):
 cX Z Y w9 B L P S b N a mp (o.set i f) H1 n d1 r (Po.ox s1 m x f.first)/\Po.rJ s m x (Po.ox s1 m x f.first)/\br (eQ P mp F) (eQ P mp (o.set i f)) w:=by
 have ag:i<64:=by have q:=v.bounds.1;have l:=v.aN.2;have q:s1.held.length<=s1.aC:=q;have l:s1.aC<=64:=l;omega
 have af:i<o.length:=by rw[v.row.len];exact ag
 have aj:=v.fr i hi;have O:∀g,K.ownBlock=some g->g≠P/\g≠mp:=fun g M=>⟨fun e=>by have:=h.pm.row.lt;have:=(A g M).1;omega,fun e=>by have:=h.pm.map.lt;have:=(A g M).1;omega⟩
 have W:∀j,eQ P mp (o.set i f) j->eQ P mp o j\/K.ownBlock=some j:=by
  rintro j(e|e|⟨k,z⟩)
  ·exact Or.inl (Or.inl e)
  ·exact Or.inl (Or.inr (Or.inl e))
  ·rw[cr o af]at z;split at z
   ·exact Or.inr (by rw[<-f6];exact z)
   ·exact Or.inl (Or.inr (Or.inr ⟨k,z⟩))
 have R:eh w9 B L P S b N a mp (o.set i f) H1 (Po.ox s1 m x f.first):=by
  refine v.frame ht (fun j _ q l=>q l) hi f f1 (fun g M=>O g (by rw[<-f6];exact M)) (Po.ox s1 m x f.first) rfl rfl rfl (Po.uC J E hx f.first) ⟨?_,?_,?_,?_,f4⟩ (fun k z=>?_) (by show aO w9 P B S b N L s1.aC a mp _;rw[c.aC];exact Q)
  ·rw[f1,C,f5];show x.1=(Po.cW s1.now m x m).1;rw[Po.cI]
  ·rw[f1,C,f6];show aV w9 K (Po.cW s1.now m x m).2;rw[Po.cI];exact ht.bz hB fun _ g M e=>(O g M).1 e
  ·rw[f1,f2];exact aj.pins
  ·rw[f1,C,f3,if_pos rfl];show Po.cW s1.first m (some f.first) m=_;rw[Po.cI]
  ·rw[f1,C]at z;refine⟨?_,rfl,Po.eD _ _ z⟩;show Po.cW s1.now m x k=Po.cW s.now m y k;rw[Po.eD _ _ z,Po.eD _ _ z,c.now]
 refine⟨⟨dS T ht fun j p e=>D j p (e▸Or.inl rfl),R,h.dW,hw,fun j p ab=>?_,fun k=>⟨(t k).1,?_⟩,fun j p=>?_,G,h.n16⟩,⟨?_,c.pins,c.aC,c.ar,⟨E,?_⟩,fun k z ae=>?_,c.bJ⟩,fun j p=>?_⟩
 ·rcases W j ab with q|q
  ·exact D j p q
  ·obtain⟨a1,a2⟩:=A j q;rcases p with p|p
   ·rcases ai j p with l|l
    ·have:=fg h.log j (Or.inl l);omega
    ·omega
   ·rcases ah j p with l|l
    ·have:=fg h.log j (Or.inr l);omega
    ·omega
 ·show(Po.cW s1.now m x k).1<r.stop;unfold Po.cW;split
  ·rw[I.stop];exact aa
  ·exact(t k).2
 ·rw[I.at_,I.count];exact h.kf j p
 ·show Po.cW s1.now m x=_;rw[c.now]
 ·show Po.cW s1.first m (some f.first) m=_;rw[Po.cI,f7]
 ·show Po.cW s1.first m (some f.first) k=_;rw[Po.eD _ _ z];exact c.first k ae
 ·rcases W j p with q|q
  ·rcases hX j q with l|l|l
   ·exact Or.inl l
   ·exact Or.inr (Nat.le_trans ad l)
   ·exact Or.inr l
  ·exact Or.inr (A j q).1
structure CG(P B S b N L aN hand mp:Nat)(F:List Fr)(i k Q R:Nat)(qv rv:Array Value)(W:World)(D:Nat->Bool)(w:World):Prop where
 row:aO w P B S b N L aN hand mp (F.set i {fa F i with bo:=D 6,first:=if D 9 then k else(fa F i).first})
 q:w.heap[Q]?=some (.cells qv 59 (0,0))
 r:w.heap[R]?=some (.cells rv 59 (0,0))
 al:Touch (·=P) W w
def D6(P i k Q:Nat)(j:Nat)(v:Value)(_:World):Prop:=
 match j with
 |0=>v=.pointer (some ⟨P,5+i*7,none⟩)
 |1=>v=.pointer (some ⟨P,5+i*7,none⟩)
 |2=>v=.pointer (some ⟨Q,0,none⟩)
 |3=>v=.int .u64 (k:Int)
 |4=>v=.pointer (some ⟨P,5+i*7,none⟩)
 |5=>v=.pointer (some ⟨P,5+i*7+4,none⟩)
 |7=>v=.pointer (some ⟨P,5+i*7,none⟩)
 |8=>v=.pointer (some ⟨P,5+i*7+5,none⟩)
 |_=>True
section
variable{P B S b N L aN hand mp:Nat}{F:List Fr}{i k Q R:Nat}{qv rv:Array Value}{W:World}{D:Nat->Bool}{w:World}
theorem CG.quiet(h:CG P B S b N L aN hand mp F i k Q R qv rv W D w)(j:Nat)(c:6≠j)(a:9≠j):CG P B S b N L aN hand mp F i k Q R qv rv W (Ord.bP D j) w:=
 ⟨by rw[bg D c,bg D a];exact h.row,h.q,h.r,h.al⟩
theorem CG.G3(h:CG P B S b N L aN hand mp F i k Q R qv rv W D w)(e:F.length=64)(c:i<64)(d:Q≠P)(hR:R≠P):CG P B S b N L aN hand mp F i k Q R qv rv W (Ord.bP D 6) (w.setCell ⟨P,5+i*7+4,none⟩ (.bool true)):=by
 have a:Touch (·=P) w (w.setCell ⟨P,5+i*7+4,none⟩ (.bool true)):=Touch.set P _ _ rfl;refine⟨?_,a.row h.q d,a.row h.r hR,h.al.trans a⟩;rw[bg D (show 9≠6 by decide),show Ord.bP D 6 6=true from if_pos rfl];exact aO.again e c h.row 4 (by decide) (.bool true) _ rfl
theorem CG.Hz(h:CG P B S b N L aN hand mp F i k Q R qv rv W D w)(e:F.length=64)(c:i<64)(d:Q≠P)(hR:R≠P):CG P B S b N L aN hand mp F i k Q R qv rv W (Ord.bP D 9) (w.setCell ⟨P,5+i*7+5,none⟩ (.int .u64 (k:Int))):=by
 have a:Touch (·=P) w (w.setCell ⟨P,5+i*7+5,none⟩ (.int .u64 (k:Int))):=Touch.set P _ _ rfl;refine⟨?_,a.row h.q d,a.row h.r hR,h.al.trans a⟩;rw[bg D (show 6≠9 by decide),show Ord.bP D 9 9=true from if_pos rfl];exact aO.again e c h.row 5 (by decide) (.int .u64 (k:Int)) _ rfl
end
set_option maxHeartbeats 6400000 in
set_option maxRecDepth 20000 in
theorem vQ{U V:Nat->Prop}{w:World}{B L P S b N hand mp n:Nat}{F:List Fr}{H:List (Option Nat)}{d:Dk.aq}{lg:Wl.S}{s:Po.S}{m:Nat}(h:cX U V w B L P S b N hand mp F H n d lg s)(hs:Po.jJ s m->lg.stop<=1000000000000)(hm:m<N)(x:Po.Pg)(u:Value)(hx:Po.cK x)(hB:aV w u x.2)(a8:Po.jJ s m->x.1<lg.stop):
 Calls Tryz.prog 21 #[.pointer (some ⟨P,0,none⟩),.int .i64 (m:Int),fZ x.1 u] w fun e w'=>Ik U V B L P S b N mp F n d lg s m x w e w':=by
 obtain⟨p,cap,hu,-,-,-⟩:=hB.form;obtain⟨Q,hQ⟩:∃Q,Q=w.heap.size:=⟨_,rfl⟩
 obtain⟨W,hW⟩:∃W,W=w.alloc (.cells #[.int .u64 (x.1:Int),u] 59):=⟨_,rfl⟩
 have hb:Below w.heap.size w W:=by rw[hW];exact(Below.refl _ _).alloc (Nat.le_refl _) _
 have bd:W.heap[Q]?=some (.cells #[.int .u64 (x.1:Int),u] 59 (0,0)):=by rw[hW,hQ];exact heap_alloc_last _ _
 have av:=iz (h.below hb).pm.row (m:Int);rw[show wZ N (m:Int)=0 from if_pos (by omega)]at av;have aU:=Lib.hid av;have bF:=Lib.hid (h.below hb);have bu:=Lib.hid (hB.below hb);have HB:=Lib.hid hb;have aA:=Lib.hid bd;have HQ:=Lib.hid hQ;have HH:=Lib.hid h;have HS:=Lib.hid hs;have HM:=Lib.hid hm;have HX:=Lib.hid hx;have bl:=Lib.hid a8;have aR:=hx.2.1;have bH:∀(fn:Fn)(first cap:Array Value)(w:World),(Instr.makeFunc fn first cap).run Tryz.prog w=.ok (.func fn first cap) w:=fun _ _ _ _=>rfl;clear h hs hm hx hB a8 hb bd av;subst hu;unfold fZ;rw[aR]at aA bu hW⊢;go_enter Tryz.func21,Tryz.ntmps21;go_upto_region 1 with(fail)
 rw[<-hW,<-hQ];clear hW hQ aR;go_wp2_with fail
 refine aU.out.mono ?_;rintro e w1⟨rfl,aJ⟩;have K:=(aJ.block Q (lt_of_block aA.out)).trans aA.out;have p0:=ah K 0 (v:=.int .u64 (x.1:Int)) rfl;have p1:=ah K 1 (v:=.slice p 500 cap) rfl;have bs:=Lib.hid (oX x.1 (.slice p 500 cap) x.2 w1 (bu.out.below aJ) (by rw[HX.out.2.1];decide));have aD:=Lib.hid aJ;have br:=Lib.hid K;clear aJ K aU;unfold fZ at*
 go_wp2_with fail
 refine bs.out.mono ?_;rintro e w2⟨u2,rfl,hO,au⟩;obtain⟨J,c2,ba,-⟩:=hO.bz.form;rw[HX.out.2.1]at ba;subst ba;obtain⟨R,hR⟩:∃R,R=w2.heap.size:=⟨_,rfl⟩
 obtain⟨W2,aK⟩:∃W2,W2=w2.alloc (.cells #[.int .u64 (x.1:Int),.slice J 500 c2] 59):=⟨_,rfl⟩
 have aY:Below w2.heap.size w2 W2:=by rw[aK];exact(Below.refl _ _).alloc (Nat.le_refl _) _
 have bc:W2.heap[R]?=some (.cells #[.int .u64 (x.1:Int),.slice J 500 c2] 59 (0,0)):=by rw[aK,hR];exact heap_alloc_last _ _
 have aI:Below W.heap.size W W2:=(aD.out.trans (au.mono aD.out.size)).trans (aY.mono (Nat.le_trans aD.out.size au.size));have bt:=Lib.hid (bF.out.below aI);have bp:=Lib.hid bc;have bE:Hid (W2.heap[Q]?=some (.cells #[.int .u64 (x.1:Int),.slice p 500 cap] 59 (0,0))):=(aI.block Q (lt_of_block aA.out)).trans aA.out;have I:Hid (Below w.heap.size w W2):=HB.out.trans (aI.mono HB.out.size);have a6:=Lib.hid (hO.below aY);have aL:Hid (w.heap.size<=R/\w.heap.size<=w1.heap.size/\Q<R):=⟨by rw[hR];exact Nat.le_trans (Nat.le_trans HB.out.size aD.out.size) au.size,Nat.le_trans HB.out.size aD.out.size,by rw[hR];have:=lt_of_block br.out;have:=au.size;omega⟩
 have aX:∀g,w.heap.size<=g->¬cY U V g/\g≠P/\g≠mp:=fun g A=>⟨fun e=>by have:=fg HH.out.log g e;omega,fun e=>by have:=HH.out.pm.row.lt;omega,fun e=>by have:=HH.out.pm.map.lt;omega⟩
 have aP:=Lib.hid aX;have aS:∀g,(Value.slice J 500 c2).ownBlock=some g->w.heap.size<=g:=fun g A=>Nat.le_trans aL.out.2.1 (Nat.le_of_not_lt fun bA=>iV hO A bA);have aw:=Lib.hid aS;have bf:=qw m x R bt.out HM.out HS.out HX.out (Fb:=fun g=>w.heap.size<=g) aX (fun bG w3 bB F3 h3 bb=>by
  have bx:=bb.row bp.out (fun e=>by have:=HH.out.pm.row.lt;have:=aL.out.1;omega);refine(tR R x.1 J 500 c2 (m:Int) bx).mono ?_;rintro e w4⟨rfl,bg⟩;rw[HX.out.2.1];refine⟨J,c2,rfl,(bb.bz a6.out.bz fun _ g A e=>?_).below bg,aw.out,bg⟩;exact(aP.out g (aw.out g A)).2.1 e)
 have aQ:=Lib.hid bf;go_upto_region 7 with(fail)
 rw[<-aK,<-hR];clear hO au aY bc aI aK hR aX aS bf bs p0 p1 br;go_wp2_with fail
 refine aQ.out.mono ?_;intro e w4 Y;rcases Y with⟨i,f,j,H1,U1,V1,d1,a7,s1,dk,rfl,hi,ae,z,M,ar,t,X,ao,-,hw,o,y,af,l,T,ht,ai,ag,hX,-⟩|⟨aF,rfl,f,j,aH,hX,ht⟩|⟨aG,rfl,U',d',bw,c,e1,e2,e3,e4,e5⟩
 case inr.inl=>
  have HE:Hid (_/\_/\_/\_):=⟨aF,aH,hX,ht⟩
  clear aF aH hX ht aQ;go_wp2_with fail
  go_ret;obtain⟨aF,aH,hX,ht⟩:=HE.out;exact Or.inr (Or.inl ⟨aF,rfl,f,j,H,aH,hX,(Touch.aE I.out).trans ht⟩)
 case inr.inr=>
  have HE:Hid (_/\_/\_/\_/\_/\_):=⟨aG,e1,e2,e3,e4,e5⟩
  clear aG e1 e2 e3 e4 e5 aQ;go_wp2_with fail
  go_ret;obtain⟨aG,e1,e2,e3,e4,e5⟩:=HE.out;exact Or.inr (Or.inr ⟨aG,rfl,U',d',bw,c,e1,e2,(Touch.aE I.out).trans e3,e4.under I.out.size,e5⟩)
 have aW:i<64:=by have h1:=ao.bounds;have h2:=ao.aN;have hi:i<({s1 with now:=Po.cW s.now m (Lr.ru (m∈s.held) (s.now m) x),bJ:=dk}:Po.S).held.length:=hi;omega
 have a:Hid (i<64):=aW;have C:=Lib.hid ao;have Z:=Lib.hid ar;have HE:Hid (_/\_/\_/\_/\_/\_/\_/\_/\_/\_/\_/\_/\_/\_/\_/\_):=⟨hi,ae,z,M,t,X,hw,o,y,af,l,T,ht,ai,ag,hX⟩
 have k4:=ao.row.fr aW 4 (by decide) (v:=.bool (fa j i).bo) rfl;have bh:¬(cY U V R\/R=P\/R=mp):=fun e=>by
  obtain⟨a1,a2,a3⟩:=aP.out R aL.out.1;rcases e with e|e|e
  ·exact a1 e
  ·exact a2 e
  ·exact a3 e
 have bk:¬(cY U V Q\/Q=P\/Q=mp):=fun e=>by
  obtain⟨a1,a2,a3⟩:=aP.out Q (by rw[HQ.out];exact Nat.le_refl _);rcases e with e|e|e
  ·exact a1 e
  ·exact a2 e
  ·exact a3 e
 have ax:Hid (w4.heap[R]?=some (.cells #[.int .u64 (x.1:Int),.slice J 500 c2] 59 (0,0))):=ht.row bp.out bh;have bq:Hid (w4.heap[Q]?=some (.cells #[.int .u64 (x.1:Int),.slice p 500 cap] 59 (0,0))):=ht.row bE.out bk;have bn:Hid (aV w4 (.slice J 500 c2) x.2):=ht.bz a6.out.bz fun _ g A e=>by
  obtain⟨a1,a2,a3⟩:=aP.out g (aw.out g A);rcases e with e|e|e
  ·exact a1 e
  ·exact a2 e
  ·exact a3 e
 clear aW hi ae z M ar t X ao hw o y af l T ht ai ag hX bh bk aQ;have aM:Hid (Q≠P/\R≠P):=⟨fun e=>by have:=HQ.out;have:=HH.out.pm.row.lt;omega,fun e=>by have:=aL.out.1;have:=HH.out.pm.row.lt;omega⟩
 have ad:Hid (j.length=64):=C.out.row.len;have bm:Hid (∀g,(Value.slice J 500 c2).ownBlock=some g->g<W2.heap.size):=a6.out.bz.ju (by rw[HX.out.2.1];decide);cases hdt:(fa j i).bo with
 |true=>
  rw[hdt]at k4;have aB:=Lib.hid hdt;have k1:=C.out.row.fr a.out 1 (by decide) (v:=.int .u64 ((fa j i).bj:Int)) rfl;have k2:=C.out.row.fr a.out 2 (by decide) (v:=(fa j i).u) rfl;have f1:=C.out.row.free (5+i*7+1);have f2:=C.out.row.free (5+i*7+2);have p0:=ah ax.out 0 (v:=.int .u64 (x.1:Int)) rfl;have p1:=ah ax.out 1 (v:=.slice J 500 c2) rfl;have K:=C.out.row.set a.out 1 (by decide) (.int .u64 (x.1:Int)) {fa j i with bj:=x.1} rfl;have an:=aO.again ad.out a.out K 2 (by decide) (.slice J 500 c2) {fa j i with bj:=x.1,u:=.slice J 500 c2} rfl;have aZ:=Lib.hid an;clear hdt K an;go_wp2_with fail
  go_ret;obtain⟨hi,ae,z,M,t,X,hw,o,y,af,l,T,ht,ai,ag,hX⟩:=HE.out;have aj:Touch (·=P) w4 ((w4.setCell ⟨P,5+i*7+1,none⟩ (.int .u64 (x.1:Int))).setCell ⟨P,5+i*7+2,none⟩ (.slice J 500 c2)):=(Touch.set (S:=(·=P)) P _ _ rfl).trans (Touch.set P _ _ rfl);have O:=(C.out.fr i hi).first
  rw[ae,aB.out,if_pos rfl]at O;have E:=tM HH.out HX.out (bl.out Z.out) HM.out C.out hi ae z M t X hw o af l T ai ag hX I.out.size bn.out (fun g A=>⟨aw.out g A,bm.out g A⟩) aj {fa j i with bj:=x.1,u:=.slice J 500 c2} rfl rfl aB.out (C.out.fr i hi).fl rfl rfl (by
   have h1:=M.first m z;have O:s1.first m=_:=O;rw[h1]at O;rw[O];rfl) (by have h9:=aZ.out;rw[show({s1 with now:=Po.cW s.now m (Lr.ru (m∈s.held) (s.now m) x),bJ:=dk}:Po.S).aC=s.aC from M.aC]at h9;exact h9)
  exact Or.inl ⟨f,j.set i {fa j i with bj:=x.1,u:=.slice J 500 c2},H1,U1,V1,d1,a7,_,rfl,E.1,y,af,E.2.1,Z.out,((Touch.aE I.out).trans ht).trans (aj.mono fun _ _ e=>Or.inr (Or.inl e)),ai.under I.out.size,ag.under I.out.size,E.2.2⟩
 |false=>
  rw[hdt]at k4;have aB:=Lib.hid hdt;have bD:Hid (CG P B S b N L s1.aC f mp j i x.1 Q R #[.int .u64 (x.1:Int),.slice p 500 cap] #[.int .u64 (x.1:Int),.slice J 500 c2] w4 (fun _=>false) w4.drew):=by
   refine⟨?_,bq.out,ax.out,(Touch.refl _ _).drew⟩;exact Eq.mpr (congrArg (fun G=>aO w4.drew P B S b N L s1.aC f mp G) (xQ (by rw[ad.out];exact a.out) _ (E9 _ aB.out))) (C.out.row.below (Below.refl _ _).kH)
  clear hdt;go_upto_region 11 with(fail)
  clear k4;refine Ord.walk (D6 P i x.1 Q) (fun D _ w'=>CG P B S b N L s1.aC f mp j i x.1 Q R #[.int .u64 (x.1:Int),.slice p 500 cap] #[.int .u64 (x.1:Int),.slice J 500 c2] w4 D w') (fun _ _=>True) (by kernel_rfl) (by kernel_rfl) ?fr ?hfr ?hT (fun xs=>bD.out) ?he ?hend;case hfr=>
   intro xs;simp only[Ord.fill,Act.put,List.setIfInBounds_toArray,List.set_cons_zero,List.set_cons_succ];rfl
  case hT=>
   intro k v wa wb ht hF;exact hF
  case he=>
   iterate 10 (refine Ord.aa (fun D xs w2 hD hC hP hR Y K' hK=>?_) ?_;rotate_left)
   rotate_left
   ·clear Y;go_simp;exact hK _ _ ⟨_,rfl,trivial,hR.quiet 0 (by decide) (by decide),rfl⟩
   ·clear Y;go_simp;exact hK _ _ ⟨_,rfl,trivial,hR.quiet 1 (by decide) (by decide),rfl⟩
   ·clear Y;go_simp;exact hK _ _ ⟨_,rfl,trivial,hR.quiet 2 (by decide) (by decide),rfl⟩
   ·have q2:=Ord.ab _ Y 2 (by decide);simp only[D6]at q2;simp only[q2]at hK⊢;clear Y;have k0:=ah hR.q 0 (v:=.int .u64 (x.1:Int)) rfl;go_simp;exact hK _ _ ⟨_,rfl,trivial,hR.quiet 3 (by decide) (by decide),rfl⟩
   ·have q0:=Ord.ab _ Y 0 (by decide);simp only[D6]at q0;simp only[q0]at hK⊢;clear Y;go_simp;exact hK _ _ ⟨_,rfl,trivial,hR.quiet 4 (by decide) (by decide),rfl⟩
   ·have q4:=Ord.ab _ Y 4 (by decide);simp only[D6]at q4;simp only[q4]at hK⊢;clear Y;go_simp;exact hK _ _ ⟨_,rfl,trivial,hR.quiet 5 (by decide) (by decide),rfl⟩
   ·have q5:=Ord.ab _ Y 5 (by decide);simp only[D6]at q5;simp only[q5]at hK⊢;clear Y;have A:=cr j (i:=i) (by rw[ad.out];exact a.out) {fa j i with bo:=D 6,first:=if D 9 then x.1 else(fa j i).first} i;rw[if_pos rfl]at A;have k4:=hR.row.fr a.out 4 (by decide) (v:=.bool (D 6)) (by rw[A];rfl);have f4:=hR.row.free (5+i*7+4);have hq:=hR.G3 ad.out a.out aM.out.1 aM.out.2;clear A;go_simp;exact hK _ _ ⟨undef,rfl,trivial,hq,trivial⟩
   ·have q1:=Ord.ab _ Y 1 (by decide);simp only[D6]at q1;simp only[q1]at hK⊢;clear Y;go_simp;exact hK _ _ ⟨_,rfl,trivial,hR.quiet 7 (by decide) (by decide),rfl⟩
   ·have q7:=Ord.ab _ Y 7 (by decide);simp only[D6]at q7;simp only[q7]at hK⊢;clear Y;go_simp;exact hK _ _ ⟨_,rfl,trivial,hR.quiet 8 (by decide) (by decide),rfl⟩
   ·have q8:=Ord.ab _ Y 8 (by decide);simp only[D6]at q8;have q3:=Ord.ab _ Y 3 (by decide);simp only[D6]at q3;simp only[q8,q3]at hK⊢;clear Y;have A:=cr j (i:=i) (by rw[ad.out];exact a.out) {fa j i with bo:=D 6,first:=if D 9 then x.1 else(fa j i).first} i;rw[if_pos rfl]at A;have k5:=hR.row.fr a.out 5 (by decide) (v:=.int .u64 ((if D 9 then x.1 else(fa j i).first:Nat):Int)) (by rw[A];rfl);have f5:=hR.row.free (5+i*7+5);have hq:=hR.Hz ad.out a.out aM.out.1 aM.out.2;clear A;go_simp;exact hK _ _ ⟨undef,rfl,trivial,hq,trivial⟩
   exact Ord.az
  case hend=>
   intro D xs w8 hR hF;have d6:=(hF 6 (by decide)).1;have d9:=(hF 9 (by decide)).1;have ak:=hR.row;rw[d6,d9,if_pos rfl]at ak;have ay:=Lib.hid ak;have aT:=Lib.hid hR.r;have bC:=Lib.hid hR.al;generalize xs 0=y0;generalize xs 1=y1;generalize xs 2=y2;generalize xs 3=y3;generalize xs 4=y4;generalize xs 5=y5;generalize xs 7=y7;generalize xs 8=y8;have A:=cr j (i:=i) (by rw[ad.out];exact a.out) {fa j i with bo:=true,first:=x.1} i;rw[if_pos rfl]at A;have k1:=ay.out.fr a.out 1 (by decide) (v:=.int .u64 ((fa j i).bj:Int)) (by rw[A];rfl);have k2:=ay.out.fr a.out 2 (by decide) (v:=(fa j i).u) (by rw[A];rfl);have f1:=ay.out.free (5+i*7+1);have f2:=ay.out.free (5+i*7+2);have p0:=ah aT.out 0 (v:=.int .u64 (x.1:Int)) rfl;have p1:=ah aT.out 1 (v:=.slice J 500 c2) rfl;have K:=aO.again ad.out a.out ay.out 1 (by decide) (.int .u64 (x.1:Int)) {fa j i with bo:=true,first:=x.1,bj:=x.1} rfl;have an:=aO.again ad.out a.out K 2 (by decide) (.slice J 500 c2) {fa j i with bo:=true,first:=x.1,bj:=x.1,u:=.slice J 500 c2} rfl;have aZ:=Lib.hid an;clear hF hR d6 d9 ak A K an;go_wp2_with fail
   go_ret;obtain⟨hi,ae,z,M,t,X,hw,o,y,af,l,T,ht,ai,ag,hX⟩:=HE.out;have aj:Touch (·=P) w4 ((w8.setCell ⟨P,5+i*7+1,none⟩ (.int .u64 (x.1:Int))).setCell ⟨P,5+i*7+2,none⟩ (.slice J 500 c2)):=(bC.out.trans (Touch.set (S:=(·=P)) P _ _ rfl)).trans (Touch.set P _ _ rfl);have O:=(C.out.fr i hi).first
   rw[ae,aB.out]at O;have O:s1.first m=none:=O;have E:=tM HH.out HX.out (bl.out Z.out) HM.out C.out hi ae z M t X hw o af l T ai ag hX I.out.size bn.out (fun g A=>⟨aw.out g A,bm.out g A⟩) aj {fa j i with bo:=true,first:=x.1,bj:=x.1,u:=.slice J 500 c2} rfl rfl rfl HX.out.1 rfl rfl (by
    have h1:=M.first m z;rw[O]at h1;rw[<-h1];rfl) (by have h9:=aZ.out;rw[M.aC]at h9;exact h9)
   exact Or.inl ⟨f,j.set i {fa j i with bo:=true,first:=x.1,bj:=x.1,u:=.slice J 500 c2},H1,U1,V1,d1,a7,_,rfl,E.1,y,af,E.2.1,Z.out,((Touch.aE I.out).trans ht).trans (aj.mono fun _ _ e=>Or.inr (Or.inl e)),ai.under I.out.size,ag.under I.out.size,E.2.2⟩
theorem Dj(B S b N L fr mp:Nat):((((((Tryz.zeroCells100.setIfInBounds 0 (Value.pointer (some ⟨B,0,none⟩))).setIfInBounds 1 (Value.int .i64 (S:Int))).setIfInBounds 2 (Value.int .i64 (b:Int))).setIfInBounds 3 (Value.int .i64 (N:Int))).setIfInBounds 4 (Value.pointer (some ⟨L,0,none⟩))).setIfInBounds 453 (Value.int .i64 (fr:Int))).setIfInBounds 455 (Value.map (some mp))=(Am B S b N L fr 0 mp (List.replicate 64 Fr.zero)).toArray:=by kernel_rfl
def Io(B S b N L fr:Nat)(w:World)(e:Ending)(w':World):Prop:=
 ∃P mp,e=.returned (.tuple #[.pointer (some ⟨P,0,none⟩),.int .i64 0])/\aO w' P B S b N L fr 0 mp (List.replicate 64 Fr.zero)/\dJ w' mp (List.replicate N none)/\w.heap.size<=P/\w.heap.size<=mp/\P≠mp/\Below w.heap.size w w'
set_option maxHeartbeats 1600000 in
theorem vS{w:World}{B L T R n S b N a c:Nat}{d:Dk.aq}{k:Wl.Kn}{pl P:Value}{dn:Bool}(K:bh w B T R d)(M:Wl.aY n d)(hf:(kO S b N).Fits n)(I:n<=65536)(hl:aH w L k B a c pl P dn)(V:k.start≠0)(fr:Nat)(hfr:1<=fr/\fr<=64):
 Calls Tryz.prog 18 #[.pointer (some ⟨B,0,none⟩),.pointer (some ⟨L,0,none⟩),xo (kO S b N),.int .i64 (fr:Int)] w fun e w'=>Io B S b N L fr w e w':=by
 have A:=kJ.1 hf;obtain⟨W,J,s,r⟩:=uj (kO S b N) w;have hs:=A.spare;have F:=A.base;have m:=Lib.hid (ti (hl.below r));have U:= @run_makeMap Tryz.prog;have H:¬(k.start:Int)=0:=by omega
 have G:((k.start:Int)==0)=false:=by simp;omega
 have p:=Lib.hid (rq (K.below r) M.sz (by omega) I (kO S b N) ⟨⟨by unfold kO;dsimp only;omega,by unfold kO;dsimp only;omega⟩,⟨by unfold kO;dsimp only;omega,by unfold kO;dsimp only;omega⟩,⟨by unfold kO;dsimp only;omega,by unfold kO;dsimp only;omega⟩⟩);have a0:=ah s 0 (v:=.int .i64 (S:Int)) rfl;have Y:=ah s 1 (v:=.int .i64 (b:Int)) rfl;have X:=ah s 2 (v:=.int .i64 (N:Int)) rfl;have HF:=Lib.hid hf;have t:=Lib.hid r;have Z:=Lib.hid hfr;have o:Hid (N<=65536):=by show _<=_;omega
 have e1:¬(fr:Int)<1:=by omega
 have e2:¬(64:Int)<(fr:Int):=by omega
 clear K M hf I hl V hfr A s r hs F;unfold xo;go_enter Tryz.func18,Tryz.ntmps18;go_upto_region 1 with(fail)
 rw[<-J];clear J;go_wp2_with fail
 refine m.out.mono ?_;rintro e w0⟨rfl,rfl⟩;clear m;go_wp2_with fail
 refine p.out.mono ?_;rintro e w1⟨l,he,-⟩;have he:=he HF.out;subst he;have h:=Lib.hid l;obtain⟨W2,g⟩:∃W2,W2=w1.alloc (.cells #[.pointer (some ⟨B,0,none⟩),.int .i64 (S:Int),.int .i64 (b:Int),.int .i64 (N:Int)] 95):=⟨_,rfl⟩
 have j:Below w1.heap.size w1 W2:=by rw[g];exact(Below.refl _ _).alloc (Nat.le_refl _) _
 have f:fU W2 w1.heap.size B S b N:=by rw[g];exact heap_alloc_last _ _
 have x:=f.c0;have E:=f.c1;have D:=f.c2;have C:=f.c3;obtain⟨Q,z⟩:∃Q,Q=w1.heap.size:=⟨_,rfl⟩
 rw[<-z]at x E D C;have q:=Lib.hid j;clear l j f p a0 Y X;unfold GS kO;dsimp only;go_upto_region 4 with(fail)
 rw[<-g,<-z];clear g z;go_upto_region 8 with(fail)
 go_wp2_with fail
 go_ret2
 have hz:=Dj B S b N L fr W2.heap.size;have i:w.heap.size<=W2.heap.size:=Nat.le_trans (Nat.le_trans t.out.size h.out.size) q.out.size;have hm:=DD W2 o.out;have y:Below W2.heap.size W2 (W2.alloc (.map #[] 0)):=(Below.refl _ _).alloc (Nat.le_refl _) _;have u:(W2.alloc (.map #[] 0)).heap.size=W2.heap.size+1:=by simp
 refine⟨W2.heap.size+1,W2.heap.size,rfl,⟨List.length_replicate,?_⟩,?_,by omega,i,by omega,?_⟩
 ·rw[<-hz];have O:=heap_alloc_last (W2.alloc (.map #[] 0)) (.cells (((((((Tryz.zeroCells100.setIfInBounds 0 (Value.pointer (some ⟨B,0,none⟩))).setIfInBounds 1 (Value.int .i64 (S:Int))).setIfInBounds 2 (Value.int .i64 (b:Int))).setIfInBounds 3 (Value.int .i64 (N:Int))).setIfInBounds 4 (Value.pointer (some ⟨L,0,none⟩))).setIfInBounds 453 (Value.int .i64 (fr:Int))).setIfInBounds 455 (Value.map (some W2.heap.size))) 100);rw[u]at O;exact O
 ·exact hm.below ((Below.refl _ _).alloc (Nat.le_refl _) _)
 ·exact((((t.out.trans (h.out.mono t.out.size)).trans (q.out.mono (Nat.le_trans t.out.size h.out.size))).trans (y.mono i)).alloc (by omega) _)
end Go.Proofs.YtbpodmallknhfaaGreat
