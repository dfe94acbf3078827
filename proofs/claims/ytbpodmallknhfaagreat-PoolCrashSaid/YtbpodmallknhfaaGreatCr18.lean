/- Parts of a proof. Conditions: as each row says. -/
import Derived.Test.YtbpodmallknhfaaGreatCr13
import Derived.Test.YtbpodmallknhfaaGreatCr17
import Derived.Test.YtbpodmallknhfaaGreatCr12
import Derived.Test.YtbpodmallknhfaaGreatCr10
import Derived.Test.YtbpodmallknhfaaGreatCr16
namespace Go.Proofs.YtbpodmallknhfaaGreat
open Go.RowKit
set_option maxHeartbeats 3200000 in
set_option maxRecDepth 20000 in
theorem lQ(x:Lr.R)(o n u c d:Value)(w:World)(h:bA w x o n u c d)(hf:Lr.xm x):
 Calls Tryz.prog 56 #[cz x o n u c d] w fun e w'=>∃v,e=.returned (.tuple #[v,.int .i64 ((Lr.ru (Lr.oe x) 0 2:Nat):Int)])/\Own w.heap.size w' v (Lr.ru (Lr.oe x) (Lr.form x) [])/\Below w.heap.size w w':=by
 obtain⟨W,O⟩:∃W,W=w.alloc (aD x o n u c d):=⟨_,rfl⟩
 have hb:=aj w (aD x o n u c d);have hr:=dj w x o n u c d;rw[<-O]at hb hr;have HB:=Lib.hid hb;have HA:=Lib.hid (h.below hb);have HS:Hid (w.heap.size<W.heap.size):=lt_of_block hr;obtain⟨p1,c1,p2,c2,p3,c3,p4,c4,p5,c5,rfl,rfl,rfl,rfl,rfl⟩:=ax h;have g:=Lib.hid hr;have HF:=Lib.hid hf;clear h hb hr hf;unfold aD at O;by_cases p:Lr.oe x
 ·rw[Lr.ed p,Lr.ed p];go_enter Tryz.func56,Tryz.ntmps56;go_upto_region 1 with(fail)
  rw[<-O];clear O;go_step;refine aU rfl (.tmp 1) rfl w.heap.size rfl _ g.out rfl ?_;go_wp2_with fail
  refine(xE x _ _ _ _ _ W HA.out HF.out).mono ?_;rintro e w1⟨rfl,b⟩;have m:=Lib.hid b;have f:=Lib.hid ((b.block _ HS.out).trans g.out);have av:=Lib.hid (HA.out.below b);clear b;rw[Lr.Bv p];have HM:=Lib.hid p;clear p;go_upto_region 3 with(fail)
  go_step;refine aU rfl (.tmp 1) rfl w.heap.size rfl _ f.out rfl ?_;go_wp2_with fail
  refine(wJ x _ _ _ _ _ w1 av.out HF.out).mono ?_;rintro e w2⟨v2,rfl,G,z⟩;have hl:=Lr.jw HM.out.1;have ak:=Lib.hid G;have ar:=Lib.hid (m.out.trans (z.mono m.out.size));obtain⟨q2,k2,rfl⟩:=G.bz.slice;obtain⟨L,hL⟩:∃L,L=(Lr.own x).length:=⟨_,rfl⟩
  rw[<-hL]at hl ak⊢;have ay:IntKind.u16.wrap (19+(L:Int))=((19+L:Nat):Int):=by rw[IntKind.wrap_u16];omega
  have HL:=Lib.hid hL;have a:=Lib.hid ((z.block _ (lt_of_block f.out)).trans f.out);clear G z hL;go_wp2_with fail
  rw[show(19+(L:Int))=((19+L:Nat):Int)by omega];refine(rK (.slice none 0 0) [] (19+L) _ (aX _) (by decide)).mono ?_;rintro e w3⟨v3,rfl,F,y⟩;rw[List.nil_append]at F;have k:=(y.block _ (lt_of_block a.out)).trans a.out;obtain⟨-,e1,-,-,-,-,-,-,-,-,-,-,-,-,-⟩:=au k;have aK:=Lib.hid F;have K:=Lib.hid y;clear F y k ay;go_wp2_with fail
  refine(fw (.slice none 0 0) [] x.bj _ (aX _) (by decide)).mono ?_;rintro e w4⟨v4,rfl,E,ab⟩;rw[List.nil_append]at E;have aJ:=Lib.hid E;have N:=Lib.hid ab;clear E ab e1;dsimp only;go_step;refine aB rfl (.tmp 16) (.tmp 19) rfl w2.heap.size v3 _ rfl (aK.out.below N.out) v4 _ rfl aJ.out.bz (by rw[aw.ao,aw.ao];decide) (Nat.le_trans K.out.size N.out.size) ?_;intro v5 w5 af aa _;have aI:=Lib.hid af;have l:=Lib.hid ((K.out.trans (N.out.mono K.out.size)).trans aa);have j:=(l.out.block _ (lt_of_block a.out)).trans a.out;obtain⟨-,-,e2,-,-,-,-,-,-,-,-,-,-,-,-⟩:=au j;clear af aa j;go_wp2_with fail
  refine(de (.slice none 0 0) [] x.ai _ (aX _) (by decide)).mono ?_;rintro e w6⟨v6,rfl,D,Z⟩;rw[List.nil_append]at D;have aH:=Lib.hid D;have M:=Lib.hid Z;clear D Z e2;dsimp only;go_step;refine aB rfl (.tmp 21) (.tmp 24) rfl w2.heap.size v5 _ rfl (aI.out.below M.out) v6 _ rfl aH.out.bz (by simp only[List.length_append,aw.ao];decide) (Nat.le_trans l.out.size M.out.size) ?_;intro v7 w7 ae Y _;have aG:=Lib.hid ae;have J:=Lib.hid ((l.out.trans (M.out.mono l.out.size)).trans Y);have i:=(J.out.block _ (lt_of_block a.out)).trans a.out;obtain⟨e0,-,-,-,-,-,-,-,-,-,-,-,-,-,-⟩:=au i;obtain⟨q,r,T⟩:∃q:Nat,x.kind=(q:Int)/\q<6:=⟨x.kind.toNat,by have:=Lr.mf HM.out.1;omega,by have:=Lr.mf HM.out.1;omega⟩
  rw[r]at e0;have P:IntKind.u8.wrap (q:Int)=(q:Int):=by rw[IntKind.wrap_u8];omega
  have an:Hid (_/\_):=⟨r,T⟩
  clear ae Y i r T;go_upto_region 7 with(fail)
  iterate 16 go_step
  refine bY rfl (.tmp 26) (.tmp 30) rfl w2.heap.size v7 _ rfl aG.out rfl q (by first|rfl|exact P) (by have:=an.out.2;omega) (by simp only[List.length_append,aw.ao];decide) J.out.size ?_;intro v8 w8 ad X;have aF:=Lib.hid ad;have I:=Lib.hid (J.out.trans X);clear ad X P e0;go_upto_region 8 with(fail)
  iterate 7 go_step
  refine aB rfl (.tmp 32) (.tmp 33) rfl w2.heap.size v8 _ rfl aF.out (.slice q2 L k2) (Lr.own x) rfl (ak.out.bz.below I.out) (by rw[<-HL.out];simp only[List.length_append,aw.ao,List.length_cons,List.length_nil];omega) I.out.size ?_;intro v9 w9 C V _;have ah:=Lib.hid (show Own w2.heap.size w9 v9 (Lr.rest x)by
   have e:aw.le 2 (19+L)++aw.le 8 x.bj++aw.le 4 x.ai++[q]++Lr.own x=Lr.rest x:=by
    unfold Lr.rest Lr.body;rw[<-HL.out,an.out.1,Int.toNat_natCast];simp only[List.append_assoc,List.cons_append,List.nil_append]
   rw[e]at C;exact C)
  have aq:=Lib.hid (I.out.trans V);clear C V;go_wp2_with fail
  refine(lK v9 _ _ ah.out.bz).mono ?_;rintro e wa⟨rfl,t⟩;obtain⟨S,hS⟩:∃S,S=dK.more 0 (Lr.rest x):=⟨_,rfl⟩
  rw[<-hS];have az:=Lib.hid hS;have H:=Lib.hid (aq.out.trans (t.mono aq.out.size));have aE:=Lib.hid (ah.out.below t);clear hS t;go_wp2_with fail
  refine(de (.slice none 0 0) [] S _ (aX _) (by decide)).mono ?_;rintro e wb⟨vb,rfl,B,s⟩;rw[List.nil_append]at B;have aC:=Lib.hid (B.from H.out.size);have al:=Lib.hid (H.out.trans (s.mono H.out.size));have ag:=Lib.hid (aE.out.below s);clear B s;dsimp only;iterate 4 go_step
  refine aB rfl (.tmp 37) (.tmp 38) rfl w2.heap.size vb _ rfl aC.out v9 _ rfl ag.out.bz (by rw[aw.ao,Lr.fK,<-HL.out];omega) al.out.size ?_;intro vc wc A U _;rw[az.out]at A;have aA:=Lib.hid A;have aL:=Lib.hid (al.out.trans U);clear A U;go_wp2_with fail
  go_ret2
  have Q:=Nat.le_trans HB.out.size ar.out.size;exact⟨_,rfl,aA.out.from Q,(HB.out.trans (ar.out.mono HB.out.size)).trans (aL.out.mono Q)⟩
 ·rw[Lr.dN p,Lr.dN p];go_enter Tryz.func56,Tryz.ntmps56;go_upto_region 1 with(fail)
  rw[<-O];clear O;go_step;refine aU rfl (.tmp 1) rfl w.heap.size rfl _ g.out rfl ?_;go_wp2_with fail
  refine(xE x _ _ _ _ _ W HA.out HF.out).mono ?_;rintro e w1⟨rfl,b⟩;have m:=Lib.hid b;have f:=Lib.hid ((b.block _ HS.out).trans g.out);have av:=Lib.hid (HA.out.below b);clear b;rw[Lr.za p];go_wp2_with fail
  go_ret2
  exact⟨_,rfl,aM _ _,HB.out.trans (m.out.mono HB.out.size)⟩
end Go.Proofs.YtbpodmallknhfaaGreat
namespace Go.Proofs.YtbpodmallknhfaaGreat.Lr
open Go.Proofs.YtbpodmallknhfaaGreat.aw
theorem tr(b:List Nat):∃x e,sR b x e:=by
 obtain⟨n0,s,F,h0⟩:∃n l e,rdNum 4 b 0=(n,l,e):=⟨_,_,_,rfl⟩
 obtain⟨I,l1,E,A⟩:∃n l e,rdNum 2 s F=(n,l,e):=⟨_,_,_,rfl⟩
 obtain⟨H,r,D,z⟩:∃n l e,rdNum 8 l1 E=(n,l,e):=⟨_,_,_,rfl⟩
 obtain⟨G,q,C,y⟩:∃n l e,rdNum 4 r D=(n,l,e):=⟨_,_,_,rfl⟩
 obtain⟨n4,h,g,w⟩:∃n l e,rdNum 1 q C=(n,l,e):=⟨_,_,_,rfl⟩
 have f:=xJ h0 A z y w;by_cases k1:n4=1
 ·subst k1;obtain⟨a0,c,c0,a⟩:∃n l e,rdNum 4 h g=(n,l,e):=⟨_,_,_,rfl⟩
  obtain⟨p,b1,c1,d⟩:∃n l e,rdNum 2 c c0=(n,l,e):=⟨_,_,_,rfl⟩
  obtain⟨o,b2,c2,j⟩:∃n l e,dT 500 b1 c1=(n,l,e):=⟨_,_,_,rfl⟩
  obtain⟨a3,m,c3,i⟩:∃n l e,dT 500 b2 c2=(n,l,e):=⟨_,_,_,rfl⟩
  exact⟨_,_,oy f a d j i⟩
 by_cases k2:n4=2
 ·subst k2;obtain⟨a0,c,c0,a⟩:∃n l e,rdNum 8 h g=(n,l,e):=⟨_,_,_,rfl⟩
  obtain⟨p,b1,c1,d⟩:∃n l e,rdNum 8 c c0=(n,l,e):=⟨_,_,_,rfl⟩
  obtain⟨o,b2,c2,j⟩:∃n l e,rdNum 8 b1 c1=(n,l,e):=⟨_,_,_,rfl⟩
  obtain⟨a3,m,c3,i⟩:∃n l e,rdNum 1 b2 c2=(n,l,e):=⟨_,_,_,rfl⟩
  obtain⟨a4,J,c4,B⟩:∃n l e,dT 64 m c3=(n,l,e):=⟨_,_,_,rfl⟩
  exact⟨_,_,tt f a d j i B⟩
 by_cases v:n4=3
 ·subst v;obtain⟨a0,c,c0,a⟩:∃n l e,rdNum 8 h g=(n,l,e):=⟨_,_,_,rfl⟩
  obtain⟨p,b1,c1,d⟩:∃n l e,rdNum 8 c c0=(n,l,e):=⟨_,_,_,rfl⟩
  exact⟨_,_,nt f a d⟩
 by_cases u:n4=4
 ·subst u;obtain⟨a0,c,c0,a⟩:∃n l e,rdNum 8 h g=(n,l,e):=⟨_,_,_,rfl⟩
  exact⟨_,_,qL f a⟩
 by_cases t:n4=5
 ·subst t;obtain⟨a0,c,c0,a⟩:∃n l e,lS h g=(n,l,e):=⟨_,_,_,rfl⟩
  obtain⟨p,b1,c1,d⟩:∃n l e,cG a0 c c0=(n,l,e):=⟨_,_,_,rfl⟩
  obtain⟨o,b2,c2,j⟩:∃n l e,lS b1 c1=(n,l,e):=⟨_,_,_,rfl⟩
  obtain⟨a3,m,c3,i⟩:∃n l e,ej o b2 c2=(n,l,e):=⟨_,_,_,rfl⟩
  exact⟨_,_,oz f a d (fun _=>rfl) j i (fun _=>rfl)⟩
 exact⟨zero,g,qK (k:=n4) f (by omega)⟩
theorem E1{b:List Nat}{y z:R}(a:Is b y)(hz:Is b z):y=z:=by
 obtain⟨x,e,h⟩:=tr b;rw[<-(h y a).1,<-(h z hz).1]
noncomputable def jM(b:List Nat):R×Nat×Nat:=ru (∃y,Is b y) (@Classical.epsilon R ⟨zero⟩ (Is b),(form (@Classical.epsilon R ⟨zero⟩ (Is b))).length,0) (zero,0,4)
theorem tK{b:List Nat}{y:R}(h:Is b y):jM b=(y,(form y).length,0):=by
 have a:Is b (@Classical.epsilon R ⟨zero⟩ (Is b)):= @Classical.epsilon_spec R (Is b) ⟨y,h⟩;unfold jM;rw[ed ⟨y,h⟩,E1 a h]
theorem jr{b:List Nat}(h:∀y,¬Is b y):jM b=(zero,0,4):=by
 unfold jM;rw[dN (fun⟨y,a⟩=>h y a)]
theorem zj{b:List Nat}{y:R}(c:oe y)(a:Ok y)(h:(form y).length<=b.length/\b.take (form y).length=form y):Is b y:=
 ⟨c,a,b.drop (form y).length,by rw[<-h.2,List.length_take,Nat.min_eq_left h.1,List.take_append_drop]⟩
theorem qT{b:List Nat}{y:R}(h:Is b y):(form y).length<=b.length/\b.take (form y).length=form y:=by
 obtain⟨-,-,t,rfl⟩:=h;exact⟨by rw[List.length_append];omega,List.take_left' rfl⟩
end Go.Proofs.YtbpodmallknhfaaGreat.Lr
namespace Go.Proofs.YtbpodmallknhfaaGreat
open Go.RowKit
set_option maxHeartbeats 6400000 in
set_option maxRecDepth 20000 in
theorem tJ(m:Value)(b:List Nat)(w:World)(hB:aV w m b)(hb:b.length<=4000000):
 Calls Tryz.prog 93 #[m] w fun e w'=>∃o n u c d,e=.returned (.tuple #[cz (Lr.jM b).1 o n u c d,.int .i64 ((Lr.jM b).2.1:Int),.int .i64 ((Lr.jM b).2.2:Int)])/\ki w.heap.size w' (Lr.jM b).1 o n u c d/\Below w.heap.size w w':=by
 obtain⟨W,hW⟩:∃W,W=w.alloc qk:=⟨_,rfl⟩
 have I:=aj w qk;have hz:=Em w;rw[<-hW]at I hz;obtain⟨p,cap,rfl⟩:=hB.slice;obtain⟨N,hN⟩:∃N,N=min b.length 1600:=⟨_,rfl⟩
 have hT:=(hB.below I).take N (by omega);have ae:(b.take N).length=N:=by rw[List.length_take];omega
 have af:∀y,Lr.Is (b.take N) y↔Lr.Is b y:=by
  intro y;by_cases h:1600<=b.length
  ·rw[show N=1600 by omega];exact Lr.DA 1600 (Nat.le_refl _)
  ·rw[show N=b.length by omega,List.take_length]
 have aH:min (b.length:Int) 1600=(N:Int):=by omega
 have aK:N<=b.length:=by omega
 obtain⟨az,ay⟩:b.length<=cap/\cap<=9223372036854775807:=by
  obtain⟨p',aI,e,h,-⟩:=hB.form;simp only[Value.slice.injEq]at e;obtain⟨-,-,rfl⟩:=e;exact h
 have HT:=Lib.hid hT;have aL:=Lib.hid ae;have X:=Lib.hid af;have aw:=Lib.hid I;have F:Hid (w.heap.size<W.heap.size):=lt_of_block hz;clear hB I hT ae af hN;generalize ab:Lr.jM b=rr;have V:=Lib.hid ab;clear ab;generalize b.take N=bt at*
 unfold qk at hW;go_enter Tryz.func93,Tryz.ntmps93;go_upto_region 1 with(fail)
 rw[<-hW];obtain⟨Q,hQ⟩:∃Q,Q=w.heap.size:=⟨_,rfl⟩
 rw[<-hQ]at hz⊢;have HQ:=Lib.hid hQ;have HZ:=Lib.hid hz;clear hW hQ hz;go_wp2_with fail
 refine(fB _ bt W HT.out).mono ?_;rintro e w1⟨B,rfl,hR,ad,H⟩;have j:=Lib.hid (aw.out.trans (H.mono aw.out.size));have aE:=Lib.hid (HT.out.below H);have ak:=Lib.hid ((H.block _ (lt_of_block HZ.out)).trans HZ.out);have aF:Hid (w.heap.size<=W.heap.size):=Nat.le_of_lt F.out;have K:=Lib.hid ad;have HR:=Lib.hid hR;have ar:=Lib.hid hR.lt;clear hR H ad;go_wp2_with fail
 refine(tu _ B bt w1 HR.out (fun b h=>h.2)).mono ?_;rintro e w2⟨⟨x,o,n,u,c,d,e2,rfl,P,aa,hf⟩,hg⟩;have hO:=P;have HO:=Lib.hid P;have al:Hid (∃e,Lr.sR bt x e):=⟨e2,aa⟩
 have HF:=Lib.hid hf;have av:=Lib.hid (aJ j.out hg j.out.size (Nat.le_trans aF.out K.out));have aD:=Lib.hid (aE.out.grown hg (fun h0 e=>by have R:=HT.out.fS h0 B e;have h2:=K.out;omega));have ah:=Lib.hid ((hg.block _ (lt_of_block ak.out) (fun e=>by have R:=Option.some.inj e;have h2:=K.out;have h3:=F.out;have h4:=HQ.out;omega)).trans ak.out);obtain⟨p1,c1,p2,c2,p3,c3,p4,c4,p5,c5,rfl,rfl,rfl,rfl,rfl⟩:=ax hO.at;clear hO P hg aa hf;go_upto_region 3 with(fail)
 obtain⟨Y,hY⟩:∃Y,Y=w2.alloc (.cells #[.int .i64 x.kind,.int .u64 (x.bj:Int),.int .u32 (x.ai:Int),.int .u64 (x.bs:Int),.int .u32 (x.aA:Int),.int .u16 (x.off:Int),.slice p1 x.old.length c1,.slice p2 x.new.length c2,.slice p3 x.bD.length c3,.int .u64 (x.prev:Int),.int .u64 (x.next:Int),.bool x.jE,.int .u64 (x.bf:Int),.slice p4 x.dm.length c4,.slice p5 x.bR.length c5] 78):=⟨_,rfl⟩
 have D:Below w2.heap.size w2 Y:=by rw[hY];exact aj _ _
 have O:Y.heap[w2.heap.size]?=some (.cells #[.int .i64 x.kind,.int .u64 (x.bj:Int),.int .u32 (x.ai:Int),.int .u64 (x.bs:Int),.int .u32 (x.aA:Int),.int .u16 (x.off:Int),.slice p1 x.old.length c1,.slice p2 x.new.length c2,.slice p3 x.bD.length c3,.int .u64 (x.prev:Int),.int .u64 (x.next:Int),.bool x.jE,.int .u64 (x.bf:Int),.slice p4 x.dm.length c4,.slice p5 x.bR.length c5] 78 (0,0)):=by rw[hY];exact heap_alloc_last _ _
 rw[<-hY];obtain⟨y,hy⟩:∃y,y=w2.heap.size:=⟨_,rfl⟩
 rw[<-hy]at O⊢;have T:=Lib.hid O;have aq:=Lib.hid (HO.out.below D);have aB:=Lib.hid (aD.out.below D);have J:=Lib.hid ((D.block _ (lt_of_block ah.out)).trans ah.out);have L:=Lib.hid (av.out.trans (D.mono av.out.size));clear hY D O hy;go_step;refine aU rfl (.tmp 5) rfl y rfl _ T.out rfl ?_;go_wp2_with fail
 have l:=lQ x _ _ _ _ _ Y aq.out.at HF.out;by_cases M:Lr.oe x
 ·rw[Lr.ed M,Lr.ed M,show((0:Nat):Int)=0 from rfl]at l;refine l.mono ?_;clear l;rintro e w3⟨v3,rfl,E,f⟩;obtain⟨q3,k3,rfl⟩:=E.bz.slice;have aG:=Lib.hid E;have Z:=Lib.hid (L.out.trans (f.mono L.out.size));have aC:=Lib.hid (aB.out.below f);have ao:=Lib.hid (aq.out.below f);have ag:=Lib.hid ((f.block _ (lt_of_block J.out)).trans J.out);have an:=Lib.hid ((f.block _ (lt_of_block T.out)).trans T.out);have HM:=Lib.hid M;clear E f M;have k:=qx _ _ bt (Lr.form x) w3 aC.out aG.out.bz;by_cases hP:(Lr.form x).length<=bt.length/\bt.take (Lr.form x).length=Lr.form x
  ·rw[decide_eq_true hP]at k;obtain rfl:rr=(x,(Lr.form x).length,0):=V.out.symm.trans (Lr.tK ((X.out x).1 (Lr.zj HM.out ao.out.ok hP)));clear hP;go_wp2_with fail
   refine k.mono ?_;rintro e w4⟨rfl,rfl⟩;clear k;go_upto_region 6 with(fail)
   go_step;refine aU rfl (.tmp 5) rfl y rfl _ an.out rfl ?_;iterate 6 go_step
   refine aS rfl (.tmp 2) (.tmp 30) rfl Q rfl _ rfl _ ag.out rfl rfl (by simp[Value.oneCell']) ?_;intro U g i;have a:Hid (_/\_):=⟨g,i⟩
   clear g i;go_wp2_with fail
   obtain⟨u0,u1,u2,u3,u4,u5,u6,u7,u8,u9,A,t,s,r,q⟩:=au a.out.1;refine bodyPost_ret (v:=.tuple #[.agg #[.int .i64 x.kind,.int .u64 (x.bj:Int),.int .u32 (x.ai:Int),.int .u64 (x.bs:Int),.int .u32 (x.aA:Int),.int .u16 (x.off:Int),.slice p1 x.old.length c1,.slice p2 x.new.length c2,.slice p3 x.bD.length c3,.int .u64 (x.prev:Int),.int .u64 (x.next:Int),.bool x.jE,.int .u64 (x.bf:Int),.slice p4 x.dm.length c4,.slice p5 x.bR.length c5],.int .i64 ((Lr.form x).length:Int),.int .i64 0]) (by simp[results,Tryz.results93,go_sem,u0,u1,u2,u3,u4,u5,u6,u7,u8,u9,A,t,s,r,q]) rfl ?_;refine⟨_,_,_,_,_,rfl,?_,aJ Z.out a.out.2 Z.out.size (Nat.le_of_eq HQ.out.symm)⟩;have h:=ao.out;have C:Q<w1.heap.size:=by have h2:=ar.out;have h3:=K.out;have h4:=F.out;have h5:=HQ.out;omega
   exact⟨(h.old.grown a.out.2 (cL h.old C)).from j.out.size,(h.new.grown a.out.2 (cL h.new C)).from j.out.size,(h.bD.grown a.out.2 (cL h.bD C)).from j.out.size,(h.dm.grown a.out.2 (fX.cL h.dm C)).from j.out.size,(h.bR.grown a.out.2 (gj.cL h.bR C)).from j.out.size,h.ok⟩
  ·rw[decide_eq_false hP]at k;obtain rfl:rr=(Lr.zero,0,4):=V.out.symm.trans (Lr.jr (fun z hz=>hP (by
    have R:=(X.out z).2 hz;obtain⟨e3,h2⟩:=al.out;have h3:=(h2 z R).1;rw[h3];exact Lr.qT R)))
   clear hP;have S:=ag;have G:=Z;go_wp2_with fail
   refine k.mono ?_;rintro e w4⟨rfl,rfl⟩;clear k;go_upto_region 5 with(fail)
   iterate 4 go_step
   refine aS rfl (.tmp 2) (.tmp 29) rfl Q rfl #[.int .i64 0,.int .u64 0,.int .u32 0,.int .u64 0,.int .u32 0,.int .u16 0,.slice none 0 0,.slice none 0 0,.slice none 0 0,.int .u64 0,.int .u64 0,.bool false,.int .u64 0,.slice none 0 0,.slice none 0 0] rfl _ S.out rfl rfl (by simp[Value.oneCell']) ?_;intro U g i;have a:Hid (_/\_):=⟨g,i⟩
   clear g i;go_wp2_with fail
   obtain⟨u0,u1,u2,u3,u4,u5,u6,u7,u8,u9,A,t,s,r,q⟩:=au a.out.1;refine bodyPost_ret (v:=.tuple #[.agg #[.int .i64 0,.int .u64 0,.int .u32 0,.int .u64 0,.int .u32 0,.int .u16 0,.slice none 0 0,.slice none 0 0,.slice none 0 0,.int .u64 0,.int .u64 0,.bool false,.int .u64 0,.slice none 0 0,.slice none 0 0],.int .i64 0,.int .i64 4]) (by simp[results,Tryz.results93,go_sem,u0,u1,u2,u3,u4,u5,u6,u7,u8,u9,A,t,s,r,q]) rfl ?_;exact⟨_,_,_,_,_,rfl,tb _ _,aJ G.out a.out.2 G.out.size (Nat.le_of_eq HQ.out.symm)⟩
 ·rw[Lr.dN M,Lr.dN M,show((2:Nat):Int)=2 from rfl]at l;obtain rfl:rr=(Lr.zero,0,4):=V.out.symm.trans (Lr.jr (fun z hz=>M (by
   have R:=(X.out z).2 hz;obtain⟨e3,h2⟩:=al.out;have h3:=(h2 z R).1;rw[h3];exact R.1)))
  refine l.mono ?_;clear l;rintro e w3⟨v3,rfl,E,f⟩;have G:=Lib.hid (L.out.trans (f.mono L.out.size));have S:=Lib.hid ((f.block _ (lt_of_block J.out)).trans J.out);clear E f M;go_upto_region 5 with(fail)
  iterate 4 go_step
  refine aS rfl (.tmp 2) (.tmp 29) rfl Q rfl #[.int .i64 0,.int .u64 0,.int .u32 0,.int .u64 0,.int .u32 0,.int .u16 0,.slice none 0 0,.slice none 0 0,.slice none 0 0,.int .u64 0,.int .u64 0,.bool false,.int .u64 0,.slice none 0 0,.slice none 0 0] rfl _ S.out rfl rfl (by simp[Value.oneCell']) ?_;intro U g i;have a:Hid (_/\_):=⟨g,i⟩
  clear g i;go_wp2_with fail
  obtain⟨u0,u1,u2,u3,u4,u5,u6,u7,u8,u9,A,t,s,r,q⟩:=au a.out.1;refine bodyPost_ret (v:=.tuple #[.agg #[.int .i64 0,.int .u64 0,.int .u32 0,.int .u64 0,.int .u32 0,.int .u16 0,.slice none 0 0,.slice none 0 0,.slice none 0 0,.int .u64 0,.int .u64 0,.bool false,.int .u64 0,.slice none 0 0,.slice none 0 0],.int .i64 0,.int .i64 4]) (by simp[results,Tryz.results93,go_sem,u0,u1,u2,u3,u4,u5,u6,u7,u8,u9,A,t,s,r,q]) rfl ?_;exact⟨_,_,_,_,_,rfl,tb _ _,aJ G.out a.out.2 G.out.size (Nat.le_of_eq HQ.out.symm)⟩
end Go.Proofs.YtbpodmallknhfaaGreat
