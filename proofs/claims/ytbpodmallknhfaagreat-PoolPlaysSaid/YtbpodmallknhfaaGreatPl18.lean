/- Parts of a proof. Conditions: as each row says. -/
import Derived.Test.YtbpodmallknhfaaGreatPl13
import Derived.Test.YtbpodmallknhfaaGreatPl17
import Derived.Test.YtbpodmallknhfaaGreatPl12
namespace Go.Proofs.YtbpodmallknhfaaGreat
open Go.RowKit
set_option maxHeartbeats 3200000 in
set_option maxRecDepth 20000 in
theorem re(x:Lr.R)(o n u c d:Value)(w:World)(h:bm w x o n u c d)(hf:Lr.xd x):
 Calls Tryz.prog 56 #[cz x o n u c d] w fun e w'=>∃v,e=.returned (.tuple #[v,.int .i64 ((Lr.rC (Lr.rU x) 0 2:Nat):Int)])/\Own w.heap.size w' v (Lr.rC (Lr.rU x) (Lr.form x) [])/\Below w.heap.size w w':=by
 obtain⟨W,O⟩:∃W,W=w.alloc (az x o n u c d):=⟨_,rfl⟩
 have hb:=ae w (az x o n u c d);have hr:=dd w x o n u c d;rw[<-O]at hb hr;have HB:=GD hb;have HA:=GD (h.below hb);have HS:Hid (w.heap.size<W.heap.size):=GN hr;obtain⟨p1,c1,p2,c2,p3,c3,p4,c4,p5,c5,rfl,rfl,rfl,rfl,rfl⟩:=au h;have g:=GD hr;have HF:=GD hf;clear h hb hr hf;unfold az at O;by_cases p:Lr.rU x
 ·rw[Lr.fF p,Lr.fF p];go_enter Tryz.func56,Tryz.ntmps56;go_upto_region 1 with(fail)
  rw[<-O];clear O;go_step;refine bG rfl (.tmp 1) rfl w.heap.size rfl _ g.out rfl ?_;go_wp2_with fail
  refine(wD x _ _ _ _ _ W HA.out HF.out).mono ?_;rintro e w1⟨rfl,b⟩;have m:=GD b;have f:=GD ((b.block _ HS.out).trans g.out);have aw:=GD (HA.out.below b);clear b;rw[Lr.AM p];have HM:=GD p;clear p;go_upto_region 3 with(fail)
  go_step;refine bG rfl (.tmp 1) rfl w.heap.size rfl _ f.out rfl ?_;go_wp2_with fail
  refine(vG x _ _ _ _ _ w1 aw.out HF.out).mono ?_;rintro e w2⟨v2,rfl,G,z⟩;have hl:=Lr.vm HM.out.1;have aj:=GD G;have av:=GD (m.out.trans (z.mono m.out.size));obtain⟨q2,k2,rfl⟩:=G.aP.slice;obtain⟨L,hL⟩:∃L,L=(Lr.own x).length:=⟨_,rfl⟩
  rw[<-hL]at hl aj⊢;have ax:IntKind.u16.wrap (19+(L:Int))=((19+L:Nat):Int):=by rw[IntKind.wrap_u16];omega
  have HL:=GD hL;have a:=GD ((z.block _ (GN f.out)).trans f.out);clear G z hL;go_wp2_with fail
  rw[show(19+(L:Int))=((19+L:Nat):Int)by omega];refine(qH (.slice none 0 0) [] (19+L) _ (aO _) (by decide)).mono ?_;rintro e w3⟨v3,rfl,F,y⟩;rw[Hg]at F;have k:=(y.block _ (GN a.out)).trans a.out;obtain⟨-,e1,-,-,-,-,-,-,-,-,-,-,-,-,-⟩:=aq k;have aK:=GD F;have K:=GD y;clear F y k ax;go_wp2_with fail
  refine(fE (.slice none 0 0) [] x.bl _ (aO _) (by decide)).mono ?_;rintro e w4⟨v4,rfl,E,ab⟩;rw[Hg]at E;have aJ:=GD E;have N:=GD ab;clear E ab e1;dsimp only;go_step;refine aA rfl (.tmp 16) (.tmp 19) rfl w2.heap.size v3 _ rfl (aK.out.below N.out) v4 _ rfl aJ.out.aP (by rw[aH.al,aH.al];decide) (GR K.out.size N.out.size) ?_;intro v5 w5 ag aa _;have aI:=GD ag;have l:=GD ((K.out.trans (N.out.mono K.out.size)).trans aa);have j:=(l.out.block _ (GN a.out)).trans a.out;obtain⟨-,-,e2,-,-,-,-,-,-,-,-,-,-,-,-⟩:=aq j;clear ag aa j;go_wp2_with fail
  refine(da (.slice none 0 0) [] x.an _ (aO _) (by decide)).mono ?_;rintro e w6⟨v6,rfl,D,Z⟩;rw[Hg]at D;have aG:=GD D;have M:=GD Z;clear D Z e2;dsimp only;go_step;refine aA rfl (.tmp 21) (.tmp 24) rfl w2.heap.size v5 _ rfl (aI.out.below M.out) v6 _ rfl aG.out.aP (by simp only[GI,aH.al];decide) (GR l.out.size M.out.size) ?_;intro v7 w7 af Y _;have aF:=GD af;have J:=GD ((l.out.trans (M.out.mono l.out.size)).trans Y);have i:=(J.out.block _ (GN a.out)).trans a.out;obtain⟨e0,-,-,-,-,-,-,-,-,-,-,-,-,-,-⟩:=aq i;obtain⟨q,r,T⟩:∃q:Nat,x.kind=(q:Int)/\q<6:=⟨x.kind.toNat,by have:=Lr.rB HM.out.1;omega,by have:=Lr.rB HM.out.1;omega⟩
  rw[r]at e0;have P:IntKind.u8.wrap (q:Int)=(q:Int):=by rw[IntKind.wrap_u8];omega
  have ao:Hid (_/\_):=⟨r,T⟩
  clear af Y i r T;go_upto_region 7 with(fail)
  iterate 16 go_step
  refine bU rfl (.tmp 26) (.tmp 30) rfl w2.heap.size v7 _ rfl aF.out rfl q (by first|rfl|exact P) (by have:=ao.out.2;omega) (by simp only[GI,aH.al];decide) J.out.size ?_;intro v8 w8 ad X;have aE:=GD ad;have I:=GD (J.out.trans X);clear ad X P e0;go_upto_region 8 with(fail)
  iterate 7 go_step
  refine aA rfl (.tmp 32) (.tmp 33) rfl w2.heap.size v8 _ rfl aE.out (.slice q2 L k2) (Lr.own x) rfl (aj.out.aP.below I.out) (by rw[<-HL.out];simp only[GI,aH.al,G2,Hz];omega) I.out.size ?_;intro v9 w9 C V _;have ai:=GD (show Own w2.heap.size w9 v9 (Lr.rest x)by
   have e:aH.le 2 (19+L)++aH.le 8 x.bl++aH.le 4 x.an++[q]++Lr.own x=Lr.rest x:=by
    unfold Lr.rest Lr.body;rw[<-HL.out,ao.out.1,Ic];simp only[G3,Iy,Hg]
   rw[e]at C;exact C)
  have ar:=GD (I.out.trans V);clear C V;go_wp2_with fail
  refine(ln v9 _ _ ai.out.aP).mono ?_;rintro e wa⟨rfl,t⟩;obtain⟨S,hS⟩:∃S,S=dK.more 0 (Lr.rest x):=⟨_,rfl⟩
  rw[<-hS];have ay:=GD hS;have H:=GD (ar.out.trans (t.mono ar.out.size));have aD:=GD (ai.out.below t);clear hS t;go_wp2_with fail
  refine(da (.slice none 0 0) [] S _ (aO _) (by decide)).mono ?_;rintro e wb⟨vb,rfl,B,s⟩;rw[Hg]at B;have aC:=GD (B.from H.out.size);have ak:=GD (H.out.trans (s.mono H.out.size));have ah:=GD (aD.out.below s);clear B s;dsimp only;iterate 4 go_step
  refine aA rfl (.tmp 37) (.tmp 38) rfl w2.heap.size vb _ rfl aC.out v9 _ rfl ah.out.aP (by rw[aH.al,Lr.fK,<-HL.out];omega) ak.out.size ?_;intro vc wc A U _;rw[ay.out]at A;have aB:=GD A;have aL:=GD (ak.out.trans U);clear A U;go_wp2_with fail
  go_ret2
  have Q:=GR HB.out.size av.out.size;exact⟨_,rfl,aB.out.from Q,(HB.out.trans (av.out.mono HB.out.size)).trans (aL.out.mono Q)⟩
 ·rw[Lr.eW p,Lr.eW p];go_enter Tryz.func56,Tryz.ntmps56;go_upto_region 1 with(fail)
  rw[<-O];clear O;go_step;refine bG rfl (.tmp 1) rfl w.heap.size rfl _ g.out rfl ?_;go_wp2_with fail
  refine(wD x _ _ _ _ _ W HA.out HF.out).mono ?_;rintro e w1⟨rfl,b⟩;have m:=GD b;have f:=GD ((b.block _ HS.out).trans g.out);have aw:=GD (HA.out.below b);clear b;rw[Lr.xW p];go_wp2_with fail
  go_ret2
  exact⟨_,rfl,cU _ _,HB.out.trans (m.out.mono HB.out.size)⟩
end Go.Proofs.YtbpodmallknhfaaGreat
