/- Parts of a proof. Conditions: as each row says. -/
import Derived.Test.YtbpodmallknhfaaGreatCr22
import Derived.Test.YtbpodmallknhfaaGreatCr20
import Derived.Test.YtbpodmallknhfaaGreatCr08
namespace Go.Proofs.YtbpodmallknhfaaGreat
open Go.RowKit
section
variable{PD:(Nat->Prop)->World->Nat->Dk.aq->Prop}{PL:(Nat->Prop)->(Nat->Prop)->World->Nat->Nat->Dk.aq->Wl.S->Prop}{PO:(Nat->Prop)->World->Nat->Nat->Nat->Po.S->Prop}{Hd:Dk.aq->Wl.S->Prop}{Hw:Dk.aq->Po.Ar->(Nat->Po.Pg)->Prop}{Hp:Dk.aq->Po.Ar->(Nat->Po.Pg->Prop)->Prop}
def Al(g e d k j b:Nat)(u v:Value)(a:Nat)(c:Value)(r:Bool)(i:Nat)(z:Value)(_:World):Prop:=
 match i with
 |0=>z=.bool false
 |1=>z=.bool false
 |2=>z=.agg #[.int .u64 (b:Int),u]
 |3=>z=.int .i64 (k:Int)
 |4=>z=.pointer (some ⟨g,k,none⟩)
 |5=>z=v
 |6=>z=.int .i64 (j:Int)
 |7=>z=.pointer (some ⟨d,j*2,none⟩)
 |8=>z=.agg #[.int .u64 (a:Int),c]
 |9=>z=.bool r
 |10=>z=.bool r
 |_=>z=.bool r
def FL(W:World)(D:Nat->Bool)(xs:Nat->Value)(w:World):Prop:=Below W.heap.size W w/\(D 11=false->xs 11=.bool false)
theorem FL.go{W w w':World}{D:Nat->Bool}{xs:Nat->Value}(h:FL W D xs w)(k:Nat)(v:Value)(a:k≠11)(b:Below w.heap.size w w'):FL W (Ord.bP D k) (Ord.set xs k v) w':=by
 have d:Ord.bP D k 11=D 11:=if_neg (Ne.symm a);have c:Ord.set xs k v 11=xs 11:=if_neg (Ne.symm a);exact⟨h.1.trans (b.mono h.1.size),by rw[d,c];exact h.2⟩
theorem FL.last{W w:World}{D:Nat->Bool}{xs:Nat->Value}(h:FL W D xs w)(v:Value):FL W (Ord.bP D 11) (Ord.set xs 11 v) w:=
 ⟨h.1,fun e=>by rw[show Ord.bP D 11 11=true from if_pos rfl]at e;cases e⟩
def sV(b a L st:Nat)(i:Nat)(z:Value)(_:World):Prop:=
 match i with
 |0=>z=.int .i64 0
 |1=>z=.bool false
 |2=>z=.bool false
 |3=>z=.bool true
 |4=>z=.bool false
 |5=>z=.bool false
 |6=>z=.bool false
 |7=>z=.pointer (some ⟨b,0,none⟩)
 |8=>z=.int .u64 (a:Int)
 |9=>z=.bool true
 |10=>z=.bool true
 |11=>z=.pointer (some ⟨L,0,none⟩)
 |12=>z=.int .u64 (st:Int)
 |13=>z=.pointer (some ⟨b,0,none⟩)
 |14=>z=.int .u64 (a:Int)
 |15=>z=.bool false
 |16=>z=.bool false
 |_=>z=.bool false
set_option maxHeartbeats 6400000 in
set_option maxRecDepth 20000 in
theorem qs(A:cQ PD PL PO Hd Hw Hp)(C:xf PD PL Hd Hw Hp)(fr:Int)(v:Value)(l:List PopV)(ar ag:Int)(pv:Value)(ps:List Nat)(w:World)(hB:Cz w v l)(hP:aV w pv ps):
 Calls Tryz.prog 5 #[.int .i64 fr,v,.int .i64 ar,.int .i64 ag,pv] w fun e w'=>e=.returned (.bool true)/\Below w.heap.size w w':=by
 have I:=Lib.hid A;have R:=Lib.hid C;have cr:=Lib.hid hP;obtain⟨p,cap,rfl,g7,-,hp⟩:=hB.form;have gT:=Lib.hid hp;clear A C hB hp hP;by_cases h1:fr<1
 case pos=>
  go_enter Tryz.func5,Tryz.ntmps5;go_wp2_with fail
  refine(kE I.out _).mono ?_;rintro e w2⟨rfl,aA⟩;go_wp2_with fail
  go_ret;exact⟨rfl,aA⟩
 by_cases h2:12<fr
 case pos=>
  go_enter Tryz.func5,Tryz.ntmps5;go_wp2_with fail
  refine(kE I.out _).mono ?_;rintro e w2⟨rfl,aA⟩;go_wp2_with fail
  go_ret;exact⟨rfl,aA⟩
 by_cases h5:(60:Int)<(l.length:Int)
 case pos=>
  go_enter Tryz.func5,Tryz.ntmps5;go_wp2_with fail
  refine(kE I.out _).mono ?_;rintro e w2⟨rfl,aA⟩;go_wp2_with fail
  go_ret;exact⟨rfl,aA⟩
 obtain⟨F,rfl⟩:∃F:Nat,fr=(F:Int):=⟨fr.toNat,by omega⟩
 have HF:Hid (1<=F/\F<=12):=Lib.hid (by omega);have Y:Hid (l.length<=60):=Lib.hid (by omega);obtain⟨q4,gz,cY⟩:=Cq ar 400 (by decide) (by decide);have e1:=IntWalk.i64_in (q4:Int) (by omega);have eb:=IntWalk.i64_in (1+(q4:Int)) (by omega);have gR:=Lib.hid cY;go_enter Tryz.func5,Tryz.ntmps5;go_wp2_with fail
 refine(rF I.out F HF.out.1 (by have:=HF.out;omega) w).mono ?_;rintro e w1⟨B,L,P,U,V,X,d,rfl,hP,hC,hb⟩;have HP:=Lib.hid hP;have HC:=Lib.hid hC;have HB:=Lib.hid hb;clear hP hC hb h1 h2 h5;go_wp2_with fail
 obtain⟨d2,eo⟩:∃d2,d2=(Dk.arm d (1+(q4:Int))).1:=⟨_,rfl⟩
 have eT:(Dk.arm d (1+(q4:Int))).2=0:=by rw[mZ (d:=d) (n:=1+(q4:Int)) HC.out.off (by omega) (by omega)]
 have aJ:Dk.size d2=120/\d2.aW=120:=by
  rw[eo,mZ (d:=d) (n:=1+(q4:Int)) HC.out.off (by omega) (by omega)];exact⟨HC.out.sz,HC.out.aW⟩
 refine(R.out.arm (1+(q4:Int)) HP.out.at_.log).mono ?_;rw[eT];rintro e w2⟨rfl,U2,fI,et,fN⟩;have aG:=HP.out.bL I.out R.out fI et fN HB.out.size;rw[<-eo]at aG;have gd:Hid (Wl.aY 120 d2):=⟨I.out.Ff (I.out.dev aG.at_.log),aJ.1,aJ.2⟩
 have gu:=Lib.hid aG;have cy:Hid (Below w.heap.size w w2):=HB.out.trans (et.under HP.out.fu HB.out.size);clear eo eT aJ fI et fN aG gz cY e1 eb HP HC HB gR;rw[show((0:Nat):Int)=0 from rfl];go_upto_region 8 with(fail)
 have cl:=DL gu.out I.out gd.out cy.out cy.out.size;rw[CT];generalize CU w2=W at cl⊢;obtain⟨g,hg⟩:∃g,g=w2.heap.size:=⟨_,rfl⟩
 rw[<-hg]at cl⊢;have HG:Hid (w.heap.size<=g):=by show _<=_;rw[hg];exact cy.out.size
 have gq:=Lib.hid cl;clear cl hg gu gd cy;go_wp2_with fail
 go_loopw [17] (fun iv wr=>∃(k:Nat)(vs:List Value)(LL:List (List Po.Pg)),k<=16/\iv=.int .i64 (k:Int)/\CN PL PO Hw w.heap.size g F U2 V X w wr B L P d2 vs LL k) (fun iv _=>16-(intOf iv).toNat)
 case atStart=>exact⟨0,_,_,Nat.zero_le _,rfl,gq.out⟩
 case round=>
  clear gq;obtain⟨k,vs,LL,hk,rfl,hI⟩:=hrel;have N:=Lib.hid hI;clear hI;by_cases Q:k<16
  ·as_aux_lemma=>
    have HK:=Lib.hid Q;have ch:(k:Int)<16:=by omega
    have cj:(0:Int)<=(k:Int):=by omega
    have dX:=IntWalk.i64_in ((k:Int)+1) (by omega);clear Q;go_wp2_with fail
    refine(sj wr).mono ?_;rintro e w2⟨u,rfl,hO,hb⟩;have ey:=N.out.below I.out hb;obtain⟨p3,c3,rfl⟩:∃p c,u=.slice p 500 c:=by
     obtain⟨p,c,e,-⟩:=hO.bz.form;rw[Pg.bU]at e;exact⟨p,c,e⟩
    have e8:=ey.next I.out HK.out (hO.from (Nat.zero_le _)) (fun b aA=>Nat.le_trans (Nat.le_of_lt (lt_of_block N.out.mem.eP.row)) (World.ownsRow.lt hO.own b aA).1);have ad:=ey.below I.out ((Below.refl w2.heap.size w2).alloc (Nat.le_refl _) (.cells #[.int .u64 0,.slice p3 500 c3] 59));obtain⟨c0,f0⟩:=ad.mem.eP.cell HK.out;have gW:=Lib.hid e8;clear e8 ey ad hO hb N;go_wp2_with fail
    go_roundw
    case rel=>exact⟨k+1,_,_,HK.out,by go_num,gW.out⟩
    case measure=>simp[intOf];omega
  ·as_aux_lemma=>
    obtain rfl:k=16:=by omega
    clear Q hk;have b5:=Lib.hid N.out.full;clear N;rw[show((16:Nat):Int)=16 from rfl];go_wp2_with fail
    go_loopw [18] (fun iv wr=>∃(k:Nat)(U V X:Nat->Prop)(d:Dk.aq)(lg:Wl.S)(s:Po.S)(Z:Nat->Prop)(vs:List Value)(LL:List (List Po.Pg))(sf:List Nat),k<=l.length/\iv=.int .i64 (k:Int)/\lG PL PO Hw w.heap.size g (g+1) F k U V X Z w wr B L P d lg s vs LL LL sf) (fun iv _=>l.length-(intOf iv).toNat)
    case atStart=>exact⟨0,U2,V,X,d2,_,_,_,vs,LL,_,Nat.zero_le _,rfl,b5.out⟩
    case round=>
     rename_i KK fJ;have aH:∀{dU dT dS dR dQ dP dO dN dM dL dK dJ dI dH dG dF dE dD dC dB dA dz dy dx dw dv du dt ds dr dq dp dm dk dj di dh dg df de dd dc bH bF bE bD bC bB bA bu bt bs br bq bp bo bn bm bl bk bj bh bg bd bc bb ba a8 a7 a6 a2 a1 aZ aX aU aT aS aR aQ aP:Value}(U Z:Nat->Prop)(d:Dk.aq)(lg:Wl.S)(vs:List Value)(LL:List (List Po.Pg))(sf:List Nat)(c:Nat->Po.Pg->Prop)(W:World),FU PD Hd Hp w.heap.size g (g+1) U Z w W B d lg vs LL sf c->KK {tmps:=#[.int .i64 (F:Int),.slice p l.length cap,.int .i64 ar,.int .i64 ag,pv,undef,undef,undef,undef,undef,dU,.pointer (some ⟨B,0,none⟩),.pointer (some ⟨L,0,none⟩),.pointer (some ⟨P,0,none⟩),.bool true,.pointer (some ⟨g,0,none⟩),.pointer (some ⟨(g+1),0,none⟩),.int .i64 16,dT,dS,dR,dQ,dP,dO,undef,undef,undef,undef,undef,undef,undef,undef,.int .i64 (F:Int),.bool false,.bool false,.int .i64 (F:Int),.bool false,.bool false,.bool false,.slice p l.length cap,.int .i64 (l.length:Int),.bool false,.bool false,undef,.tuple #[.pointer (some ⟨B,0,none⟩),.pointer (some ⟨L,0,none⟩),.pointer (some ⟨P,0,none⟩),.bool true],.int .i64 (F:Int),.tuple #[.pointer (some ⟨B,0,none⟩),.pointer (some ⟨L,0,none⟩),.pointer (some ⟨P,0,none⟩),.bool true],.pointer (some ⟨B,0,none⟩),.pointer (some ⟨L,0,none⟩),.pointer (some ⟨P,0,none⟩),.bool true,.bool true,.bool false,.bool false,.pointer (some ⟨B,0,none⟩),.int .i64 ar,.int .u64 (IntKind.u64.wrap ar),.int .u64 (q4:Int),.int .i64 (q4:Int),.int .i64 (1+(q4:Int)),.int .i64 0,.bool false,.bool false,.int .i64 16,.bool false,dN,dM,dL,dK,dJ,dI,dH,dG,dF,dE,dD,dC,dB,dA,dz,dy,dx,dw,dv,du,dt,ds,dr,dq,dp,dm,dk,dj,di,dh,dg,df,de,dd,dc,bH,bF,bE,bD,bC,bB,bA,bu,bt,bs,br,bq,bp,bo,bn,bm,bl,bk,bj,bh,bg,bd,bc,bb,ba,a8,a7,a6,a2,a1,aZ,aX,aU,aT,aS,aR,aQ,aP,undef,undef,undef,undef,undef,undef,undef,undef,undef,undef,undef,undef,undef,undef,undef,undef,undef,undef,undef,undef,undef,undef,undef,undef,undef,undef,undef,undef,undef,undef,undef,undef,undef,undef,undef,undef,undef,undef,undef,undef,undef,undef,undef,undef,undef,undef,undef,undef,undef,undef,undef,undef,undef,undef,undef,undef,undef,undef,undef,undef,undef,undef,undef,undef,undef,undef,undef,undef,undef,undef,undef,undef,undef,undef,undef,undef,undef,undef,undef,undef,undef,undef,undef,undef,undef,undef,undef,undef,undef,undef,undef,undef],defers:=[]} W:=by
      intro dU dT dS dR dQ dP dO dN dM dL dK dJ dI dH dG dF dE dD dC dB dA dz dy dx dw dv du dt ds dr dq dp dm dk dj di dh dg df de dd dc bH bF bE bD bC bB bA bu bt bs br bq bp bo bn bm bl bk bj bh bg bd bc bb ba a8 a7 a6 a2 a1 aZ aX aU aT aS aR aQ aP U Z d lg vs LL sf c W hE;as_aux_lemma=>
       have HE:=Lib.hid hE;clear hE hrel;apply fJ;obtain⟨q3,ed,cZ⟩:=Cq ag 40 (by decide) (by decide);have e2:=IntWalk.i64_in (q3:Int) (by omega);have ec:=IntWalk.i64_in (1+(q3:Int)) (by omega);have ia:=Lib.hid cZ;go_wp2_with fail
       have bR:=R.out.ay pv ps HE.out.dev (cr.out.below HE.out.mem.wX) (fun h0 b hb hu=>by
        have h1:=HE.out.fu b hu;have h2:=cr.out.fS h0 b hb;omega)
       refine bR.mono ?_;clear bR;rintro e w5⟨rfl,U5,fR,fF,fM⟩;have cu:=Lib.hid (HE.out.ay I.out fR fF fM);clear fR fF fM HE;go_wp2_with fail
       have eS:(Dk.arm (Dk.ay d ps) (1+(q3:Int))).2=0:=by rw[mZ cu.out.off (by omega) (by omega)]
       refine(R.out.Fk (1+(q3:Int)) cu.out.dev).mono ?_;rw[eS];rintro e w6⟨rfl,U6,fQ,fE,fL⟩;have eh:=cu.out.arm I.out R.out (by omega) (by omega) fQ fE fL;obtain⟨d6,fo⟩:∃d6,d6=(Dk.arm (Dk.ay d ps) (1+(q3:Int))).1:=⟨_,rfl⟩
       rw[<-fo]at eh;have gh:=Lib.hid eh;clear eS fQ fE fL eh fo cu ed e2 ec cZ;rw[show((0:Nat):Int)=0 from rfl];go_wp2_with fail
       refine(kg w6).mono ?_;rintro e w7⟨rfl,fx⟩;have ai:=Lib.hid (gh.out.below I.out fx);clear fx gh;go_wp2_with fail
       refine(R.out.ln ai.out.dev ai.out.bG ai.out.off Po.fq Po.mw (eN ai.out.la) ai.out.hd ai.out.hp ai.out.idle).mono ?_;rename_i K2 gJ K1 gK K0 gL;have b4:∀{cW cV cU cT cS cR cP cO cN cM cL cK cJ cI cH cG cF cE cD cC cB cA:Value}(U:Nat->Prop)(d:Dk.aq)(f:Nat->Po.Pg)(W:World),FK PD Hd Hw w.heap.size g (g+1) U Z w W B d lg vs LL sf f->K2 {tmps:=#[.int .i64 (F:Int),.slice p l.length cap,.int .i64 ar,.int .i64 ag,pv,undef,undef,undef,undef,undef,dU,.pointer (some ⟨B,0,none⟩),.pointer (some ⟨L,0,none⟩),.pointer (some ⟨P,0,none⟩),.bool true,.pointer (some ⟨g,0,none⟩),.pointer (some ⟨(g+1),0,none⟩),.int .i64 16,dT,dS,dR,dQ,dP,dO,undef,undef,undef,undef,undef,undef,undef,undef,.int .i64 (F:Int),.bool false,.bool false,.int .i64 (F:Int),.bool false,.bool false,.bool false,.slice p l.length cap,.int .i64 (l.length:Int),.bool false,.bool false,undef,.tuple #[.pointer (some ⟨B,0,none⟩),.pointer (some ⟨L,0,none⟩),.pointer (some ⟨P,0,none⟩),.bool true],.int .i64 (F:Int),.tuple #[.pointer (some ⟨B,0,none⟩),.pointer (some ⟨L,0,none⟩),.pointer (some ⟨P,0,none⟩),.bool true],.pointer (some ⟨B,0,none⟩),.pointer (some ⟨L,0,none⟩),.pointer (some ⟨P,0,none⟩),.bool true,.bool true,.bool false,.bool false,.pointer (some ⟨B,0,none⟩),.int .i64 ar,.int .u64 (IntKind.u64.wrap ar),.int .u64 (q4:Int),.int .i64 (q4:Int),.int .i64 (1+(q4:Int)),.int .i64 0,.bool false,.bool false,.int .i64 16,.bool false,dN,dM,dL,dK,dJ,dI,dH,dG,dF,dE,dD,dC,dB,dA,dz,dy,dx,dw,dv,du,dt,ds,dr,dq,dp,dm,dk,dj,di,dh,dg,df,de,dd,dc,bH,bF,bE,bD,bC,bB,bA,bu,bt,bs,br,bq,bp,bo,bn,bm,bl,bk,bj,bh,bg,bd,bc,bb,ba,a8,a7,a6,a2,a1,aZ,aX,aU,aT,aS,aR,aQ,aP,cW,cV,cU,cT,cS,cR,cP,cO,cN,cM,cL,cK,cJ,cI,cH,cG,cF,cE,cD,cC,cB,cA,undef,undef,undef,undef,undef,undef,undef,undef,undef,undef,undef,undef,undef,undef,undef,undef,undef,undef,undef,undef,undef,undef,undef,undef,undef,undef,undef,undef,undef,undef,undef,undef,undef,undef,undef,undef,undef,undef,undef,undef,undef,undef,undef,undef,undef,undef,undef,undef,undef,undef,undef,undef,undef,undef,undef,undef,undef,undef,undef,undef,undef,undef,undef,undef,undef,undef,undef,undef,undef,undef],defers:=[]} W:=by
        intro cW cV cU cT cS cR cP cO cN cM cL cK cJ cI cH cG cF cE cD cC cB cA U d f W hE;as_aux_lemma=>
         have HE:=Lib.hid hE;clear hE gL gK fJ;apply gJ;go_wp2_with fail
         refine(R.out.Fk 0 HE.out.dev).mono ?_;rw[show(Dk.arm d 0).2=0 by rw[mZ HE.out.off (by decide) (by decide)]];rintro e w9⟨rfl,U9,b2,bW,b0⟩;obtain⟨dW,ez⟩:=HE.out.Fi I.out R.out b2 bW b0;generalize(Dk.arm d 0).1=d9 at dW ez;have af:=Lib.hid dW;have b7:=Lib.hid ez;clear b2 bW b0 dW ez HE;rw[show((0:Nat):Int)=0 from rfl];go_wp2_with fail
         have ee:=R.out.open_ af.out.dev b7.out (by rw[af.out.la.1,af.out.la.2];exact⟨by decide,by decide,by decide,by decide⟩) af.out.hd (by rw[af.out.ep];decide) (by have:=af.out.stop;omega);rw[af.out.la.1,af.out.la.2,show((0:Nat):Int)=0 from rfl,show((30:Nat):Int)=30 from rfl]at ee;refine ee.mono ?_;clear ee;rintro e gv⟨k,L2,h7,hZ,d10,hk,fl,rfl,hL,hC,ho,hT,hG,hv⟩;have ef:=af.out.opened I.out hk fl hL hC ho hT hG hv;generalize Wl.cut lg k=b8 at ef;have gb:=Lib.hid ef;clear hk fl hL hC ho hT hG hv ef af b7;go_wp2_with fail
         refine(kg gv).mono ?_;rintro e g9⟨rfl,c9⟩;have aN:=Lib.hid (gb.out.below I.out c9);clear c9 gb;go_wp2_with fail
         refine(I.out.mQ F aN.out.log aN.out.calm Po.fq Po.mw aN.out.hw aN.out.ok HF.out.1 (by have:=HF.out;omega)).mono ?_;rintro e g8⟨P2,hY,rfl,fG,hX,c8⟩;have gm:=Lib.hid (aN.out.made I.out fG hX c8);clear fG hX c8 aN;go_wp2_with fail
         go_loopw [27] (fun iv wr=>∃(k:Nat)(U V X:Nat->Prop)(s:Po.S),k<=16/\iv=.int .i64 (k:Int)/\Ek PL PO Hw w.heap.size g (g+1) F U V X Z w wr B L2 P2 d10 b8 s vs LL sf f) (fun iv _=>16-(intOf iv).toNat)
         case atStart=>exact⟨0,_,_,_,_,Nat.zero_le _,rfl,gm.out⟩
         case round=>
          clear gm;obtain⟨k,U,V,X,s,hk,rfl,hI⟩:=hrel;have N:=Lib.hid hI;clear hI;by_cases Q:k<16
          ·as_aux_lemma=>
            have HK:=Lib.hid Q;have ch:(k:Int)<16:=by omega
            have cj:(0:Int)<=(k:Int):=by omega
            have dX:=IntWalk.i64_in ((k:Int)+1) (by omega);clear Q;go_wp2_with fail
            refine(I.out.get k N.out.at_.at_ N.out.calm (by have:=N.out.stop;omega) (by rw[N.out.ar];have:=HK.out;show(k:Int)<16;omega) (Or.inr (Po.fA N.out.pins (by rw[N.out.fr];exact HF.out.1)))).mono ?_;rintro e bI⟨u,d',b9,s',rfl,hO,hg,-,-,hm,-,hq⟩;rw[N.out.clean.1]at hO⊢;obtain⟨U',V',X',fO⟩:=N.out.E8 I.out hg hm hq;obtain⟨x1,dV⟩:∃x1,x1=(f k).1:=⟨_,rfl⟩
            obtain⟨x2,cf⟩:∃x2,x2=(f k).2:=⟨_,rfl⟩
            rw[<-cf]at hO;rw[<-dV];have fe:x2.length=500:=by rw[cf,<-N.out.clean.1];exact((I.out.ud N.out.at_.at_.own).ok k).2.1
            obtain⟨p3,c3,rfl⟩:∃p c,u=.slice p 500 c:=by
             obtain⟨p,c,e,-⟩:=hO.bz.form;rw[fe]at e;exact⟨p,c,e⟩
            have HX:Hid (x1=(f k).1/\x2=(f k).2):=⟨dV,cf⟩
            have gp:=Lib.hid fO;have ga:=Lib.hid hO.bz;clear hO hg hm hq fO dV cf fe N;go_upto_region 49 with(fail)
            obtain⟨W4,cm⟩:∃W4,W4=bI.alloc (.cells #[.int .u64 (x1:Int),.slice p3 500 c3] 59):=⟨_,rfl⟩
            have ea:W4.heap[bI.heap.size]?=some (.cells #[.int .u64 (x1:Int),.slice p3 500 c3] 59 (0,0)):=by rw[cm];exact heap_alloc_last _ _
            have er:Below bI.heap.size bI W4:=by rw[cm];exact aj _ _
            have cx:=Lib.hid (gp.out.below I.out er);have gV:=Lib.hid (ga.out.below er);obtain⟨bx,aK⟩:∃bx,bx=bI.heap.size:=⟨_,rfl⟩
            rw[<-aK]at ea⊢;rw[<-cm];have fY:=Lib.hid ea;obtain⟨cs,-⟩:=cx.out.mem.safe.cell HK.out;obtain⟨a,ha⟩:∃a,a=sf.getD k 0:=⟨_,rfl⟩
            obtain⟨M,hM⟩:∃M,M=LL.getD k []:=⟨_,rfl⟩
            have bS:=cx.out.cc k HK.out;rw[<-ha,<-hM,show f k=(x1,x2)by rw[HX.out.1,HX.out.2]]at bS;rw[<-ha]at cs;have aD:=Lib.hid bS;have HM:=Lib.hid hM;have gN:Hid (x1<b8.stop):=by show _<_;rw[HX.out.1];exact cx.out.all k
            have g3:Hid (a<M.length):=by
             show _<_;rcases Nat.lt_or_ge a M.length with h|h
             ·exact h
             ·rw[List.drop_eq_nil_of_le h]at bS;cases bS
            clear er ea cm aK gp ga bS hM ha;go_wp2_with fail
            go_loopw [30,31] (fun hv jv wr=>∃(j:Nat)(b:Bool),a<=j/\j<=M.length/\hv=.bool b/\jv=.int .i64 (j:Int)/\(b=false->(x1,x2)∈M.drop j)/\Below W4.heap.size W4 wr) (fun _ jv _=>M.length-(intOf jv).toNat)
            case atStart=>exact⟨a,false,Nat.le_refl _,Nat.le_of_lt g3.out,rfl,rfl,fun _=>aD.out,Below.refl _ _⟩
            case round=>
             clear cs;obtain⟨j,b,fz,fh,rfl,rfl,fa,bV⟩:=hrel;have aw:=Lib.hid (cx.out.below I.out bV);have gU:=Lib.hid (gV.out.below bV);have e0:wr.heap[bx]?=some (.cells #[.int .u64 (x1:Int),.slice p3 500 c3] 59 (0,0)):=(bV.block bx (lt_of_block fY.out)).trans fY.out;have aC:=Lib.hid e0;have eG:=Lib.hid bV;have gf:=Lib.hid fa;have eH:Hid (a<=j/\j<=M.length):=⟨fz,fh⟩
             have bM:=aw.out.mem.eP.at_ k HK.out (by have:=HK.out;omega);rw[<-HM.out]at bM;obtain⟨cg,-⟩:=aw.out.mem.eP.cell HK.out;obtain⟨pk,ck,bK⟩:=bM.slice;rw[bK]at cg bM;have gS:=Lib.hid bM;have g0:=Lib.hid cg;clear fz fh fa bV e0 bM bK;by_cases Q:j<M.length
             ·as_aux_lemma=>
               have H:=Lib.hid Q;have fi:(j:Int)<(M.length:Int):=by omega
               have fj:(0:Int)<=(j:Int):=by omega
               have hf:=IntWalk.i64_in ((j:Int)+1) (by
                have hl:=aw.out.mem.qg k HK.out;rw[<-HM.out]at hl;omega)
               clear Q;cases b with
               |true=>as_aux_lemma=>
                go_upto_region 53 with(fail)
                go_quiet (fail)
                have ft:Below W4.heap.size W4 (wr.drewN nq):=eG.out.goN nq;have g1:=Lib.hid ft;clear ft;go_wp2_with fail
                go_roundw
                case rel=>exact⟨j+1,true,by have:=eH.out.1;omega,H.out,rfl,by go_num,(fun h=>by cases h),g1.out⟩
                case measure=>have:=H.out;simp[intOf];omega
               |false=>as_aux_lemma=>
                obtain⟨gk,uy,rfl,cn,fT,eu⟩:=gS.out.at H.out;obtain⟨y,hy⟩:∃y,y=M.getD j (0,[]):=⟨_,rfl⟩
                rw[<-hy]at cn eu;have g6:=Lib.hid cn;have g4:=Lib.hid fT;have gP:=Lib.hid eu.bz;have HY:=Lib.hid hy;have gl:Hid ((k:Int)<16/\(0:Int)<=(k:Int)):=⟨ch,cj⟩
                have b5:Hid ((j:Int)<(M.length:Int)/\(0:Int)<=(j:Int)):=⟨fi,fj⟩
                have b6:Hid (g<wr.heap.size/\gk<wr.heap.size/\bx<wr.heap.size):=⟨lt_of_block aw.out.mem.eP.row,block_lt_of_cell cn,lt_of_block aC.out⟩
                go_upto_region 53 with(fail)
                clear cn fT eu hy cg ch cj fi fj;refine Ord.AD (Al g bx gk k j x1 (.slice p3 500 c3) (.slice (some ⟨gk,0,none⟩) M.length ck) y.1 uy (Pg.same x1 x2 y.1 y.2)) (FL wr) (fun _ _=>True) (by kernel_rfl) (by kernel_rfl) ?fr53 ?hfr53 (fun _ _ _ _ _ h=>h) (fun xs hx=>⟨(Below.refl _ _).kH,fun _=>(hx 11).trans rfl⟩) ?he53 ?hend53;case hfr53=>
                 intro xs;simp only[Ord.fill,Act.put,List.setIfInBounds_toArray,List.set_cons_zero,List.set_cons_succ];rfl
                case he53=>
                 iterate 12 (refine Ord.aa (fun D xs w2 hD hC hP hR E K G=>?_) ?_;rotate_left)
                 rotate_left
                 ·clear E;have h5:D 11=false:=by
                   cases e:D 11 with
                   |false=>rfl
                   |true=>have:=Ord.aL hC 11 0 (by kernel_rfl) e;rw[hD]at this;cases this
                  have h6:=hR.2 h5;simp only[h6]at G⊢;go_simp;exact G _ _ ⟨_,rfl,trivial,hR.go 0 _ (by decide) (Below.refl _ _),rfl⟩
                 ·have q0:=Ord.ab _ E 0 (by decide);simp only[Al]at q0;simp only[q0]at G;clear E;go_simp;exact G _ _ ⟨_,rfl,trivial,hR.go 1 _ (by decide) (Below.refl _ _),rfl⟩
                 ·have O:=Ord.ab _ E 1 (by decide);simp only[Al]at O;simp only[O]at G;clear E;have ca:=ah ((hR.1.block bx b6.out.2.2).trans aC.out) 0 rfl;have cb:=ah ((hR.1.block bx b6.out.2.2).trans aC.out) 1 rfl;go_simp;exact G _ _ ⟨_,rfl,trivial,hR.go 2 _ (by decide) (Below.refl _ _),rfl⟩
                 ·have O:=Ord.ab _ E 1 (by decide);simp only[Al]at O;simp only[O]at G;clear E;go_simp;exact G _ _ ⟨_,rfl,trivial,hR.go 3 _ (by decide) (Below.refl _ _),rfl⟩
                 ·have q3:=Ord.ab _ E 3 (by decide);have O:=Ord.ab _ E 1 (by decide);simp only[Al]at q3 O;simp only[q3,O]at G;clear E;have en:=gl.out.1;have ek:=gl.out.2;go_simp;exact G _ _ ⟨_,rfl,trivial,hR.go 4 _ (by decide) (Below.refl _ _),rfl⟩
                 ·have q4:=Ord.ab _ E 4 (by decide);have O:=Ord.ab _ E 1 (by decide);simp only[Al]at q4 O;simp only[q4,O]at G;clear E;have ca:=(hR.1.cell (p:=⟨g,k,none⟩) b6.out.1).trans g0.out;go_simp;exact G _ _ ⟨_,rfl,trivial,hR.go 5 _ (by decide) (Below.refl _ _),rfl⟩
                 ·have O:=Ord.ab _ E 1 (by decide);simp only[Al]at O;simp only[O]at G;clear E;go_simp;exact G _ _ ⟨_,rfl,trivial,hR.go 6 _ (by decide) (Below.refl _ _),rfl⟩
                 ·have q5:=Ord.ab _ E 5 (by decide);have q6:=Ord.ab _ E 6 (by decide);have O:=Ord.ab _ E 1 (by decide);simp only[Al]at q5 q6 O;simp only[q5,q6,O]at G;clear E;have en:=b5.out.1;have ek:=b5.out.2;go_simp;exact G _ _ ⟨_,rfl,trivial,hR.go 7 _ (by decide) (Below.refl _ _),rfl⟩
                 ·have q7:=Ord.ab _ E 7 (by decide);have O:=Ord.ab _ E 1 (by decide);simp only[Al]at q7 O;simp only[q7,O]at G;clear E;have ca:=(hR.1.cell (p:=⟨gk,j*2,none⟩) b6.out.2.1).trans g6.out;have cb:=(hR.1.cell (p:=⟨gk,j*2+1,none⟩) b6.out.2.1).trans g4.out;go_simp;exact G _ _ ⟨_,rfl,trivial,hR.go 8 _ (by decide) (Below.refl _ _),rfl⟩
                 ·have q2:=Ord.ab _ E 2 (by decide);have q8:=Ord.ab _ E 8 (by decide);have O:=Ord.ab _ E 1 (by decide);simp only[Al]at q2 q8 O;simp only[q2,q8,O]at G;clear E;go_simp;have hc:=tI x1 y.1 (.slice p3 500 c3) uy x2 y.2 w2 (gU.out.below hR.1) (gP.out.below hR.1);refine hc.mono ?_;rintro e w'⟨rfl,hb⟩;exact G _ _ ⟨_,rfl,trivial,hR.go 9 _ (by decide) hb,rfl⟩
                 ·have O:=Ord.ab _ E 1 (by decide);have q9:=Ord.ab _ E 9 (by decide);simp only[Al]at O q9;simp only[O,q9]at G;clear E;go_simp;exact G _ _ ⟨_,rfl,trivial,hR.go 10 _ (by decide) (Below.refl _ _),rfl⟩
                 ·have J:=Ord.ab _ E 10 (by decide);simp only[Al]at J;simp only[J]at G;clear E;go_simp;exact G _ _ ⟨_,rfl,trivial,hR.last _,rfl⟩
                 exact Ord.az
                case hend53=>
                 intro D xs w9 hR hF;have e:=fun i hi=>(hF i hi).2;have f0:=e 0 (by decide);have f1:=e 1 (by decide);have f2:=e 2 (by decide);have f3:=e 3 (by decide);have f4:=e 4 (by decide);have f5:=e 5 (by decide);have f6:=e 6 (by decide);have f7:=e 7 (by decide);have f8:=e 8 (by decide);have f9:=e 9 (by decide);have f10:=e 10 (by decide);have f11:=e 11 (by decide);simp only[Al]at f0 f1 f2 f3 f4 f5 f6 f7 f8 f9 f10 f11;clear e hF;simp only[f0,f1,f2,f3,f4,f5,f6,f7,f8,f9,f10,f11];clear f0 f1 f2 f3 f4 f5 f6 f7 f8 f9 f10 f11;have eB:Hid (Below W4.heap.size W4 w9):=eG.out.trans (hR.1.mono eG.out.size);obtain⟨r,hr⟩:∃r,r=Pg.same x1 x2 y.1 y.2:=⟨_,rfl⟩
                 have gQ:=Lib.hid hr;rw[<-hr];clear hr hR;go_wp2_with fail
                 go_roundw
                 case rel=>
                  refine⟨j+1,r,by have:=eH.out.1;omega,H.out,rfl,by go_num,fun h=>?_,eB.out⟩;have h1:=gf.out rfl;have gx:y=M[j]'H.out:=by rw[HY.out,List.getD_eq_getElem?_getD,List.getElem?_eq_getElem H.out];rfl
                  rw[List.drop_eq_getElem_cons H.out,<-gx]at h1;rcases List.mem_cons.1 h1 with h2|h2
                  ·rw[gQ.out,<-h2,Pg.qQ]at h;cases h
                  ·exact h2
                 case measure=>have:=H.out;simp[intOf];omega
             ·as_aux_lemma=>
               obtain rfl:j=M.length:=by have:=eH.out.2;omega
               obtain rfl:b=true:=by
                cases b with
                |true=>rfl
                |false=>have:=gf.out rfl;rw[List.drop_eq_nil_of_le (Nat.le_refl _)]at this;cases this
               have gj:Hid (bx<wr.heap.size):=lt_of_block aC.out;clear Q;by_cases h0:x1=0
               ·as_aux_lemma=>
                 subst h0;have cb:=ah aC.out 0 rfl;go_upto_region 54 with(fail)
                 go_quiet (fail)
                 have gZ:=Lib.hid (aw.out.below I.out ((Below.refl _ _).goN nq));go_wp2_with fail
                 go_roundw
                 case rel=>exact⟨k+1,_,_,_,_,HK.out,by go_num,gZ.out⟩
                 case measure=>have:=HK.out;simp[intOf];omega
               ·as_aux_lemma=>
                 have H0:Hid (0<x1):=by show 0<x1;omega
                 clear h0;go_upto_region 54 with(fail)
                 refine Ord.walk (sV bx x1 L2 b8.stop) (fun _ _ w'=>Below wr.heap.size wr w') (fun _ _=>True) (by kernel_rfl) (by kernel_rfl) ?fr54 ?hfr54 (fun _ _ _ _ _ h=>h) (fun xs=>(Below.refl _ _).kH) ?he54 ?hend54;case hfr54=>
                  intro xs;simp only[Ord.fill,Act.put,List.setIfInBounds_toArray,List.set_cons_zero,List.set_cons_succ];rfl
                 case he54=>
                  iterate 18 (refine Ord.aa (fun D xs w2 hD hC hP hR E K G=>?_) ?_;rotate_left)
                  rotate_left
                  ·clear E;go_simp;exact G _ _ ⟨_,rfl,trivial,hR,rfl⟩
                  ·have q0:=Ord.ab _ E 0 (by decide);simp only[sV]at q0;simp only[q0]at G;clear E;go_simp;exact G _ _ ⟨_,rfl,trivial,hR,rfl⟩
                  ·have O:=Ord.ab _ E 1 (by decide);simp only[sV]at O;simp only[O]at G;clear E;go_simp;exact G _ _ ⟨_,rfl,trivial,hR,rfl⟩
                  ·have q2:=Ord.ab _ E 2 (by decide);simp only[sV]at q2;simp only[q2]at G;clear E;go_simp;exact G _ _ ⟨_,rfl,trivial,hR,rfl⟩
                  ·have q3:=Ord.ab _ E 3 (by decide);have q2:=Ord.ab _ E 2 (by decide);simp only[sV]at q3 q2;simp only[q3,q2]at G;clear E;go_simp;exact G _ _ ⟨_,rfl,trivial,hR,rfl⟩
                  ·have q2:=Ord.ab _ E 2 (by decide);have q4:=Ord.ab _ E 4 (by decide);simp only[sV]at q2 q4;simp only[q2,q4]at G;clear E;go_simp;exact G _ _ ⟨_,rfl,trivial,hR,rfl⟩
                  ·have q5:=Ord.ab _ E 5 (by decide);simp only[sV]at q5;simp only[q5]at G;clear E;go_simp;exact G _ _ ⟨_,rfl,trivial,hR,rfl⟩
                  ·have q6:=Ord.ab _ E 6 (by decide);simp only[sV]at q6;simp only[q6]at G;clear E;go_simp;exact G _ _ ⟨_,rfl,trivial,hR,rfl⟩
                  ·have q7:=Ord.ab _ E 7 (by decide);have q6:=Ord.ab _ E 6 (by decide);simp only[sV]at q7 q6;simp only[q7,q6]at G;clear E;have cb:=ah ((hR.block bx gj.out).trans aC.out) 0 rfl;go_simp;exact G _ _ ⟨_,rfl,trivial,hR,rfl⟩
                  ·have q8:=Ord.ab _ E 8 (by decide);have q6:=Ord.ab _ E 6 (by decide);simp only[sV]at q8 q6;simp only[q8,q6]at G;clear E;have h0:=H0.out;have hS:(0:Int)<(x1:Int):=by omega
                   go_simp;exact G _ _ ⟨_,rfl,trivial,hR,rfl⟩
                  ·have q9:=Ord.ab _ E 9 (by decide);have q6:=Ord.ab _ E 6 (by decide);simp only[sV]at q9 q6;simp only[q9,q6]at G;clear E;go_simp;exact G _ _ ⟨_,rfl,trivial,hR,rfl⟩
                  ·have J:=Ord.ab _ E 10 (by decide);simp only[sV]at J;simp only[J]at G;clear E;go_simp;exact G _ _ ⟨_,rfl,trivial,hR,rfl⟩
                  ·have eQ:=Ord.ab _ E 11 (by decide);have J:=Ord.ab _ E 10 (by decide);simp only[sV]at eQ J;simp only[eQ,J]at G;clear E;go_simp;refine(I.out.end_ (aw.out.below I.out hR).at_.at_.log (by have:=aw.out.stop;omega)).mono ?_;rintro e w'⟨rfl,hb⟩;exact G _ _ ⟨_,rfl,trivial,hR.trans (hb.mono hR.size),rfl⟩
                  ·have J:=Ord.ab _ E 10 (by decide);simp only[sV]at J;simp only[J]at G;clear E;go_simp;exact G _ _ ⟨_,rfl,trivial,hR,rfl⟩
                  ·have eL:=Ord.ab _ E 13 (by decide);have J:=Ord.ab _ E 10 (by decide);simp only[sV]at eL J;simp only[eL,J]at G;clear E;have cb:=ah ((hR.block bx gj.out).trans aC.out) 0 rfl;go_simp;exact G _ _ ⟨_,rfl,trivial,hR,rfl⟩
                  ·have eM:=Ord.ab _ E 12 (by decide);have eK:=Ord.ab _ E 14 (by decide);have J:=Ord.ab _ E 10 (by decide);simp only[sV]at eM eK J;simp only[eM,eK,J]at G;clear E;have hs:=gN.out;have hj:¬((b8.stop:Int)<=(x1:Int)):=by omega
                   go_simp;exact G _ _ ⟨_,rfl,trivial,hR,rfl⟩
                  ·have J:=Ord.ab _ E 10 (by decide);have eJ:=Ord.ab _ E 15 (by decide);have q6:=Ord.ab _ E 6 (by decide);simp only[sV]at J eJ q6;simp only[J,eJ,q6]at G;clear E;go_simp;exact G _ _ ⟨_,rfl,trivial,hR,rfl⟩
                  ·have q6:=Ord.ab _ E 6 (by decide);have eI:=Ord.ab _ E 16 (by decide);simp only[sV]at q6 eI;simp only[q6,eI]at G;clear E;go_simp;exact G _ _ ⟨_,rfl,trivial,hR,rfl⟩
                  exact Ord.az
                 case hend54=>
                  intro D xs w9 hR hF;have f17:=(hF 17 (by decide)).2;simp only[sV]at f17;clear hF;simp only[f17];clear f17;have eB:=Lib.hid (aw.out.below I.out hR);clear hR;go_wp2_with fail
                  go_roundw
                  case rel=>exact⟨k+1,_,_,_,_,HK.out,by go_num,eB.out⟩
                  case measure=>have:=HK.out;simp[intOf];omega
          ·as_aux_lemma=>
            obtain rfl:k=16:=by omega
            clear Q hk;rw[show((16:Nat):Int)=16 from rfl];go_wp2_with fail
            refine(kE I.out _).mono ?_;rintro e wz⟨rfl,gI⟩;go_wp2_with fail
            go_ret;exact⟨rfl,N.out.mem.wX.trans (gI.mono N.out.mem.wX.size)⟩
       rintro e w8(⟨rfl,U8,d8,f8,b3,bZ,e7,bO,eX,c4,fs,bX,b1⟩|⟨eg,k8,U8,d8,rfl,hQ,b3,bZ,bO,bX,b1⟩)
       ·obtain⟨f9,fC⟩:=ai.out.Bu R.out b3 bZ e7 bO eX c4 fs bX b1;have af:=Lib.hid fC;clear b3 bZ e7 bO eX c4 fs bX b1 fC ai;go_wp2_with fail
        exact b4 _ _ _ _ af.out
       ·have aO:=Lib.hid (ai.out.again b3 bZ bO bX b1);have fg:¬((k8:Int)=0):=by omega
        clear b3 bZ bO bX b1 ai eg;go_wp2_with fail
        have bR:=R.out.ay pv ps aO.out.dev (cr.out.below aO.out.mem.wX) (fun h0 b hb hu=>by
         have h1:=aO.out.fu b hu;have h2:=cr.out.fS h0 b hb;omega)
        refine bR.mono ?_;clear bR;rintro e w9⟨rfl,U9,b2,bW,b0⟩;have gg:=Lib.hid (aO.out.ay I.out b2 bW b0);have b7:=Lib.hid (aO.out.bG.ay ps);clear b2 bW b0 aO fg;go_wp2_with fail
        refine(kg w9).mono ?_;rintro e wa⟨rfl,fw⟩;have ao:=Lib.hid (gg.out.below I.out fw);clear fw gg;go_wp2_with fail
        refine(R.out.ln ao.out.dev ao.out.bG ao.out.off Po.fq Po.mw (eN ao.out.la) ao.out.hd ao.out.hp ao.out.idle).mono ?_;rintro e wb(⟨rfl,Ub,db,fb,fP,fH,e5,fk,eW,c2,fp,fD,fK⟩|⟨eg,-⟩)
        ·obtain⟨fc,fB⟩:=ao.out.Bu R.out fP fH e5 fk eW c2 fp fD fK;have gO:=Lib.hid fB;clear fP fH e5 fk eW c2 fp fD fK fB ao b7;go_wp2_with fail
         exact b4 _ _ _ _ gO.out
        ·exact absurd b7.out eg
     clear b5;obtain⟨k,U,V,X,d,lg,s,Z,vs,LL,sf,hk,rfl,hI⟩:=hrel;have N:=Lib.hid hI;clear hI;by_cases Q:k<l.length
     case neg=>as_aux_lemma=>
      obtain rfl:k=l.length:=by omega
      go_wp2_with fail
      have:=N.out.ends I.out R.out (by have:=Y.out;omega);exact aH _ _ _ _ _ _ _ _ _ this
     have H:=Lib.hid Q;obtain⟨b,off,rfl,hx⟩:=gT.out (by omega);have cd:=hx k Q;have ch:(k:Int)<(l.length:Int):=by omega
     have cj:(0:Int)<=(k:Int):=by omega
     generalize l.getD k default=o at*
     obtain⟨kd,ff⟩:∃z,z=o.kind:=⟨_,rfl⟩
     obtain⟨on,e4⟩:∃z,z=o.n:=⟨_,rfl⟩
     have C0:=Lib.hid cd.c0;have C1:=Lib.hid cd.c1;have gr:Hid (b<w.heap.size):=block_lt_of_cell cd.c1;rw[<-ff]at C0;rw[<-e4]at C1;obtain⟨n,hn⟩:∃n,Po.wY on=n:=⟨_,rfl⟩
     have gE:(IntKind.u64.wrap on).tmod 16=(n:Int):=by rw[<-hn];exact Po.DO on
     have aJ:n<16:=by rw[<-hn];exact Po.DN on
     have gD:IntKind.i64.wrap (n:Int)=(n:Int):=IntWalk.i64_in _ (by omega);have HN:=Lib.hid aJ;have c0:=(N.out.mem.wX.cell (p:=⟨b,off+k*4,none⟩) gr.out).trans C0.out;have c1:=(N.out.mem.wX.cell (p:=⟨b,off+k*4+1,none⟩) gr.out).trans C1.out;clear hx cd ff e4 hn aJ Q;by_cases h4:kd=4
     case pos=>as_aux_lemma=>
      subst h4;go_wp2_with fail
      refine(I.out.flush n N.out.at_.at_ N.out.bG (by have:=N.out.stop;have:=Y.out;have:=H.out;omega) (by rw[N.out.ar];have:=HN.out;show(n:Int)<16;omega)).mono ?_;rintro e w3(⟨d',b9,s',rfl,bJ,bY,-,bN,hs⟩|⟨-,rfl,bP⟩)
      ·as_aux_lemma=>
        obtain⟨U3,V3,X3,ad,fm⟩:=N.out.ae I.out bJ bY bN hs (Nat.le_succ k);have ew:=ad.F6 I.out HN.out fm;obtain⟨cg,-⟩:=ad.mem.eP.cell HN.out;obtain⟨pk,ck,bK⟩:=(ad.mem.eP.at_ n HN.out (by have:=HN.out;omega)).slice;rw[bK]at cg;obtain⟨hV,hU⟩:=ad.mem.safe.cell HN.out;obtain⟨m,hm⟩:∃m,m=(LL.getD n []).length:=⟨_,rfl⟩
        have gG:0<m:=by rw[hm];have:=ad.sl n HN.out;omega
        have gF:m<=100:=by rw[hm];exact ad.mem.qg n HN.out
        have hN:IntKind.i64.wrap ((m:Int)-1)=((m-1:Nat):Int):=by rw[IntWalk.i64_in _ (by omega)];omega
        rw[<-hm]at cg ew;have gY:=Lib.hid ew;have hH:(n:Int)<16:=by have:=HN.out;omega
        have hJ:(0:Int)<=(n:Int):=by omega
        have dX:=IntWalk.i64_in ((k:Int)+1) (by have:=Y.out;have:=H.out;omega);clear ad ew fm bJ bY bN hs N hm gG gF bK c0 c1;go_wp2_with fail
        go_roundw
        case rel=>exact⟨k+1,U3,V3,X3,d',b9,s',Z,vs,LL,_,H.out,by go_num,gY.out⟩
        case measure=>have:=H.out;simp[intOf];omega
      ·as_aux_lemma=>
        obtain⟨U3,d3,gw,cc,hE⟩:=N.out.cut I.out (by have:=Y.out;have:=H.out;omega) bP;have HE:=Lib.hid hE;clear hE bP N;go_wp2_with fail
        exact aH _ _ _ _ _ _ _ _ _ HE.out
     case neg=>
     have H4:=Lib.hid h4;obtain⟨t,ht⟩:∃t,t=k+1:=⟨_,rfl⟩
     have ej:(k:Int)+1=(t:Int):=by omega
     have gy:=IntWalk.i64_in ((k:Int)+1) (by have:=Y.out;have:=H.out;omega);rw[ej]at gy;have hh:IntKind.u64.wrap (t:Int)=(t:Int):=by rw[IntKind.wrap_u64,Int.emod_eq_of_lt (by omega) (by have:=Y.out;have:=H.out;omega)]
     have HT:=Lib.hid ht;have gi:=Lib.hid ej;have dZ:t<18446744073709551616:=by have:=Y.out;have:=H.out;omega
     have h9:=Lib.hid dZ;have hc:=I.out.append (Wl.dn t) (.slice none 0 0) (.slice none 0 0) (.slice none 0 0) (.slice none 0 0) (.slice none 0 0) N.out.at_.at_.log (Gn wr dZ) (Wl.Fh t) (by rw[N.out.ep];decide) (by have:=N.out.stop;have:=Y.out;have:=H.out;omega);rw[show cz (Wl.dn t) (.slice none 0 0) (.slice none 0 0) (.slice none 0 0) (.slice none 0 0) (.slice none 0 0)=.agg #[.int .i64 4,.int .u64 0,.int .u32 0,.int .u64 (t:Int),.int .u32 0,.int .u16 0,.slice none 0 0,.slice none 0 0,.slice none 0 0,.int .u64 0,.int .u64 0,.bool false,.int .u64 0,.slice none 0 0,.slice none 0 0]from rfl]at hc;have hM:=Wl.Fg (s:=lg) (t:=t) (by omega);clear ht ej dZ;by_cases aF:(Wl.size (Wl.bf lg (Wl.dn t)):Int)<=Wl.left lg
     case neg=>as_aux_lemma=>
      rw[Wl.nL hM aF,show((0:Nat):Int)=0 from rfl,show((5:Nat):Int)=5 from rfl]at hc;have aD:=Lib.hid hc;clear hc hM aF;have h4:=H4.out;go_wp2_with fail
      rw[gi.out];refine aD.out.mono ?_;rintro e y⟨rfl,V',hL,hT,hG⟩;have hi:=N.out.append I.out hL hT hG (Nat.le_refl _) (Nat.le_refl _) rfl rfl rfl (Nat.le_succ k) (by have:=N.out.stop;omega);have HE:=Lib.hid (hi.ends I.out R.out (by have:=Y.out;have:=H.out;omega));clear aD hL hT hG hi c0 c1 N;go_wp2_with fail
      exact aH _ _ _ _ _ _ _ _ _ HE.out
     case pos=>as_aux_lemma=>
      rw[Wl.nM hM aF,show((0:Nat):Int)=0 from rfl]at hc;have aD:=Lib.hid hc;have cq:Hid ((Wl.app lg (Wl.dn t)).stop=lg.stop+27):=by show lg.stop+Wl.size _=_;rw[Wl.DK]
      clear hc hM aF;have h4:=H4.out;go_wp2_with fail
      rw[gi.out];refine aD.out.mono ?_;rintro e y6⟨rfl,V',hL,hT,hG⟩;obtain⟨eR,ei⟩:∃x,x=Wl.app lg (Wl.dn t):=⟨_,rfl⟩
      have aI:eR.stop=lg.stop+27:=by rw[ei];exact cq.out
      have c7:=N.out.qg;have hi:=N.out.append I.out hL hT hG (Nat.le_refl _) (by rw[cq.out];omega) rfl rfl rfl (Nat.le_succ k) (by rw[cq.out];have:=N.out.stop;omega);rw[<-ei]at hi;obtain⟨aB,fy⟩:∃a,a=lg.stop:=⟨_,rfl⟩
      rw[<-fy]at aI⊢;have fW:Hid (eR.stop=aB+27):=aI;have cw:=Lib.hid hi;have gn:=Lib.hid c7;clear aD hL hT hG hi aI ei c7 fy cq N c0 c1 gE gD h4;go_wp2_with fail
      refine(lD ((k:Int)+1) y6).mono ?_;rintro e y7⟨g2,rfl,gH,hO,hb⟩;have eD:=Lib.hid (cw.out.below I.out hb);have eF:Hid (w.heap.size<=g2/\g2<y7.heap.size/\∀i,eO U V' X i->i<g2):=Lib.hid ⟨by have:=cw.out.mem.bw;omega,(World.ownsRow.lt hO.own g2 rfl).2,fun i hi=>by have:=I.out.lt cw.out.at_.at_ i hi;omega⟩;have fZ:=Lib.hid (hO.from (Nat.zero_le _));clear gH hO hb cw;go_upto_region 26 with(fail)
      obtain⟨W,hW⟩:∃W,W=y7.alloc (.cells #[.int .u64 (aB:Int),.slice (some ⟨g2,0,none⟩) 500 500] 59):=⟨_,rfl⟩
      have av:W.heap[y7.heap.size]?=some (.cells #[.int .u64 (aB:Int),.slice (some ⟨g2,0,none⟩) 500 500] 59 (0,0)):=by rw[hW];exact heap_alloc_last _ _
      have aK:Below y7.heap.size y7 W:=by rw[hW];exact aj _ _
      have cp:Hid (∀i,Z i->i<y7.heap.size):=fun i hi=>(eD.out.mem.zb i hi).2;have au:=Lib.hid (eD.out.below I.out aK);have ct:=Lib.hid (fZ.out.below aK);obtain⟨bx,bT⟩:∃bx,bx=y7.heap.size:=⟨_,rfl⟩
      rw[<-bT]at av cp⊢;rw[<-hW];have eE:Hid (g2<bx/\bx<W.heap.size):=⟨by rw[bT];exact eF.out.2.1,lt_of_block av⟩
      have eA:=Lib.hid av;obtain⟨vn,dY⟩:∃vn,vn=vs.getD n undef:=⟨_,rfl⟩
      have an:=Lib.hid dY;obtain⟨x,eU⟩:∃x:Po.Pg,x=(aB,Po.eZ ((k:Int)+1)):=⟨_,rfl⟩
      have fV:=Lib.hid eU;have fX:Hid (∀i,Ap g vn i->i<bx/\i≠g2\/i=g2/\False):=fun i hi=>by
       obtain⟨l0,k1,-,k3,-⟩:=au.out.mem.eP.at_ n HN.out (by have:=HN.out;omega);rcases hi with rfl|hi
       ·refine Or.inl ⟨cp.out _ au.out.mem.eP.zg,fun e=>?_⟩;have h1:=au.out.mem.eP.row;rcases ct.out.own.2 with⟨h2,-⟩|⟨g5,c5,gM,h2,-,h3,-⟩
        ·cases h2
        ·simp only[Value.slice.injEq,Option.some.injEq,Addr.mk.injEq]at h2;rw[<-h2.1.1,<-e,h1]at h3;simp at h3
       ·rw[dY]at hi;refine Or.inl ⟨cp.out _ (k3 i hi),fun e=>?_⟩;obtain⟨-,cs,h1⟩:=kt k1 hi;rcases ct.out.own.2 with⟨h2,-⟩|⟨g5,c5,gM,h2,-,h3,-⟩
        ·cases h2
        ·simp only[Value.slice.injEq,Option.some.injEq,Addr.mk.injEq]at h2;rw[<-h2.1.1,<-e,h1]at h3;simp at h3
      have aM:Hid (∀i,Ap g vn i->i<W.heap.size/\i≠bx/\i≠g2):=fun i hi=>by
       have:=eE.out;rcases fX.out i hi with h|h
       ·exact⟨by omega,by omega,h.2⟩
       ·exact h.2.elim
      have fU:Hid (∀i,Z i->i<W.heap.size):=fun i hi=>(au.out.mem.zb i hi).2;clear hW av aK bT dY eU eD fZ cp fX;refine Ord.walk (CL g n vn aB g2 W) (zZ W Z g n g2 vs LL x) (Touch (Ap g vn)) (by kernel_rfl) (by kernel_rfl) ?fr26 ?hfr26 (fun j u w1 w2 ht h=>h.bQ ht fun i hi=>(aM.out i hi).1) ?hR26 ?he26 ?hend26;case hfr26=>
       intro xs;simp only[Ord.fill,Act.put,List.setIfInBounds_toArray,List.set_cons_zero,List.set_cons_succ];rfl
      case hR26=>
       intro xs;exact⟨(Touch.refl _ _).drew,fun _=>(au.out.mem.eP).al (T:=fun _=>False) ((Touch.refl _ _).drew) fun _ _ h=>h,(fun e=>by cases e),(fun e=>by cases e),(fun e=>by cases e),(fun e=>by cases e)⟩
      case he26=>
       iterate 9 (refine Ord.aa (fun D xs w2 hD hC hP hR E K G=>?_) ?_;rotate_left)
       rotate_left
       ·clear E;go_simp;exact G _ _ ⟨_,rfl,Touch.refl _ _,hR.quiet 0 _ (by decide),rfl⟩
       ·clear E;go_simp;exact G _ _ ⟨_,rfl,Touch.refl _ _,hR.quiet 1 _ (by decide),rfl⟩
       ·have O:=Ord.ab _ E 1 (by decide);simp only[CL]at O;simp only[O]at G;have en:(n:Int)<16:=by have:=HN.out;omega
        have ek:(0:Int)<=(n:Int):=by omega
        clear E;go_simp;exact G _ _ ⟨_,rfl,Touch.refl _ _,hR.quiet 2 _ (by decide),rfl⟩
       ·have q2:=Ord.ab _ E 2 (by decide);simp only[CL]at q2;simp only[q2]at G;have h6:D 6=false:=by
         cases e:D 6 with
         |false=>rfl
         |true=>have:=Ord.aL hC 6 3 (by kernel_rfl) e;rw[hD]at this;cases this
        obtain⟨cv,-⟩:=(hR.s0 h6).cell HN.out;rw[<-an.out]at cv;clear E;go_simp;exact G _ _ ⟨_,rfl,Touch.refl _ _,hR.quiet 3 _ (by decide),rfl⟩
       ·have ca:=ah (hR.al.row eA.out (fun hc=>(aM.out bx (by rw[an.out];exact hc)).2.1 rfl)) 0 rfl;have cb:=ah (hR.al.row eA.out (fun hc=>(aM.out bx (by rw[an.out];exact hc)).2.1 rfl)) 1 rfl;clear E;go_simp;exact G _ _ ⟨_,rfl,Touch.refl _ _,hR.quiet 4 _ (by decide),rfl⟩
       ·have q4:=Ord.ab _ E 4 (by decide);simp only[CL]at q4;simp only[q4]at G;have h6:D 6=false:=by
         cases e:D 6 with
         |false=>rfl
         |true=>have:=Ord.aL hC 6 5 (by kernel_rfl) e;rw[hD]at this;cases this
        clear E;go_simp;refine G _ _ ⟨_,rfl,Touch.aE ((Below.refl _ w2).alloc (Nat.le_refl _) _),(hR.new ((Below.refl _ w2).alloc (Nat.le_refl _) _) h6 fU.out).quiet 5 _ (by decide),⟨w2.heap.size,rfl,hR.al.size,ah (heap_alloc_last _ _) 0 rfl,ah (heap_alloc_last _ _) 1 rfl⟩⟩
       ·have q3:=Ord.ab _ E 3 (by decide);simp only[CL]at q3;obtain⟨q,q5,hz,gA,ed⟩:=Ord.ab _ E 5 (by decide);clear E;have hu:Own 0 w2 (.slice (some ⟨g2,0,none⟩) 500 500) (Po.eZ ((k:Int)+1)):=ct.out.al hR.al (fun b hb hc=>by
         simp only[Value.ownBlock,Option.some.injEq]at hb;rw[<-an.out]at hc;exact(aM.out b hc).2.2 hb.symm)
        have gB:=(hR.s0 hD).at_ n HN.out (by have:=HN.out;omega);obtain⟨v6,w6,cX,ax,da,-,gC⟩:=gB.append 36 gA ed hu (by have:=au.out.mem.qg n HN.out;omega);rw[<-an.out]at cX ax da;refine(if_pos (by rfl)).mpr ?_;refine wp_append_run _ _ _ _ rfl _ _ q3 q5 v6 w6 cX ?_;refine G _ _ ⟨v6,rfl,⟨ax.os,ax.tape,ax.output,ax.size,fun i hi hs=>ax.block i hi fun e=>hs (Or.inr e.symm)⟩,hR.app (u:=.slice (some ⟨g2,0,none⟩) 500 500) HN.out hD (by rw[<-an.out];exact ax) (by rw[<-an.out];exact da) (fun b hb=>by simp only[Value.ownBlock,Option.some.injEq]at hb;exact hb.symm) (by rw[fV.out];exact gC),trivial⟩
       ·have q0:=Ord.ab _ E 0 (by decide);simp only[CL]at q0;simp only[q0]at G;have en:(n:Int)<16:=by have:=HN.out;omega
        have ek:(0:Int)<=(n:Int):=by omega
        clear E;go_simp;exact G _ _ ⟨_,rfl,Touch.refl _ _,hR.quiet 7 _ (by decide),rfl⟩
       ·have q7:=Ord.ab _ E 7 (by decide);simp only[CL]at q7;simp only[q7]at G;have h6:D 6=true:=hP {on:=6,ground:=.data} (by simp) rfl;clear E;obtain⟨eV,eY⟩:=hR.s1 h6 hD;obtain⟨p6,c6,e6⟩:=eY.slice;obtain⟨n6,e9⟩:∃n6,n6=(LL.getD n []++[x]).length:=⟨_,rfl⟩
        rw[<-e9]at e6;obtain⟨cv,fv⟩:=eV.cell HN.out;have aI:=hR.store HN.out h6 hD fU.out;rw[e6]at aI;simp only[e6]at G⊢;clear e9 eV eY;go_simp;exact G _ _ ⟨undef,rfl,Touch.set (S:=Ap g vn) g n _ (Or.inl rfl),aI,trivial⟩
       exact Ord.az
      case hend26=>
       intro D xs w9 hR hF;have h8:=(hF 8 (by decide)).1;have h6:=(hF 6 (by decide)).1;have e3:=hR.s2 h8;have ev:=au.out.down (x:=x) I.out HN.out hR.al e3 (hR.fr h6) ⟨eF.out.1,Nat.lt_trans eE.out.1 eE.out.2⟩ (fun i hi e=>by have:=eF.out.2.2 i hi;omega) (by have:=Y.out;have:=H.out;omega);have av:=hR.al.row eA.out (fun hc=>(aM.out bx (by rw[an.out];exact hc)).2.1 rfl);have eC:=Lib.hid (ct.out.al hR.al (fun b hb hc=>by
        simp only[Value.ownBlock,Option.some.injEq]at hb;rw[<-an.out]at hc;exact(aM.out b hc).2.2 hb.symm))
       have ca:=ah av 0 rfl;have cb:=ah av 1 rfl;generalize xs 6=v6 at ev;have ak:=Lib.hid ev;clear hF hR e3 ev av h8 h6;go_wp2_with fail
       clear ca cb;refine(I.out.put n (aB,Po.eZ ((k:Int)+1)) _ ak.out.at_.at_ ak.out.bG (by have:=ak.out.stop;have:=Y.out;have:=H.out;omega) (by rw[ak.out.ar];have:=HN.out;show(n:Int)<16;omega) (Or.inr (ak.out.free HF.out.1)) (Po.uQ _ (by have:=fW.out;have:=ak.out.stop;have:=Y.out;have:=H.out;omega)) eC.out.bz (by show aB<_;rw[fW.out];omega)).mono ?_;rintro e wa(⟨d',b9,s',rfl,bJ,bY,-,bN,hs⟩|⟨-,rfl,bP⟩)
       ·as_aux_lemma=>
         rw[<-fV.out]at hs;obtain⟨U3,V3,X3,ad⟩:=ak.out.F8 HN.out bJ bY bN hs gn.out;have gX:=Lib.hid ad;have dX:=IntWalk.i64_in ((k:Int)+1) (by have:=Y.out;have:=H.out;omega);clear bJ bY bN hs ad ak eC au;go_wp2_with fail
         go_roundw
         case rel=>exact⟨k+1,U3,V3,X3,d',b9,s',_,_,_,_,H.out,by go_num,gX.out⟩
         case measure=>have:=H.out;simp[intOf];omega
       ·as_aux_lemma=>
         obtain⟨U3,d3,gw,cc,hE⟩:=ak.out.cut I.out (by have:=Y.out;have:=H.out;omega) bP;have HE:=Lib.hid hE;clear hE bP ak eC au;go_wp2_with fail
         exact aH _ _ _ _ _ _ _ _ _ HE.out
end
end Go.Proofs.YtbpodmallknhfaaGreat
