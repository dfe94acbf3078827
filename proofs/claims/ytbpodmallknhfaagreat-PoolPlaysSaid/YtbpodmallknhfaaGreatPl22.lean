/- Parts of a proof. Conditions: as each row says. -/
import Derived.Test.YtbpodmallknhfaaGreatPl21
namespace Go.Proofs.YtbpodmallknhfaaGreat
open Go.RowKit
section
variable{PD:(Nat->Prop)->World->Nat->Dk.ak->Prop}{PL:(Nat->Prop)->(Nat->Prop)->World->Nat->Nat->Dk.ak->Wl.S->Prop}{PO:(Nat->Prop)->World->Nat->Nat->Nat->Po.S->Prop}{Hd:Dk.ak->Wl.S->Prop}{Hw:Dk.ak->Po.Ar->(Nat->Po.Pg)->Prop}{Hp:Dk.ak->Po.Ar->(Nat->Po.Pg->Prop)->Prop}
variable{U V X Z:Nat->Prop}{w w' w0:World}{B L P R base F K:Nat}{d:Dk.ak}{lg:Wl.S}{s:Po.S}{N:List Po.Pg}{fi:List Nat}{di:List Bool}{pi:List Nat}
set_option maxHeartbeats 6400000 in
set_option maxRecDepth 20000 in
theorem zJ(A:bh PD PL PO Hd Hw Hp)(h:dt PL PO Hw base F K U V X Z w0 w B L P R d lg s N fi di pi)(ht:Po.cW s N fi di pi)(hk:K<=150)(hf:1<=F/\F<=12)(fl:Int)(a7:bF fl)(br:Bool)(n:Int)(hn:bF n/\16<=n):
 Calls Tryz.prog 10 #[.pointer (some ⟨L,0,none⟩),.pointer (some ⟨P,0,none⟩),.pointer (some ⟨R,0,none⟩),.int .i64 (F:Int),.agg #[.int .i64 1,.int .i64 n,.int .i64 fl,.bool br]] w fun e w'=>cF PL PO Hw base F K w0 B L P R e w':=by
 have u:=GD A;have HT:=GD ht;have HK:=GD hk;have HF:=GD hf;have bo:=GD a7;have HN:=GD hn;obtain⟨W,hW⟩:∃W,W=w.alloc (.cells #[.int .i64 1,.int .i64 n,.int .i64 fl,.bool br] 32):=⟨_,rfl⟩
 have ah:W.heap[w.heap.size]?=some (.cells #[.int .i64 1,.int .i64 n,.int .i64 fl,.bool br] 32 (0,0)):=by rw[hW];exact GM _ _
 have m:Below w.heap.size w W:=by rw[hW];exact ae _ _
 obtain⟨bx,aL⟩:∃B,B=w.heap.size:=⟨_,rfl⟩
 rw[<-aL]at ah;have aN:Hid (iM W bx 1 n fl br):=GD ⟨ah⟩;have aZ:=GD m;have aD:=GD (h.below A m);have aA:Hid ((∀i,aB U V X i->i≠bx)/\(∀i,Z i->i≠bx)):=GD ⟨fun i a e=>(by have:=A.lt h.at_.at_ i a;omega),fun i a e=>(by have:=(h.ref.low i a).2;omega)⟩;clear A h ht hk hf a7 ah m hn;go_enter Tryz.func10,Tryz.ntmps10;go_upto_region 1 with(fail)
 rw[<-hW,<-aL];clear hW aL;obtain⟨J,b1,b2,I⟩:=aN.out.cells;have bl:(0:Int)<=n:=by have:=HN.out;omega
 have bk:¬(n<16):=by have:=HN.out;omega
 go_wp2_with fail
 refine(u.out.held aD.out.at_.at_ aD.out.calm).mono ?_;rintro e z1⟨hv,rfl,E,m⟩;obtain⟨hp,hc,rfl⟩:∃p c,hv=.slice p (s.held.map fun k:Nat=>(k:Int)).length c:=by
  obtain⟨p,c,e,-⟩:=E.aP.form;exact⟨p,c,e⟩
 obtain⟨hl,a6⟩:∃n,n=(s.held.map fun k:Nat=>(k:Int)).length:=⟨_,rfl⟩
 have D:=GD (aD.out.below u.out m);have an:=GD (m.box aN.out);have bp:Hid (Below w.heap.size w z1):=aZ.out.trans (m.mono aZ.out.size);clear m aD aN aZ;have bn:=GD E;clear E J b1 b2 I;rw[<-a6];clear a6;obtain⟨J,b1,b2,I⟩:=an.out.cells;cases br;case true=>
  as_aux_lemma=>
   have f:=GD (D.out.more (G8 K));have G:=GD an.out;obtain⟨y6,aG⟩:∃y,y=z1:=⟨_,rfl⟩
   have az:Hid (bx<y6.heap.size):=by show _<_;rw[aG];exact GN an.out.row
   rw[<-aG]at f G J b1 b2 I⊢;clear aG;obtain⟨U6,V6,X6,ad,aJ,aE⟩:∃U' V' X' af,dt PL PO Hw base F (K+1) U' V' X' Z w0 y6 B L P R d af s N fi di pi/\∀i,aB U' V' X' i->i≠bx:=⟨U,V,X,lg,f.out,aA.out.1⟩
   have ab:=GD aE;clear f aE;have f:=GD aJ;have bj:Hid (0<ad.stop):=GD (by have:=(aJ.at_.at_.fY 0).2;omega);have aU:Hid (0<18446744073709551616):=by show 0<_;decide
   clear aJ;go_wp2_with fail
   refine(bM fl y6).mono ?_;rintro e y7⟨g,rfl,aK,E,m⟩;have r:=GD (f.out.below u.out m);have Q:=GD (m.box G.out);have C:=GD E;have o:Hid ((∀i,aB U6 V6 X6 i->i<g)/\(∀i,Z i->i<g)/\base<=g/\g<y7.heap.size):=GD ⟨fun i a=>(by have:=u.out.lt f.out.at_.at_ i a;omega),fun i a=>(by have:=(f.out.ref.low i a).2;omega),(by have:=f.out.bw;omega),(World.ownsRow.lt E.own g rfl).2⟩;clear aK E m f G J b1 b2 I;obtain⟨J,b1,b2,I⟩:=Q.out.cells;go_wp2_with fail
   refine(u.out.dC n 0 (Po.ck fl) _ r.out.at_.at_ r.out.calm HN.out.1 aU.out C.out.aP (GJ (fun h=>by have h2:=h.2;rw[r.out.ar]at h2;have h2:n<16:=h2;have:=h.1;have:=HN.out;omega))).mono ?_;rintro e y8⟨rfl,m⟩;obtain⟨U8,V8,X8,d8,aF,s8,a,O,ai,ag⟩:∃U' V' X' d' af s',dt PL PO Hw base F (K+1) U' V' X' Z w0 y8 B L P R d' af s' N fi di pi/\Touch (aB U6 V6 X6) y7 y8/\(∀i,aB U' V' X' i->aB U6 V6 X6 i\/y7.heap.size<=i)/\s'=s:=⟨U6,V6,X6,d,ad,s,r.out.below u.out m,Touch.ax m,fun i a=>GJ a,rfl⟩
   have av:=GD a;have aS:=GD ag;have al:=GD (Q.out.aj O (fun h=>ab.out bx h rfl));have Y:Hid ((∀i,aB U8 V8 X8 i->¬i=g)/\(∀i,Z i->¬i=g)/\base<=g):=GD ⟨fun i a e=>(by
    rcases ai i a with h|h
    ·have:=o.out.1 i h;omega
    ·have:=o.out.2.2.2;omega),fun i a e=>(by have:=o.out.2.1 i a;omega),o.out.2.2.1⟩
   have ao:=GD (C.out.aj O fun b m h=>by
    simp only[Value.ownBlock,GO]at m;have:=o.out.1 b h;omega)
   have aT:Hid (bx≠g):=fun e=>by have h1:=(World.ownsRow.lt C.out.own g rfl).1;have h2:=az.out;omega
   clear a O ai ag J b1 b2 I r Q C o;go_wp2_with fail
   go_loopw [24] (fun iv wr=>∃(j:Nat)(l':List Nat),j<=500/\iv=.int .i64 (j:Int)/\l'.length=500/\Own y6.heap.size wr (.slice (some ⟨g,0,none⟩) 500 500) l'/\Touch (·=g) y8 wr) (fun iv _=>500-(intOf iv).toNat)
   case atStart=>exact⟨0,_,G7 _,rfl,Po.aW fl,ao.out,Touch.refl _ _⟩
   case round=>
    obtain⟨j,l',hj,rfl,hl,E,hT⟩:=hrel;have au:=GD hj;have q:=GD hl;have T:=GD E;have z:=GD hT;clear hj hl E hT;by_cases hlt:j<500
    ·have aq:=GD hlt;have bf:(j:Int)<500:=by omega
     have bg:(0:Int)<=(j:Int):=by omega
     obtain⟨cj,fj⟩:=T.out.cellAt q.out j hlt;obtain⟨v,-⟩:=T.out.stored q.out j 0 (by decide);rw[show((0:Nat):Int)=0 from rfl]at v;have aR:=GD v;have aO:Hid (Touch (·=g) y8 (wr.setCell ⟨g,j,none⟩ (.int .u8 0))):=z.out.trans (Touch.set (S:=(·=g)) g j _ rfl);have bd:=GW ((j:Int)+1) (by omega);clear v hlt;go_wp2_with fail
     go_roundw
     case rel=>exact⟨j+1,_,aq.out,by go_num,by rw[G4];exact q.out,aR.out,aO.out⟩
     case measure=>have:=aq.out;simp[intOf];omega
    ·obtain rfl:j=500:=by have:=au.out;omega
     rw[show((500:Nat):Int)=500 from rfl];clear hlt;have aX:=GD (av.out.bq u.out z.out Y.out.1 Y.out.2.1 (fun i e=>by rw[show i=g from e];exact Y.out.2.2));have aM:=GD (al.out.aj z.out aT.out);clear av al ao z au;obtain⟨J,b1,b2,I⟩:=aM.out.cells;have ak:=T.out.aP.kI q.out;have aY:=GD ak;clear ak;go_upto_region 38 with(fail)
     go_still_tail 6,(by kernel_rfl)
     have M:Below wr.heap.size wr wr.drew:=(GF _ _).ij;have l:=GD (aX.out.below u.out M);have H:=GD (aY.out.below M);change wpList _ _ _ _ _ wr.drew;generalize wr.drew=y11 at l H⊢;clear M J b1 b2 I;go_wp2_with fail
     refine(u.out.dC n 0 (l'.drop 1) _ l.out.at_.at_ l.out.calm HN.out.1 (by decide) H.out (GL (by rw[G5,q.out];decide))).mono ?_;rintro e bc⟨rfl,m⟩;have aw:=GD (l.out.below u.out m);clear m l;go_wp2_with fail
     go_ret;exact⟨U8,V8,X8,_,d8,aF,s8,_,_,_,pi,rfl,aw.out,by rw[aS.out];exact HT.out.tie⟩
 case false=>
  obtain⟨t,a1,aH,aC⟩:=nE fl;have bm:=GD aC;have hc:=u.out.append (Wl.dn t) (.slice none 0 0) (.slice none 0 0) (.slice none 0 0) (.slice none 0 0) (.slice none 0 0) D.out.at_.at_.log (tD z1 aC) (Wl.oZ t) (by rw[D.out.ep];decide) (by have:=D.out.stop;have:=HK.out;omega);rw[show cz (Wl.dn t) (.slice none 0 0) (.slice none 0 0) (.slice none 0 0) (.slice none 0 0) (.slice none 0 0)=.agg #[.int .i64 4,.int .u64 0,.int .u32 0,.int .u64 (t:Int),.int .u32 0,.int .u16 0,.slice none 0 0,.slice none 0 0,.slice none 0 0,.int .u64 0,.int .u64 0,.bool false,.int .u64 0,.slice none 0 0,.slice none 0 0]from rfl]at hc;have hM:=Wl.oY (s:=lg) aH;by_cases aa:(Wl.size (Wl.aV lg (Wl.dn t)):Int)<=Wl.left lg
  case neg=>
   as_aux_lemma=>
    rw[Wl.eO hM aa,show((0:Nat):Int)=0 from rfl,show((5:Nat):Int)=5 from rfl]at hc;have ay:=GD hc;clear hc hM aa aH aC;go_wp2_with fail
    refine ay.out.mono ?_;rintro e y⟨rfl,V',hL,hT,hG⟩;have a:=D.out.append u.out hL hT hG (GH _) (GH _) rfl rfl rfl (G8 K) (by have:=D.out.stop;omega);have f:=GD a;clear ay hL hT hG a J b1 b2 I a1;go_wp2_with fail
    go_ret;exact⟨U,V',X,Z,d,lg,s,N,fi,di,pi,rfl,f.out,HT.out.tie⟩
  case pos=>
   as_aux_lemma=>
    rw[Wl.eP hM aa,show((0:Nat):Int)=0 from rfl]at hc;have ay:=GD hc;have aQ:Hid ((Wl.app lg (Wl.dn t)).stop=lg.stop+27):=by show lg.stop+Wl.size _=_;rw[Wl.lT]
    clear hc hM aa aH aC;go_wp2_with fail
    refine ay.out.mono ?_;rintro e y6⟨rfl,V',hL,hT,hG⟩;obtain⟨ad,aI⟩:∃x,x=Wl.app lg (Wl.dn t):=⟨_,rfl⟩
    have v:ad.stop=lg.stop+27:=by rw[aI];exact aQ.out
    have a:=D.out.append u.out hL hT hG (GH _) (by rw[aQ.out];omega) rfl rfl rfl (G8 K) (by rw[aQ.out];have:=D.out.stop;omega);rw[<-aI]at a;have f:=GD a;have G:=GD (an.out.aj hT (fun h=>aA.out.1 bx (GL (GJ h)) rfl));have az:Hid (bx<y6.heap.size):=GN G.out.row;have ab:Hid (∀i,aB U V' X i->i≠bx):=fun i a e=>by
     rcases a with a|a|a
     ·exact aA.out.1 i (GJ a) e
     ·rcases hG i a with h|h
      ·exact aA.out.1 i (GL (GJ h)) e
      ·have:=GN an.out.row;omega
     ·exact aA.out.1 i (GL (GL a)) e
    obtain⟨ls,a2⟩:∃n,n=lg.stop:=⟨_,rfl⟩
    have bj:Hid (ls<ad.stop):=GD (by omega);have aU:Hid (ls<18446744073709551616):=GD (by have:=D.out.stop;have:=HK.out;omega);rw[<-a2];obtain⟨U6,bb⟩:∃x,x=U:=⟨_,rfl⟩
    obtain⟨V6,ba⟩:∃x,x=V':=⟨_,rfl⟩
    obtain⟨X6,a8⟩:∃x,x=X:=⟨_,rfl⟩
    rw[<-bb,<-ba,<-a8]at f ab;clear ay hL hT hG aI v a a2 bb ba a8 J b1 b2 I a1;obtain⟨J,b1,b2,I⟩:=G.out.cells;go_wp2_with fail
    refine(bM fl y6).mono ?_;rintro e y7⟨g,rfl,aK,E,m⟩;have r:=GD (f.out.below u.out m);have Q:=GD (m.box G.out);have C:=GD E;have o:Hid ((∀i,aB U6 V6 X6 i->i<g)/\(∀i,Z i->i<g)/\base<=g/\g<y7.heap.size):=GD ⟨fun i a=>(by have:=u.out.lt f.out.at_.at_ i a;omega),fun i a=>(by have:=(f.out.ref.low i a).2;omega),(by have:=f.out.bw;omega),(World.ownsRow.lt E.own g rfl).2⟩;clear aK E m f G J b1 b2 I;obtain⟨J,b1,b2,I⟩:=Q.out.cells;go_wp2_with fail
    refine(u.out.dC n ls (Po.ck fl) _ r.out.at_.at_ r.out.calm HN.out.1 aU.out C.out.aP (GJ (fun h=>by have h2:=h.2;rw[r.out.ar]at h2;have h2:n<16:=h2;have:=h.1;have:=HN.out;omega))).mono ?_;rintro e y8⟨rfl,m⟩;obtain⟨U8,V8,X8,d8,aF,s8,a,O,ai,ag⟩:∃U' V' X' d' af s',dt PL PO Hw base F (K+1) U' V' X' Z w0 y8 B L P R d' af s' N fi di pi/\Touch (aB U6 V6 X6) y7 y8/\(∀i,aB U' V' X' i->aB U6 V6 X6 i\/y7.heap.size<=i)/\s'=s:=⟨U6,V6,X6,d,ad,s,r.out.below u.out m,Touch.ax m,fun i a=>GJ a,rfl⟩
    have av:=GD a;have aS:=GD ag;have al:=GD (Q.out.aj O (fun h=>ab.out bx h rfl));have Y:Hid ((∀i,aB U8 V8 X8 i->¬i=g)/\(∀i,Z i->¬i=g)/\base<=g):=GD ⟨fun i a e=>(by
     rcases ai i a with h|h
     ·have:=o.out.1 i h;omega
     ·have:=o.out.2.2.2;omega),fun i a e=>(by have:=o.out.2.1 i a;omega),o.out.2.2.1⟩
    have ao:=GD (C.out.aj O fun b m h=>by
     simp only[Value.ownBlock,GO]at m;have:=o.out.1 b h;omega)
    have aT:Hid (bx≠g):=fun e=>by have h1:=(World.ownsRow.lt C.out.own g rfl).1;have h2:=az.out;omega
    clear a O ai ag J b1 b2 I r Q C o;go_wp2_with fail
    go_loopw [24] (fun iv wr=>∃(j:Nat)(l':List Nat),j<=500/\iv=.int .i64 (j:Int)/\l'.length=500/\Own y6.heap.size wr (.slice (some ⟨g,0,none⟩) 500 500) l'/\Touch (·=g) y8 wr) (fun iv _=>500-(intOf iv).toNat)
    case atStart=>exact⟨0,_,G7 _,rfl,Po.aW fl,ao.out,Touch.refl _ _⟩
    case round=>
     obtain⟨j,l',hj,rfl,hl,E,hT⟩:=hrel;have au:=GD hj;have q:=GD hl;have T:=GD E;have z:=GD hT;clear hj hl E hT;by_cases hlt:j<500
     ·have aq:=GD hlt;have bf:(j:Int)<500:=by omega
      have bg:(0:Int)<=(j:Int):=by omega
      obtain⟨cj,fj⟩:=T.out.cellAt q.out j hlt;obtain⟨v,-⟩:=T.out.stored q.out j 0 (by decide);rw[show((0:Nat):Int)=0 from rfl]at v;have aR:=GD v;have aO:Hid (Touch (·=g) y8 (wr.setCell ⟨g,j,none⟩ (.int .u8 0))):=z.out.trans (Touch.set (S:=(·=g)) g j _ rfl);have bd:=GW ((j:Int)+1) (by omega);clear v hlt;go_wp2_with fail
      go_roundw
      case rel=>exact⟨j+1,_,aq.out,by go_num,by rw[G4];exact q.out,aR.out,aO.out⟩
      case measure=>have:=aq.out;simp[intOf];omega
     ·obtain rfl:j=500:=by have:=au.out;omega
      rw[show((500:Nat):Int)=500 from rfl];clear hlt;have aX:=GD (av.out.bq u.out z.out Y.out.1 Y.out.2.1 (fun i e=>by rw[show i=g from e];exact Y.out.2.2));have aM:=GD (al.out.aj z.out aT.out);clear av al ao z au;obtain⟨J,b1,b2,I⟩:=aM.out.cells;have ak:=T.out.aP.kI q.out;have aY:=GD ak;clear ak;go_upto_region 38 with(fail)
      go_still_tail 6,(by kernel_rfl)
      have M:Below wr.heap.size wr wr.drew:=(GF _ _).ij;have l:=GD (aX.out.below u.out M);have H:=GD (aY.out.below M);change wpList _ _ _ _ _ wr.drew;generalize wr.drew=y11 at l H⊢;clear M J b1 b2 I;go_wp2_with fail
      refine(u.out.dC n 0 (l'.drop 1) _ l.out.at_.at_ l.out.calm HN.out.1 (by decide) H.out (GL (by rw[G5,q.out];decide))).mono ?_;rintro e bc⟨rfl,m⟩;have aw:=GD (l.out.below u.out m);clear m l;go_wp2_with fail
      go_ret;exact⟨U8,V8,X8,_,d8,aF,s8,_,_,_,pi,rfl,aw.out,by rw[aS.out];exact HT.out.tie⟩
end
section
variable{PD:(Nat->Prop)->World->Nat->Dk.ak->Prop}{PL:(Nat->Prop)->(Nat->Prop)->World->Nat->Nat->Dk.ak->Wl.S->Prop}{PO:(Nat->Prop)->World->Nat->Nat->Nat->Po.S->Prop}{Hd:Dk.ak->Wl.S->Prop}{Hw:Dk.ak->Po.Ar->(Nat->Po.Pg)->Prop}{Hp:Dk.ak->Po.Ar->(Nat->Po.Pg->Prop)->Prop}
variable{U V X Z:Nat->Prop}{w w' w0:World}{B L P R base F K:Nat}{d:Dk.ak}{lg:Wl.S}{s:Po.S}{N:List Po.Pg}{fi:List Nat}{di:List Bool}{pi:List Nat}
set_option maxHeartbeats 6400000 in
set_option maxRecDepth 20000 in
theorem zI(A:bh PD PL PO Hd Hw Hp)(h:dt PL PO Hw base F K U V X Z w0 w B L P R d lg s N fi di pi)(ht:Po.cW s N fi di pi)(hk:K<=150)(hf:1<=F/\F<=12)(fl:Int)(bQ:bF fl)(br:Bool)(m:Nat)(hm:m<16)(bN:m∈s.held):
 Calls Tryz.prog 10 #[.pointer (some ⟨L,0,none⟩),.pointer (some ⟨P,0,none⟩),.pointer (some ⟨R,0,none⟩),.int .i64 (F:Int),.agg #[.int .i64 1,.int .i64 (m:Int),.int .i64 fl,.bool br]] w fun e w'=>cF PL PO Hw base F K w0 B L P R e w':=by
 have M:=GD A;have HT:=GD ht;have HK:=GD hk;have HF:=GD hf;have b6:=GD bQ;have HM:=GD hm;have bH:=GD bN;obtain⟨W,hW⟩:∃W,W=w.alloc (.cells #[.int .i64 1,.int .i64 (m:Int),.int .i64 fl,.bool br] 32):=⟨_,rfl⟩
 have aL:W.heap[w.heap.size]?=some (.cells #[.int .i64 1,.int .i64 (m:Int),.int .i64 fl,.bool br] 32 (0,0)):=by rw[hW];exact GM _ _
 have q:Below w.heap.size w W:=by rw[hW];exact ae _ _
 obtain⟨bx,bt⟩:∃B,B=w.heap.size:=⟨_,rfl⟩
 rw[<-bt]at aL;have bu:Hid (iM W bx 1 (m:Int) fl br):=GD ⟨aL⟩;have bJ:=GD q;have bg:=GD (h.below A q);have aF:Hid ((∀i,aB U V X i->i≠bx)/\(∀i,Z i->i≠bx)):=GD ⟨fun i f e=>(by have:=A.lt h.at_.at_ i f;omega),fun i f e=>(by have:=(h.ref.low i f).2;omega)⟩;clear A h ht hk hf bQ aL q hm bN;go_enter Tryz.func10,Tryz.ntmps10;go_upto_region 1 with(fail)
 rw[<-hW,<-bt];clear hW bt;obtain⟨b0,b1,b2,b3⟩:=bu.out.cells;have b4:(0:Int)<=(m:Int):=by omega
 have bZ:(m:Int)<16:=by have:=HM.out;omega
 go_wp2_with fail
 refine(M.out.held bg.out.at_.at_ bg.out.calm).mono ?_;rintro e z1⟨hv,rfl,J,q⟩;obtain⟨hp,hc,rfl⟩:∃p c,hv=.slice p (s.held.map fun k:Nat=>(k:Int)).length c:=by
  obtain⟨p,c,e,-⟩:=J.aP.form;exact⟨p,c,e⟩
 obtain⟨hl,bO⟩:∃n,n=(s.held.map fun k:Nat=>(k:Int)).length:=⟨_,rfl⟩
 have ag:=GD (bg.out.below M.out q);have aY:=GD (q.box bu.out);have b7:Hid (Below w.heap.size w z1):=bJ.out.trans (q.mono bJ.out.size);clear q bg bu bJ;have bb:=GD (aM z1 _ _ (m:Int) J.aP (by rw[Hb];have:=(ag.out.aI M.out).lS;have:=ag.out.fr;have:=HF.out;omega));rw[Po.mem_cast]at bb;clear J;rw[<-bO]at bb⊢;clear bO b0 b1 b2 b3;obtain⟨b0,b1,b2,b3⟩:=aY.out.cells;rw[show decide (m∈s.held)=true from GK bH.out]at bb;go_wp2_with fail
 refine bb.out.mono ?_;rintro e z⟨rfl,rfl⟩;clear bb;cases br;case true=>
  as_aux_lemma=>
   have C:=GD (ag.out.more (G8 K));have aw:=GD aY.out;obtain⟨y6,bl⟩:∃y,y=z1:=⟨_,rfl⟩
   have bd:Hid (bx<y6.heap.size):=by show _<_;rw[bl];exact GN aY.out.row
   rw[<-bl]at C aw b0 b1 b2 b3⊢;clear bl;obtain⟨U6,V6,X6,aJ,bp,bj⟩:∃U' V' X' aA,dt PL PO Hw base F (K+1) U' V' X' Z w0 y6 B L P R d aA s N fi di pi/\∀i,aB U' V' X' i->i≠bx:=⟨U,V,X,lg,C.out,aF.out.1⟩
   have aH:=GD bj;clear C bj;have C:=GD bp;have bE:Hid (0<aJ.stop):=GD (by have:=(bp.at_.at_.fY 0).2;omega);have bG:Hid (0<18446744073709551616):=by show 0<_;decide
   clear bp;go_wp2_with fail
   refine(bM fl y6).mono ?_;rintro e y7⟨G,rfl,bs,J,q⟩;have u:=GD (C.out.below M.out q);have aE:=GD (q.box aw.out);have au:=GD J;have O:Hid ((∀i,aB U6 V6 X6 i->i<G)/\(∀i,Z i->i<G)/\base<=G/\G<y7.heap.size):=GD ⟨fun i f=>(by have:=M.out.lt C.out.at_.at_ i f;omega),fun i f=>(by have:=(C.out.ref.low i f).2;omega),(by have:=C.out.bw;omega),(World.ownsRow.lt J.own G rfl).2⟩;clear bs J q C aw b0 b1 b2 b3;obtain⟨b0,b1,b2,b3⟩:=aE.out.cells;go_wp2_with fail
   refine(M.out.put m (0,Po.ck fl) _ u.out.at_.at_ (u.out.cy M.out) (by have:=u.out.stop;have:=HK.out;omega) (by rw[u.out.ar];have:=HM.out;show(m:Int)<16;omega) (GJ bH.out) (Po.ig fl bG.out) au.out.aP bE.out).mono ?_;rintro e y8 h;obtain⟨d8,bk,s8,rfl,hw,-,hC,hl,T⟩:∃d' aA s',e=.returned (.int .i64 0)/\cA PL PO Hw U6 V6 X6 y7 B L P y8 d' aA s'/\Wl.aX 120 d'/\(Wl.Calm 120 d->Wl.Calm 120 d')/\Po.Lf aJ aA/\Po.kJ s m (0,Po.ck fl) s':=by
    rcases h with h|⟨h,-⟩
    ·exact h
    ·exact absurd u.out.calm h
   obtain⟨U8,V8,X8,f,aD,aQ⟩:=u.out.fe hw (hC u.out.calm) hl T.ar T.ao (GH _) (fun j=>by rw[T.pins];exact u.out.pins j);have bz:=GD (Po.kx.put HT.out T (f.aI M.out) HM.out f.ref.lN f.ref.lf f.ref.ld);clear h hw hC hl;have a7:=GD f;have aT:=GD (aE.out.aj aD (fun h=>aH.out bx h rfl));have av:Hid ((∀i,aB U8 V8 X8 i->¬i=G)/\(∀i,Z i->¬i=G)/\base<=G):=GD ⟨fun i f e=>(by
    rcases aQ i f with h|h
    ·have:=O.out.1 i h;omega
    ·have:=O.out.2.2.2;omega),fun i f e=>(by have:=O.out.2.1 i f;omega),O.out.2.2.1⟩
   have aZ:=GD (au.out.aj aD fun b q h=>by
    simp only[Value.ownBlock,GO]at q;have:=O.out.1 b h;omega)
   have bD:Hid (bx≠G):=fun e=>by have h1:=(World.ownsRow.lt au.out.own G rfl).1;have h2:=bd.out;omega
   clear f aD aQ T b0 b1 b2 b3 u aE au O;go_wp2_with fail
   go_loopw [24] (fun iv wr=>∃(j:Nat)(l':List Nat),j<=500/\iv=.int .i64 (j:Int)/\l'.length=500/\Own y6.heap.size wr (.slice (some ⟨G,0,none⟩) 500 500) l'/\Touch (·=G) y8 wr) (fun iv _=>500-(intOf iv).toNat)
   case atStart=>exact⟨0,_,G7 _,rfl,Po.aW fl,aZ.out,Touch.refl _ _⟩
   case round=>
    obtain⟨j,l',Y,rfl,hl,J,hT⟩:=hrel;have a6:=GD Y;have ad:=GD hl;have aq:=GD J;have an:=GD hT;clear Y hl J hT;by_cases hlt:j<500
    ·have a2:=GD hlt;have bW:(j:Int)<500:=by omega
     have bX:(0:Int)<=(j:Int):=by omega
     obtain⟨cj,fj⟩:=aq.out.cellAt ad.out j hlt;obtain⟨ai,-⟩:=aq.out.stored ad.out j 0 (by decide);rw[show((0:Nat):Int)=0 from rfl]at ai;have bC:=GD ai;have bA:Hid (Touch (·=G) y8 (wr.setCell ⟨G,j,none⟩ (.int .u8 0))):=an.out.trans (Touch.set (S:=(·=G)) G j _ rfl);have bV:=GW ((j:Int)+1) (by omega);clear ai hlt;go_wp2_with fail
     go_roundw
     case rel=>exact⟨j+1,_,a2.out,by go_num,by rw[G4];exact ad.out,bC.out,bA.out⟩
     case measure=>have:=a2.out;simp[intOf];omega
    ·obtain rfl:j=500:=by have:=a6.out;omega
     rw[show((500:Nat):Int)=500 from rfl];clear hlt;have r:=GD (a7.out.bq M.out an.out av.out.1 av.out.2.1 (fun i e=>by rw[show i=G from e];exact av.out.2.2));have al:=GD (aT.out.aj an.out bD.out);clear a7 aT aZ an a6;obtain⟨b0,b1,b2,b3⟩:=al.out.cells;go_upto_region 37 with(fail)
     have C1:=GD b1;have C2:=GD b2;have ah:Hid (bx<wr.heap.size):=GN al.out.row;have aS:Hid (∀i,Z i->i<wr.heap.size):=fun i f=>(r.out.ref.low i f).2;clear b0 b1 b2 b3;refine Ord.walk (js R bx m 0 fl wr.heap.size) (fun D xs w'=>tY base R Z wr (N.set m (0,Po.ck fl)) (if di.getD m false=true then fi else fi.set m 0) (di.set m true) pi D xs w') (fun a b=>Touch Z a b)
      (by kernel_rfl) (by kernel_rfl) ?fra ?hfra (fun i v w w' q h=>j5 _ _ _ _ _ _ aS.out i v w w' q h) (fun xs=>tY.first xs) ?hea ?henda
     case hfra=>
      intro xs;simp only[Ord.fill,Act.put,GP,GX,GV];rfl
     case hea=>
      iterate 9 (refine Ord.aa (fun D xs w2 hD hC hP hR E K I=>?_) ?_;rotate_left)
      rotate_left
      ·clear E;have o:D 8=false:=by
        cases hx:D 8 with
        |false=>rfl
        |true=>exact absurd (Ord.af hC 8 0 rfl hx) (by rw[hD];decide)
       have l:=hR.fb o;go_simp;exact I _ _ ⟨_,rfl,Touch.refl _ _,hR.step 0 (by decide) o (GF _ _),rfl⟩
      ·clear E;have o:D 8=false:=by
        cases hx:D 8 with
        |false=>rfl
        |true=>exact absurd (Ord.af hC 2 1 rfl (Ord.af hC 8 2 rfl hx)) (by rw[hD];decide)
       have l:=hR.fb o;go_simp;exact I _ _ ⟨_,rfl,Touch.refl _ _,hR.step 1 (by decide) o (GF _ _),rfl⟩
      ·have q1:=Ord.ab _ E 1 (by decide);simp only[js]at q1;simp only[q1]at I;clear E;have o:D 8=false:=by
        cases hx:D 8 with
        |false=>rfl
        |true=>exact absurd (Ord.af hC 8 2 rfl hx) (by rw[hD];decide)
       have l:=hR.fb o;have cc:=(l.cell (p:=⟨bx,1,none⟩) ah.out).trans C1.out;go_simp;exact I _ _ ⟨_,rfl,Touch.refl _ _,hR.step 2 (by decide) o (GF _ _),rfl⟩
      ·clear E;have o:D 8=false:=by
        cases hx:D 8 with
        |false=>rfl
        |true=>exact absurd (Ord.af hC 7 3 rfl (Ord.af hC 8 7 rfl hx)) (by rw[hD];decide)
       have l:=hR.fb o;go_simp;exact I _ _ ⟨_,rfl,Touch.refl _ _,hR.step 3 (by decide) o (GF _ _),rfl⟩
      ·clear E;have o:D 8=false:=by
        cases hx:D 8 with
        |false=>rfl
        |true=>exact absurd (Ord.af hC 5 4 rfl (Ord.af hC 6 5 rfl (Ord.af hC 7 6 rfl (Ord.af hC 8 7 rfl hx)))) (by rw[hD];decide)
       have l:=hR.fb o;go_simp;exact I _ _ ⟨_,rfl,Touch.refl _ _,hR.step 4 (by decide) o (GF _ _),rfl⟩
      ·have q4:=Ord.ab _ E 4 (by decide);simp only[js]at q4;simp only[q4]at I;clear E;have o:D 8=false:=by
        cases hx:D 8 with
        |false=>rfl
        |true=>exact absurd (Ord.af hC 6 5 rfl (Ord.af hC 7 6 rfl (Ord.af hC 8 7 rfl hx))) (by rw[hD];decide)
       have l:=hR.fb o;have cc:=(l.cell (p:=⟨bx,2,none⟩) ah.out).trans C2.out;go_simp;exact I _ _ ⟨_,rfl,Touch.refl _ _,hR.step 5 (by decide) o (GF _ _),rfl⟩
      ·have q5:=Ord.ab _ E 5 (by decide);simp only[js]at q5;simp only[q5]at I;clear E;have o:D 8=false:=by
        cases hx:D 8 with
        |false=>rfl
        |true=>exact absurd (Ord.af hC 7 6 rfl (Ord.af hC 8 7 rfl hx)) (by rw[hD];decide)
       have l:=hR.fb o;go_simp;refine(bM fl w2).mono ?_;rintro e w'⟨g,rfl,hg,J,q⟩;exact I _ _ ⟨_,rfl,Touch.ax q,hR.step 6 (by decide) o q,⟨g,rfl,GR l.size hg,J.from l.size⟩⟩
      ·have q3:=Ord.ab _ E 3 (by decide);simp only[js]at q3;have q6:=Ord.ab _ E 6 (by decide);simp only[js]at q6;obtain⟨g,e6,hg,J⟩:=q6;simp only[q3]at I;clear E;have o:D 8=false:=by
        cases hx:D 8 with
        |false=>rfl
        |true=>exact absurd (Ord.af hC 8 7 rfl hx) (by rw[hD];decide)
       have l:=hR.fb o;simp only[e6]at I;go_simp;exact I _ _ ⟨_,rfl,Touch.refl _ _,hR.step 7 (by decide) o (GF _ _),⟨g,rfl,hg,J⟩⟩
      ·have q0:=Ord.ab _ E 0 (by decide);simp only[js]at q0;have q2:=Ord.ab _ E 2 (by decide);simp only[js]at q2;have q7:=Ord.ab _ E 7 (by decide);simp only[js]at q7;obtain⟨g,e7,hg,J⟩:=q7;simp only[q0,q2]at I;clear E;simp only[e7]at I;have l:=hR.fb hD;have hr:=r.out.ref.below l;have aO:=(World.ownsRow.lt J.own g rfl).2;go_simp;refine(jf w2 hr HM.out 0 (.slice (some ⟨g,0,none⟩) 500 500) (Po.ck fl) (J.from r.out.bw) (fun i=>Z i\/i=g) (fun j Y=>GJ Y) (fun j Y=>GL (by simp only[Value.ownBlock,GO]at Y;exact Y.symm)) (fun j Y=>by
        rcases Y with Y|rfl
        ·exact hr.low j Y
        ·exact⟨GR r.out.bw hg,aO⟩) (Po.aW fl) (fun b q hz=>by
        simp only[Value.ownBlock,GO]at q;have:=(r.out.ref.low b hz).2;omega)).mono ?_
       rintro e w'⟨rfl,bn,aK⟩;exact I _ _ ⟨_,rfl,aK,hR.last hD aK hg bn aO,trivial⟩
      exact Ord.ay
     case henda=>
      intro D xs Q hR hF;obtain⟨g3,bY,aN,ak,bP⟩:=hR.fin (hF 8 (by decide)).1;have ba:=GD (r.out.gS M.out aN ak fun i f hz=>by
       rcases hz with hz|rfl
       ·exact r.out.ap i f hz
       ·have:=M.out.lt r.out.at_.at_ i f;omega)
      have aU:=GD (al.out.aj ak (fun h=>aF.out.2 bx h rfl));have a1:=GD (aq.out.aj ak fun b q h=>av.out.2.1 b h (by simp only[Value.ownBlock,GO]at q;exact q.symm));clear hF hR aN ak r al aq C1 C2 ah aS;generalize xs 0=x0 at*
      generalize xs 1=x1 at*
      generalize xs 2=x2 at*
      generalize xs 3=x3 at*
      generalize xs 4=x4 at*
      generalize xs 5=x5 at*
      generalize xs 6=x6 at*
      generalize xs 7=x7 at*
      generalize xs 8=x8 at*
      obtain⟨b0,b1,b2,b3⟩:=aU.out.cells;have aR:=a1.out.aP.kI ad.out;have bI:=GD aR;clear aR;go_upto_region 38 with(fail)
      go_still_tail 6,(by kernel_rfl)
      have aC:Below Q.heap.size Q Q.drew:=(GF _ _).ij;have H:=GD (ba.out.below M.out aC);have az:=GD (bI.out.below aC);change wpList _ _ _ _ _ Q.drew;generalize Q.drew=y11 at H az⊢;clear aC b0 b1 b2 b3;go_wp2_with fail
      refine(M.out.dC (m:Int) 0 (l'.drop 1) _ H.out.at_.at_ H.out.calm ⟨by have:=HM.out;omega,by have:=HM.out;omega⟩ (by decide) az.out (GL (by rw[G5,ad.out];decide))).mono ?_;rintro e bU⟨rfl,q⟩;have a8:=GD (H.out.below M.out q);clear q H;go_wp2_with fail
      go_ret;exact⟨U8,V8,X8,_,d8,bk,s8,_,_,_,pi,rfl,a8.out,bz.out⟩
 case false=>
  obtain⟨t,bK,bm,bf⟩:=nE fl;have b5:=GD bf;have hc:=M.out.append (Wl.dn t) (.slice none 0 0) (.slice none 0 0) (.slice none 0 0) (.slice none 0 0) (.slice none 0 0) ag.out.at_.at_.log (tD z1 bf) (Wl.oZ t) (by rw[ag.out.ep];decide) (by have:=ag.out.stop;have:=HK.out;omega);rw[show cz (Wl.dn t) (.slice none 0 0) (.slice none 0 0) (.slice none 0 0) (.slice none 0 0) (.slice none 0 0)=.agg #[.int .i64 4,.int .u64 0,.int .u32 0,.int .u64 (t:Int),.int .u32 0,.int .u16 0,.slice none 0 0,.slice none 0 0,.slice none 0 0,.int .u64 0,.int .u64 0,.bool false,.int .u64 0,.slice none 0 0,.slice none 0 0]from rfl]at hc;have hM:=Wl.oY (s:=lg) bm;by_cases aG:(Wl.size (Wl.aV lg (Wl.dn t)):Int)<=Wl.left lg
  case neg=>
   as_aux_lemma=>
    rw[Wl.eO hM aG,show((0:Nat):Int)=0 from rfl,show((5:Nat):Int)=5 from rfl]at hc;have bc:=GD hc;clear hc hM aG bm bf;go_wp2_with fail
    refine bc.out.mono ?_;rintro e y⟨rfl,V',hL,hT,hG⟩;have f:=ag.out.append M.out hL hT hG (GH _) (GH _) rfl rfl rfl (G8 K) (by have:=ag.out.stop;omega);have C:=GD f;clear bc hL hT hG f b0 b1 b2 b3 bK;go_wp2_with fail
    go_ret;exact⟨U,V',X,Z,d,lg,s,N,fi,di,pi,rfl,C.out,HT.out.tie⟩
  case pos=>
   as_aux_lemma=>
    rw[Wl.eP hM aG,show((0:Nat):Int)=0 from rfl]at hc;have bc:=GD hc;have bB:Hid ((Wl.app lg (Wl.dn t)).stop=lg.stop+27):=by show lg.stop+Wl.size _=_;rw[Wl.lT]
    clear hc hM aG bm bf;go_wp2_with fail
    refine bc.out.mono ?_;rintro e y6⟨rfl,V',hL,hT,hG⟩;obtain⟨aJ,bo⟩:∃x,x=Wl.app lg (Wl.dn t):=⟨_,rfl⟩
    have ai:aJ.stop=lg.stop+27:=by rw[bo];exact bB.out
    have f:=ag.out.append M.out hL hT hG (GH _) (by rw[bB.out];omega) rfl rfl rfl (G8 K) (by rw[bB.out];have:=ag.out.stop;omega);rw[<-bo]at f;have C:=GD f;have aw:=GD (aY.out.aj hT (fun h=>aF.out.1 bx (GL (GJ h)) rfl));have bd:Hid (bx<y6.heap.size):=GN aw.out.row;have aH:Hid (∀i,aB U V' X i->i≠bx):=fun i f e=>by
     rcases f with f|f|f
     ·exact aF.out.1 i (GJ f) e
     ·rcases hG i f with h|h
      ·exact aF.out.1 i (GL (GJ h)) e
      ·have:=GN aY.out.row;omega
     ·exact aF.out.1 i (GL (GL f)) e
    obtain⟨ls,bL⟩:∃n,n=lg.stop:=⟨_,rfl⟩
    have bE:Hid (ls<aJ.stop):=GD (by omega);have bG:Hid (ls<18446744073709551616):=GD (by have:=ag.out.stop;have:=HK.out;omega);rw[<-bL];obtain⟨U6,bT⟩:∃x,x=U:=⟨_,rfl⟩
    obtain⟨V6,bS⟩:∃x,x=V':=⟨_,rfl⟩
    obtain⟨X6,bR⟩:∃x,x=X:=⟨_,rfl⟩
    rw[<-bT,<-bS,<-bR]at C aH;clear bc hL hT hG bo ai f bL bT bS bR b0 b1 b2 b3 bK;obtain⟨b0,b1,b2,b3⟩:=aw.out.cells;go_wp2_with fail
    refine(bM fl y6).mono ?_;rintro e y7⟨G,rfl,bs,J,q⟩;have u:=GD (C.out.below M.out q);have aE:=GD (q.box aw.out);have au:=GD J;have O:Hid ((∀i,aB U6 V6 X6 i->i<G)/\(∀i,Z i->i<G)/\base<=G/\G<y7.heap.size):=GD ⟨fun i f=>(by have:=M.out.lt C.out.at_.at_ i f;omega),fun i f=>(by have:=(C.out.ref.low i f).2;omega),(by have:=C.out.bw;omega),(World.ownsRow.lt J.own G rfl).2⟩;clear bs J q C aw b0 b1 b2 b3;obtain⟨b0,b1,b2,b3⟩:=aE.out.cells;go_wp2_with fail
    refine(M.out.put m (ls,Po.ck fl) _ u.out.at_.at_ (u.out.cy M.out) (by have:=u.out.stop;have:=HK.out;omega) (by rw[u.out.ar];have:=HM.out;show(m:Int)<16;omega) (GJ bH.out) (Po.ig fl bG.out) au.out.aP bE.out).mono ?_;rintro e y8 h;obtain⟨d8,bk,s8,rfl,hw,-,hC,hl,T⟩:∃d' aA s',e=.returned (.int .i64 0)/\cA PL PO Hw U6 V6 X6 y7 B L P y8 d' aA s'/\Wl.aX 120 d'/\(Wl.Calm 120 d->Wl.Calm 120 d')/\Po.Lf aJ aA/\Po.kJ s m (ls,Po.ck fl) s':=by
     rcases h with h|⟨h,-⟩
     ·exact h
     ·exact absurd u.out.calm h
    obtain⟨U8,V8,X8,f,aD,aQ⟩:=u.out.fe hw (hC u.out.calm) hl T.ar T.ao (GH _) (fun j=>by rw[T.pins];exact u.out.pins j);have bz:=GD (Po.kx.put HT.out T (f.aI M.out) HM.out f.ref.lN f.ref.lf f.ref.ld);clear h hw hC hl;have a7:=GD f;have aT:=GD (aE.out.aj aD (fun h=>aH.out bx h rfl));have av:Hid ((∀i,aB U8 V8 X8 i->¬i=G)/\(∀i,Z i->¬i=G)/\base<=G):=GD ⟨fun i f e=>(by
     rcases aQ i f with h|h
     ·have:=O.out.1 i h;omega
     ·have:=O.out.2.2.2;omega),fun i f e=>(by have:=O.out.2.1 i f;omega),O.out.2.2.1⟩
    have aZ:=GD (au.out.aj aD fun b q h=>by
     simp only[Value.ownBlock,GO]at q;have:=O.out.1 b h;omega)
    have bD:Hid (bx≠G):=fun e=>by have h1:=(World.ownsRow.lt au.out.own G rfl).1;have h2:=bd.out;omega
    clear f aD aQ T b0 b1 b2 b3 u aE au O;go_wp2_with fail
    go_loopw [24] (fun iv wr=>∃(j:Nat)(l':List Nat),j<=500/\iv=.int .i64 (j:Int)/\l'.length=500/\Own y6.heap.size wr (.slice (some ⟨G,0,none⟩) 500 500) l'/\Touch (·=G) y8 wr) (fun iv _=>500-(intOf iv).toNat)
    case atStart=>exact⟨0,_,G7 _,rfl,Po.aW fl,aZ.out,Touch.refl _ _⟩
    case round=>
     obtain⟨j,l',Y,rfl,hl,J,hT⟩:=hrel;have a6:=GD Y;have ad:=GD hl;have aq:=GD J;have an:=GD hT;clear Y hl J hT;by_cases hlt:j<500
     ·have a2:=GD hlt;have bW:(j:Int)<500:=by omega
      have bX:(0:Int)<=(j:Int):=by omega
      obtain⟨cj,fj⟩:=aq.out.cellAt ad.out j hlt;obtain⟨ai,-⟩:=aq.out.stored ad.out j 0 (by decide);rw[show((0:Nat):Int)=0 from rfl]at ai;have bC:=GD ai;have bA:Hid (Touch (·=G) y8 (wr.setCell ⟨G,j,none⟩ (.int .u8 0))):=an.out.trans (Touch.set (S:=(·=G)) G j _ rfl);have bV:=GW ((j:Int)+1) (by omega);clear ai hlt;go_wp2_with fail
      go_roundw
      case rel=>exact⟨j+1,_,a2.out,by go_num,by rw[G4];exact ad.out,bC.out,bA.out⟩
      case measure=>have:=a2.out;simp[intOf];omega
     ·obtain rfl:j=500:=by have:=a6.out;omega
      rw[show((500:Nat):Int)=500 from rfl];clear hlt;have r:=GD (a7.out.bq M.out an.out av.out.1 av.out.2.1 (fun i e=>by rw[show i=G from e];exact av.out.2.2));have al:=GD (aT.out.aj an.out bD.out);clear a7 aT aZ an a6;obtain⟨b0,b1,b2,b3⟩:=al.out.cells;go_upto_region 37 with(fail)
      have C1:=GD b1;have C2:=GD b2;have ah:Hid (bx<wr.heap.size):=GN al.out.row;have aS:Hid (∀i,Z i->i<wr.heap.size):=fun i f=>(r.out.ref.low i f).2;clear b0 b1 b2 b3;refine Ord.walk (js R bx m ls fl wr.heap.size) (fun D xs w'=>tY base R Z wr (N.set m (ls,Po.ck fl)) (if di.getD m false=true then fi else fi.set m ls) (di.set m true) pi D xs w') (fun a b=>Touch Z a b)
       (by kernel_rfl) (by kernel_rfl) ?frb ?hfrb (fun i v w w' q h=>j5 _ _ _ _ _ _ aS.out i v w w' q h) (fun xs=>tY.first xs) ?heb ?hendb
      case hfrb=>
       intro xs;simp only[Ord.fill,Act.put,GP,GX,GV];rfl
      case heb=>
       iterate 9 (refine Ord.aa (fun D xs w2 hD hC hP hR E K I=>?_) ?_;rotate_left)
       rotate_left
       ·clear E;have o:D 8=false:=by
         cases hx:D 8 with
         |false=>rfl
         |true=>exact absurd (Ord.af hC 8 0 rfl hx) (by rw[hD];decide)
        have l:=hR.fb o;go_simp;exact I _ _ ⟨_,rfl,Touch.refl _ _,hR.step 0 (by decide) o (GF _ _),rfl⟩
       ·clear E;have o:D 8=false:=by
         cases hx:D 8 with
         |false=>rfl
         |true=>exact absurd (Ord.af hC 2 1 rfl (Ord.af hC 8 2 rfl hx)) (by rw[hD];decide)
        have l:=hR.fb o;go_simp;exact I _ _ ⟨_,rfl,Touch.refl _ _,hR.step 1 (by decide) o (GF _ _),rfl⟩
       ·have q1:=Ord.ab _ E 1 (by decide);simp only[js]at q1;simp only[q1]at I;clear E;have o:D 8=false:=by
         cases hx:D 8 with
         |false=>rfl
         |true=>exact absurd (Ord.af hC 8 2 rfl hx) (by rw[hD];decide)
        have l:=hR.fb o;have cc:=(l.cell (p:=⟨bx,1,none⟩) ah.out).trans C1.out;go_simp;exact I _ _ ⟨_,rfl,Touch.refl _ _,hR.step 2 (by decide) o (GF _ _),rfl⟩
       ·clear E;have o:D 8=false:=by
         cases hx:D 8 with
         |false=>rfl
         |true=>exact absurd (Ord.af hC 7 3 rfl (Ord.af hC 8 7 rfl hx)) (by rw[hD];decide)
        have l:=hR.fb o;go_simp;exact I _ _ ⟨_,rfl,Touch.refl _ _,hR.step 3 (by decide) o (GF _ _),rfl⟩
       ·clear E;have o:D 8=false:=by
         cases hx:D 8 with
         |false=>rfl
         |true=>exact absurd (Ord.af hC 5 4 rfl (Ord.af hC 6 5 rfl (Ord.af hC 7 6 rfl (Ord.af hC 8 7 rfl hx)))) (by rw[hD];decide)
        have l:=hR.fb o;go_simp;exact I _ _ ⟨_,rfl,Touch.refl _ _,hR.step 4 (by decide) o (GF _ _),rfl⟩
       ·have q4:=Ord.ab _ E 4 (by decide);simp only[js]at q4;simp only[q4]at I;clear E;have o:D 8=false:=by
         cases hx:D 8 with
         |false=>rfl
         |true=>exact absurd (Ord.af hC 6 5 rfl (Ord.af hC 7 6 rfl (Ord.af hC 8 7 rfl hx))) (by rw[hD];decide)
        have l:=hR.fb o;have cc:=(l.cell (p:=⟨bx,2,none⟩) ah.out).trans C2.out;go_simp;exact I _ _ ⟨_,rfl,Touch.refl _ _,hR.step 5 (by decide) o (GF _ _),rfl⟩
       ·have q5:=Ord.ab _ E 5 (by decide);simp only[js]at q5;simp only[q5]at I;clear E;have o:D 8=false:=by
         cases hx:D 8 with
         |false=>rfl
         |true=>exact absurd (Ord.af hC 7 6 rfl (Ord.af hC 8 7 rfl hx)) (by rw[hD];decide)
        have l:=hR.fb o;go_simp;refine(bM fl w2).mono ?_;rintro e w'⟨g,rfl,hg,J,q⟩;exact I _ _ ⟨_,rfl,Touch.ax q,hR.step 6 (by decide) o q,⟨g,rfl,GR l.size hg,J.from l.size⟩⟩
       ·have q3:=Ord.ab _ E 3 (by decide);simp only[js]at q3;have q6:=Ord.ab _ E 6 (by decide);simp only[js]at q6;obtain⟨g,e6,hg,J⟩:=q6;simp only[q3]at I;clear E;have o:D 8=false:=by
         cases hx:D 8 with
         |false=>rfl
         |true=>exact absurd (Ord.af hC 8 7 rfl hx) (by rw[hD];decide)
        have l:=hR.fb o;simp only[e6]at I;go_simp;exact I _ _ ⟨_,rfl,Touch.refl _ _,hR.step 7 (by decide) o (GF _ _),⟨g,rfl,hg,J⟩⟩
       ·have q0:=Ord.ab _ E 0 (by decide);simp only[js]at q0;have q2:=Ord.ab _ E 2 (by decide);simp only[js]at q2;have q7:=Ord.ab _ E 7 (by decide);simp only[js]at q7;obtain⟨g,e7,hg,J⟩:=q7;simp only[q0,q2]at I;clear E;simp only[e7]at I;have l:=hR.fb hD;have hr:=r.out.ref.below l;have aO:=(World.ownsRow.lt J.own g rfl).2;go_simp;refine(jf w2 hr HM.out ls (.slice (some ⟨g,0,none⟩) 500 500) (Po.ck fl) (J.from r.out.bw) (fun i=>Z i\/i=g) (fun j Y=>GJ Y) (fun j Y=>GL (by simp only[Value.ownBlock,GO]at Y;exact Y.symm)) (fun j Y=>by
         rcases Y with Y|rfl
         ·exact hr.low j Y
         ·exact⟨GR r.out.bw hg,aO⟩) (Po.aW fl) (fun b q hz=>by
         simp only[Value.ownBlock,GO]at q;have:=(r.out.ref.low b hz).2;omega)).mono ?_
        rintro e w'⟨rfl,bn,aK⟩;exact I _ _ ⟨_,rfl,aK,hR.last hD aK hg bn aO,trivial⟩
       exact Ord.ay
      case hendb=>
       intro D xs Q hR hF;obtain⟨g3,bY,aN,ak,bP⟩:=hR.fin (hF 8 (by decide)).1;have ba:=GD (r.out.gS M.out aN ak fun i f hz=>by
        rcases hz with hz|rfl
        ·exact r.out.ap i f hz
        ·have:=M.out.lt r.out.at_.at_ i f;omega)
       have aU:=GD (al.out.aj ak (fun h=>aF.out.2 bx h rfl));have a1:=GD (aq.out.aj ak fun b q h=>av.out.2.1 b h (by simp only[Value.ownBlock,GO]at q;exact q.symm));clear hF hR aN ak r al aq C1 C2 ah aS;generalize xs 0=x0 at*
       generalize xs 1=x1 at*
       generalize xs 2=x2 at*
       generalize xs 3=x3 at*
       generalize xs 4=x4 at*
       generalize xs 5=x5 at*
       generalize xs 6=x6 at*
       generalize xs 7=x7 at*
       generalize xs 8=x8 at*
       obtain⟨b0,b1,b2,b3⟩:=aU.out.cells;have aR:=a1.out.aP.kI ad.out;have bI:=GD aR;clear aR;go_upto_region 38 with(fail)
       go_still_tail 6,(by kernel_rfl)
       have aC:Below Q.heap.size Q Q.drew:=(GF _ _).ij;have H:=GD (ba.out.below M.out aC);have az:=GD (bI.out.below aC);change wpList _ _ _ _ _ Q.drew;generalize Q.drew=y11 at H az⊢;clear aC b0 b1 b2 b3;go_wp2_with fail
       refine(M.out.dC (m:Int) 0 (l'.drop 1) _ H.out.at_.at_ H.out.calm ⟨by have:=HM.out;omega,by have:=HM.out;omega⟩ (by decide) az.out (GL (by rw[G5,ad.out];decide))).mono ?_;rintro e bU⟨rfl,q⟩;have a8:=GD (H.out.below M.out q);clear q H;go_wp2_with fail
       go_ret;exact⟨U8,V8,X8,_,d8,bk,s8,_,_,_,pi,rfl,a8.out,bz.out⟩
end
section
variable{PD:(Nat->Prop)->World->Nat->Dk.ak->Prop}{PL:(Nat->Prop)->(Nat->Prop)->World->Nat->Nat->Dk.ak->Wl.S->Prop}{PO:(Nat->Prop)->World->Nat->Nat->Nat->Po.S->Prop}{Hd:Dk.ak->Wl.S->Prop}{Hw:Dk.ak->Po.Ar->(Nat->Po.Pg)->Prop}{Hp:Dk.ak->Po.Ar->(Nat->Po.Pg->Prop)->Prop}
variable{U V X Z:Nat->Prop}{w w' w0:World}{B L P R base F K:Nat}{d:Dk.ak}{lg:Wl.S}{s:Po.S}{N:List Po.Pg}{fi:List Nat}{di:List Bool}{pi:List Nat}
set_option maxHeartbeats 6400000 in
set_option maxRecDepth 20000 in
theorem zH(A:bh PD PL PO Hd Hw Hp)(h:dt PL PO Hw base F K U V X Z w0 w B L P R d lg s N fi di pi)(ht:Po.cW s N fi di pi)(hk:K<=150)(hf:1<=F/\F<=12)(fl:Int)(a7:bF fl)(br:Bool)(n:Int)(hn:bF n/\n<0):
 Calls Tryz.prog 10 #[.pointer (some ⟨L,0,none⟩),.pointer (some ⟨P,0,none⟩),.pointer (some ⟨R,0,none⟩),.int .i64 (F:Int),.agg #[.int .i64 1,.int .i64 n,.int .i64 fl,.bool br]] w fun e w'=>cF PL PO Hw base F K w0 B L P R e w':=by
 have u:=GD A;have HT:=GD ht;have HK:=GD hk;have HF:=GD hf;have bn:=GD a7;have HN:=GD hn;obtain⟨W,hW⟩:∃W,W=w.alloc (.cells #[.int .i64 1,.int .i64 n,.int .i64 fl,.bool br] 32):=⟨_,rfl⟩
 have ah:W.heap[w.heap.size]?=some (.cells #[.int .i64 1,.int .i64 n,.int .i64 fl,.bool br] 32 (0,0)):=by rw[hW];exact GM _ _
 have m:Below w.heap.size w W:=by rw[hW];exact ae _ _
 obtain⟨bx,aL⟩:∃B,B=w.heap.size:=⟨_,rfl⟩
 rw[<-aL]at ah;have aN:Hid (iM W bx 1 n fl br):=GD ⟨ah⟩;have aZ:=GD m;have aD:=GD (h.below A m);have aA:Hid ((∀i,aB U V X i->i≠bx)/\(∀i,Z i->i≠bx)):=GD ⟨fun i a e=>(by have:=A.lt h.at_.at_ i a;omega),fun i a e=>(by have:=(h.ref.low i a).2;omega)⟩;clear A h ht hk hf a7 ah m hn;go_enter Tryz.func10,Tryz.ntmps10;go_upto_region 1 with(fail)
 rw[<-hW,<-aL];clear hW aL;obtain⟨J,b1,b2,I⟩:=aN.out.cells;have bk:¬((0:Int)<=n):=by have:=HN.out;omega
 go_wp2_with fail
 refine(u.out.held aD.out.at_.at_ aD.out.calm).mono ?_;rintro e z1⟨hv,rfl,E,m⟩;obtain⟨hp,hc,rfl⟩:∃p c,hv=.slice p (s.held.map fun k:Nat=>(k:Int)).length c:=by
  obtain⟨p,c,e,-⟩:=E.aP.form;exact⟨p,c,e⟩
 obtain⟨hl,a6⟩:∃n,n=(s.held.map fun k:Nat=>(k:Int)).length:=⟨_,rfl⟩
 have D:=GD (aD.out.below u.out m);have an:=GD (m.box aN.out);have bo:Hid (Below w.heap.size w z1):=aZ.out.trans (m.mono aZ.out.size);clear m aD aN aZ;have bm:=GD E;clear E J b1 b2 I;rw[<-a6];clear a6;obtain⟨J,b1,b2,I⟩:=an.out.cells;cases br;case true=>
  as_aux_lemma=>
   have f:=GD (D.out.more (G8 K));have G:=GD an.out;obtain⟨y6,aG⟩:∃y,y=z1:=⟨_,rfl⟩
   have az:Hid (bx<y6.heap.size):=by show _<_;rw[aG];exact GN an.out.row
   rw[<-aG]at f G J b1 b2 I⊢;clear aG;obtain⟨U6,V6,X6,ad,aJ,aE⟩:∃U' V' X' af,dt PL PO Hw base F (K+1) U' V' X' Z w0 y6 B L P R d af s N fi di pi/\∀i,aB U' V' X' i->i≠bx:=⟨U,V,X,lg,f.out,aA.out.1⟩
   have ab:=GD aE;clear f aE;have f:=GD aJ;have bj:Hid (0<ad.stop):=GD (by have:=(aJ.at_.at_.fY 0).2;omega);have aU:Hid (0<18446744073709551616):=by show 0<_;decide
   clear aJ;go_wp2_with fail
   refine(bM fl y6).mono ?_;rintro e y7⟨g,rfl,aK,E,m⟩;have r:=GD (f.out.below u.out m);have Q:=GD (m.box G.out);have C:=GD E;have o:Hid ((∀i,aB U6 V6 X6 i->i<g)/\(∀i,Z i->i<g)/\base<=g/\g<y7.heap.size):=GD ⟨fun i a=>(by have:=u.out.lt f.out.at_.at_ i a;omega),fun i a=>(by have:=(f.out.ref.low i a).2;omega),(by have:=f.out.bw;omega),(World.ownsRow.lt E.own g rfl).2⟩;clear aK E m f G J b1 b2 I;obtain⟨J,b1,b2,I⟩:=Q.out.cells;go_wp2_with fail
   refine(u.out.dC n 0 (Po.ck fl) _ r.out.at_.at_ r.out.calm HN.out.1 aU.out C.out.aP (GJ (fun h=>by have h2:=h.2;rw[r.out.ar]at h2;have h2:n<16:=h2;have:=h.1;have:=HN.out;omega))).mono ?_;rintro e y8⟨rfl,m⟩;obtain⟨U8,V8,X8,d8,aF,s8,a,O,ai,ag⟩:∃U' V' X' d' af s',dt PL PO Hw base F (K+1) U' V' X' Z w0 y8 B L P R d' af s' N fi di pi/\Touch (aB U6 V6 X6) y7 y8/\(∀i,aB U' V' X' i->aB U6 V6 X6 i\/y7.heap.size<=i)/\s'=s:=⟨U6,V6,X6,d,ad,s,r.out.below u.out m,Touch.ax m,fun i a=>GJ a,rfl⟩
   have av:=GD a;have aS:=GD ag;have al:=GD (Q.out.aj O (fun h=>ab.out bx h rfl));have Y:Hid ((∀i,aB U8 V8 X8 i->¬i=g)/\(∀i,Z i->¬i=g)/\base<=g):=GD ⟨fun i a e=>(by
    rcases ai i a with h|h
    ·have:=o.out.1 i h;omega
    ·have:=o.out.2.2.2;omega),fun i a e=>(by have:=o.out.2.1 i a;omega),o.out.2.2.1⟩
   have ao:=GD (C.out.aj O fun b m h=>by
    simp only[Value.ownBlock,GO]at m;have:=o.out.1 b h;omega)
   have aT:Hid (bx≠g):=fun e=>by have h1:=(World.ownsRow.lt C.out.own g rfl).1;have h2:=az.out;omega
   clear a O ai ag J b1 b2 I r Q C o;go_wp2_with fail
   go_loopw [24] (fun iv wr=>∃(j:Nat)(l':List Nat),j<=500/\iv=.int .i64 (j:Int)/\l'.length=500/\Own y6.heap.size wr (.slice (some ⟨g,0,none⟩) 500 500) l'/\Touch (·=g) y8 wr) (fun iv _=>500-(intOf iv).toNat)
   case atStart=>exact⟨0,_,G7 _,rfl,Po.aW fl,ao.out,Touch.refl _ _⟩
   case round=>
    obtain⟨j,l',hj,rfl,hl,E,hT⟩:=hrel;have au:=GD hj;have q:=GD hl;have T:=GD E;have z:=GD hT;clear hj hl E hT;by_cases hlt:j<500
    ·have aq:=GD hlt;have bf:(j:Int)<500:=by omega
     have bg:(0:Int)<=(j:Int):=by omega
     obtain⟨cj,fj⟩:=T.out.cellAt q.out j hlt;obtain⟨v,-⟩:=T.out.stored q.out j 0 (by decide);rw[show((0:Nat):Int)=0 from rfl]at v;have aR:=GD v;have aO:Hid (Touch (·=g) y8 (wr.setCell ⟨g,j,none⟩ (.int .u8 0))):=z.out.trans (Touch.set (S:=(·=g)) g j _ rfl);have bd:=GW ((j:Int)+1) (by omega);clear v hlt;go_wp2_with fail
     go_roundw
     case rel=>exact⟨j+1,_,aq.out,by go_num,by rw[G4];exact q.out,aR.out,aO.out⟩
     case measure=>have:=aq.out;simp[intOf];omega
    ·obtain rfl:j=500:=by have:=au.out;omega
     rw[show((500:Nat):Int)=500 from rfl];clear hlt;have aX:=GD (av.out.bq u.out z.out Y.out.1 Y.out.2.1 (fun i e=>by rw[show i=g from e];exact Y.out.2.2));have aM:=GD (al.out.aj z.out aT.out);clear av al ao z au;obtain⟨J,b1,b2,I⟩:=aM.out.cells;have ak:=T.out.aP.kI q.out;have aY:=GD ak;clear ak;go_upto_region 38 with(fail)
     go_still_tail 6,(by kernel_rfl)
     have M:Below wr.heap.size wr wr.drew:=(GF _ _).ij;have l:=GD (aX.out.below u.out M);have H:=GD (aY.out.below M);change wpList _ _ _ _ _ wr.drew;generalize wr.drew=y11 at l H⊢;clear M J b1 b2 I;go_wp2_with fail
     refine(u.out.dC n 0 (l'.drop 1) _ l.out.at_.at_ l.out.calm HN.out.1 (by decide) H.out (GL (by rw[G5,q.out];decide))).mono ?_;rintro e bc⟨rfl,m⟩;have aw:=GD (l.out.below u.out m);clear m l;go_wp2_with fail
     go_ret;exact⟨U8,V8,X8,_,d8,aF,s8,_,_,_,pi,rfl,aw.out,by rw[aS.out];exact HT.out.tie⟩
 case false=>
  obtain⟨t,a1,aH,aC⟩:=nE fl;have bl:=GD aC;have hc:=u.out.append (Wl.dn t) (.slice none 0 0) (.slice none 0 0) (.slice none 0 0) (.slice none 0 0) (.slice none 0 0) D.out.at_.at_.log (tD z1 aC) (Wl.oZ t) (by rw[D.out.ep];decide) (by have:=D.out.stop;have:=HK.out;omega);rw[show cz (Wl.dn t) (.slice none 0 0) (.slice none 0 0) (.slice none 0 0) (.slice none 0 0) (.slice none 0 0)=.agg #[.int .i64 4,.int .u64 0,.int .u32 0,.int .u64 (t:Int),.int .u32 0,.int .u16 0,.slice none 0 0,.slice none 0 0,.slice none 0 0,.int .u64 0,.int .u64 0,.bool false,.int .u64 0,.slice none 0 0,.slice none 0 0]from rfl]at hc;have hM:=Wl.oY (s:=lg) aH;by_cases aa:(Wl.size (Wl.aV lg (Wl.dn t)):Int)<=Wl.left lg
  case neg=>
   as_aux_lemma=>
    rw[Wl.eO hM aa,show((0:Nat):Int)=0 from rfl,show((5:Nat):Int)=5 from rfl]at hc;have ay:=GD hc;clear hc hM aa aH aC;go_wp2_with fail
    refine ay.out.mono ?_;rintro e y⟨rfl,V',hL,hT,hG⟩;have a:=D.out.append u.out hL hT hG (GH _) (GH _) rfl rfl rfl (G8 K) (by have:=D.out.stop;omega);have f:=GD a;clear ay hL hT hG a J b1 b2 I a1;go_wp2_with fail
    go_ret;exact⟨U,V',X,Z,d,lg,s,N,fi,di,pi,rfl,f.out,HT.out.tie⟩
  case pos=>
   as_aux_lemma=>
    rw[Wl.eP hM aa,show((0:Nat):Int)=0 from rfl]at hc;have ay:=GD hc;have aQ:Hid ((Wl.app lg (Wl.dn t)).stop=lg.stop+27):=by show lg.stop+Wl.size _=_;rw[Wl.lT]
    clear hc hM aa aH aC;go_wp2_with fail
    refine ay.out.mono ?_;rintro e y6⟨rfl,V',hL,hT,hG⟩;obtain⟨ad,aI⟩:∃x,x=Wl.app lg (Wl.dn t):=⟨_,rfl⟩
    have v:ad.stop=lg.stop+27:=by rw[aI];exact aQ.out
    have a:=D.out.append u.out hL hT hG (GH _) (by rw[aQ.out];omega) rfl rfl rfl (G8 K) (by rw[aQ.out];have:=D.out.stop;omega);rw[<-aI]at a;have f:=GD a;have G:=GD (an.out.aj hT (fun h=>aA.out.1 bx (GL (GJ h)) rfl));have az:Hid (bx<y6.heap.size):=GN G.out.row;have ab:Hid (∀i,aB U V' X i->i≠bx):=fun i a e=>by
     rcases a with a|a|a
     ·exact aA.out.1 i (GJ a) e
     ·rcases hG i a with h|h
      ·exact aA.out.1 i (GL (GJ h)) e
      ·have:=GN an.out.row;omega
     ·exact aA.out.1 i (GL (GL a)) e
    obtain⟨ls,a2⟩:∃n,n=lg.stop:=⟨_,rfl⟩
    have bj:Hid (ls<ad.stop):=GD (by omega);have aU:Hid (ls<18446744073709551616):=GD (by have:=D.out.stop;have:=HK.out;omega);rw[<-a2];obtain⟨U6,bb⟩:∃x,x=U:=⟨_,rfl⟩
    obtain⟨V6,ba⟩:∃x,x=V':=⟨_,rfl⟩
    obtain⟨X6,a8⟩:∃x,x=X:=⟨_,rfl⟩
    rw[<-bb,<-ba,<-a8]at f ab;clear ay hL hT hG aI v a a2 bb ba a8 J b1 b2 I a1;obtain⟨J,b1,b2,I⟩:=G.out.cells;go_wp2_with fail
    refine(bM fl y6).mono ?_;rintro e y7⟨g,rfl,aK,E,m⟩;have r:=GD (f.out.below u.out m);have Q:=GD (m.box G.out);have C:=GD E;have o:Hid ((∀i,aB U6 V6 X6 i->i<g)/\(∀i,Z i->i<g)/\base<=g/\g<y7.heap.size):=GD ⟨fun i a=>(by have:=u.out.lt f.out.at_.at_ i a;omega),fun i a=>(by have:=(f.out.ref.low i a).2;omega),(by have:=f.out.bw;omega),(World.ownsRow.lt E.own g rfl).2⟩;clear aK E m f G J b1 b2 I;obtain⟨J,b1,b2,I⟩:=Q.out.cells;go_wp2_with fail
    refine(u.out.dC n ls (Po.ck fl) _ r.out.at_.at_ r.out.calm HN.out.1 aU.out C.out.aP (GJ (fun h=>by have h2:=h.2;rw[r.out.ar]at h2;have h2:n<16:=h2;have:=h.1;have:=HN.out;omega))).mono ?_;rintro e y8⟨rfl,m⟩;obtain⟨U8,V8,X8,d8,aF,s8,a,O,ai,ag⟩:∃U' V' X' d' af s',dt PL PO Hw base F (K+1) U' V' X' Z w0 y8 B L P R d' af s' N fi di pi/\Touch (aB U6 V6 X6) y7 y8/\(∀i,aB U' V' X' i->aB U6 V6 X6 i\/y7.heap.size<=i)/\s'=s:=⟨U6,V6,X6,d,ad,s,r.out.below u.out m,Touch.ax m,fun i a=>GJ a,rfl⟩
    have av:=GD a;have aS:=GD ag;have al:=GD (Q.out.aj O (fun h=>ab.out bx h rfl));have Y:Hid ((∀i,aB U8 V8 X8 i->¬i=g)/\(∀i,Z i->¬i=g)/\base<=g):=GD ⟨fun i a e=>(by
     rcases ai i a with h|h
     ·have:=o.out.1 i h;omega
     ·have:=o.out.2.2.2;omega),fun i a e=>(by have:=o.out.2.1 i a;omega),o.out.2.2.1⟩
    have ao:=GD (C.out.aj O fun b m h=>by
     simp only[Value.ownBlock,GO]at m;have:=o.out.1 b h;omega)
    have aT:Hid (bx≠g):=fun e=>by have h1:=(World.ownsRow.lt C.out.own g rfl).1;have h2:=az.out;omega
    clear a O ai ag J b1 b2 I r Q C o;go_wp2_with fail
    go_loopw [24] (fun iv wr=>∃(j:Nat)(l':List Nat),j<=500/\iv=.int .i64 (j:Int)/\l'.length=500/\Own y6.heap.size wr (.slice (some ⟨g,0,none⟩) 500 500) l'/\Touch (·=g) y8 wr) (fun iv _=>500-(intOf iv).toNat)
    case atStart=>exact⟨0,_,G7 _,rfl,Po.aW fl,ao.out,Touch.refl _ _⟩
    case round=>
     obtain⟨j,l',hj,rfl,hl,E,hT⟩:=hrel;have au:=GD hj;have q:=GD hl;have T:=GD E;have z:=GD hT;clear hj hl E hT;by_cases hlt:j<500
     ·have aq:=GD hlt;have bf:(j:Int)<500:=by omega
      have bg:(0:Int)<=(j:Int):=by omega
      obtain⟨cj,fj⟩:=T.out.cellAt q.out j hlt;obtain⟨v,-⟩:=T.out.stored q.out j 0 (by decide);rw[show((0:Nat):Int)=0 from rfl]at v;have aR:=GD v;have aO:Hid (Touch (·=g) y8 (wr.setCell ⟨g,j,none⟩ (.int .u8 0))):=z.out.trans (Touch.set (S:=(·=g)) g j _ rfl);have bd:=GW ((j:Int)+1) (by omega);clear v hlt;go_wp2_with fail
      go_roundw
      case rel=>exact⟨j+1,_,aq.out,by go_num,by rw[G4];exact q.out,aR.out,aO.out⟩
      case measure=>have:=aq.out;simp[intOf];omega
     ·obtain rfl:j=500:=by have:=au.out;omega
      rw[show((500:Nat):Int)=500 from rfl];clear hlt;have aX:=GD (av.out.bq u.out z.out Y.out.1 Y.out.2.1 (fun i e=>by rw[show i=g from e];exact Y.out.2.2));have aM:=GD (al.out.aj z.out aT.out);clear av al ao z au;obtain⟨J,b1,b2,I⟩:=aM.out.cells;have ak:=T.out.aP.kI q.out;have aY:=GD ak;clear ak;go_upto_region 38 with(fail)
      go_still_tail 6,(by kernel_rfl)
      have M:Below wr.heap.size wr wr.drew:=(GF _ _).ij;have l:=GD (aX.out.below u.out M);have H:=GD (aY.out.below M);change wpList _ _ _ _ _ wr.drew;generalize wr.drew=y11 at l H⊢;clear M J b1 b2 I;go_wp2_with fail
      refine(u.out.dC n 0 (l'.drop 1) _ l.out.at_.at_ l.out.calm HN.out.1 (by decide) H.out (GL (by rw[G5,q.out];decide))).mono ?_;rintro e bc⟨rfl,m⟩;have aw:=GD (l.out.below u.out m);clear m l;go_wp2_with fail
      go_ret;exact⟨U8,V8,X8,_,d8,aF,s8,_,_,_,pi,rfl,aw.out,by rw[aS.out];exact HT.out.tie⟩
end
section
variable{PD:(Nat->Prop)->World->Nat->Dk.ak->Prop}{PL:(Nat->Prop)->(Nat->Prop)->World->Nat->Nat->Dk.ak->Wl.S->Prop}{PO:(Nat->Prop)->World->Nat->Nat->Nat->Po.S->Prop}{Hd:Dk.ak->Wl.S->Prop}{Hw:Dk.ak->Po.Ar->(Nat->Po.Pg)->Prop}{Hp:Dk.ak->Po.Ar->(Nat->Po.Pg->Prop)->Prop}
variable{U V X Z:Nat->Prop}{w w' w0:World}{B L P R base F K:Nat}{d:Dk.ak}{lg:Wl.S}{s:Po.S}{N:List Po.Pg}{fi:List Nat}{di:List Bool}{pi:List Nat}
set_option maxHeartbeats 6400000 in
set_option maxRecDepth 20000 in
theorem zE(A:bh PD PL PO Hd Hw Hp)(h:dt PL PO Hw base F K U V X Z w0 w B L P R d lg s N fi di pi)(G:Po.cW s N fi di pi)(I:K<=150)(hf:1<=F/\F<=12)(fl:Int)(q:bF fl)(t:Bool)(n:Int)(H:bF n/\n<0):
 Calls Tryz.prog 10 #[.pointer (some ⟨L,0,none⟩),.pointer (some ⟨P,0,none⟩),.pointer (some ⟨R,0,none⟩),.int .i64 (F:Int),.agg #[.int .i64 2,.int .i64 n,.int .i64 fl,.bool t]] w fun e w'=>cF PL PO Hw base F K w0 B L P R e w':=by
 have u:=GD A;have T:=GD G;have HK:=GD I;have HF:=GD hf;have aa:=GD q;have E:=GD H;obtain⟨W,r⟩:∃W,W=w.alloc (.cells #[.int .i64 2,.int .i64 n,.int .i64 fl,.bool t] 32):=⟨_,rfl⟩
 have a:W.heap[w.heap.size]?=some (.cells #[.int .i64 2,.int .i64 n,.int .i64 fl,.bool t] 32 (0,0)):=by rw[r];exact GM _ _
 have b:Below w.heap.size w W:=by rw[r];exact ae _ _
 obtain⟨C,j⟩:∃B,B=w.heap.size:=⟨_,rfl⟩
 rw[<-j]at a;have l:Hid (iM W C 2 n fl t):=GD ⟨a⟩;have m:=GD b;have g:=GD (h.below A b);have ad:Hid ((∀i,aB U V X i->i≠C)/\(∀i,Z i->i≠C)):=GD ⟨fun i v e=>(by have:=A.lt h.at_.at_ i v;omega),fun i v e=>(by have:=(h.ref.low i v).2;omega)⟩;clear A h G I hf q a b H;go_enter Tryz.func10,Tryz.ntmps10;go_upto_region 1 with(fail)
 rw[<-r,<-j];clear r j;obtain⟨M,b1,b2,J⟩:=l.out.cells;have S:¬((0:Int)<=n):=by have:=E.out;omega
 go_wp2_with fail
 refine(u.out.held g.out.at_.at_ g.out.calm).mono ?_;rintro e O⟨Q,rfl,x,b⟩;obtain⟨hp,hc,rfl⟩:∃p c,Q=.slice p (s.held.map fun k:Nat=>(k:Int)).length c:=by
  obtain⟨p,c,e,-⟩:=x.aP.form;exact⟨p,c,e⟩
 obtain⟨hl,o⟩:∃n,n=(s.held.map fun k:Nat=>(k:Int)).length:=⟨_,rfl⟩
 have f:=GD (g.out.below u.out b);have D:=GD (b.box l.out);have ab:Hid (Below w.heap.size w O):=m.out.trans (b.mono m.out.size);clear b g l m;have Y:=GD x;clear x M b1 b2 J;rw[<-o];clear o;obtain⟨M,b1,b2,J⟩:=D.out.cells;go_wp2_with fail
 refine(u.out.rl n f.out.at_.at_ f.out.calm E.out.1 (fun h=>by have z:=h.2;rw[f.out.ar]at z;have z:n<16:=z;have:=h.1;have:=E.out;omega)).mono ?_;rintro e y⟨rfl,b⟩;go_wp2_with fail
 go_ret;exact⟨U,V,X,Z,d,lg,s,N,fi,di,pi,rfl,(f.out.below u.out b).more (G8 _),T.out.tie⟩
set_option maxHeartbeats 6400000 in
set_option maxRecDepth 20000 in
theorem zG(A:bh PD PL PO Hd Hw Hp)(h:dt PL PO Hw base F K U V X Z w0 w B L P R d lg s N fi di pi)(G:Po.cW s N fi di pi)(I:K<=150)(hf:1<=F/\F<=12)(fl:Int)(q:bF fl)(t:Bool)(n:Int)(H:bF n/\16<=n):
 Calls Tryz.prog 10 #[.pointer (some ⟨L,0,none⟩),.pointer (some ⟨P,0,none⟩),.pointer (some ⟨R,0,none⟩),.int .i64 (F:Int),.agg #[.int .i64 2,.int .i64 n,.int .i64 fl,.bool t]] w fun e w'=>cF PL PO Hw base F K w0 B L P R e w':=by
 have v:=GD A;have Y:=GD G;have HK:=GD I;have HF:=GD hf;have ab:=GD q;have u:=GD H;obtain⟨W,r⟩:∃W,W=w.alloc (.cells #[.int .i64 2,.int .i64 n,.int .i64 fl,.bool t] 32):=⟨_,rfl⟩
 have a:W.heap[w.heap.size]?=some (.cells #[.int .i64 2,.int .i64 n,.int .i64 fl,.bool t] 32 (0,0)):=by rw[r];exact GM _ _
 have b:Below w.heap.size w W:=by rw[r];exact ae _ _
 obtain⟨D,j⟩:∃B,B=w.heap.size:=⟨_,rfl⟩
 rw[<-j]at a;have l:Hid (iM W D 2 n fl t):=GD ⟨a⟩;have m:=GD b;have g:=GD (h.below A b);have af:Hid ((∀i,aB U V X i->i≠D)/\(∀i,Z i->i≠D)):=GD ⟨fun i x e=>(by have:=A.lt h.at_.at_ i x;omega),fun i x e=>(by have:=(h.ref.low i x).2;omega)⟩;clear A h G I hf q a b H;go_enter Tryz.func10,Tryz.ntmps10;go_upto_region 1 with(fail)
 rw[<-r,<-j];clear r j;obtain⟨M,b1,b2,J⟩:=l.out.cells;have T:(0:Int)<=n:=by have:=u.out;omega
 have S:¬(n<16):=by have:=u.out;omega
 go_wp2_with fail
 refine(v.out.held g.out.at_.at_ g.out.calm).mono ?_;rintro e O⟨Q,rfl,z,b⟩;obtain⟨hp,hc,rfl⟩:∃p c,Q=.slice p (s.held.map fun k:Nat=>(k:Int)).length c:=by
  obtain⟨p,c,e,-⟩:=z.aP.form;exact⟨p,c,e⟩
 obtain⟨hl,o⟩:∃n,n=(s.held.map fun k:Nat=>(k:Int)).length:=⟨_,rfl⟩
 have f:=GD (g.out.below v.out b);have E:=GD (b.box l.out);have ad:Hid (Below w.heap.size w O):=m.out.trans (b.mono m.out.size);clear b g l m;have aa:=GD z;clear z M b1 b2 J;rw[<-o];clear o;obtain⟨M,b1,b2,J⟩:=E.out.cells;go_wp2_with fail
 refine(v.out.rl n f.out.at_.at_ f.out.calm u.out.1 (fun h=>by have C:=h.2;rw[f.out.ar]at C;have C:n<16:=C;have:=h.1;have:=u.out;omega)).mono ?_;rintro e y⟨rfl,b⟩;go_wp2_with fail
 go_ret;exact⟨U,V,X,Z,d,lg,s,N,fi,di,pi,rfl,(f.out.below v.out b).more (G8 _),Y.out.tie⟩
set_option maxHeartbeats 6400000 in
set_option maxRecDepth 20000 in
theorem zF(A:bh PD PL PO Hd Hw Hp)(h:dt PL PO Hw base F K U V X Z w0 w B L P R d lg s N fi di pi)(C:Po.cW s N fi di pi)(hk:K<=150)(hf:1<=F/\F<=12)(fl:Int)(H:bF fl)(br:Bool)(m:Nat)(hm:m<16)(E:m∈s.held):
 Calls Tryz.prog 10 #[.pointer (some ⟨L,0,none⟩),.pointer (some ⟨P,0,none⟩),.pointer (some ⟨R,0,none⟩),.int .i64 (F:Int),.agg #[.int .i64 2,.int .i64 (m:Int),.int .i64 fl,.bool br]] w fun e w'=>cF PL PO Hw base F K w0 B L P R e w':=by
 have D:=GD A;have HT:=GD C;have HK:=GD hk;have HF:=GD hf;have al:=GD H;have O:=GD hm;have Q:=GD E;obtain⟨W,Y⟩:∃W,W=w.alloc (.cells #[.int .i64 2,.int .i64 (m:Int),.int .i64 fl,.bool br] 32):=⟨_,rfl⟩
 have b:W.heap[w.heap.size]?=some (.cells #[.int .i64 2,.int .i64 (m:Int),.int .i64 fl,.bool br] 32 (0,0)):=by rw[Y];exact GM _ _
 have q:Below w.heap.size w W:=by rw[Y];exact ae _ _
 obtain⟨bx,r⟩:∃B,B=w.heap.size:=⟨_,rfl⟩
 rw[<-r]at b;have t:Hid (iM W bx 2 (m:Int) fl br):=GD ⟨b⟩;have x:=GD q;have g:=GD (h.below A q);have ag:Hid ((∀i,aB U V X i->i≠bx)/\(∀i,Z i->i≠bx)):=GD ⟨fun i o e=>(by have:=A.lt h.at_.at_ i o;omega),fun i o e=>(by have:=(h.ref.low i o).2;omega)⟩;clear A h C hk hf H b q hm E;go_enter Tryz.func10,Tryz.ntmps10;go_upto_region 1 with(fail)
 rw[<-Y,<-r];clear Y r;obtain⟨b0,b1,b2,b3⟩:=t.out.cells;have ak:(0:Int)<=(m:Int):=by omega
 have ai:(m:Int)<16:=by have:=O.out;omega
 go_wp2_with fail
 refine(D.out.held g.out.at_.at_ g.out.calm).mono ?_;rintro e z1⟨S,rfl,hO,q⟩;obtain⟨hp,hc,rfl⟩:∃p c,S=.slice p (s.held.map fun k:Nat=>(k:Int)).length c:=by
  obtain⟨p,c,e,-⟩:=hO.aP.form;exact⟨p,c,e⟩
 obtain⟨hl,G⟩:∃n,n=(s.held.map fun k:Nat=>(k:Int)).length:=⟨_,rfl⟩
 have a:=GD (g.out.below D.out q);have I:=GD (q.box t.out);have an:Hid (Below w.heap.size w z1):=x.out.trans (q.mono x.out.size);clear q g t x;have f:=GD (aM z1 _ _ (m:Int) hO.aP (by rw[Hb];have:=(a.out.aI D.out).lS;have:=a.out.fr;have:=HF.out;omega));rw[Po.mem_cast]at f;clear hO;rw[<-G]at f⊢;clear G b0 b1 b2 b3;obtain⟨b0,b1,b2,b3⟩:=I.out.cells;rw[show decide (m∈s.held)=true from GK Q.out]at f;go_wp2_with fail
 refine f.out.mono ?_;rintro e z⟨rfl,rfl⟩;clear f;go_wp2_with fail
 refine(D.out.Fc m a.out.at_.at_ a.out.calm (by have:=a.out.stop;have:=HK.out;omega) (by rw[a.out.ar];have:=O.out;show(m:Int)<16;omega) (GJ Q.out) (by have:=a.out.pins m;have:=HK.out;omega)).mono ?_;rintro e y⟨rfl,d2,aa,s2,hw,hC,hl,hs⟩;obtain⟨U2,V2,X2,o,hT,-⟩:=a.out.fe hw hC hl hs.ar hs.ao (G8 K) (fun j=>by
  rw[hs.pins];have h1:=a.out.pins j;have h2:=a.out.pins m;unfold Po.cI;split<;>omega)
 have u:=GD o;have J:=GD (Po.kx.pinned HT.out hs (o.aI D.out) o.ref.lp O.out);have ab:=GD (I.out.aj hT (fun h=>ag.out.1 bx h rfl));have M:Hid (pi.getD m 0<=K):=by show _<=_;rw[HT.out.tie.pins m O.out];exact a.out.pins m
 clear hw hC hl hs o hT b0 b1 b2 b3;obtain⟨b0,b1,b2,b3⟩:=ab.out.cells;obtain⟨v,S⟩:∃v,v=pi.getD m 0:=⟨_,rfl⟩
 obtain⟨gp,c3,cp,fp,l⟩:=u.out.ref.p O.out;obtain⟨hr,C⟩:=l (pi.getD m 0+1);rw[<-S]at hr C cp J M;have af:=GD hr;have ad:=GD C;have ah:IntKind.i64.wrap ((v:Int)+1)=((v+1:Nat):Int):=by rw[GW _ (by have:=M.out;have:=HK.out;omega)];omega
 clear l hr C S;go_upto_region 44 with(fail)
 go_still_tail 10,(by kernel_rfl)
 go_wp2_with fail
 go_ret;exact⟨U2,V2,X2,Z,d2,aa,s2,N,fi,di,_,rfl,u.out.gS D.out (af.out.aj (T:=fun _=>False) ⟨rfl,rfl,rfl,GH _,fun _ _ _=>rfl⟩ (fun _ _ h=>h)) (ad.out.trans ⟨rfl,rfl,rfl,GH _,fun _ _ _=>rfl⟩) u.out.ap,J.out⟩
set_option maxHeartbeats 6400000 in
set_option maxRecDepth 20000 in
theorem uJ(A:bh PD PL PO Hd Hw Hp)(h:dt PL PO Hw base F K U V X Z w0 w B L P R d lg s N fi di pi)(Y:Po.cW s N fi di pi)(hk:K<=150)(hf:1<=F/\F<=12)(fl:Int)(C:bF fl)(I:Bool)(m:Nat)(hm:m<16)(u:m∉s.held)(x:Po.Full s):
 Calls Tryz.prog 10 #[.pointer (some ⟨L,0,none⟩),.pointer (some ⟨P,0,none⟩),.pointer (some ⟨R,0,none⟩),.int .i64 (F:Int),.agg #[.int .i64 2,.int .i64 (m:Int),.int .i64 fl,.bool I]] w fun e w'=>cF PL PO Hw base F K w0 B L P R e w':=by
 have G:=GD A;have S:=GD Y;have HK:=GD hk;have HF:=GD hf;have af:=GD C;have HM:=GD hm;have D:=GD u;have E:=GD x;obtain⟨W,H⟩:∃W,W=w.alloc (.cells #[.int .i64 2,.int .i64 (m:Int),.int .i64 fl,.bool I] 32):=⟨_,rfl⟩
 have b:W.heap[w.heap.size]?=some (.cells #[.int .i64 2,.int .i64 (m:Int),.int .i64 fl,.bool I] 32 (0,0)):=by rw[H];exact GM _ _
 have o:Below w.heap.size w W:=by rw[H];exact ae _ _
 obtain⟨O,q⟩:∃B,B=w.heap.size:=⟨_,rfl⟩
 rw[<-q]at b;have r:Hid (iM W O 2 (m:Int) fl I):=GD ⟨b⟩;have t:=GD o;have g:=GD (h.below A o);have ah:Hid ((∀i,aB U V X i->i≠O)/\(∀i,Z i->i≠O)):=GD ⟨fun i l e=>(by have:=A.lt h.at_.at_ i l;omega),fun i l e=>(by have:=(h.ref.low i l).2;omega)⟩;clear A h Y hk hf C b o hm u x;go_enter Tryz.func10,Tryz.ntmps10;go_upto_region 1 with(fail)
 rw[<-H,<-q];clear H q;obtain⟨b0,b1,b2,b3⟩:=r.out.cells;have ab:(0:Int)<=(m:Int):=by omega
 have aa:(m:Int)<16:=by have:=HM.out;omega
 go_wp2_with fail
 refine(G.out.held g.out.at_.at_ g.out.calm).mono ?_;rintro e J⟨hv,rfl,M,o⟩;obtain⟨hp,hc,rfl⟩:∃p c,hv=.slice p (s.held.map fun k:Nat=>(k:Int)).length c:=by
  obtain⟨p,c,e,-⟩:=M.aP.form;exact⟨p,c,e⟩
 obtain⟨hl,v⟩:∃n,n=(s.held.map fun k:Nat=>(k:Int)).length:=⟨_,rfl⟩
 have a:=GD (g.out.below G.out o);have Q:=GD (o.box r.out);have ag:Hid (Below w.heap.size w J):=t.out.trans (o.mono t.out.size);clear o g r t;have f:=GD (aM J _ _ (m:Int) M.aP (by rw[Hb];have:=(a.out.aI G.out).lS;have:=a.out.fr;have:=HF.out;omega));rw[Po.mem_cast]at f;clear M;rw[<-v]at f⊢;clear v b0 b1 b2 b3;obtain⟨b0,b1,b2,b3⟩:=Q.out.cells;rw[show decide (m∈s.held)=false from GY D.out]at f;go_wp2_with fail
 refine f.out.mono ?_;rintro e z⟨rfl,rfl⟩;clear f;go_wp2_with fail
 refine(bo J a.out.ref (fun i l=>by rw[S.out.tie.pins i l];have:=a.out.pins i;have:=HK.out;omega)).mono ?_;rintro e z⟨rfl,rfl⟩;have ad:(F:Int)<=(Po.fD pi:Int):=by have:=(Po.df (a.out.aI G.out) a.out.ar a.out.ref.lp S.out.tie.pins).2 E.out;rw[a.out.fr]at this;omega
 go_wp2_with fail
 refine(G.out.sX m a.out.at_.at_ a.out.calm (by rw[a.out.ar];have:=HM.out;show(m:Int)<16;omega) (fun h=>h.elim D.out fun h=>h E.out)).mono ?_;rintro e y⟨rfl,hw⟩;obtain⟨U2,V2,X2,l,hT,-⟩:=a.out.fe hw a.out.calm (GJ rfl) rfl rfl (G8 K) (fun j=>Iv (a.out.pins j));have T:=GD l;clear hw l hT;go_wp2_with fail
 go_ret;exact⟨U2,V2,X2,Z,d,lg,s,N,fi,di,pi,rfl,T.out,S.out.tie⟩
set_option maxHeartbeats 6400000 in
set_option maxRecDepth 20000 in
theorem uI(A:bh PD PL PO Hd Hw Hp)(h:dt PL PO Hw base F K U V X Z w0 w B L P R d lg s N fi di pi)(D:Po.cW s N fi di pi)(hk:K<=150)(hf:1<=F/\F<=12)(fl:Int)(I:bF fl)(br:Bool)(m:Nat)(hm:m<16)(E:m∉s.held)(H:¬Po.Full s):
 Calls Tryz.prog 10 #[.pointer (some ⟨L,0,none⟩),.pointer (some ⟨P,0,none⟩),.pointer (some ⟨R,0,none⟩),.int .i64 (F:Int),.agg #[.int .i64 2,.int .i64 (m:Int),.int .i64 fl,.bool br]] w fun e w'=>cF PL PO Hw base F K w0 B L P R e w':=by
 have C:=GD A;have HT:=GD D;have HK:=GD hk;have HF:=GD hf;have aq:=GD I;have Q:=GD hm;have ag:=GD E;have S:=GD H;obtain⟨W,hW⟩:∃W,W=w.alloc (.cells #[.int .i64 2,.int .i64 (m:Int),.int .i64 fl,.bool br] 32):=⟨_,rfl⟩
 have b:W.heap[w.heap.size]?=some (.cells #[.int .i64 2,.int .i64 (m:Int),.int .i64 fl,.bool br] 32 (0,0)):=by rw[hW];exact GM _ _
 have q:Below w.heap.size w W:=by rw[hW];exact ae _ _
 obtain⟨bx,r⟩:∃B,B=w.heap.size:=⟨_,rfl⟩
 rw[<-r]at b;have t:Hid (iM W bx 2 (m:Int) fl br):=GD ⟨b⟩;have x:=GD q;have l:=GD (h.below A q);have ah:Hid ((∀i,aB U V X i->i≠bx)/\(∀i,Z i->i≠bx)):=GD ⟨fun i g e=>(by have:=A.lt h.at_.at_ i g;omega),fun i g e=>(by have:=(h.ref.low i g).2;omega)⟩;clear A h D hk hf I b q hm E H;go_enter Tryz.func10,Tryz.ntmps10;go_upto_region 1 with(fail)
 rw[<-hW,<-r];clear hW r;obtain⟨b0,b1,b2,b3⟩:=t.out.cells;have al:(0:Int)<=(m:Int):=by omega
 have ak:(m:Int)<16:=by have:=Q.out;omega
 go_wp2_with fail
 refine(C.out.held l.out.at_.at_ l.out.calm).mono ?_;rintro e z1⟨Y,rfl,hO,q⟩;obtain⟨hp,hc,rfl⟩:∃p c,Y=.slice p (s.held.map fun k:Nat=>(k:Int)).length c:=by
  obtain⟨p,c,e,-⟩:=hO.aP.form;exact⟨p,c,e⟩
 obtain⟨hl,G⟩:∃n,n=(s.held.map fun k:Nat=>(k:Int)).length:=⟨_,rfl⟩
 have a:=GD (l.out.below C.out q);have J:=GD (q.box t.out);have au:Hid (Below w.heap.size w z1):=x.out.trans (q.mono x.out.size);clear q l t x;have f:=GD (aM z1 _ _ (m:Int) hO.aP (by rw[Hb];have:=(a.out.aI C.out).lS;have:=a.out.fr;have:=HF.out;omega));rw[Po.mem_cast]at f;clear hO;rw[<-G]at f⊢;clear G b0 b1 b2 b3;obtain⟨b0,b1,b2,b3⟩:=J.out.cells;rw[show decide (m∈s.held)=false from GY ag.out]at f;go_wp2_with fail
 refine f.out.mono ?_;rintro e z⟨rfl,rfl⟩;clear f;go_wp2_with fail
 refine(bo z1 a.out.ref (fun i g=>by rw[HT.out.tie.pins i g];have:=a.out.pins i;have:=HK.out;omega)).mono ?_;rintro e z⟨rfl,rfl⟩;have an:¬((F:Int)<=(Po.fD pi:Int)):=fun h=>S.out ((Po.df (a.out.aI C.out) a.out.ar a.out.ref.lp HT.out.tie.pins).1 (by rw[a.out.fr];omega));go_wp2_with fail
 refine(C.out.Fc m a.out.at_.at_ a.out.calm (by have:=a.out.stop;have:=HK.out;omega) (by rw[a.out.ar];have:=Q.out;show(m:Int)<16;omega) (GL S.out) (by have:=a.out.pins m;have:=HK.out;omega)).mono ?_;rintro e y⟨rfl,d2,aa,s2,hw,hC,hl,hs⟩;obtain⟨U2,V2,X2,g,hT,-⟩:=a.out.fe hw hC hl hs.ar hs.ao (G8 K) (fun j=>by
  rw[hs.pins];have h1:=a.out.pins j;have h2:=a.out.pins m;unfold Po.cI;split<;>omega)
 have u:=GD g;have M:=GD (Po.kx.pinned HT.out hs (g.aI C.out) g.ref.lp Q.out);have ab:=GD (J.out.aj hT (fun h=>ah.out.1 bx h rfl));have O:Hid (pi.getD m 0<=K):=by show _<=_;rw[HT.out.tie.pins m Q.out];exact a.out.pins m
 clear hw hC hl hs g hT b0 b1 b2 b3;obtain⟨b0,b1,b2,b3⟩:=ab.out.cells;obtain⟨v,Y⟩:∃v,v=pi.getD m 0:=⟨_,rfl⟩
 obtain⟨gp,c3,cp,fp,o⟩:=u.out.ref.p Q.out;obtain⟨hr,D⟩:=o (pi.getD m 0+1);rw[<-Y]at hr D cp M O;have af:=GD hr;have ad:=GD D;have ai:IntKind.i64.wrap ((v:Int)+1)=((v+1:Nat):Int):=by rw[GW _ (by have:=O.out;have:=HK.out;omega)];omega
 clear o hr D Y;go_upto_region 44 with(fail)
 go_still_tail 10,(by kernel_rfl)
 go_wp2_with fail
 go_ret;exact⟨U2,V2,X2,Z,d2,aa,s2,N,fi,di,_,rfl,u.out.gS C.out (af.out.aj (T:=fun _=>False) ⟨rfl,rfl,rfl,GH _,fun _ _ _=>rfl⟩ (fun _ _ h=>h)) (ad.out.trans ⟨rfl,rfl,rfl,GH _,fun _ _ _=>rfl⟩) u.out.ap,M.out⟩
end
section
variable{PD:(Nat->Prop)->World->Nat->Dk.ak->Prop}{PL:(Nat->Prop)->(Nat->Prop)->World->Nat->Nat->Dk.ak->Wl.S->Prop}{PO:(Nat->Prop)->World->Nat->Nat->Nat->Po.S->Prop}{Hd:Dk.ak->Wl.S->Prop}{Hw:Dk.ak->Po.Ar->(Nat->Po.Pg)->Prop}{Hp:Dk.ak->Po.Ar->(Nat->Po.Pg->Prop)->Prop}
variable{U V X Z:Nat->Prop}{w w' w0:World}{B L P R base F K:Nat}{d:Dk.ak}{lg:Wl.S}{s:Po.S}{N:List Po.Pg}{fi:List Nat}{di:List Bool}{pi:List Nat}
set_option maxHeartbeats 6400000 in
set_option maxRecDepth 20000 in
theorem zB(A:bh PD PL PO Hd Hw Hp)(h:dt PL PO Hw base F K U V X Z w0 w B L P R d lg s N fi di pi)(Q:Po.cW s N fi di pi)(T:K<=150)(hf:1<=F/\F<=12)(fl:Int)(r:bF fl)(z:Bool)(n:Int)(S:bF n/\n<0):
 Calls Tryz.prog 10 #[.pointer (some ⟨L,0,none⟩),.pointer (some ⟨P,0,none⟩),.pointer (some ⟨R,0,none⟩),.int .i64 (F:Int),.agg #[.int .i64 3,.int .i64 n,.int .i64 fl,.bool z]] w fun e w'=>cF PL PO Hw base F K w0 B L P R e w':=by
 have u:=GD A;have HT:=GD Q;have HK:=GD T;have HF:=GD hf;have ad:=GD r;have M:=GD S;obtain⟨W,x⟩:∃W,W=w.alloc (.cells #[.int .i64 3,.int .i64 n,.int .i64 fl,.bool z] 32):=⟨_,rfl⟩
 have a:W.heap[w.heap.size]?=some (.cells #[.int .i64 3,.int .i64 n,.int .i64 fl,.bool z] 32 (0,0)):=by rw[x];exact GM _ _
 have b:Below w.heap.size w W:=by rw[x];exact ae _ _
 obtain⟨I,j⟩:∃B,B=w.heap.size:=⟨_,rfl⟩
 rw[<-j]at a;have m:Hid (iM W I 3 n fl z):=GD ⟨a⟩;have o:=GD b;have g:=GD (h.below A b);have ag:Hid ((∀i,aB U V X i->i≠I)/\(∀i,Z i->i≠I)):=GD ⟨fun i E e=>(by have:=A.lt h.at_.at_ i E;omega),fun i E e=>(by have:=(h.ref.low i E).2;omega)⟩;clear A h Q T hf r a b S;go_enter Tryz.func10,Tryz.ntmps10;go_upto_region 1 with(fail)
 rw[<-x,<-j];clear x j;obtain⟨D,b1,b2,C⟩:=m.out.cells;have aa:¬((0:Int)<=n):=by have:=M.out;omega
 go_wp2_with fail
 refine(u.out.held g.out.at_.at_ g.out.calm).mono ?_;rintro e v⟨Y,rfl,G,b⟩;obtain⟨hp,hc,rfl⟩:∃p c,Y=.slice p (s.held.map fun k:Nat=>(k:Int)).length c:=by
  obtain⟨p,c,e,-⟩:=G.aP.form;exact⟨p,c,e⟩
 obtain⟨hl,q⟩:∃n,n=(s.held.map fun k:Nat=>(k:Int)).length:=⟨_,rfl⟩
 have O:=GD (g.out.below u.out b);have t:=GD (b.box m.out);have af:Hid (Below w.heap.size w v):=o.out.trans (b.mono o.out.size);clear b g m o;have ab:=GD G;clear G D b1 b2 C;rw[<-q];clear q;obtain⟨D,b1,b2,C⟩:=t.out.cells;go_upto_region 46 with(fail)
 go_quiet (fail)
 have l:=below_drewN v.heap.size v nq;have f:=GD (O.out.below u.out l);have J:=GD (l.box t.out);clear l D b1 b2 C;generalize v.drewN nq=y0 at*
 obtain⟨D,b1,b2,C⟩:=J.out.cells;go_wp2_with fail
 refine(u.out.fk n f.out.at_.at_ f.out.calm M.out.1 (fun h=>absurd h (fun h=>by have H:=h.2;rw[f.out.ar]at H;have H:n<16:=H;have:=h.1;have:=M.out;omega))).mono ?_;rintro e y⟨rfl,b⟩;go_wp2_with fail
 go_ret;exact⟨U,V,X,Z,d,lg,s,N,fi,di,pi,rfl,(f.out.below u.out b).more (G8 _),HT.out.tie⟩
set_option maxHeartbeats 6400000 in
set_option maxRecDepth 20000 in
theorem zD(A:bh PD PL PO Hd Hw Hp)(h:dt PL PO Hw base F K U V X Z w0 w B L P R d lg s N fi di pi)(Q:Po.cW s N fi di pi)(T:K<=150)(hf:1<=F/\F<=12)(fl:Int)(r:bF fl)(z:Bool)(n:Int)(S:bF n/\16<=n):
 Calls Tryz.prog 10 #[.pointer (some ⟨L,0,none⟩),.pointer (some ⟨P,0,none⟩),.pointer (some ⟨R,0,none⟩),.int .i64 (F:Int),.agg #[.int .i64 3,.int .i64 n,.int .i64 fl,.bool z]] w fun e w'=>cF PL PO Hw base F K w0 B L P R e w':=by
 have u:=GD A;have HT:=GD Q;have HK:=GD T;have HF:=GD hf;have af:=GD r;have E:=GD S;obtain⟨W,x⟩:∃W,W=w.alloc (.cells #[.int .i64 3,.int .i64 n,.int .i64 fl,.bool z] 32):=⟨_,rfl⟩
 have a:W.heap[w.heap.size]?=some (.cells #[.int .i64 3,.int .i64 n,.int .i64 fl,.bool z] 32 (0,0)):=by rw[x];exact GM _ _
 have b:Below w.heap.size w W:=by rw[x];exact ae _ _
 obtain⟨J,j⟩:∃B,B=w.heap.size:=⟨_,rfl⟩
 rw[<-j]at a;have m:Hid (iM W J 3 n fl z):=GD ⟨a⟩;have o:=GD b;have g:=GD (h.below A b);have ah:Hid ((∀i,aB U V X i->i≠J)/\(∀i,Z i->i≠J)):=GD ⟨fun i G e=>(by have:=A.lt h.at_.at_ i G;omega),fun i G e=>(by have:=(h.ref.low i G).2;omega)⟩;clear A h Q T hf r a b S;go_enter Tryz.func10,Tryz.ntmps10;go_upto_region 1 with(fail)
 rw[<-x,<-j];clear x j;obtain⟨D,b1,b2,C⟩:=m.out.cells;have ab:(0:Int)<=n:=by have:=E.out;omega
 have aa:¬(n<16):=by have:=E.out;omega
 go_wp2_with fail
 refine(u.out.held g.out.at_.at_ g.out.calm).mono ?_;rintro e v⟨Y,rfl,H,b⟩;obtain⟨hp,hc,rfl⟩:∃p c,Y=.slice p (s.held.map fun k:Nat=>(k:Int)).length c:=by
  obtain⟨p,c,e,-⟩:=H.aP.form;exact⟨p,c,e⟩
 obtain⟨hl,q⟩:∃n,n=(s.held.map fun k:Nat=>(k:Int)).length:=⟨_,rfl⟩
 have O:=GD (g.out.below u.out b);have t:=GD (b.box m.out);have ag:Hid (Below w.heap.size w v):=o.out.trans (b.mono o.out.size);clear b g m o;have ad:=GD H;clear H D b1 b2 C;rw[<-q];clear q;obtain⟨D,b1,b2,C⟩:=t.out.cells;go_upto_region 46 with(fail)
 go_quiet (fail)
 have l:=below_drewN v.heap.size v nq;have f:=GD (O.out.below u.out l);have M:=GD (l.box t.out);clear l D b1 b2 C;generalize v.drewN nq=y0 at*
 obtain⟨D,b1,b2,C⟩:=M.out.cells;go_wp2_with fail
 refine(u.out.fk n f.out.at_.at_ f.out.calm E.out.1 (fun h=>absurd h (fun h=>by have I:=h.2;rw[f.out.ar]at I;have I:n<16:=I;have:=h.1;have:=E.out;omega))).mono ?_;rintro e y⟨rfl,b⟩;go_wp2_with fail
 go_ret;exact⟨U,V,X,Z,d,lg,s,N,fi,di,pi,rfl,(f.out.below u.out b).more (G8 _),HT.out.tie⟩
set_option maxHeartbeats 6400000 in
set_option maxRecDepth 20000 in
theorem zC(A:bh PD PL PO Hd Hw Hp)(h:dt PL PO Hw base F K U V X Z w0 w B L P R d lg s N fi di pi)(ht:Po.cW s N fi di pi)(hk:K<=150)(hf:1<=F/\F<=12)(fl:Int)(af:bF fl)(br:Bool)(m:Nat)(hm:m<16)(ab:m∈s.held):
 Calls Tryz.prog 10 #[.pointer (some ⟨L,0,none⟩),.pointer (some ⟨P,0,none⟩),.pointer (some ⟨R,0,none⟩),.int .i64 (F:Int),.agg #[.int .i64 3,.int .i64 (m:Int),.int .i64 fl,.bool br]] w fun e w'=>cF PL PO Hw base F K w0 B L P R e w':=by
 have u:=GD A;have HT:=GD ht;have HK:=GD hk;have HF:=GD hf;have ay:=GD af;have G:=GD hm;have aq:=GD ab;obtain⟨W,hW⟩:∃W,W=w.alloc (.cells #[.int .i64 3,.int .i64 (m:Int),.int .i64 fl,.bool br] 32):=⟨_,rfl⟩
 have g:W.heap[w.heap.size]?=some (.cells #[.int .i64 3,.int .i64 (m:Int),.int .i64 fl,.bool br] 32 (0,0)):=by rw[hW];exact GM _ _
 have o:Below w.heap.size w W:=by rw[hW];exact ae _ _
 obtain⟨bx,I⟩:∃B,B=w.heap.size:=⟨_,rfl⟩
 rw[<-I]at g;have M:Hid (iM W bx 3 (m:Int) fl br):=GD ⟨g⟩;have S:=GD o;have t:=GD (h.below A o);have au:Hid ((∀i,aB U V X i->i≠bx)/\(∀i,Z i->i≠bx)):=GD ⟨fun i H e=>(by have:=A.lt h.at_.at_ i H;omega),fun i H e=>(by have:=(h.ref.low i H).2;omega)⟩;clear A h ht hk hf af g o hm ab;go_enter Tryz.func10,Tryz.ntmps10;go_upto_region 1 with(fail)
 rw[<-hW,<-I];clear hW I;obtain⟨E,b1,b2,D⟩:=M.out.cells;have ax:(0:Int)<=(m:Int):=by omega
 have aw:(m:Int)<16:=by have:=G.out;omega
 go_wp2_with fail
 refine(u.out.held t.out.at_.at_ t.out.calm).mono ?_;rintro e x⟨Y,rfl,hO,o⟩;obtain⟨hp,hc,rfl⟩:∃p c,Y=.slice p (s.held.map fun k:Nat=>(k:Int)).length c:=by
  obtain⟨p,c,e,-⟩:=hO.aP.form;exact⟨p,c,e⟩
 obtain⟨hl,ad⟩:∃n,n=(s.held.map fun k:Nat=>(k:Int)).length:=⟨_,rfl⟩
 have f:=GD (t.out.below u.out o);have J:=GD (o.box M.out);have az:Hid (Below w.heap.size w x):=S.out.trans (o.mono S.out.size);clear o t M S;have l:=GD (aM x _ _ (m:Int) hO.aP (by rw[Hb];have:=(f.out.aI u.out).lS;have:=f.out.fr;have:=HF.out;omega));rw[Po.mem_cast]at l;clear hO;rw[<-ad]at l⊢;clear ad E b1 b2 D;obtain⟨E,b1,b2,D⟩:=J.out.cells;rw[show decide (m∈s.held)=true from GK aq.out]at l;go_wp2_with fail
 refine l.out.mono ?_;rintro e z⟨rfl,rfl⟩;clear l;obtain⟨v,Y⟩:∃v,v=pi.getD m 0:=⟨_,rfl⟩
 obtain⟨gp,c3,cp,fp,-⟩:=f.out.ref.p G.out;rw[<-Y]at cp;have HV:Hid (v=s.pins m):=by show _=_;rw[Y,HT.out.tie.pins m G.out]
 have ao:Hid (v<=K):=by show _<=_;rw[HV.out];exact f.out.pins m
 have ai:=GD Y;clear Y;by_cases hz:v=0
 case pos=>
  have r:Hid (s.pins m=0):=by show _=_;rw[<-HV.out,hz]
  have aa:((v:Int)==0)=true:=by rw[hz];rfl
  clear hz;go_upto_region 46 with(fail)
  go_quiet (fail)
  have b:=below_drewN x.heap.size x nq;have a:=GD (f.out.below u.out b);have q:=GD (b.box J.out);clear b E b1 b2 D c3 cp fp;generalize x.drewN nq=y0 at*
  obtain⟨E,b1,b2,D⟩:=q.out.cells;go_wp2_with fail
  refine(u.out.fk (m:Int) a.out.at_.at_ a.out.calm ⟨by have:=G.out;omega,by have:=G.out;omega⟩ (fun _=>by rw[Ic];exact r.out)).mono ?_;rintro e y⟨rfl,o⟩;go_wp2_with fail
  go_ret;exact⟨U,V,X,Z,d,lg,s,N,fi,di,pi,rfl,(a.out.below u.out o).more (G8 _),HT.out.tie⟩
 case neg=>
  have r:Hid (0<s.pins m):=by show 0<_;rw[<-HV.out];omega
  have aa:((v:Int)==0)=false:=by simpa using hz
  clear hz;go_upto_region 46 with(fail)
  go_quiet (fail)
  have b:=below_drewN x.heap.size x nq;have a:=GD (f.out.below u.out b);have q:=GD (b.box J.out);clear b E b1 b2 D c3 cp fp;generalize x.drewN nq=y0 at*
  obtain⟨E,b1,b2,D⟩:=q.out.cells;go_wp2_with fail
  refine(u.out.iN m a.out.at_.at_ a.out.calm (by rw[a.out.ar];have:=G.out;show(m:Int)<16;omega) r.out (by have:=a.out.pins m;have:=HK.out;omega)).mono ?_;rintro e y⟨rfl,hw⟩;obtain⟨U2,V2,X2,H,hT,-⟩:=a.out.fe hw a.out.calm (GJ rfl) rfl rfl (G8 K) (fun j=>by
   show Po.cI s.pins m (s.pins m-1) j<=_;have h1:=a.out.pins j;have h2:=a.out.pins m;unfold Po.cI;split<;>omega)
  have Q:=GD H;have ag:=GD (Po.kx.iN HT.out H.ref.lp G.out);have ah:=GD (q.out.aj hT (fun h=>au.out.1 bx h rfl));have O:=r.out;rw[<-HV.out]at O;have ak:=GD O;clear hw H hT E b1 b2 D O;obtain⟨E,b1,b2,D⟩:=ah.out.cells;obtain⟨gp,c3,cp,fp,C⟩:=Q.out.ref.p G.out;obtain⟨hr,ht⟩:=C (pi.getD m 0-1);rw[<-ai.out]at hr ht cp ag;have an:=GD hr;have al:=GD ht;have av:IntKind.i64.wrap ((v:Int)-1)=((v-1:Nat):Int):=by rw[GW _ (by have:=ao.out;have:=HK.out;omega)];have:=ak.out;omega
  clear C hr ht aa;go_upto_region 50 with(fail)
  go_still_tail 10,(by kernel_rfl)
  go_wp2_with fail
  go_ret;exact⟨U2,V2,X2,Z,d,lg,_,N,fi,di,_,rfl,Q.out.gS u.out (an.out.aj (T:=fun _=>False) ⟨rfl,rfl,rfl,GH _,fun _ _ _=>rfl⟩ (fun _ _ h=>h)) (al.out.trans ⟨rfl,rfl,rfl,GH _,fun _ _ _=>rfl⟩) Q.out.ap,ag.out⟩
set_option maxHeartbeats 6400000 in
set_option maxRecDepth 20000 in
theorem uH(A:bh PD PL PO Hd Hw Hp)(h:dt PL PO Hw base F K U V X Z w0 w B L P R d lg s N fi di pi)(ht:Po.cW s N fi di pi)(hk:K<=150)(hf:1<=F/\F<=12)(fl:Int)(ag:bF fl)(br:Bool)(m:Nat)(hm:m<16)(ab:m∉s.held)(af:Po.Full s):
 Calls Tryz.prog 10 #[.pointer (some ⟨L,0,none⟩),.pointer (some ⟨P,0,none⟩),.pointer (some ⟨R,0,none⟩),.int .i64 (F:Int),.agg #[.int .i64 3,.int .i64 (m:Int),.int .i64 fl,.bool br]] w fun e w'=>cF PL PO Hw base F K w0 B L P R e w':=by
 have q:=GD A;have HT:=GD ht;have HK:=GD hk;have HF:=GD hf;have aC:=GD ag;have H:=GD hm;have au:=GD ab;have av:=GD af;obtain⟨W,hW⟩:∃W,W=w.alloc (.cells #[.int .i64 3,.int .i64 (m:Int),.int .i64 fl,.bool br] 32):=⟨_,rfl⟩
 have g:W.heap[w.heap.size]?=some (.cells #[.int .i64 3,.int .i64 (m:Int),.int .i64 fl,.bool br] 32 (0,0)):=by rw[hW];exact GM _ _
 have o:Below w.heap.size w W:=by rw[hW];exact ae _ _
 obtain⟨bx,I⟩:∃B,B=w.heap.size:=⟨_,rfl⟩
 rw[<-I]at g;have M:Hid (iM W bx 3 (m:Int) fl br):=GD ⟨g⟩;have S:=GD o;have C:=GD (h.below A o);have aw:Hid ((∀i,aB U V X i->i≠bx)/\(∀i,Z i->i≠bx)):=GD ⟨fun i t e=>(by have:=A.lt h.at_.at_ i t;omega),fun i t e=>(by have:=(h.ref.low i t).2;omega)⟩;clear A h ht hk hf ag g o hm ab af;go_enter Tryz.func10,Tryz.ntmps10;go_upto_region 1 with(fail)
 rw[<-hW,<-I];clear hW I;obtain⟨G,b1,b2,E⟩:=M.out.cells;have az:(0:Int)<=(m:Int):=by omega
 have ay:(m:Int)<16:=by have:=H.out;omega
 go_wp2_with fail
 refine(q.out.held C.out.at_.at_ C.out.calm).mono ?_;rintro e r⟨Y,rfl,hO,o⟩;obtain⟨hp,hc,rfl⟩:∃p c,Y=.slice p (s.held.map fun k:Nat=>(k:Int)).length c:=by
  obtain⟨p,c,e,-⟩:=hO.aP.form;exact⟨p,c,e⟩
 obtain⟨hl,ad⟩:∃n,n=(s.held.map fun k:Nat=>(k:Int)).length:=⟨_,rfl⟩
 have b:=GD (C.out.below q.out o);have J:=GD (o.box M.out);have aD:Hid (Below w.heap.size w r):=S.out.trans (o.mono S.out.size);clear o C M S;have l:=GD (aM r _ _ (m:Int) hO.aP (by rw[Hb];have:=(b.out.aI q.out).lS;have:=b.out.fr;have:=HF.out;omega));rw[Po.mem_cast]at l;clear hO;rw[<-ad]at l⊢;clear ad G b1 b2 E;obtain⟨G,b1,b2,E⟩:=J.out.cells;rw[show decide (m∈s.held)=false from GY au.out]at l;go_wp2_with fail
 refine l.out.mono ?_;rintro e z⟨rfl,rfl⟩;clear l;go_wp2_with fail
 refine(bo r b.out.ref (fun i t=>by rw[HT.out.tie.pins i t];have:=b.out.pins i;have:=HK.out;omega)).mono ?_;rintro e z⟨rfl,rfl⟩;have aA:(F:Int)<=(Po.fD pi:Int):=by have:=(Po.df (b.out.aI q.out) b.out.ar b.out.ref.lp HT.out.tie.pins).2 av.out;rw[b.out.fr]at this;omega
 obtain⟨v,Y⟩:∃v,v=pi.getD m 0:=⟨_,rfl⟩
 obtain⟨gp,c3,cp,fp,-⟩:=b.out.ref.p H.out;rw[<-Y]at cp;have HV:Hid (v=s.pins m):=by show _=_;rw[Y,HT.out.tie.pins m H.out]
 have aq:Hid (v<=K):=by show _<=_;rw[HV.out];exact b.out.pins m
 have ak:=GD Y;clear Y;by_cases hz:v=0
 case pos=>
  have x:Hid (s.pins m=0):=by show _=_;rw[<-HV.out,hz]
  have aa:((v:Int)==0)=true:=by rw[hz];rfl
  clear hz;go_upto_region 46 with(fail)
  go_quiet (fail)
  have f:=below_drewN r.heap.size r nq;have a:=GD (b.out.below q.out f);have u:=GD (f.box J.out);clear f G b1 b2 E c3 cp fp;generalize r.drewN nq=y0 at*
  obtain⟨G,b1,b2,E⟩:=u.out.cells;go_wp2_with fail
  refine(q.out.fk (m:Int) a.out.at_.at_ a.out.calm ⟨by have:=H.out;omega,by have:=H.out;omega⟩ (fun _=>by rw[Ic];exact x.out)).mono ?_;rintro e y⟨rfl,o⟩;go_wp2_with fail
  go_ret;exact⟨U,V,X,Z,d,lg,s,N,fi,di,pi,rfl,(a.out.below q.out o).more (G8 _),HT.out.tie⟩
 case neg=>
  have x:Hid (0<s.pins m):=by show 0<_;rw[<-HV.out];omega
  have aa:((v:Int)==0)=false:=by simpa using hz
  clear hz;go_upto_region 46 with(fail)
  go_quiet (fail)
  have f:=below_drewN r.heap.size r nq;have a:=GD (b.out.below q.out f);have u:=GD (f.box J.out);clear f G b1 b2 E c3 cp fp;generalize r.drewN nq=y0 at*
  obtain⟨G,b1,b2,E⟩:=u.out.cells;go_wp2_with fail
  refine(q.out.iN m a.out.at_.at_ a.out.calm (by rw[a.out.ar];have:=H.out;show(m:Int)<16;omega) x.out (by have:=a.out.pins m;have:=HK.out;omega)).mono ?_;rintro e y⟨rfl,hw⟩;obtain⟨U2,V2,X2,t,hT,-⟩:=a.out.fe hw a.out.calm (GJ rfl) rfl rfl (G8 K) (fun j=>by
   show Po.cI s.pins m (s.pins m-1) j<=_;have h1:=a.out.pins j;have h2:=a.out.pins m;unfold Po.cI;split<;>omega)
  have Q:=GD t;have ah:=GD (Po.kx.iN HT.out t.ref.lp H.out);have ai:=GD (u.out.aj hT (fun h=>aw.out.1 bx h rfl));have O:=x.out;rw[<-HV.out]at O;have al:=GD O;clear hw t hT G b1 b2 E O;obtain⟨G,b1,b2,E⟩:=ai.out.cells;obtain⟨gp,c3,cp,fp,D⟩:=Q.out.ref.p H.out;obtain⟨hr,ht⟩:=D (pi.getD m 0-1);rw[<-ak.out]at hr ht cp ah;have ao:=GD hr;have an:=GD ht;have ax:IntKind.i64.wrap ((v:Int)-1)=((v-1:Nat):Int):=by rw[GW _ (by have:=aq.out;have:=HK.out;omega)];have:=al.out;omega
  clear D hr ht aa;go_upto_region 50 with(fail)
  go_still_tail 10,(by kernel_rfl)
  go_wp2_with fail
  go_ret;exact⟨U2,V2,X2,Z,d,lg,_,N,fi,di,_,rfl,Q.out.gS q.out (ao.out.aj (T:=fun _=>False) ⟨rfl,rfl,rfl,GH _,fun _ _ _=>rfl⟩ (fun _ _ h=>h)) (an.out.trans ⟨rfl,rfl,rfl,GH _,fun _ _ _=>rfl⟩) Q.out.ap,ah.out⟩
set_option maxHeartbeats 6400000 in
set_option maxRecDepth 20000 in
theorem uG(A:bh PD PL PO Hd Hw Hp)(h:dt PL PO Hw base F K U V X Z w0 w B L P R d lg s N fi di pi)(ht:Po.cW s N fi di pi)(hk:K<=150)(hf:1<=F/\F<=12)(fl:Int)(ag:bF fl)(br:Bool)(m:Nat)(hm:m<16)(ab:m∉s.held)(af:¬Po.Full s):
 Calls Tryz.prog 10 #[.pointer (some ⟨L,0,none⟩),.pointer (some ⟨P,0,none⟩),.pointer (some ⟨R,0,none⟩),.int .i64 (F:Int),.agg #[.int .i64 3,.int .i64 (m:Int),.int .i64 fl,.bool br]] w fun e w'=>cF PL PO Hw base F K w0 B L P R e w':=by
 have q:=GD A;have HT:=GD ht;have HK:=GD hk;have HF:=GD hf;have aC:=GD ag;have H:=GD hm;have au:=GD ab;have av:=GD af;obtain⟨W,hW⟩:∃W,W=w.alloc (.cells #[.int .i64 3,.int .i64 (m:Int),.int .i64 fl,.bool br] 32):=⟨_,rfl⟩
 have g:W.heap[w.heap.size]?=some (.cells #[.int .i64 3,.int .i64 (m:Int),.int .i64 fl,.bool br] 32 (0,0)):=by rw[hW];exact GM _ _
 have o:Below w.heap.size w W:=by rw[hW];exact ae _ _
 obtain⟨bx,I⟩:∃B,B=w.heap.size:=⟨_,rfl⟩
 rw[<-I]at g;have M:Hid (iM W bx 3 (m:Int) fl br):=GD ⟨g⟩;have S:=GD o;have C:=GD (h.below A o);have aw:Hid ((∀i,aB U V X i->i≠bx)/\(∀i,Z i->i≠bx)):=GD ⟨fun i t e=>(by have:=A.lt h.at_.at_ i t;omega),fun i t e=>(by have:=(h.ref.low i t).2;omega)⟩;clear A h ht hk hf ag g o hm ab af;go_enter Tryz.func10,Tryz.ntmps10;go_upto_region 1 with(fail)
 rw[<-hW,<-I];clear hW I;obtain⟨G,b1,b2,E⟩:=M.out.cells;have az:(0:Int)<=(m:Int):=by omega
 have ay:(m:Int)<16:=by have:=H.out;omega
 go_wp2_with fail
 refine(q.out.held C.out.at_.at_ C.out.calm).mono ?_;rintro e r⟨Y,rfl,hO,o⟩;obtain⟨hp,hc,rfl⟩:∃p c,Y=.slice p (s.held.map fun k:Nat=>(k:Int)).length c:=by
  obtain⟨p,c,e,-⟩:=hO.aP.form;exact⟨p,c,e⟩
 obtain⟨hl,ad⟩:∃n,n=(s.held.map fun k:Nat=>(k:Int)).length:=⟨_,rfl⟩
 have b:=GD (C.out.below q.out o);have J:=GD (o.box M.out);have aD:Hid (Below w.heap.size w r):=S.out.trans (o.mono S.out.size);clear o C M S;have l:=GD (aM r _ _ (m:Int) hO.aP (by rw[Hb];have:=(b.out.aI q.out).lS;have:=b.out.fr;have:=HF.out;omega));rw[Po.mem_cast]at l;clear hO;rw[<-ad]at l⊢;clear ad G b1 b2 E;obtain⟨G,b1,b2,E⟩:=J.out.cells;rw[show decide (m∈s.held)=false from GY au.out]at l;go_wp2_with fail
 refine l.out.mono ?_;rintro e z⟨rfl,rfl⟩;clear l;go_wp2_with fail
 refine(bo r b.out.ref (fun i t=>by rw[HT.out.tie.pins i t];have:=b.out.pins i;have:=HK.out;omega)).mono ?_;rintro e z⟨rfl,rfl⟩;have aA:¬((F:Int)<=(Po.fD pi:Int)):=fun h=>av.out ((Po.df (b.out.aI q.out) b.out.ar b.out.ref.lp HT.out.tie.pins).1 (by rw[b.out.fr];omega));obtain⟨v,Y⟩:∃v,v=pi.getD m 0:=⟨_,rfl⟩
 obtain⟨gp,c3,cp,fp,-⟩:=b.out.ref.p H.out;rw[<-Y]at cp;have HV:Hid (v=s.pins m):=by show _=_;rw[Y,HT.out.tie.pins m H.out]
 have aq:Hid (v<=K):=by show _<=_;rw[HV.out];exact b.out.pins m
 have ak:=GD Y;clear Y;by_cases hz:v=0
 case pos=>
  have x:Hid (s.pins m=0):=by show _=_;rw[<-HV.out,hz]
  have aa:((v:Int)==0)=true:=by rw[hz];rfl
  clear hz;go_upto_region 46 with(fail)
  go_quiet (fail)
  have f:=below_drewN r.heap.size r nq;have a:=GD (b.out.below q.out f);have u:=GD (f.box J.out);clear f G b1 b2 E c3 cp fp;generalize r.drewN nq=y0 at*
  obtain⟨G,b1,b2,E⟩:=u.out.cells;go_wp2_with fail
  refine(q.out.fk (m:Int) a.out.at_.at_ a.out.calm ⟨by have:=H.out;omega,by have:=H.out;omega⟩ (fun _=>by rw[Ic];exact x.out)).mono ?_;rintro e y⟨rfl,o⟩;go_wp2_with fail
  go_ret;exact⟨U,V,X,Z,d,lg,s,N,fi,di,pi,rfl,(a.out.below q.out o).more (G8 _),HT.out.tie⟩
 case neg=>
  have x:Hid (0<s.pins m):=by show 0<_;rw[<-HV.out];omega
  have aa:((v:Int)==0)=false:=by simpa using hz
  clear hz;go_upto_region 46 with(fail)
  go_quiet (fail)
  have f:=below_drewN r.heap.size r nq;have a:=GD (b.out.below q.out f);have u:=GD (f.box J.out);clear f G b1 b2 E c3 cp fp;generalize r.drewN nq=y0 at*
  obtain⟨G,b1,b2,E⟩:=u.out.cells;go_wp2_with fail
  refine(q.out.iN m a.out.at_.at_ a.out.calm (by rw[a.out.ar];have:=H.out;show(m:Int)<16;omega) x.out (by have:=a.out.pins m;have:=HK.out;omega)).mono ?_;rintro e y⟨rfl,hw⟩;obtain⟨U2,V2,X2,t,hT,-⟩:=a.out.fe hw a.out.calm (GJ rfl) rfl rfl (G8 K) (fun j=>by
   show Po.cI s.pins m (s.pins m-1) j<=_;have h1:=a.out.pins j;have h2:=a.out.pins m;unfold Po.cI;split<;>omega)
  have Q:=GD t;have ah:=GD (Po.kx.iN HT.out t.ref.lp H.out);have ai:=GD (u.out.aj hT (fun h=>aw.out.1 bx h rfl));have O:=x.out;rw[<-HV.out]at O;have al:=GD O;clear hw t hT G b1 b2 E O;obtain⟨G,b1,b2,E⟩:=ai.out.cells;obtain⟨gp,c3,cp,fp,D⟩:=Q.out.ref.p H.out;obtain⟨hr,ht⟩:=D (pi.getD m 0-1);rw[<-ak.out]at hr ht cp ah;have ao:=GD hr;have an:=GD ht;have ax:IntKind.i64.wrap ((v:Int)-1)=((v-1:Nat):Int):=by rw[GW _ (by have:=aq.out;have:=HK.out;omega)];have:=al.out;omega
  clear D hr ht aa;go_upto_region 50 with(fail)
  go_still_tail 10,(by kernel_rfl)
  go_wp2_with fail
  go_ret;exact⟨U2,V2,X2,Z,d,lg,_,N,fi,di,_,rfl,Q.out.gS q.out (ao.out.aj (T:=fun _=>False) ⟨rfl,rfl,rfl,GH _,fun _ _ _=>rfl⟩ (fun _ _ h=>h)) (an.out.trans ⟨rfl,rfl,rfl,GH _,fun _ _ _=>rfl⟩) Q.out.ap,ah.out⟩
end
end Go.Proofs.YtbpodmallknhfaaGreat
