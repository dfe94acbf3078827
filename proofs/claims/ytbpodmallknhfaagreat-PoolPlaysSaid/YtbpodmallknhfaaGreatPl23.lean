/- Parts of a proof. Conditions: as each row says. -/
import Derived.Test.YtbpodmallknhfaaGreatPl21
import Derived.Test.YtbpodmallknhfaaGreatPl22
import Derived.Test.YtbpodmallknhfaaGreatPl03
namespace Go.Proofs.YtbpodmallknhfaaGreat
open Go.RowKit
section
variable{PD:(Nat->Prop)->World->Nat->Dk.ak->Prop}{PL:(Nat->Prop)->(Nat->Prop)->World->Nat->Nat->Dk.ak->Wl.S->Prop}{PO:(Nat->Prop)->World->Nat->Nat->Nat->Po.S->Prop}{Hd:Dk.ak->Wl.S->Prop}{Hw:Dk.ak->Po.Ar->(Nat->Po.Pg)->Prop}{Hp:Dk.ak->Po.Ar->(Nat->Po.Pg->Prop)->Prop}
variable{U V X Z:Nat->Prop}{w w' w0:World}{B L P R base F K:Nat}{d:Dk.ak}{lg:Wl.S}{s:Po.S}{N:List Po.Pg}{fi:List Nat}{di:List Bool}{pi:List Nat}
set_option maxHeartbeats 6400000 in
set_option maxRecDepth 20000 in
theorem zx(A:bh PD PL PO Hd Hw Hp)(h:dt PL PO Hw base F K U V X Z w0 w B L P R d lg s N fi di pi)(G:Po.cW s N fi di pi)(I:K<=150)(hf:1<=F/\F<=12)(fl:Int)(q:bF fl)(t:Bool)(n:Int)(H:bF n/\n<0):
 Calls Tryz.prog 10 #[.pointer (some ⟨L,0,none⟩),.pointer (some ⟨P,0,none⟩),.pointer (some ⟨R,0,none⟩),.int .i64 (F:Int),.agg #[.int .i64 4,.int .i64 n,.int .i64 fl,.bool t]] w fun e w'=>cF PL PO Hw base F K w0 B L P R e w':=by
 have u:=GD A;have T:=GD G;have HK:=GD I;have HF:=GD hf;have aa:=GD q;have E:=GD H;obtain⟨W,r⟩:∃W,W=w.alloc (.cells #[.int .i64 4,.int .i64 n,.int .i64 fl,.bool t] 32):=⟨_,rfl⟩
 have a:W.heap[w.heap.size]?=some (.cells #[.int .i64 4,.int .i64 n,.int .i64 fl,.bool t] 32 (0,0)):=by rw[r];exact GM _ _
 have b:Below w.heap.size w W:=by rw[r];exact ae _ _
 obtain⟨C,j⟩:∃B,B=w.heap.size:=⟨_,rfl⟩
 rw[<-j]at a;have l:Hid (iM W C 4 n fl t):=GD ⟨a⟩;have m:=GD b;have g:=GD (h.below A b);have ad:Hid ((∀i,aB U V X i->i≠C)/\(∀i,Z i->i≠C)):=GD ⟨fun i v e=>(by have:=A.lt h.at_.at_ i v;omega),fun i v e=>(by have:=(h.ref.low i v).2;omega)⟩;clear A h G I hf q a b H;go_enter Tryz.func10,Tryz.ntmps10;go_upto_region 1 with(fail)
 rw[<-r,<-j];clear r j;obtain⟨M,b1,b2,J⟩:=l.out.cells;have S:¬((0:Int)<=n):=by have:=E.out;omega
 go_wp2_with fail
 refine(u.out.held g.out.at_.at_ g.out.calm).mono ?_;rintro e O⟨Q,rfl,x,b⟩;obtain⟨hp,hc,rfl⟩:∃p c,Q=.slice p (s.held.map fun k:Nat=>(k:Int)).length c:=by
  obtain⟨p,c,e,-⟩:=x.aP.form;exact⟨p,c,e⟩
 obtain⟨hl,o⟩:∃n,n=(s.held.map fun k:Nat=>(k:Int)).length:=⟨_,rfl⟩
 have f:=GD (g.out.below u.out b);have D:=GD (b.box l.out);have ab:Hid (Below w.heap.size w O):=m.out.trans (b.mono m.out.size);clear b g l m;have Y:=GD x;clear x M b1 b2 J;rw[<-o];clear o;obtain⟨M,b1,b2,J⟩:=D.out.cells;go_wp2_with fail
 refine(u.out.mv n f.out.at_.at_ f.out.calm E.out.1 (fun h=>by have z:=h.2;rw[f.out.ar]at z;have z:n<16:=z;have:=h.1;have:=E.out;omega)).mono ?_;rintro e y⟨rfl,b⟩;go_wp2_with fail
 go_ret;exact⟨U,V,X,Z,d,lg,s,N,fi,di,pi,rfl,(f.out.below u.out b).more (G8 _),T.out.tie⟩
set_option maxHeartbeats 6400000 in
set_option maxRecDepth 20000 in
theorem zA(A:bh PD PL PO Hd Hw Hp)(h:dt PL PO Hw base F K U V X Z w0 w B L P R d lg s N fi di pi)(G:Po.cW s N fi di pi)(I:K<=150)(hf:1<=F/\F<=12)(fl:Int)(q:bF fl)(t:Bool)(n:Int)(H:bF n/\16<=n):
 Calls Tryz.prog 10 #[.pointer (some ⟨L,0,none⟩),.pointer (some ⟨P,0,none⟩),.pointer (some ⟨R,0,none⟩),.int .i64 (F:Int),.agg #[.int .i64 4,.int .i64 n,.int .i64 fl,.bool t]] w fun e w'=>cF PL PO Hw base F K w0 B L P R e w':=by
 have v:=GD A;have Y:=GD G;have HK:=GD I;have HF:=GD hf;have ab:=GD q;have u:=GD H;obtain⟨W,r⟩:∃W,W=w.alloc (.cells #[.int .i64 4,.int .i64 n,.int .i64 fl,.bool t] 32):=⟨_,rfl⟩
 have a:W.heap[w.heap.size]?=some (.cells #[.int .i64 4,.int .i64 n,.int .i64 fl,.bool t] 32 (0,0)):=by rw[r];exact GM _ _
 have b:Below w.heap.size w W:=by rw[r];exact ae _ _
 obtain⟨D,j⟩:∃B,B=w.heap.size:=⟨_,rfl⟩
 rw[<-j]at a;have l:Hid (iM W D 4 n fl t):=GD ⟨a⟩;have m:=GD b;have g:=GD (h.below A b);have af:Hid ((∀i,aB U V X i->i≠D)/\(∀i,Z i->i≠D)):=GD ⟨fun i x e=>(by have:=A.lt h.at_.at_ i x;omega),fun i x e=>(by have:=(h.ref.low i x).2;omega)⟩;clear A h G I hf q a b H;go_enter Tryz.func10,Tryz.ntmps10;go_upto_region 1 with(fail)
 rw[<-r,<-j];clear r j;obtain⟨M,b1,b2,J⟩:=l.out.cells;have T:(0:Int)<=n:=by have:=u.out;omega
 have S:¬(n<16):=by have:=u.out;omega
 go_wp2_with fail
 refine(v.out.held g.out.at_.at_ g.out.calm).mono ?_;rintro e O⟨Q,rfl,z,b⟩;obtain⟨hp,hc,rfl⟩:∃p c,Q=.slice p (s.held.map fun k:Nat=>(k:Int)).length c:=by
  obtain⟨p,c,e,-⟩:=z.aP.form;exact⟨p,c,e⟩
 obtain⟨hl,o⟩:∃n,n=(s.held.map fun k:Nat=>(k:Int)).length:=⟨_,rfl⟩
 have f:=GD (g.out.below v.out b);have E:=GD (b.box l.out);have ad:Hid (Below w.heap.size w O):=m.out.trans (b.mono m.out.size);clear b g l m;have aa:=GD z;clear z M b1 b2 J;rw[<-o];clear o;obtain⟨M,b1,b2,J⟩:=E.out.cells;go_wp2_with fail
 refine(v.out.mv n f.out.at_.at_ f.out.calm u.out.1 (fun h=>by have C:=h.2;rw[f.out.ar]at C;have C:n<16:=C;have:=h.1;have:=u.out;omega)).mono ?_;rintro e y⟨rfl,b⟩;go_wp2_with fail
 go_ret;exact⟨U,V,X,Z,d,lg,s,N,fi,di,pi,rfl,(f.out.below v.out b).more (G8 _),Y.out.tie⟩
set_option maxHeartbeats 6400000 in
set_option maxRecDepth 20000 in
theorem zy(A:bh PD PL PO Hd Hw Hp)(h:dt PL PO Hw base F K U V X Z w0 w B L P R d lg s N fi di pi)(D:Po.cW s N fi di pi)(hk:K<=150)(hf:1<=F/\F<=12)(fl:Int)(H:bF fl)(O:Bool)(m:Nat)(hm:m<16)(E:m∈s.held):
 Calls Tryz.prog 10 #[.pointer (some ⟨L,0,none⟩),.pointer (some ⟨P,0,none⟩),.pointer (some ⟨R,0,none⟩),.int .i64 (F:Int),.agg #[.int .i64 4,.int .i64 (m:Int),.int .i64 fl,.bool O]] w fun e w'=>cF PL PO Hw base F K w0 B L P R e w':=by
 have x:=GD A;have HT:=GD D;have HK:=GD hk;have HF:=GD hf;have aq:=GD H;have Y:=GD hm;have ai:=GD E;obtain⟨W,J⟩:∃W,W=w.alloc (.cells #[.int .i64 4,.int .i64 (m:Int),.int .i64 fl,.bool O] 32):=⟨_,rfl⟩
 have b:W.heap[w.heap.size]?=some (.cells #[.int .i64 4,.int .i64 (m:Int),.int .i64 fl,.bool O] 32 (0,0)):=by rw[J];exact GM _ _
 have q:Below w.heap.size w W:=by rw[J];exact ae _ _
 obtain⟨M,r⟩:∃B,B=w.heap.size:=⟨_,rfl⟩
 rw[<-r]at b;have t:Hid (iM W M 4 (m:Int) fl O):=GD ⟨b⟩;have v:=GD q;have g:=GD (h.below A q);have ak:Hid ((∀i,aB U V X i->i≠M)/\(∀i,Z i->i≠M)):=GD ⟨fun i o e=>(by have:=A.lt h.at_.at_ i o;omega),fun i o e=>(by have:=(h.ref.low i o).2;omega)⟩;clear A h D hk hf H b q hm E;go_enter Tryz.func10,Tryz.ntmps10;go_upto_region 1 with(fail)
 rw[<-J,<-r];clear J r;obtain⟨S,b1,b2,Q⟩:=t.out.cells;have an:(0:Int)<=(m:Int):=by omega
 have al:(m:Int)<16:=by have:=Y.out;omega
 go_wp2_with fail
 refine(x.out.held g.out.at_.at_ g.out.calm).mono ?_;rintro e z1⟨hv,rfl,hO,q⟩;obtain⟨hp,hc,rfl⟩:∃p c,hv=.slice p (s.held.map fun k:Nat=>(k:Int)).length c:=by
  obtain⟨p,c,e,-⟩:=hO.aP.form;exact⟨p,c,e⟩
 obtain⟨hl,G⟩:∃n,n=(s.held.map fun k:Nat=>(k:Int)).length:=⟨_,rfl⟩
 have a:=GD (g.out.below x.out q);have I:=GD (q.box t.out);have au:Hid (Below w.heap.size w z1):=v.out.trans (q.mono v.out.size);clear q g t v;have f:=GD (aM z1 _ _ (m:Int) hO.aP (by rw[Hb];have:=(a.out.aI x.out).lS;have:=a.out.fr;have:=HF.out;omega));rw[Po.mem_cast]at f;clear hO;rw[<-G]at f⊢;clear G S b1 b2 Q;obtain⟨S,b1,b2,Q⟩:=I.out.cells;rw[show decide (m∈s.held)=true from GK ai.out]at f;go_wp2_with fail
 refine f.out.mono ?_;rintro e z⟨rfl,rfl⟩;clear f;go_wp2_with fail
 refine(x.out.flush m a.out.at_.at_ (a.out.cy x.out) (by have:=a.out.stop;have:=HK.out;omega) (by rw[a.out.ar];have:=Y.out;show(m:Int)<16;omega)).mono ?_;rintro e y h;obtain⟨d2,aa,s2,rfl,hw,-,hC,hl,hs⟩:∃d' C s',e=.returned (.int .i64 0)/\cA PL PO Hw U V X z1 B L P y d' C s'/\Wl.aX 120 d'/\(Wl.Calm 120 d->Wl.Calm 120 d')/\Po.Lf lg C/\Po.iE s m s':=by
  rcases h with h|⟨h,-⟩
  ·exact h
  ·exact absurd a.out.calm h
 obtain⟨U2,V2,X2,o,hT,-⟩:=a.out.fe hw (hC a.out.calm) hl hs.ar hs.ao (G8 K) (fun j=>by rw[hs.pins];exact Iv (a.out.pins j));have u:=GD o;have ad:=GD (Po.kx.ag HT.out hs (o.aI x.out) o.ref.ld Y.out);have ab:=GD (I.out.aj hT (fun h=>ak.out.1 M h rfl));clear h hw hC hl hs o hT S b1 b2 Q;obtain⟨S,b1,b2,Q⟩:=ab.out.cells;obtain⟨gd,c2,cd,fd,l⟩:=u.out.ref.d Y.out;obtain⟨hr,D⟩:=l false;have ah:=GD hr;have af:=GD D;clear l hr D;go_upto_region 56 with(fail)
 go_still_tail 7,(by kernel_rfl)
 go_wp2_with fail
 go_ret;exact⟨U2,V2,X2,Z,d2,aa,s2,N,fi,_,pi,rfl,u.out.gS x.out (ah.out.aj (T:=fun _=>False) ⟨rfl,rfl,rfl,GH _,fun _ _ _=>rfl⟩ (fun _ _ h=>h)) (af.out.trans ⟨rfl,rfl,rfl,GH _,fun _ _ _=>rfl⟩) u.out.ap,ad.out⟩
set_option maxHeartbeats 6400000 in
set_option maxRecDepth 20000 in
theorem uF(A:bh PD PL PO Hd Hw Hp)(h:dt PL PO Hw base F K U V X Z w0 w B L P R d lg s N fi di pi)(D:Po.cW s N fi di pi)(hk:K<=150)(hf:1<=F/\F<=12)(fl:Int)(I:bF fl)(S:Bool)(m:Nat)(hm:m<16)(E:m∉s.held)(H:Po.Full s):
 Calls Tryz.prog 10 #[.pointer (some ⟨L,0,none⟩),.pointer (some ⟨P,0,none⟩),.pointer (some ⟨R,0,none⟩),.int .i64 (F:Int),.agg #[.int .i64 4,.int .i64 (m:Int),.int .i64 fl,.bool S]] w fun e w'=>cF PL PO Hw base F K w0 B L P R e w':=by
 have r:=GD A;have HT:=GD D;have HK:=GD hk;have HF:=GD hf;have av:=GD I;have HM:=GD hm;have ai:=GD E;have ak:=GD H;obtain⟨W,O⟩:∃W,W=w.alloc (.cells #[.int .i64 4,.int .i64 (m:Int),.int .i64 fl,.bool S] 32):=⟨_,rfl⟩
 have b:W.heap[w.heap.size]?=some (.cells #[.int .i64 4,.int .i64 (m:Int),.int .i64 fl,.bool S] 32 (0,0)):=by rw[O];exact GM _ _
 have q:Below w.heap.size w W:=by rw[O];exact ae _ _
 obtain⟨Q,t⟩:∃B,B=w.heap.size:=⟨_,rfl⟩
 rw[<-t]at b;have u:Hid (iM W Q 4 (m:Int) fl S):=GD ⟨b⟩;have x:=GD q;have l:=GD (h.below A q);have al:Hid ((∀i,aB U V X i->i≠Q)/\(∀i,Z i->i≠Q)):=GD ⟨fun i g e=>(by have:=A.lt h.at_.at_ i g;omega),fun i g e=>(by have:=(h.ref.low i g).2;omega)⟩;clear A h D hk hf I b q hm E H;go_enter Tryz.func10,Tryz.ntmps10;go_upto_region 1 with(fail)
 rw[<-O,<-t];clear O t;obtain⟨b0,b1,b2,Y⟩:=u.out.cells;have aq:(0:Int)<=(m:Int):=by omega
 have an:(m:Int)<16:=by have:=HM.out;omega
 go_wp2_with fail
 refine(r.out.held l.out.at_.at_ l.out.calm).mono ?_;rintro e M⟨hv,rfl,hO,q⟩;obtain⟨hp,hc,rfl⟩:∃p c,hv=.slice p (s.held.map fun k:Nat=>(k:Int)).length c:=by
  obtain⟨p,c,e,-⟩:=hO.aP.form;exact⟨p,c,e⟩
 obtain⟨hl,G⟩:∃n,n=(s.held.map fun k:Nat=>(k:Int)).length:=⟨_,rfl⟩
 have a:=GD (l.out.below r.out q);have J:=GD (q.box u.out);have aw:Hid (Below w.heap.size w M):=x.out.trans (q.mono x.out.size);clear q l u x;have f:=GD (aM M _ _ (m:Int) hO.aP (by rw[Hb];have:=(a.out.aI r.out).lS;have:=a.out.fr;have:=HF.out;omega));rw[Po.mem_cast]at f;clear hO;rw[<-G]at f⊢;clear G b0 b1 b2 Y;obtain⟨b0,b1,b2,Y⟩:=J.out.cells;rw[show decide (m∈s.held)=false from GY ai.out]at f;go_wp2_with fail
 refine f.out.mono ?_;rintro e z⟨rfl,rfl⟩;clear f;go_wp2_with fail
 refine(bo M a.out.ref (fun i g=>by rw[HT.out.tie.pins i g];have:=a.out.pins i;have:=HK.out;omega)).mono ?_;rintro e z⟨rfl,rfl⟩;have au:(F:Int)<=(Po.fD pi:Int):=by have:=(Po.df (a.out.aI r.out) a.out.ar a.out.ref.lp HT.out.tie.pins).2 ak.out;rw[a.out.fr]at this;omega
 go_wp2_with fail
 refine(r.out.flush m a.out.at_.at_ (a.out.cy r.out) (by have:=a.out.stop;have:=HK.out;omega) (by rw[a.out.ar];have:=HM.out;show(m:Int)<16;omega)).mono ?_;rintro e y h;obtain⟨d2,aa,s2,rfl,hw,-,hC,hl,hs⟩:∃d' C s',e=.returned (.int .i64 0)/\cA PL PO Hw U V X M B L P y d' C s'/\Wl.aX 120 d'/\(Wl.Calm 120 d->Wl.Calm 120 d')/\Po.Lf lg C/\Po.iE s m s':=by
  rcases h with h|⟨h,-⟩
  ·exact h
  ·exact absurd a.out.calm h
 obtain⟨U2,V2,X2,g,hT,-⟩:=a.out.fe hw (hC a.out.calm) hl hs.ar hs.ao (G8 K) (fun j=>by rw[hs.pins];exact Iv (a.out.pins j));have v:=GD g;have ad:=GD (Po.kx.ag HT.out hs (g.aI r.out) g.ref.ld HM.out);have ab:=GD (J.out.aj hT (fun h=>al.out.1 Q h rfl));clear h hw hC hl hs g hT b0 b1 b2 Y;obtain⟨b0,b1,b2,Y⟩:=ab.out.cells;obtain⟨gd,c2,cd,fd,o⟩:=v.out.ref.d HM.out;obtain⟨hr,D⟩:=o false;have ah:=GD hr;have af:=GD D;clear o hr D;go_upto_region 56 with(fail)
 go_still_tail 7,(by kernel_rfl)
 go_wp2_with fail
 go_ret;exact⟨U2,V2,X2,Z,d2,aa,s2,N,fi,_,pi,rfl,v.out.gS r.out (ah.out.aj (T:=fun _=>False) ⟨rfl,rfl,rfl,GH _,fun _ _ _=>rfl⟩ (fun _ _ h=>h)) (af.out.trans ⟨rfl,rfl,rfl,GH _,fun _ _ _=>rfl⟩) v.out.ap,ad.out⟩
set_option maxHeartbeats 6400000 in
set_option maxRecDepth 20000 in
theorem uE(A:bh PD PL PO Hd Hw Hp)(h:dt PL PO Hw base F K U V X Z w0 w B L P R d lg s N fi di pi)(D:Po.cW s N fi di pi)(hk:K<=150)(hf:1<=F/\F<=12)(fl:Int)(I:bF fl)(S:Bool)(m:Nat)(hm:m<16)(E:m∉s.held)(H:¬Po.Full s):
 Calls Tryz.prog 10 #[.pointer (some ⟨L,0,none⟩),.pointer (some ⟨P,0,none⟩),.pointer (some ⟨R,0,none⟩),.int .i64 (F:Int),.agg #[.int .i64 4,.int .i64 (m:Int),.int .i64 fl,.bool S]] w fun e w'=>cF PL PO Hw base F K w0 B L P R e w':=by
 have r:=GD A;have HT:=GD D;have HK:=GD hk;have HF:=GD hf;have av:=GD I;have HM:=GD hm;have ai:=GD E;have ak:=GD H;obtain⟨W,O⟩:∃W,W=w.alloc (.cells #[.int .i64 4,.int .i64 (m:Int),.int .i64 fl,.bool S] 32):=⟨_,rfl⟩
 have b:W.heap[w.heap.size]?=some (.cells #[.int .i64 4,.int .i64 (m:Int),.int .i64 fl,.bool S] 32 (0,0)):=by rw[O];exact GM _ _
 have q:Below w.heap.size w W:=by rw[O];exact ae _ _
 obtain⟨Q,t⟩:∃B,B=w.heap.size:=⟨_,rfl⟩
 rw[<-t]at b;have u:Hid (iM W Q 4 (m:Int) fl S):=GD ⟨b⟩;have x:=GD q;have l:=GD (h.below A q);have al:Hid ((∀i,aB U V X i->i≠Q)/\(∀i,Z i->i≠Q)):=GD ⟨fun i g e=>(by have:=A.lt h.at_.at_ i g;omega),fun i g e=>(by have:=(h.ref.low i g).2;omega)⟩;clear A h D hk hf I b q hm E H;go_enter Tryz.func10,Tryz.ntmps10;go_upto_region 1 with(fail)
 rw[<-O,<-t];clear O t;obtain⟨b0,b1,b2,Y⟩:=u.out.cells;have aq:(0:Int)<=(m:Int):=by omega
 have an:(m:Int)<16:=by have:=HM.out;omega
 go_wp2_with fail
 refine(r.out.held l.out.at_.at_ l.out.calm).mono ?_;rintro e M⟨hv,rfl,hO,q⟩;obtain⟨hp,hc,rfl⟩:∃p c,hv=.slice p (s.held.map fun k:Nat=>(k:Int)).length c:=by
  obtain⟨p,c,e,-⟩:=hO.aP.form;exact⟨p,c,e⟩
 obtain⟨hl,G⟩:∃n,n=(s.held.map fun k:Nat=>(k:Int)).length:=⟨_,rfl⟩
 have a:=GD (l.out.below r.out q);have J:=GD (q.box u.out);have aw:Hid (Below w.heap.size w M):=x.out.trans (q.mono x.out.size);clear q l u x;have f:=GD (aM M _ _ (m:Int) hO.aP (by rw[Hb];have:=(a.out.aI r.out).lS;have:=a.out.fr;have:=HF.out;omega));rw[Po.mem_cast]at f;clear hO;rw[<-G]at f⊢;clear G b0 b1 b2 Y;obtain⟨b0,b1,b2,Y⟩:=J.out.cells;rw[show decide (m∈s.held)=false from GY ai.out]at f;go_wp2_with fail
 refine f.out.mono ?_;rintro e z⟨rfl,rfl⟩;clear f;go_wp2_with fail
 refine(bo M a.out.ref (fun i g=>by rw[HT.out.tie.pins i g];have:=a.out.pins i;have:=HK.out;omega)).mono ?_;rintro e z⟨rfl,rfl⟩;have au:¬((F:Int)<=(Po.fD pi:Int)):=fun h=>ak.out ((Po.df (a.out.aI r.out) a.out.ar a.out.ref.lp HT.out.tie.pins).1 (by rw[a.out.fr];omega));go_wp2_with fail
 refine(r.out.flush m a.out.at_.at_ (a.out.cy r.out) (by have:=a.out.stop;have:=HK.out;omega) (by rw[a.out.ar];have:=HM.out;show(m:Int)<16;omega)).mono ?_;rintro e y h;obtain⟨d2,aa,s2,rfl,hw,-,hC,hl,hs⟩:∃d' C s',e=.returned (.int .i64 0)/\cA PL PO Hw U V X M B L P y d' C s'/\Wl.aX 120 d'/\(Wl.Calm 120 d->Wl.Calm 120 d')/\Po.Lf lg C/\Po.iE s m s':=by
  rcases h with h|⟨h,-⟩
  ·exact h
  ·exact absurd a.out.calm h
 obtain⟨U2,V2,X2,g,hT,-⟩:=a.out.fe hw (hC a.out.calm) hl hs.ar hs.ao (G8 K) (fun j=>by rw[hs.pins];exact Iv (a.out.pins j));have v:=GD g;have ad:=GD (Po.kx.ag HT.out hs (g.aI r.out) g.ref.ld HM.out);have ab:=GD (J.out.aj hT (fun h=>al.out.1 Q h rfl));clear h hw hC hl hs g hT b0 b1 b2 Y;obtain⟨b0,b1,b2,Y⟩:=ab.out.cells;obtain⟨gd,c2,cd,fd,o⟩:=v.out.ref.d HM.out;obtain⟨hr,D⟩:=o false;have ah:=GD hr;have af:=GD D;clear o hr D;go_upto_region 56 with(fail)
 go_still_tail 7,(by kernel_rfl)
 go_wp2_with fail
 go_ret;exact⟨U2,V2,X2,Z,d2,aa,s2,N,fi,_,pi,rfl,v.out.gS r.out (ah.out.aj (T:=fun _=>False) ⟨rfl,rfl,rfl,GH _,fun _ _ _=>rfl⟩ (fun _ _ h=>h)) (af.out.trans ⟨rfl,rfl,rfl,GH _,fun _ _ _=>rfl⟩) v.out.ap,ad.out⟩
end
section
variable{PD:(Nat->Prop)->World->Nat->Dk.ak->Prop}{PL:(Nat->Prop)->(Nat->Prop)->World->Nat->Nat->Dk.ak->Wl.S->Prop}{PO:(Nat->Prop)->World->Nat->Nat->Nat->Po.S->Prop}{Hd:Dk.ak->Wl.S->Prop}{Hw:Dk.ak->Po.Ar->(Nat->Po.Pg)->Prop}{Hp:Dk.ak->Po.Ar->(Nat->Po.Pg->Prop)->Prop}
variable{U V X Z:Nat->Prop}{w w' w0:World}{B L P R base F K:Nat}{d:Dk.ak}{lg:Wl.S}{s:Po.S}{N:List Po.Pg}{fi:List Nat}{di:List Bool}{pi:List Nat}
set_option maxHeartbeats 6400000 in
set_option maxRecDepth 20000 in
theorem zu(A:bh PD PL PO Hd Hw Hp)(h:dt PL PO Hw base F K U V X Z w0 w B L P R d lg s N fi di pi)(v:Po.cW s N fi di pi)(hk:K<=150)(hf:1<=F/\F<=12)(fl:Int)(C:bF fl)(G:Bool)(n:Int)(hn:bF n/\n<0):
 Calls Tryz.prog 10 #[.pointer (some ⟨L,0,none⟩),.pointer (some ⟨P,0,none⟩),.pointer (some ⟨R,0,none⟩),.int .i64 (F:Int),.agg #[.int .i64 5,.int .i64 n,.int .i64 fl,.bool G]] w fun e w'=>cF PL PO Hw base F K w0 B L P R e w':=by
 have H:=GD A;have HT:=GD v;have HK:=GD hk;have HF:=GD hf;have an:=GD C;have HN:=GD hn;obtain⟨W,E⟩:∃W,W=w.alloc (.cells #[.int .i64 5,.int .i64 n,.int .i64 fl,.bool G] 32):=⟨_,rfl⟩
 have f:W.heap[w.heap.size]?=some (.cells #[.int .i64 5,.int .i64 n,.int .i64 fl,.bool G] 32 (0,0)):=by rw[E];exact GM _ _
 have m:Below w.heap.size w W:=by rw[E];exact ae _ _
 obtain⟨Q,o⟩:∃B,B=w.heap.size:=⟨_,rfl⟩
 rw[<-o]at f;have r:Hid (iM W Q 5 n fl G):=GD ⟨f⟩;have u:=GD m;have g:=GD (h.below A m);have au:Hid ((∀i,aB U V X i->i≠Q)/\(∀i,Z i->i≠Q)):=GD ⟨fun i b e=>(by have:=A.lt h.at_.at_ i b;omega),fun i b e=>(by have:=(h.ref.low i b).2;omega)⟩;clear A h v hk hf C f m hn;go_enter Tryz.func10,Tryz.ntmps10;go_upto_region 1 with(fail)
 rw[<-E,<-o];clear E o;obtain⟨T,b1,b2,S⟩:=r.out.cells;have ai:¬((0:Int)<=n):=by have:=HN.out;omega
 go_wp2_with fail
 refine(H.out.held g.out.at_.at_ g.out.calm).mono ?_;rintro e z1⟨hv,rfl,M,m⟩;obtain⟨hp,hc,rfl⟩:∃p c,hv=.slice p (s.held.map fun k:Nat=>(k:Int)).length c:=by
  obtain⟨p,c,e,-⟩:=M.aP.form;exact⟨p,c,e⟩
 obtain⟨hl,z⟩:∃n,n=(s.held.map fun k:Nat=>(k:Int)).length:=⟨_,rfl⟩
 have ag:=GD (g.out.below H.out m);have Y:=GD (m.box r.out);have aq:Hid (Below w.heap.size w z1):=u.out.trans (m.mono u.out.size);clear m g r u;have al:=GD M;clear M T b1 b2 S;rw[<-z];clear z;obtain⟨T,b1,b2,S⟩:=Y.out.cells;go_wp2_with fail
 go_loopw [28] (fun J wr=>∃(j:Nat)(O:List Bool),j<=16/\J=.int .i64 (j:Int)/\(∀i,i<j->O.getD i false=false)/\dt PL PO Hw base F K U V X Z w0 wr B L P R d lg s N fi O pi) (fun J _=>16-(intOf J).toNat)
 case atStart=>exact⟨0,di,G7 _,rfl,fun i b=>absurd b (Ii i),ag.out⟩
 case round=>
  clear T b1 b2 S;obtain⟨j,O,hj,rfl,hz,b⟩:=hrel;have ad:=GD hj;have D:=GD hz;have a:=GD b;clear hj hz b;by_cases hlt:j<16
  ·have t:=GD hlt;have aj:(j:Int)<16:=by omega
   have ak:(0:Int)<=(j:Int):=by omega
   obtain⟨gd,c2,cd,fd,l⟩:=a.out.ref.d hlt;obtain⟨hr,v⟩:=l false;have x:=a.out.gS H.out hr v a.out.ap;have ab:=GD x;have ah:=GW ((j:Int)+1) (by omega);clear l hr v x hlt;go_wp2_with fail
   go_roundw
   case rel=>
    refine⟨j+1,_,t.out,by go_num,fun i b=>?_,ab.out⟩;rw[Po.bJ (by rw[a.out.ref.ld];exact t.out)];by_cases e:i=j
    ·rw[GU e]
    ·rw[GQ e];exact D.out i (by omega)
   case measure=>have:=t.out;simp[intOf];omega
  ·obtain rfl:j=16:=by have:=ad.out;omega
   rw[show((16:Nat):Int)=16 from rfl];clear hlt;go_wp2_with fail
   refine(H.out.iV a.out.at_.at_ a.out.calm (by have:=a.out.stop;have:=HK.out;omega)).mono ?_;rintro e y⟨rfl,d2,I,s2,hw,hC,hl,hs⟩;obtain⟨U2,V2,X2,b,hT,-⟩:=a.out.fe hw hC hl hs.ar hs.ao (G8 K) (fun q=>by rw[hs.pins];exact Iv (a.out.pins q));have af:=GD b;have aa:=GD (Po.kx.lY HT.out hs D.out);clear hw hC hl hs b hT;go_wp2_with fail
   go_ret;exact⟨U2,V2,X2,Z,d2,I,s2,N,fi,_,pi,rfl,af.out,aa.out⟩
set_option maxHeartbeats 6400000 in
set_option maxRecDepth 20000 in
theorem zw(A:bh PD PL PO Hd Hw Hp)(h:dt PL PO Hw base F K U V X Z w0 w B L P R d lg s N fi di pi)(v:Po.cW s N fi di pi)(hk:K<=150)(hf:1<=F/\F<=12)(fl:Int)(C:bF fl)(G:Bool)(n:Int)(hn:bF n/\16<=n):
 Calls Tryz.prog 10 #[.pointer (some ⟨L,0,none⟩),.pointer (some ⟨P,0,none⟩),.pointer (some ⟨R,0,none⟩),.int .i64 (F:Int),.agg #[.int .i64 5,.int .i64 n,.int .i64 fl,.bool G]] w fun e w'=>cF PL PO Hw base F K w0 B L P R e w':=by
 have H:=GD A;have HT:=GD v;have HK:=GD hk;have HF:=GD hf;have aq:=GD C;have HN:=GD hn;obtain⟨W,E⟩:∃W,W=w.alloc (.cells #[.int .i64 5,.int .i64 n,.int .i64 fl,.bool G] 32):=⟨_,rfl⟩
 have f:W.heap[w.heap.size]?=some (.cells #[.int .i64 5,.int .i64 n,.int .i64 fl,.bool G] 32 (0,0)):=by rw[E];exact GM _ _
 have m:Below w.heap.size w W:=by rw[E];exact ae _ _
 obtain⟨Q,o⟩:∃B,B=w.heap.size:=⟨_,rfl⟩
 rw[<-o]at f;have r:Hid (iM W Q 5 n fl G):=GD ⟨f⟩;have u:=GD m;have g:=GD (h.below A m);have av:Hid ((∀i,aB U V X i->i≠Q)/\(∀i,Z i->i≠Q)):=GD ⟨fun i b e=>(by have:=A.lt h.at_.at_ i b;omega),fun i b e=>(by have:=(h.ref.low i b).2;omega)⟩;clear A h v hk hf C f m hn;go_enter Tryz.func10,Tryz.ntmps10;go_upto_region 1 with(fail)
 rw[<-E,<-o];clear E o;obtain⟨T,b1,b2,S⟩:=r.out.cells;have aj:(0:Int)<=n:=by have:=HN.out;omega
 have ai:¬(n<16):=by have:=HN.out;omega
 go_wp2_with fail
 refine(H.out.held g.out.at_.at_ g.out.calm).mono ?_;rintro e z1⟨hv,rfl,M,m⟩;obtain⟨hp,hc,rfl⟩:∃p c,hv=.slice p (s.held.map fun k:Nat=>(k:Int)).length c:=by
  obtain⟨p,c,e,-⟩:=M.aP.form;exact⟨p,c,e⟩
 obtain⟨hl,z⟩:∃n,n=(s.held.map fun k:Nat=>(k:Int)).length:=⟨_,rfl⟩
 have ag:=GD (g.out.below H.out m);have Y:=GD (m.box r.out);have au:Hid (Below w.heap.size w z1):=u.out.trans (m.mono u.out.size);clear m g r u;have an:=GD M;clear M T b1 b2 S;rw[<-z];clear z;obtain⟨T,b1,b2,S⟩:=Y.out.cells;go_wp2_with fail
 go_loopw [28] (fun J wr=>∃(j:Nat)(O:List Bool),j<=16/\J=.int .i64 (j:Int)/\(∀i,i<j->O.getD i false=false)/\dt PL PO Hw base F K U V X Z w0 wr B L P R d lg s N fi O pi) (fun J _=>16-(intOf J).toNat)
 case atStart=>exact⟨0,di,G7 _,rfl,fun i b=>absurd b (Ii i),ag.out⟩
 case round=>
  clear T b1 b2 S;obtain⟨j,O,hj,rfl,hz,b⟩:=hrel;have ad:=GD hj;have D:=GD hz;have a:=GD b;clear hj hz b;by_cases hlt:j<16
  ·have t:=GD hlt;have ak:(j:Int)<16:=by omega
   have al:(0:Int)<=(j:Int):=by omega
   obtain⟨gd,c2,cd,fd,l⟩:=a.out.ref.d hlt;obtain⟨hr,v⟩:=l false;have x:=a.out.gS H.out hr v a.out.ap;have ab:=GD x;have ah:=GW ((j:Int)+1) (by omega);clear l hr v x hlt;go_wp2_with fail
   go_roundw
   case rel=>
    refine⟨j+1,_,t.out,by go_num,fun i b=>?_,ab.out⟩;rw[Po.bJ (by rw[a.out.ref.ld];exact t.out)];by_cases e:i=j
    ·rw[GU e]
    ·rw[GQ e];exact D.out i (by omega)
   case measure=>have:=t.out;simp[intOf];omega
  ·obtain rfl:j=16:=by have:=ad.out;omega
   rw[show((16:Nat):Int)=16 from rfl];clear hlt;go_wp2_with fail
   refine(H.out.iV a.out.at_.at_ a.out.calm (by have:=a.out.stop;have:=HK.out;omega)).mono ?_;rintro e y⟨rfl,d2,I,s2,hw,hC,hl,hs⟩;obtain⟨U2,V2,X2,b,hT,-⟩:=a.out.fe hw hC hl hs.ar hs.ao (G8 K) (fun q=>by rw[hs.pins];exact Iv (a.out.pins q));have af:=GD b;have aa:=GD (Po.kx.lY HT.out hs D.out);clear hw hC hl hs b hT;go_wp2_with fail
   go_ret;exact⟨U2,V2,X2,Z,d2,I,s2,N,fi,_,pi,rfl,af.out,aa.out⟩
set_option maxHeartbeats 6400000 in
set_option maxRecDepth 20000 in
theorem zv(A:bh PD PL PO Hd Hw Hp)(h:dt PL PO Hw base F K U V X Z w0 w B L P R d lg s N fi di pi)(E:Po.cW s N fi di pi)(hk:K<=150)(hf:1<=F/\F<=12)(fl:Int)(H:bF fl)(O:Bool)(m:Nat)(hm:m<16)(g:m∈s.held):
 Calls Tryz.prog 10 #[.pointer (some ⟨L,0,none⟩),.pointer (some ⟨P,0,none⟩),.pointer (some ⟨R,0,none⟩),.int .i64 (F:Int),.agg #[.int .i64 5,.int .i64 (m:Int),.int .i64 fl,.bool O]] w fun e w'=>cF PL PO Hw base F K w0 B L P R e w':=by
 have J:=GD A;have HT:=GD E;have HK:=GD hk;have HF:=GD hf;have aq:=GD H;have HM:=GD hm;have ag:=GD g;obtain⟨W,M⟩:∃W,W=w.alloc (.cells #[.int .i64 5,.int .i64 (m:Int),.int .i64 fl,.bool O] 32):=⟨_,rfl⟩
 have f:W.heap[w.heap.size]?=some (.cells #[.int .i64 5,.int .i64 (m:Int),.int .i64 fl,.bool O] 32 (0,0)):=by rw[M];exact GM _ _
 have t:Below w.heap.size w W:=by rw[M];exact ae _ _
 obtain⟨bx,u⟩:∃B,B=w.heap.size:=⟨_,rfl⟩
 rw[<-u]at f;have v:Hid (iM W bx 5 (m:Int) fl O):=GD ⟨f⟩;have D:=GD t;have o:=GD (h.below A t);have av:Hid ((∀i,aB U V X i->i≠bx)/\(∀i,Z i->i≠bx)):=GD ⟨fun i b e=>(by have:=A.lt h.at_.at_ i b;omega),fun i b e=>(by have:=(h.ref.low i b).2;omega)⟩;clear A h E hk hf H f t hm g;go_enter Tryz.func10,Tryz.ntmps10;go_upto_region 1 with(fail)
 rw[<-M,<-u];clear M u;obtain⟨b0,b1,b2,b3⟩:=v.out.cells;have ak:(0:Int)<=(m:Int):=by omega
 have aj:(m:Int)<16:=by have:=HM.out;omega
 go_wp2_with fail
 refine(J.out.held o.out.at_.at_ o.out.calm).mono ?_;rintro e z1⟨hv,rfl,T,t⟩;obtain⟨hp,hc,rfl⟩:∃p c,hv=.slice p (s.held.map fun k:Nat=>(k:Int)).length c:=by
  obtain⟨p,c,e,-⟩:=T.aP.form;exact⟨p,c,e⟩
 obtain⟨hl,G⟩:∃n,n=(s.held.map fun k:Nat=>(k:Int)).length:=⟨_,rfl⟩
 have C:=GD (o.out.below J.out t);have aa:=GD (t.box v.out);have au:Hid (Below w.heap.size w z1):=D.out.trans (t.mono D.out.size);clear t o v D;have l:=GD (aM z1 _ _ (m:Int) T.aP (by rw[Hb];have:=(C.out.aI J.out).lS;have:=C.out.fr;have:=HF.out;omega));rw[Po.mem_cast]at l;clear T;rw[<-G]at l⊢;clear G b0 b1 b2 b3;obtain⟨b0,b1,b2,b3⟩:=aa.out.cells;rw[show decide (m∈s.held)=true from GK ag.out]at l;go_wp2_with fail
 refine l.out.mono ?_;rintro e z⟨rfl,rfl⟩;clear l;go_wp2_with fail
 go_loopw [28] (fun S wr=>∃(j:Nat)(Y:List Bool),j<=16/\S=.int .i64 (j:Int)/\(∀i,i<j->Y.getD i false=false)/\dt PL PO Hw base F K U V X Z w0 wr B L P R d lg s N fi Y pi) (fun S _=>16-(intOf S).toNat)
 case atStart=>exact⟨0,di,G7 _,rfl,fun i b=>absurd b (Ii i),C.out⟩
 case round=>
  clear b0 b1 b2 b3;obtain⟨j,Y,hj,rfl,hz,b⟩:=hrel;have af:=GD hj;have I:=GD hz;have a:=GD b;clear hj hz b;by_cases hlt:j<16
  ·have x:=GD hlt;have al:(j:Int)<16:=by omega
   have an:(0:Int)<=(j:Int):=by omega
   obtain⟨gd,c2,cd,fd,r⟩:=a.out.ref.d hlt;obtain⟨hr,E⟩:=r false;have g:=a.out.gS J.out hr E a.out.ap;have ad:=GD g;have ai:=GW ((j:Int)+1) (by omega);clear r hr E g hlt;go_wp2_with fail
   go_roundw
   case rel=>
    refine⟨j+1,_,x.out,by go_num,fun i b=>?_,ad.out⟩;rw[Po.bJ (by rw[a.out.ref.ld];exact x.out)];by_cases e:i=j
    ·rw[GU e]
    ·rw[GQ e];exact I.out i (by omega)
   case measure=>have:=x.out;simp[intOf];omega
  ·obtain rfl:j=16:=by have:=af.out;omega
   rw[show((16:Nat):Int)=16 from rfl];clear hlt;go_wp2_with fail
   refine(J.out.iV a.out.at_.at_ a.out.calm (by have:=a.out.stop;have:=HK.out;omega)).mono ?_;rintro e y⟨rfl,d2,Q,s2,hw,hC,hl,hs⟩;obtain⟨U2,V2,X2,b,hT,-⟩:=a.out.fe hw hC hl hs.ar hs.ao (G8 K) (fun q=>by rw[hs.pins];exact Iv (a.out.pins q));have ah:=GD b;have ab:=GD (Po.kx.lY HT.out hs I.out);clear hw hC hl hs b hT;go_wp2_with fail
   go_ret;exact⟨U2,V2,X2,Z,d2,Q,s2,N,fi,_,pi,rfl,ah.out,ab.out⟩
set_option maxHeartbeats 6400000 in
set_option maxRecDepth 20000 in
theorem uD(A:bh PD PL PO Hd Hw Hp)(h:dt PL PO Hw base F K U V X Z w0 w B L P R d lg s N fi di pi)(G:Po.cW s N fi di pi)(hk:K<=150)(hf:1<=F/\F<=12)(fl:Int)(J:bF fl)(Q:Bool)(m:Nat)(hm:m<16)(l:m∉s.held)(I:Po.Full s):
 Calls Tryz.prog 10 #[.pointer (some ⟨L,0,none⟩),.pointer (some ⟨P,0,none⟩),.pointer (some ⟨R,0,none⟩),.int .i64 (F:Int),.agg #[.int .i64 5,.int .i64 (m:Int),.int .i64 fl,.bool Q]] w fun e w'=>cF PL PO Hw base F K w0 B L P R e w':=by
 have E:=GD A;have HT:=GD G;have HK:=GD hk;have HF:=GD hf;have av:=GD J;have HM:=GD hm;have ag:=GD l;have ai:=GD I;obtain⟨W,O⟩:∃W,W=w.alloc (.cells #[.int .i64 5,.int .i64 (m:Int),.int .i64 fl,.bool Q] 32):=⟨_,rfl⟩
 have g:W.heap[w.heap.size]?=some (.cells #[.int .i64 5,.int .i64 (m:Int),.int .i64 fl,.bool Q] 32 (0,0)):=by rw[O];exact GM _ _
 have u:Below w.heap.size w W:=by rw[O];exact ae _ _
 obtain⟨bx,v⟩:∃B,B=w.heap.size:=⟨_,rfl⟩
 rw[<-v]at g;have x:Hid (iM W bx 5 (m:Int) fl Q):=GD ⟨g⟩;have D:=GD u;have r:=GD (h.below A u);have ax:Hid ((∀i,aB U V X i->i≠bx)/\(∀i,Z i->i≠bx)):=GD ⟨fun i f e=>(by have:=A.lt h.at_.at_ i f;omega),fun i f e=>(by have:=(h.ref.low i f).2;omega)⟩;clear A h G hk hf J g u hm l I;go_enter Tryz.func10,Tryz.ntmps10;go_upto_region 1 with(fail)
 rw[<-O,<-v];clear O v;obtain⟨b0,b1,b2,b3⟩:=x.out.cells;have al:(0:Int)<=(m:Int):=by omega
 have ak:(m:Int)<16:=by have:=HM.out;omega
 go_wp2_with fail
 refine(E.out.held r.out.at_.at_ r.out.calm).mono ?_;rintro e S⟨hv,rfl,hO,u⟩;obtain⟨hp,hc,rfl⟩:∃p c,hv=.slice p (s.held.map fun k:Nat=>(k:Int)).length c:=by
  obtain⟨p,c,e,-⟩:=hO.aP.form;exact⟨p,c,e⟩
 obtain⟨hl,H⟩:∃n,n=(s.held.map fun k:Nat=>(k:Int)).length:=⟨_,rfl⟩
 have b:=GD (r.out.below E.out u);have aa:=GD (u.box x.out);have aw:Hid (Below w.heap.size w S):=D.out.trans (u.mono D.out.size);clear u r x D;have o:=GD (aM S _ _ (m:Int) hO.aP (by rw[Hb];have:=(b.out.aI E.out).lS;have:=b.out.fr;have:=HF.out;omega));rw[Po.mem_cast]at o;clear hO;rw[<-H]at o⊢;clear H b0 b1 b2 b3;obtain⟨b0,b1,b2,b3⟩:=aa.out.cells;rw[show decide (m∈s.held)=false from GY ag.out]at o;go_wp2_with fail
 refine o.out.mono ?_;rintro e z⟨rfl,rfl⟩;clear o;go_wp2_with fail
 refine(bo S b.out.ref (fun i f=>by rw[HT.out.tie.pins i f];have:=b.out.pins i;have:=HK.out;omega)).mono ?_;rintro e z⟨rfl,rfl⟩;have au:(F:Int)<=(Po.fD pi:Int):=by have:=(Po.df (b.out.aI E.out) b.out.ar b.out.ref.lp HT.out.tie.pins).2 ai.out;rw[b.out.fr]at this;omega
 go_wp2_with fail
 go_loopw [28] (fun Y wr=>∃(j:Nat)(dj:List Bool),j<=16/\Y=.int .i64 (j:Int)/\(∀i,i<j->dj.getD i false=false)/\dt PL PO Hw base F K U V X Z w0 wr B L P R d lg s N fi dj pi) (fun Y _=>16-(intOf Y).toNat)
 case atStart=>exact⟨0,di,G7 _,rfl,fun i f=>absurd f (Ii i),b.out⟩
 case round=>
  clear b0 b1 b2 b3;obtain⟨j,dj,hj,rfl,hz,f⟩:=hrel;have af:=GD hj;have M:=GD hz;have a:=GD f;clear hj hz f;by_cases hlt:j<16
  ·have C:=GD hlt;have an:(j:Int)<16:=by omega
   have aq:(0:Int)<=(j:Int):=by omega
   obtain⟨gd,c2,cd,fd,t⟩:=a.out.ref.d hlt;obtain⟨hr,G⟩:=t false;have l:=a.out.gS E.out hr G a.out.ap;have ad:=GD l;have aj:=GW ((j:Int)+1) (by omega);clear t hr G l hlt;go_wp2_with fail
   go_roundw
   case rel=>
    refine⟨j+1,_,C.out,by go_num,fun i f=>?_,ad.out⟩;rw[Po.bJ (by rw[a.out.ref.ld];exact C.out)];by_cases e:i=j
    ·rw[GU e]
    ·rw[GQ e];exact M.out i (by omega)
   case measure=>have:=C.out;simp[intOf];omega
  ·obtain rfl:j=16:=by have:=af.out;omega
   rw[show((16:Nat):Int)=16 from rfl];clear hlt;go_wp2_with fail
   refine(E.out.iV a.out.at_.at_ a.out.calm (by have:=a.out.stop;have:=HK.out;omega)).mono ?_;rintro e y⟨rfl,d2,T,s2,hw,hC,hl,hs⟩;obtain⟨U2,V2,X2,f,hT,-⟩:=a.out.fe hw hC hl hs.ar hs.ao (G8 K) (fun q=>by rw[hs.pins];exact Iv (a.out.pins q));have ah:=GD f;have ab:=GD (Po.kx.lY HT.out hs M.out);clear hw hC hl hs f hT;go_wp2_with fail
   go_ret;exact⟨U2,V2,X2,Z,d2,T,s2,N,fi,_,pi,rfl,ah.out,ab.out⟩
set_option maxHeartbeats 6400000 in
set_option maxRecDepth 20000 in
theorem uC(A:bh PD PL PO Hd Hw Hp)(h:dt PL PO Hw base F K U V X Z w0 w B L P R d lg s N fi di pi)(G:Po.cW s N fi di pi)(hk:K<=150)(hf:1<=F/\F<=12)(fl:Int)(J:bF fl)(Q:Bool)(m:Nat)(hm:m<16)(l:m∉s.held)(I:¬Po.Full s):
 Calls Tryz.prog 10 #[.pointer (some ⟨L,0,none⟩),.pointer (some ⟨P,0,none⟩),.pointer (some ⟨R,0,none⟩),.int .i64 (F:Int),.agg #[.int .i64 5,.int .i64 (m:Int),.int .i64 fl,.bool Q]] w fun e w'=>cF PL PO Hw base F K w0 B L P R e w':=by
 have E:=GD A;have HT:=GD G;have HK:=GD hk;have HF:=GD hf;have av:=GD J;have HM:=GD hm;have ag:=GD l;have ai:=GD I;obtain⟨W,O⟩:∃W,W=w.alloc (.cells #[.int .i64 5,.int .i64 (m:Int),.int .i64 fl,.bool Q] 32):=⟨_,rfl⟩
 have g:W.heap[w.heap.size]?=some (.cells #[.int .i64 5,.int .i64 (m:Int),.int .i64 fl,.bool Q] 32 (0,0)):=by rw[O];exact GM _ _
 have u:Below w.heap.size w W:=by rw[O];exact ae _ _
 obtain⟨bx,v⟩:∃B,B=w.heap.size:=⟨_,rfl⟩
 rw[<-v]at g;have x:Hid (iM W bx 5 (m:Int) fl Q):=GD ⟨g⟩;have D:=GD u;have r:=GD (h.below A u);have ax:Hid ((∀i,aB U V X i->i≠bx)/\(∀i,Z i->i≠bx)):=GD ⟨fun i f e=>(by have:=A.lt h.at_.at_ i f;omega),fun i f e=>(by have:=(h.ref.low i f).2;omega)⟩;clear A h G hk hf J g u hm l I;go_enter Tryz.func10,Tryz.ntmps10;go_upto_region 1 with(fail)
 rw[<-O,<-v];clear O v;obtain⟨b0,b1,b2,b3⟩:=x.out.cells;have al:(0:Int)<=(m:Int):=by omega
 have ak:(m:Int)<16:=by have:=HM.out;omega
 go_wp2_with fail
 refine(E.out.held r.out.at_.at_ r.out.calm).mono ?_;rintro e S⟨hv,rfl,hO,u⟩;obtain⟨hp,hc,rfl⟩:∃p c,hv=.slice p (s.held.map fun k:Nat=>(k:Int)).length c:=by
  obtain⟨p,c,e,-⟩:=hO.aP.form;exact⟨p,c,e⟩
 obtain⟨hl,H⟩:∃n,n=(s.held.map fun k:Nat=>(k:Int)).length:=⟨_,rfl⟩
 have b:=GD (r.out.below E.out u);have aa:=GD (u.box x.out);have aw:Hid (Below w.heap.size w S):=D.out.trans (u.mono D.out.size);clear u r x D;have o:=GD (aM S _ _ (m:Int) hO.aP (by rw[Hb];have:=(b.out.aI E.out).lS;have:=b.out.fr;have:=HF.out;omega));rw[Po.mem_cast]at o;clear hO;rw[<-H]at o⊢;clear H b0 b1 b2 b3;obtain⟨b0,b1,b2,b3⟩:=aa.out.cells;rw[show decide (m∈s.held)=false from GY ag.out]at o;go_wp2_with fail
 refine o.out.mono ?_;rintro e z⟨rfl,rfl⟩;clear o;go_wp2_with fail
 refine(bo S b.out.ref (fun i f=>by rw[HT.out.tie.pins i f];have:=b.out.pins i;have:=HK.out;omega)).mono ?_;rintro e z⟨rfl,rfl⟩;have au:¬((F:Int)<=(Po.fD pi:Int)):=fun h=>ai.out ((Po.df (b.out.aI E.out) b.out.ar b.out.ref.lp HT.out.tie.pins).1 (by rw[b.out.fr];omega));go_wp2_with fail
 go_loopw [28] (fun Y wr=>∃(j:Nat)(dj:List Bool),j<=16/\Y=.int .i64 (j:Int)/\(∀i,i<j->dj.getD i false=false)/\dt PL PO Hw base F K U V X Z w0 wr B L P R d lg s N fi dj pi) (fun Y _=>16-(intOf Y).toNat)
 case atStart=>exact⟨0,di,G7 _,rfl,fun i f=>absurd f (Ii i),b.out⟩
 case round=>
  clear b0 b1 b2 b3;obtain⟨j,dj,hj,rfl,hz,f⟩:=hrel;have af:=GD hj;have M:=GD hz;have a:=GD f;clear hj hz f;by_cases hlt:j<16
  ·have C:=GD hlt;have an:(j:Int)<16:=by omega
   have aq:(0:Int)<=(j:Int):=by omega
   obtain⟨gd,c2,cd,fd,t⟩:=a.out.ref.d hlt;obtain⟨hr,G⟩:=t false;have l:=a.out.gS E.out hr G a.out.ap;have ad:=GD l;have aj:=GW ((j:Int)+1) (by omega);clear t hr G l hlt;go_wp2_with fail
   go_roundw
   case rel=>
    refine⟨j+1,_,C.out,by go_num,fun i f=>?_,ad.out⟩;rw[Po.bJ (by rw[a.out.ref.ld];exact C.out)];by_cases e:i=j
    ·rw[GU e]
    ·rw[GQ e];exact M.out i (by omega)
   case measure=>have:=C.out;simp[intOf];omega
  ·obtain rfl:j=16:=by have:=af.out;omega
   rw[show((16:Nat):Int)=16 from rfl];clear hlt;go_wp2_with fail
   refine(E.out.iV a.out.at_.at_ a.out.calm (by have:=a.out.stop;have:=HK.out;omega)).mono ?_;rintro e y⟨rfl,d2,T,s2,hw,hC,hl,hs⟩;obtain⟨U2,V2,X2,f,hT,-⟩:=a.out.fe hw hC hl hs.ar hs.ao (G8 K) (fun q=>by rw[hs.pins];exact Iv (a.out.pins q));have ah:=GD f;have ab:=GD (Po.kx.lY HT.out hs M.out);clear hw hC hl hs f hT;go_wp2_with fail
   go_ret;exact⟨U2,V2,X2,Z,d2,T,s2,N,fi,_,pi,rfl,ah.out,ab.out⟩
end
section
variable{PD:(Nat->Prop)->World->Nat->Dk.ak->Prop}{PL:(Nat->Prop)->(Nat->Prop)->World->Nat->Nat->Dk.ak->Wl.S->Prop}{PO:(Nat->Prop)->World->Nat->Nat->Nat->Po.S->Prop}{Hd:Dk.ak->Wl.S->Prop}{Hw:Dk.ak->Po.Ar->(Nat->Po.Pg)->Prop}{Hp:Dk.ak->Po.Ar->(Nat->Po.Pg->Prop)->Prop}
variable{U V X Z:Nat->Prop}{w w' w0:World}{B L P R base F K:Nat}{d:Dk.ak}{lg:Wl.S}{s:Po.S}{N:List Po.Pg}{fi:List Nat}{di:List Bool}{pi:List Nat}
set_option maxHeartbeats 6400000 in
set_option maxRecDepth 20000 in
theorem zr(A:bh PD PL PO Hd Hw Hp)(h:dt PL PO Hw base F K U V X Z w0 w B L P R d lg s N fi di pi)(H:Po.cW s N fi di pi)(J:K<=150)(hf:1<=F/\F<=12)(fl:Int)(q:bF fl)(t:Bool)(n:Int)(I:bF n/\n<0)(a:Int)(u:a≠0/\a≠1/\a≠2/\a≠3/\a≠4/\a≠5):
 Calls Tryz.prog 10 #[.pointer (some ⟨L,0,none⟩),.pointer (some ⟨P,0,none⟩),.pointer (some ⟨R,0,none⟩),.int .i64 (F:Int),.agg #[.int .i64 a,.int .i64 n,.int .i64 fl,.bool t]] w fun e w'=>cF PL PO Hw base F K w0 B L P R e w':=by
 have Q:=GD A;have HT:=GD H;have HK:=GD J;have HF:=GD hf;have ai:=GD q;have HN:=GD I;obtain⟨k0,k1,k2,G,E,D⟩:=u;have af:(a==0)=false:=by simpa using k0
 have ad:(a==1)=false:=by simpa using k1
 have ab:(a==2)=false:=by simpa using k2
 have aa:(a==3)=false:=by simpa using G
 have Y:(a==4)=false:=by simpa using E
 have T:(a==5)=false:=by simpa using D
 clear k0 k1 k2 G E D;obtain⟨W,r⟩:∃W,W=w.alloc (.cells #[.int .i64 a,.int .i64 n,.int .i64 fl,.bool t] 32):=⟨_,rfl⟩
 have b:W.heap[w.heap.size]?=some (.cells #[.int .i64 a,.int .i64 n,.int .i64 fl,.bool t] 32 (0,0)):=by rw[r];exact GM _ _
 have g:Below w.heap.size w W:=by rw[r];exact ae _ _
 obtain⟨y,j⟩:∃B,B=w.heap.size:=⟨_,rfl⟩
 rw[<-j]at b;have l:Hid (iM W y a n fl t):=GD ⟨b⟩;have m:=GD g;have f:=GD (h.below A g);have ak:Hid ((∀i,aB U V X i->i≠y)/\(∀i,Z i->i≠y)):=GD ⟨fun i v e=>(by have:=A.lt h.at_.at_ i v;omega),fun i v e=>(by have:=(h.ref.low i v).2;omega)⟩;clear A h H J hf q b g I;go_enter Tryz.func10,Tryz.ntmps10;go_upto_region 1 with(fail)
 rw[<-r,<-j];clear r j;obtain⟨O,b1,b2,M⟩:=l.out.cells;have ag:¬((0:Int)<=n):=by have:=HN.out;omega
 go_wp2_with fail
 refine(Q.out.held f.out.at_.at_ f.out.calm).mono ?_;rintro e S⟨hv,rfl,x,g⟩;obtain⟨hp,hc,rfl⟩:∃p c,hv=.slice p (s.held.map fun k:Nat=>(k:Int)).length c:=by
  obtain⟨p,c,e,-⟩:=x.aP.form;exact⟨p,c,e⟩
 obtain⟨hl,o⟩:∃n,n=(s.held.map fun k:Nat=>(k:Int)).length:=⟨_,rfl⟩
 have C:=GD (f.out.below Q.out g);have z:=GD (g.box l.out);have aj:Hid (Below w.heap.size w S):=m.out.trans (g.mono m.out.size);clear g f l m;have ah:=GD x;clear x O b1 b2 M;rw[<-o];clear o;obtain⟨O,b1,b2,M⟩:=z.out.cells;go_wp2_with fail
 go_ret;exact⟨U,V,X,Z,d,lg,s,N,fi,di,pi,rfl,C.out.more (G8 _),HT.out.tie⟩
set_option maxHeartbeats 6400000 in
set_option maxRecDepth 20000 in
theorem zt(A:bh PD PL PO Hd Hw Hp)(h:dt PL PO Hw base F K U V X Z w0 w B L P R d lg s N fi di pi)(H:Po.cW s N fi di pi)(J:K<=150)(hf:1<=F/\F<=12)(fl:Int)(q:bF fl)(t:Bool)(n:Int)(I:bF n/\16<=n)(a:Int)(u:a≠0/\a≠1/\a≠2/\a≠3/\a≠4/\a≠5):
 Calls Tryz.prog 10 #[.pointer (some ⟨L,0,none⟩),.pointer (some ⟨P,0,none⟩),.pointer (some ⟨R,0,none⟩),.int .i64 (F:Int),.agg #[.int .i64 a,.int .i64 n,.int .i64 fl,.bool t]] w fun e w'=>cF PL PO Hw base F K w0 B L P R e w':=by
 have S:=GD A;have HT:=GD H;have HK:=GD J;have HF:=GD hf;have ak:=GD q;have Q:=GD I;obtain⟨k0,k1,k2,G,E,D⟩:=u;have ag:(a==0)=false:=by simpa using k0
 have af:(a==1)=false:=by simpa using k1
 have ad:(a==2)=false:=by simpa using k2
 have ab:(a==3)=false:=by simpa using G
 have aa:(a==4)=false:=by simpa using E
 have Y:(a==5)=false:=by simpa using D
 clear k0 k1 k2 G E D;obtain⟨W,r⟩:∃W,W=w.alloc (.cells #[.int .i64 a,.int .i64 n,.int .i64 fl,.bool t] 32):=⟨_,rfl⟩
 have b:W.heap[w.heap.size]?=some (.cells #[.int .i64 a,.int .i64 n,.int .i64 fl,.bool t] 32 (0,0)):=by rw[r];exact GM _ _
 have g:Below w.heap.size w W:=by rw[r];exact ae _ _
 obtain⟨y,j⟩:∃B,B=w.heap.size:=⟨_,rfl⟩
 rw[<-j]at b;have l:Hid (iM W y a n fl t):=GD ⟨b⟩;have m:=GD g;have f:=GD (h.below A g);have an:Hid ((∀i,aB U V X i->i≠y)/\(∀i,Z i->i≠y)):=GD ⟨fun i v e=>(by have:=A.lt h.at_.at_ i v;omega),fun i v e=>(by have:=(h.ref.low i v).2;omega)⟩;clear A h H J hf q b g I;go_enter Tryz.func10,Tryz.ntmps10;go_upto_region 1 with(fail)
 rw[<-r,<-j];clear r j;obtain⟨O,b1,b2,M⟩:=l.out.cells;have ai:(0:Int)<=n:=by have:=Q.out;omega
 have ah:¬(n<16):=by have:=Q.out;omega
 go_wp2_with fail
 refine(S.out.held f.out.at_.at_ f.out.calm).mono ?_;rintro e T⟨hv,rfl,x,g⟩;obtain⟨hp,hc,rfl⟩:∃p c,hv=.slice p (s.held.map fun k:Nat=>(k:Int)).length c:=by
  obtain⟨p,c,e,-⟩:=x.aP.form;exact⟨p,c,e⟩
 obtain⟨hl,o⟩:∃n,n=(s.held.map fun k:Nat=>(k:Int)).length:=⟨_,rfl⟩
 have C:=GD (f.out.below S.out g);have z:=GD (g.box l.out);have al:Hid (Below w.heap.size w T):=m.out.trans (g.mono m.out.size);clear g f l m;have aj:=GD x;clear x O b1 b2 M;rw[<-o];clear o;obtain⟨O,b1,b2,M⟩:=z.out.cells;go_wp2_with fail
 go_ret;exact⟨U,V,X,Z,d,lg,s,N,fi,di,pi,rfl,C.out.more (G8 _),HT.out.tie⟩
set_option maxHeartbeats 6400000 in
set_option maxRecDepth 20000 in
theorem zs(A:bh PD PL PO Hd Hw Hp)(h:dt PL PO Hw base F K U V X Z w0 w B L P R d lg s N fi di pi)(T:Po.cW s N fi di pi)(Y:K<=150)(hf:1<=F/\F<=12)(fl:Int)(v:bF fl)(y:Bool)(m:Nat)(hm:m<16)(t:m∈s.held)(a:Int)(C:a≠0/\a≠1/\a≠2/\a≠3/\a≠4/\a≠5):
 Calls Tryz.prog 10 #[.pointer (some ⟨L,0,none⟩),.pointer (some ⟨P,0,none⟩),.pointer (some ⟨R,0,none⟩),.int .i64 (F:Int),.agg #[.int .i64 a,.int .i64 (m:Int),.int .i64 fl,.bool y]] w fun e w'=>cF PL PO Hw base F K w0 B L P R e w':=by
 have J:=GD A;have HT:=GD T;have HK:=GD Y;have HF:=GD hf;have ak:=GD v;have HM:=GD hm;have I:=GD t;obtain⟨k0,k1,k2,S,Q,O⟩:=C;have ah:(a==0)=false:=by simpa using k0
 have ag:(a==1)=false:=by simpa using k1
 have af:(a==2)=false:=by simpa using k2
 have ad:(a==3)=false:=by simpa using S
 have ab:(a==4)=false:=by simpa using Q
 have aa:(a==5)=false:=by simpa using O
 clear k0 k1 k2 S Q O;obtain⟨W,x⟩:∃W,W=w.alloc (.cells #[.int .i64 a,.int .i64 (m:Int),.int .i64 fl,.bool y] 32):=⟨_,rfl⟩
 have b:W.heap[w.heap.size]?=some (.cells #[.int .i64 a,.int .i64 (m:Int),.int .i64 fl,.bool y] 32 (0,0)):=by rw[x];exact GM _ _
 have j:Below w.heap.size w W:=by rw[x];exact ae _ _
 obtain⟨G,l⟩:∃B,B=w.heap.size:=⟨_,rfl⟩
 rw[<-l]at b;have o:Hid (iM W G a (m:Int) fl y):=GD ⟨b⟩;have r:=GD j;have g:=GD (h.below A j);have an:Hid ((∀i,aB U V X i->i≠G)/\(∀i,Z i->i≠G)):=GD ⟨fun i D e=>(by have:=A.lt h.at_.at_ i D;omega),fun i D e=>(by have:=(h.ref.low i D).2;omega)⟩;clear A h T Y hf v b j hm t;go_enter Tryz.func10,Tryz.ntmps10;go_upto_region 1 with(fail)
 rw[<-x,<-l];clear x l;obtain⟨b0,b1,b2,b3⟩:=o.out.cells;have aj:(0:Int)<=(m:Int):=by omega
 have ai:(m:Int)<16:=by have:=HM.out;omega
 go_wp2_with fail
 refine(J.out.held g.out.at_.at_ g.out.calm).mono ?_;rintro e M⟨hv,rfl,E,j⟩;obtain⟨hp,hc,rfl⟩:∃p c,hv=.slice p (s.held.map fun k:Nat=>(k:Int)).length c:=by
  obtain⟨p,c,e,-⟩:=E.aP.form;exact⟨p,c,e⟩
 obtain⟨hl,u⟩:∃n,n=(s.held.map fun k:Nat=>(k:Int)).length:=⟨_,rfl⟩
 have q:=GD (g.out.below J.out j);have H:=GD (j.box o.out);have al:Hid (Below w.heap.size w M):=r.out.trans (j.mono r.out.size);clear j g o r;have f:=GD (aM M _ _ (m:Int) E.aP (by rw[Hb];have:=(q.out.aI J.out).lS;have:=q.out.fr;have:=HF.out;omega));rw[Po.mem_cast]at f;clear E;rw[<-u]at f⊢;clear u b0 b1 b2 b3;obtain⟨b0,b1,b2,b3⟩:=H.out.cells;rw[show decide (m∈s.held)=true from GK I.out]at f;go_wp2_with fail
 refine f.out.mono ?_;rintro e z⟨rfl,rfl⟩;clear f;go_wp2_with fail
 go_ret;exact⟨U,V,X,Z,d,lg,s,N,fi,di,pi,rfl,q.out.more (G8 _),HT.out.tie⟩
set_option maxHeartbeats 6400000 in
set_option maxRecDepth 20000 in
theorem uB(A:bh PD PL PO Hd Hw Hp)(h:dt PL PO Hw base F K U V X Z w0 w B L P R d lg s N fi di pi)(ht:Po.cW s N fi di pi)(hk:K<=150)(hf:1<=F/\F<=12)(fl:Int)(y:bF fl)(D:Bool)(m:Nat)(hm:m<16)(t:m∉s.held)(x:Po.Full s)(b:Int)(H:b≠0/\b≠1/\b≠2/\b≠3/\b≠4/\b≠5):
 Calls Tryz.prog 10 #[.pointer (some ⟨L,0,none⟩),.pointer (some ⟨P,0,none⟩),.pointer (some ⟨R,0,none⟩),.int .i64 (F:Int),.agg #[.int .i64 b,.int .i64 (m:Int),.int .i64 fl,.bool D]] w fun e w'=>cF PL PO Hw base F K w0 B L P R e w':=by
 have E:=GD A;have O:=GD ht;have HK:=GD hk;have HF:=GD hf;have al:=GD y;have HM:=GD hm;have Q:=GD t;have S:=GD x;obtain⟨k0,k1,k2,k3,Y,T⟩:=H;have ah:(b==0)=false:=by simpa using k0
 have ag:(b==1)=false:=by simpa using k1
 have af:(b==2)=false:=by simpa using k2
 have ad:(b==3)=false:=by simpa using k3
 have ab:(b==4)=false:=by simpa using Y
 have aa:(b==5)=false:=by simpa using T
 clear k0 k1 k2 k3 Y T;obtain⟨W,C⟩:∃W,W=w.alloc (.cells #[.int .i64 b,.int .i64 (m:Int),.int .i64 fl,.bool D] 32):=⟨_,rfl⟩
 have f:W.heap[w.heap.size]?=some (.cells #[.int .i64 b,.int .i64 (m:Int),.int .i64 fl,.bool D] 32 (0,0)):=by rw[C];exact GM _ _
 have l:Below w.heap.size w W:=by rw[C];exact ae _ _
 obtain⟨J,o⟩:∃B,B=w.heap.size:=⟨_,rfl⟩
 rw[<-o]at f;have q:Hid (iM W J b (m:Int) fl D):=GD ⟨f⟩;have r:=GD l;have j:=GD (h.below A l);have ao:Hid ((∀i,aB U V X i->i≠J)/\(∀i,Z i->i≠J)):=GD ⟨fun i u e=>(by have:=A.lt h.at_.at_ i u;omega),fun i u e=>(by have:=(h.ref.low i u).2;omega)⟩;clear A h ht hk hf y f l hm t x;go_enter Tryz.func10,Tryz.ntmps10;go_upto_region 1 with(fail)
 rw[<-C,<-o];clear C o;obtain⟨b0,b1,b2,b3⟩:=q.out.cells;have aj:(0:Int)<=(m:Int):=by omega
 have ai:(m:Int)<16:=by have:=HM.out;omega
 go_wp2_with fail
 refine(E.out.held j.out.at_.at_ j.out.calm).mono ?_;rintro e G⟨hv,rfl,I,l⟩;obtain⟨hp,hc,rfl⟩:∃p c,hv=.slice p (s.held.map fun k:Nat=>(k:Int)).length c:=by
  obtain⟨p,c,e,-⟩:=I.aP.form;exact⟨p,c,e⟩
 obtain⟨hl,v⟩:∃n,n=(s.held.map fun k:Nat=>(k:Int)).length:=⟨_,rfl⟩
 have a:=GD (j.out.below E.out l);have M:=GD (l.box q.out);have an:Hid (Below w.heap.size w G):=r.out.trans (l.mono r.out.size);clear l j q r;have g:=GD (aM G _ _ (m:Int) I.aP (by rw[Hb];have:=(a.out.aI E.out).lS;have:=a.out.fr;have:=HF.out;omega));rw[Po.mem_cast]at g;clear I;rw[<-v]at g⊢;clear v b0 b1 b2 b3;obtain⟨b0,b1,b2,b3⟩:=M.out.cells;rw[show decide (m∈s.held)=false from GY Q.out]at g;go_wp2_with fail
 refine g.out.mono ?_;rintro e z⟨rfl,rfl⟩;clear g;go_wp2_with fail
 refine(bo G a.out.ref (fun i u=>by rw[O.out.tie.pins i u];have:=a.out.pins i;have:=HK.out;omega)).mono ?_;rintro e z⟨rfl,rfl⟩;have ak:(F:Int)<=(Po.fD pi:Int):=by have:=(Po.df (a.out.aI E.out) a.out.ar a.out.ref.lp O.out.tie.pins).2 S.out;rw[a.out.fr]at this;omega
 go_wp2_with fail
 go_ret;exact⟨U,V,X,Z,d,lg,s,N,fi,di,pi,rfl,a.out.more (G8 _),O.out.tie⟩
set_option maxHeartbeats 6400000 in
set_option maxRecDepth 20000 in
theorem uA(A:bh PD PL PO Hd Hw Hp)(h:dt PL PO Hw base F K U V X Z w0 w B L P R d lg s N fi di pi)(ht:Po.cW s N fi di pi)(hk:K<=150)(hf:1<=F/\F<=12)(fl:Int)(y:bF fl)(D:Bool)(m:Nat)(hm:m<16)(t:m∉s.held)(x:¬Po.Full s)(b:Int)(H:b≠0/\b≠1/\b≠2/\b≠3/\b≠4/\b≠5):
 Calls Tryz.prog 10 #[.pointer (some ⟨L,0,none⟩),.pointer (some ⟨P,0,none⟩),.pointer (some ⟨R,0,none⟩),.int .i64 (F:Int),.agg #[.int .i64 b,.int .i64 (m:Int),.int .i64 fl,.bool D]] w fun e w'=>cF PL PO Hw base F K w0 B L P R e w':=by
 have E:=GD A;have O:=GD ht;have HK:=GD hk;have HF:=GD hf;have al:=GD y;have HM:=GD hm;have Q:=GD t;have S:=GD x;obtain⟨k0,k1,k2,k3,Y,T⟩:=H;have ah:(b==0)=false:=by simpa using k0
 have ag:(b==1)=false:=by simpa using k1
 have af:(b==2)=false:=by simpa using k2
 have ad:(b==3)=false:=by simpa using k3
 have ab:(b==4)=false:=by simpa using Y
 have aa:(b==5)=false:=by simpa using T
 clear k0 k1 k2 k3 Y T;obtain⟨W,C⟩:∃W,W=w.alloc (.cells #[.int .i64 b,.int .i64 (m:Int),.int .i64 fl,.bool D] 32):=⟨_,rfl⟩
 have f:W.heap[w.heap.size]?=some (.cells #[.int .i64 b,.int .i64 (m:Int),.int .i64 fl,.bool D] 32 (0,0)):=by rw[C];exact GM _ _
 have l:Below w.heap.size w W:=by rw[C];exact ae _ _
 obtain⟨J,o⟩:∃B,B=w.heap.size:=⟨_,rfl⟩
 rw[<-o]at f;have q:Hid (iM W J b (m:Int) fl D):=GD ⟨f⟩;have r:=GD l;have j:=GD (h.below A l);have ao:Hid ((∀i,aB U V X i->i≠J)/\(∀i,Z i->i≠J)):=GD ⟨fun i u e=>(by have:=A.lt h.at_.at_ i u;omega),fun i u e=>(by have:=(h.ref.low i u).2;omega)⟩;clear A h ht hk hf y f l hm t x;go_enter Tryz.func10,Tryz.ntmps10;go_upto_region 1 with(fail)
 rw[<-C,<-o];clear C o;obtain⟨b0,b1,b2,b3⟩:=q.out.cells;have aj:(0:Int)<=(m:Int):=by omega
 have ai:(m:Int)<16:=by have:=HM.out;omega
 go_wp2_with fail
 refine(E.out.held j.out.at_.at_ j.out.calm).mono ?_;rintro e G⟨hv,rfl,I,l⟩;obtain⟨hp,hc,rfl⟩:∃p c,hv=.slice p (s.held.map fun k:Nat=>(k:Int)).length c:=by
  obtain⟨p,c,e,-⟩:=I.aP.form;exact⟨p,c,e⟩
 obtain⟨hl,v⟩:∃n,n=(s.held.map fun k:Nat=>(k:Int)).length:=⟨_,rfl⟩
 have a:=GD (j.out.below E.out l);have M:=GD (l.box q.out);have an:Hid (Below w.heap.size w G):=r.out.trans (l.mono r.out.size);clear l j q r;have g:=GD (aM G _ _ (m:Int) I.aP (by rw[Hb];have:=(a.out.aI E.out).lS;have:=a.out.fr;have:=HF.out;omega));rw[Po.mem_cast]at g;clear I;rw[<-v]at g⊢;clear v b0 b1 b2 b3;obtain⟨b0,b1,b2,b3⟩:=M.out.cells;rw[show decide (m∈s.held)=false from GY Q.out]at g;go_wp2_with fail
 refine g.out.mono ?_;rintro e z⟨rfl,rfl⟩;clear g;go_wp2_with fail
 refine(bo G a.out.ref (fun i u=>by rw[O.out.tie.pins i u];have:=a.out.pins i;have:=HK.out;omega)).mono ?_;rintro e z⟨rfl,rfl⟩;have ak:¬((F:Int)<=(Po.fD pi:Int)):=fun h=>S.out ((Po.df (a.out.aI E.out) a.out.ar a.out.ref.lp O.out.tie.pins).1 (by rw[a.out.fr];omega));go_wp2_with fail
 go_ret;exact⟨U,V,X,Z,d,lg,s,N,fi,di,pi,rfl,a.out.more (G8 _),O.out.tie⟩
end
section
variable{PD:(Nat->Prop)->World->Nat->Dk.ak->Prop}{PL:(Nat->Prop)->(Nat->Prop)->World->Nat->Nat->Dk.ak->Wl.S->Prop}{PO:(Nat->Prop)->World->Nat->Nat->Nat->Po.S->Prop}{Hd:Dk.ak->Wl.S->Prop}{Hw:Dk.ak->Po.Ar->(Nat->Po.Pg)->Prop}{Hp:Dk.ak->Po.Ar->(Nat->Po.Pg->Prop)->Prop}
variable{U V X Z:Nat->Prop}{w w' w0:World}{B L P R base F K:Nat}{d:Dk.ak}{lg:Wl.S}{s:Po.S}{N:List Po.Pg}{fi:List Nat}{di:List Bool}{pi:List Nat}
theorem u7(A:bh PD PL PO Hd Hw Hp)(h:dt PL PO Hw base F K U V X Z w0 w B L P R d lg s N fi di pi)(g:Po.cW s N fi di pi)(i:K<=150)(hf:1<=F/\F<=12)(c n fl:Int)(p:bF n)(a:bF fl)(f:Bool):
 Calls Tryz.prog 10 #[.pointer (some ⟨L,0,none⟩),.pointer (some ⟨P,0,none⟩),.pointer (some ⟨R,0,none⟩),.int .i64 (F:Int),.agg #[.int .i64 c,.int .i64 n,.int .i64 fl,.bool f]] w fun e w'=>cF PL PO Hw base F K w0 B L P R e w':=by
 by_cases r:n<0
 ·by_cases k0:c=0
  ·subst k0;exact zK A h g i hf fl a f n ⟨p,r⟩
  by_cases k1:c=1
  ·subst k1;exact zH A h g i hf fl a f n ⟨p,r⟩
  by_cases k2:c=2
  ·subst k2;exact zE A h g i hf fl a f n ⟨p,r⟩
  by_cases o:c=3
  ·subst o;exact zB A h g i hf fl a f n ⟨p,r⟩
  by_cases l:c=4
  ·subst l;exact zx A h g i hf fl a f n ⟨p,r⟩
  by_cases k:c=5
  ·subst k;exact zu A h g i hf fl a f n ⟨p,r⟩
  exact zr A h g i hf fl a f n ⟨p,r⟩ c ⟨k0,k1,k2,o,l,k⟩
 by_cases q:16<=n
 ·by_cases k0:c=0
  ·subst k0;exact zM A h g i hf fl a f n ⟨p,q⟩
  by_cases k1:c=1
  ·subst k1;exact zJ A h g i hf fl a f n ⟨p,q⟩
  by_cases k2:c=2
  ·subst k2;exact zG A h g i hf fl a f n ⟨p,q⟩
  by_cases o:c=3
  ·subst o;exact zD A h g i hf fl a f n ⟨p,q⟩
  by_cases l:c=4
  ·subst l;exact zA A h g i hf fl a f n ⟨p,q⟩
  by_cases k:c=5
  ·subst k;exact zw A h g i hf fl a f n ⟨p,q⟩
  exact zt A h g i hf fl a f n ⟨p,q⟩ c ⟨k0,k1,k2,o,l,k⟩
 obtain⟨m,rfl⟩:∃m:Nat,n=(m:Int):=⟨n.toNat,by omega⟩
 have hm:m<16:=by omega
 by_cases b:m∈s.held
 ·by_cases k0:c=0
  ·subst k0;exact zL A h g i hf fl a f m hm b
  by_cases k1:c=1
  ·subst k1;exact zI A h g i hf fl a f m hm b
  by_cases k2:c=2
  ·subst k2;exact zF A h g i hf fl a f m hm b
  by_cases o:c=3
  ·subst o;exact zC A h g i hf fl a f m hm b
  by_cases l:c=4
  ·subst l;exact zy A h g i hf fl a f m hm b
  by_cases k:c=5
  ·subst k;exact zv A h g i hf fl a f m hm b
  exact zs A h g i hf fl a f m hm b c ⟨k0,k1,k2,o,l,k⟩
 by_cases j:Po.Full s
 ·by_cases k0:c=0
  ·subst k0;exact uN A h g i hf fl a f m hm b j
  by_cases k1:c=1
  ·subst k1;exact uL A h g i hf fl a f m hm b j
  by_cases k2:c=2
  ·subst k2;exact uJ A h g i hf fl a f m hm b j
  by_cases o:c=3
  ·subst o;exact uH A h g i hf fl a f m hm b j
  by_cases l:c=4
  ·subst l;exact uF A h g i hf fl a f m hm b j
  by_cases k:c=5
  ·subst k;exact uD A h g i hf fl a f m hm b j
  exact uB A h g i hf fl a f m hm b j c ⟨k0,k1,k2,o,l,k⟩
 by_cases k0:c=0
 ·subst k0;exact uM A h g i hf fl a f m hm b j
 by_cases k1:c=1
 ·subst k1;exact uK A h g i hf fl a f m hm b j
 by_cases k2:c=2
 ·subst k2;exact uI A h g i hf fl a f m hm b j
 by_cases o:c=3
 ·subst o;exact uG A h g i hf fl a f m hm b j
 by_cases l:c=4
 ·subst l;exact uE A h g i hf fl a f m hm b j
 by_cases k:c=5
 ·subst k;exact uC A h g i hf fl a f m hm b j
 exact uA A h g i hf fl a f m hm b j c ⟨k0,k1,k2,o,l,k⟩
end
theorem fA{S:Nat->Prop}{a b:World}{v:Value}{l:List Int}(h:Touch S a b)(d:Ints.aJ a v l)(hs:0<l.length->∀g,v.ownBlock=some g->¬S g):Ints.aJ b v l:=by
 obtain⟨p,cap,e,f,j,hp⟩:=d.form;refine⟨⟨p,cap,e,f,j,fun h0=>?_⟩,d.small,d.len⟩;obtain⟨g,off,c,m⟩:=hp h0;exact⟨g,off,c,fun i k=>h.cell (m i k) (hs h0 g (by rw[e,c];rfl))⟩
theorem eQ.DA{base base' R:Nat}{Z:Nat->Prop}{w:World}{N:List (Nat×List Nat)}{d:List Nat}{e:List Bool}{pi:List Nat}(h:eQ base' Z R w N d e pi)(c:base<=base'):eQ base Z R w N d e pi:=by
 obtain⟨t,u,gf,gd,s,l,r,q,p,o,a,n,m,j⟩:=h.ex;refine⟨h.lN,h.lf,h.ld,h.lp,fun i b=>⟨GR c (h.low i b).1,(h.low i b).2⟩,h.zR,t,u,gf,gd,s,l,r,q,p,o,⟨?_,a.len,a.row,a.key,fun i b=>(a.body i b).from c,a.eC⟩,n,m,j⟩;refine⟨a.own.1,?_⟩;rcases a.own.2 with k|⟨g,cap,cur,k1,k2,f⟩
 ·exact GJ k
 ·exact GL ⟨g,cap,cur,k1,GR c k2,f⟩
def Cl(s:Po.S)(b a:List Bool)(k:Nat):Prop:=a.length=16/\∀j,j<16->a.getD j false=if j<k then(b.getD j false&&decide (j∈s.held))else b.getD j false
theorem Cv{s:Po.S}{a:List Bool}(h:a.length=16):Cl s a a 0:=⟨h,fun j _=>by rw[GQ (Ii j)]⟩
theorem Cl.Fz{s:Po.S}{N:List Po.Pg}{l:List Nat}{f d:List Bool}{pi:List Nat}(h:Cl s f d 16)(t:Po.kx s N l f pi)(g:Po.Good s):Po.cW s N l d pi:=by
 have e:∀j,j<16->d.getD j false=(f.getD j false&&decide (j∈s.held)):=fun j i=>by rw[h.2 j i,GU i]
 refine⟨⟨t.now,t.pins,fun k a c b=>?_,fun k a c=>?_⟩,fun k a b=>?_⟩
 ·rw[e k a,Hs]at b;exact t.d1 k a c b.1
 ·rw[e k a,t.d2 k a c,GK (g.aD k c)];rfl
 ·rw[e k a,Hs]at b;exact IJ b.2
theorem Cl.same{s:Po.S}{f b:List Bool}{k:Nat}(h:Cl s f b k)(i:k<16)(a:b.getD k false=false\/k∈s.held):Cl s f b (k+1):=by
 refine⟨h.1,fun j c=>?_⟩;rw[h.2 j c];by_cases e:j<k
 ·rw[GU e,GU (by omega)]
 ·rw[GQ e];by_cases g:j=k
  ·subst g;rw[GU (by omega)];have d:=h.2 j c;rw[GQ e]at d;rcases a with a|a
   ·rw[<-d,a];rfl
   ·rw[GK a,Bool.and_true]
  ·rw[GQ (by omega)]
theorem Cl.clear{s:Po.S}{c b:List Bool}{k:Nat}(h:Cl s c b k)(d:k<16)(g:k∉s.held):Cl s c (b.set k false) (k+1):=by
 refine⟨by rw[G4];exact h.1,fun j f=>?_⟩;rw[Po.bJ (by rw[h.1];exact d)];by_cases a:j=k
 ·rw[GU a,GU (by omega),a,GY g,Bool.and_false]
 ·rw[GQ a,h.2 j f];by_cases e:j<k
  ·rw[GU e,GU (by omega)]
  ·rw[GQ e,GQ (by omega)]
theorem wJ{l:List Nat}(h:l.Pairwise (·< ·)){i j:Nat}(a:i<j)(b:j<l.length):l.getD i 0<l.getD j 0:=by
 rw[GG,GG,GS (by omega),GS b];exact List.pairwise_iff_getElem.1 h i j (by omega) b a
theorem qC(l:List Nat)(i:Nat):(l.map fun k:Nat=>(k:Int)).getD i 0=((l.getD i 0:Nat):Int):=by
 simp only[GG,Je];cases l[i]?<;>rfl
section
variable{PD:(Nat->Prop)->World->Nat->Dk.ak->Prop}{PL:(Nat->Prop)->(Nat->Prop)->World->Nat->Nat->Dk.ak->Wl.S->Prop}{PO:(Nat->Prop)->World->Nat->Nat->Nat->Po.S->Prop}{Hd:Dk.ak->Wl.S->Prop}{Hw:Dk.ak->Po.Ar->(Nat->Po.Pg)->Prop}{Hp:Dk.ak->Po.Ar->(Nat->Po.Pg->Prop)->Prop}
theorem Ao{x:Int}(h:Ints.rS x):bF x:=by
 have b:IntKind.i64.min= -9223372036854775808:=rfl;have a:IntKind.i64.max=9223372036854775807:=rfl;unfold Ints.rS at h;simp only[Lit.wf,Hs,IK]at h;unfold bF;omega
set_option maxHeartbeats 12800000 in
set_option maxRecDepth 20000 in
theorem pL(A:bh PD PL PO Hd Hw Hp)(fr:Int)(v:Value)(l:List PopV)(w:World)(hB:Bx w v l):
 Calls Tryz.prog 3 #[.int .i64 fr,v] w fun e w'=>e=.returned (.bool true)/\Below w.heap.size w w':=by
 have I:=GD A;obtain⟨p,cap,rfl,bq,-,hp⟩:=hB.form;have bk:=GD hp;clear A hB hp;by_cases h1:fr<1
 case pos=>
  go_enter Tryz.func3,Tryz.ntmps3;go_wp2_with fail
  refine(kh I.out _).mono ?_;rintro e w2⟨rfl,ax⟩;go_wp2_with fail
  go_ret;exact⟨rfl,ax⟩
 by_cases h2:12<fr
 case pos=>
  go_enter Tryz.func3,Tryz.ntmps3;go_wp2_with fail
  refine(kh I.out _).mono ?_;rintro e w2⟨rfl,ax⟩;go_wp2_with fail
  go_ret;exact⟨rfl,ax⟩
 by_cases h3:(150:Int)<(l.length:Int)
 case pos=>
  go_enter Tryz.func3,Tryz.ntmps3;go_wp2_with fail
  refine(kh I.out _).mono ?_;rintro e w2⟨rfl,ax⟩;go_wp2_with fail
  go_ret;exact⟨rfl,ax⟩
 obtain⟨F,rfl⟩:∃F:Nat,fr=(F:Int):=⟨fr.toNat,by omega⟩
 have HF:Hid (1<=F/\F<=12):=GD (by omega);have aW:Hid (l.length<=150):=GD (by omega);go_enter Tryz.func3,Tryz.ntmps3;go_wp2_with fail
 refine(qD I.out F HF.out.1 (by have:=HF.out;omega) w).mono ?_;rintro e w1⟨B,L,P,U,V,X,d,rfl,hP,hC,hb⟩;have HP:=GD hP;have HC:=GD hC;have HB:=GD hb;clear hP hC hb h1 h2 h3;go_wp2_with fail
 refine(uT w1).mono ?_;rintro e w2⟨R,Z,rfl,hR,hb⟩;have hI:dt PL PO Hw w.heap.size F 0 U V X Z w w2 B L P R d (Wl.fresh 0 30) (Po.fresh (fun _=>Po.blank) F Po.iK) (List.replicate 16 Po.blank) (List.replicate 16 0) (List.replicate 16 false) (List.replicate 16 0):=
  ⟨HP.out.below I.out hb,HC.out,rfl,rfl,rfl,GH _,fun _=>GH _,hR.DA HB.out.size,fun i hi hz=>(by have:=I.out.lt HP.out.at_ i hi;have:=(hR.low i hz).1;omega),HB.out.trans (hb.mono HB.out.size),GR HB.out.size hb.size⟩
 have bd:=GD hI;clear hR hb hI HP HC HB;go_wp2_with fail
 go_loopw [10] (fun iv wr=>∃(k:Nat)(U V X Z:Nat->Prop)(d:Dk.ak)(lg:Wl.S)(s:Po.S)(N:List Po.Pg)(fi:List Nat)(di:List Bool)(pi:List Nat),k<=l.length/\iv=.int .i64 (k:Int)/\dt PL PO Hw w.heap.size F k U V X Z w wr B L P R d lg s N fi di pi/\Po.cW s N fi di pi) (fun iv _=>l.length-(intOf iv).toNat)
 case atStart=>exact⟨0,U,V,X,Z,d,_,_,_,_,_,_,G7 _,rfl,bd.out,Po.uq F⟩
 case round=>
  clear bd;obtain⟨i,U,V,X,Z,d,lg,s,N,fi,di,pi,hk,rfl,hI,hT⟩:=hrel;have ai:=GD hI;have aN:=GD hT;have bn:=GD hk;clear hI hT hk;by_cases hlt:i<l.length
  ·as_aux_lemma=>
    have aa:=GD hlt;obtain⟨b,off,rfl,hx⟩:=bk.out (by omega);have ao:=hx i hlt;have D:(i:Int)<(l.length:Int):=by omega
    have G:(0:Int)<=(i:Int):=by omega
    have ay:=GW ((i:Int)+1) (by have:=aW.out;omega);generalize l.getD i default=o at*
    have aQ:Hid (b<w.heap.size):=Ib ao.c1;have c0:=(ai.out.fb.cell (p:=⟨b,off+i*4,none⟩) aQ.out).trans ao.c0;have c1:=(ai.out.fb.cell (p:=⟨b,off+i*4+1,none⟩) aQ.out).trans ao.c1;have c2:=(ai.out.fb.cell (p:=⟨b,off+i*4+2,none⟩) aQ.out).trans ao.c2;have c3:=(ai.out.fb.cell (p:=⟨b,off+i*4+3,none⟩) aQ.out).trans ao.c3;have aO:Hid (bF o.n/\bF o.fill):=⟨Ao ao.k1,Ao ao.k2⟩
    obtain⟨on,aY⟩:∃x,x=o.n:=⟨_,rfl⟩
    obtain⟨DI,aZ⟩:∃x,x=o.kind:=⟨_,rfl⟩
    obtain⟨bf,a1⟩:∃x,x=o.fill:=⟨_,rfl⟩
    obtain⟨ob,a2⟩:∃x,x=o.bare:=⟨_,rfl⟩
    rw[<-aY]at c1 aO;rw[<-aZ]at c0;rw[<-a1]at c2 aO;rw[<-a2]at c3;clear hx ao aY aZ a1 a2 hlt;by_cases g1:1000<on
    case pos=>
     go_wp2_with fail
     go_roundw
     case rel=>exact⟨i+1,U,V,X,Z,d,lg,s,N,fi,di,pi,aa.out,by go_num,ai.out.more (G8 _),aN.out⟩
     case measure=>have:=aa.out;simp[intOf];omega
    by_cases g2:on< -1000
    case pos=>
     go_wp2_with fail
     go_roundw
     case rel=>exact⟨i+1,U,V,X,Z,d,lg,s,N,fi,di,pi,aa.out,by go_num,ai.out.more (G8 _),aN.out⟩
     case measure=>have:=aa.out;simp[intOf];omega
    go_wp2_with fail
    refine(u7 I.out ai.out aN.out (by have:=aa.out;have:=aW.out;omega) HF.out DI on bf aO.out.1 aO.out.2 ob).mono ?_;rintro e y⟨U2,V2,X2,Z2,d2,aX,s2,N2,a7,a8,aT,rfl,hI,hT⟩;have f:=GD hI;have bc:=GD hT;clear hI hT c0 c1 c2 c3 g1 g2 D G ai aN;go_wp2_with fail
    refine(I.out.held f.out.at_.at_ f.out.calm).mono ?_;rintro e y2⟨hv,rfl,hO,hb⟩;obtain⟨hl,aL⟩:∃n,n=s2.held.length:=⟨_,rfl⟩
    obtain⟨hp,hc,rfl⟩:∃p c,hv=.slice p hl c:=by
     obtain⟨p,c,e,-⟩:=hO.aP.form;rw[Hb,<-aL]at e;exact⟨p,c,e⟩
    have aF:=(f.out.aI I.out).lS;rw[f.out.fr,<-aL]at aF;have Q:Hid (s2.held.length=hl/\hl<=F/\F<=12):=⟨aL.symm,aF,HF.out.2⟩
    have O:=GD (f.out.below I.out hb);have T:=GD hO.aP;have az:Hid (∀g,(Value.slice hp hl hc).ownBlock=some g->¬Z2 g):=fun g hg hz=>by
     have:=(f.out.ref.low g hz).2;have:=(World.ownsRow.lt hO.own g hg).1;omega
    clear hO hb aL aF f;have hle:¬((F:Int)<(hl:Int)):=by have:=Q.out;omega
    have hlen:¬(F<hl):=by have:=Q.out;omega
    go_wp2_with fail
    clear hle hlen;go_loopw [12] (fun iv wr=>∃(k:Nat)(dj:List Bool),k<=16/\iv=.int .i64 (k:Int)/\Cl s2 a8 dj k/\dt PL PO Hw w.heap.size F (i+1) U2 V2 X2 Z2 w wr B L P R d2 aX s2 N2 a7 dj aT/\Ints.aJ wr (.slice hp hl hc) (s2.held.map fun k:Nat=>(k:Int))) (fun iv _=>16-(intOf iv).toNat)
    case atStart=>exact⟨0,a8,G7 _,rfl,Cv O.out.ref.ld,O.out,T.out⟩
    case round=>
     obtain⟨k,dj,hk,rfl,a6,hI,hH⟩:=hrel;have bl:=GD hk;have H:=GD a6;have E:=GD hI;have an:=GD hH;clear hk a6 hI hH O T;by_cases hlt:k<16
     ·have a:=GD hlt;have D:(k:Int)<16:=by omega
      have bm:Hid (i+1<=1000):=GD (by have:=aW.out;have:=aa.out;omega);have bj:=GD bc.out;clear hlt;obtain⟨gp,r3,p0,-,-⟩:=E.out.ref.p a.out;obtain⟨v,hv⟩:∃v,v=aT.getD k 0:=⟨_,rfl⟩
      rw[<-hv]at p0;have ba:Hid (v=s2.pins k):=by show _=_;rw[hv,bj.out.pins k a.out]
      clear hv;have R3:=GD r3;have P0:=GD p0;have br:Hid (R<wr.heap.size):=Ib r3;have bs:Hid (gp<wr.heap.size):=Ib p0;have aR:∀n:Nat,Calls Tryz.prog 12 #[.pointer (some ⟨P,0,none⟩),.int .i64 (k:Int)] (wr.drewN n) fun e w'=>e=.returned (.int .i64 (v:Int))/\∃m,w'=(wr.drewN n).drewN m:=fun n=>by
       have hc:=I.out.pins k (I.out.below E.out.at_.at_ (below_drewN wr.heap.size wr n)) E.out.calm (by rw[E.out.ar];have:=a.out;show(k:Int)<16;omega) (by have:=E.out.pins k;have:=bm.out;omega);rw[<-ba.out]at hc;exact hc
      have aj:=GD aR;clear aR r3 p0;go_upto_region 19 with(fail)
      by_cases K:0<v
      case neg=>
       have Y:Hid (¬((0:Int)<(v:Int))):=by show¬_;omega
       clear K;by_cases t:k<hl
       case neg=>
        have M:Hid (¬((k:Int)<(hl:Int))):=by show¬_;omega
        clear t;as_aux_lemma=>
         have r3:=R3.out;have p0:=P0.out;have ad:((v:Int)!=(v:Int))=false:=by simp
         have K:=Y.out;have ae:¬(0<v):=by have:=Y.out;omega
         have t:=M.out;have ag:¬(k<hl):=by have:=M.out;omega
         have D:(k:Int)<16:=by have:=a.out;omega
         have G:(0:Int)<=(k:Int):=by omega
         go_quiet ((go_at_call 12;exact Calls.quiet_of (aj.out _)))
         have hR:=below_drewN wr.heap.size wr nq;have f:=GD (E.out.below I.out hR);have q:=GD (an.out.below hR);clear hR r3 p0 ad K ae t ag D G;generalize wr.drewN nq=w9 at f q⊢;obtain⟨gd,c2,cd,fd,h⟩:=f.out.ref.d a.out;have ay:=GW ((k:Int)+1) (by have:=a.out;omega);have D:(k:Int)<16:=by have:=a.out;omega
         have G:(0:Int)<=(k:Int):=by omega
         cases hdj:dj.getD k false;case false=>
          rw[hdj]at cd;have r:=GD (H.out.same a.out (GJ hdj));clear h hdj;go_wp2_with fail
          go_roundw
          case rel=>exact⟨k+1,dj,a.out,by go_num,r.out,f.out,q.out⟩
          case measure=>have:=a.out;simp[intOf];omega
         case true=>
          rw[hdj]at cd;have u:=aM w9 _ _ (k:Int) q.out (by rw[Hb];have:=Q.out;omega);rw[Po.mem_cast]at u;by_cases j:k∈s2.held
          case pos=>
           rw[GK j]at u;have r:=GD (H.out.same a.out (GL j));have C:=GD u;clear h hdj j u;go_wp2_with fail
           refine C.out.mono ?_;rintro e y⟨rfl,rfl⟩;go_wp2_with fail
           go_roundw
           case rel=>exact⟨k+1,dj,a.out,by go_num,r.out,f.out,q.out⟩
           case measure=>have:=a.out;simp[intOf];omega
          case neg=>
           rw[GY j]at u;have r:=GD (H.out.clear a.out j);have C:=GD u;obtain⟨hr,ht⟩:=h false;have O:=GD (f.out.gS I.out hr ht f.out.ap);have T:=GD (fA ht q.out (fun _ g hg hz=>az.out g hg hz));clear h hdj j u hr ht;go_wp2_with fail
           refine C.out.mono ?_;rintro e y⟨rfl,rfl⟩;go_wp2_with fail
           go_roundw
           case rel=>exact⟨k+1,_,a.out,by go_num,r.out,O.out,T.out⟩
           case measure=>have:=a.out;simp[intOf];omega
       case pos=>
        have M:Hid ((k:Int)<(hl:Int)):=by show _<_;omega
        obtain⟨aV,bg,rfl,z⟩:∃b o,hp=some ⟨b,o,none⟩/\∀i,i<hl->wr.cell? ⟨b,o+i,none⟩=some (.int .i64 ((s2.held.getD i 0:Nat):Int)):=by
         obtain⟨p',c',e,-,-,hx⟩:=an.out.form;rw[Hb,Q.out.1]at e hx;simp only[Hc,Jg]at e;obtain⟨b,o,hb,hy⟩:=hx (by omega);refine⟨b,o,e.1.trans hb,fun i hi=>?_⟩;rw[hy i hi,qC]
        obtain⟨y,hy⟩:∃y,y=s2.held.getD k 0:=⟨_,rfl⟩
        have y0:=z k t;rw[<-hy]at y0;have Y0:=GD y0;have bp:Hid (aV<wr.heap.size):=Ib y0;have al:Hid (y<16):=by
         show _<_;rw[hy];refine E.out.Ek I.out _ ?_;rw[GG,GS (by rw[Q.out.1];exact t)];exact Ie _
        by_cases W:0<k
        case neg=>
         have ah:Hid (¬((0:Int)<(k:Int))):=by show¬_;omega
         clear W t z y0 hy;as_aux_lemma=>
          have r3:=R3.out;have p0:=P0.out;have ad:((v:Int)!=(v:Int))=false:=by simp
          have K:=Y.out;have ae:¬(0<v):=by have:=Y.out;omega
          have t:=M.out;have ag:(k<hl):=by have:=M.out;omega
          have D:(k:Int)<16:=by have:=a.out;omega
          have G:(0:Int)<=(k:Int):=by omega
          have y0:=Y0.out;have av:¬((y:Int)<0):=by omega
          have J:¬((16:Int)<=(y:Int)):=by have:=al.out;omega
          have au:¬(16<=y):=by have:=al.out;omega
          have W:=ah.out;have af:¬(0<k):=by have:=ah.out;omega
          go_quiet ((go_at_call 12;exact Calls.quiet_of (aj.out _)))
          have hR:=below_drewN wr.heap.size wr nq;have f:=GD (E.out.below I.out hR);have q:=GD (an.out.below hR);clear hR r3 p0 ad K ae t ag D G y0 av J au W af;generalize wr.drewN nq=w9 at f q⊢;obtain⟨gd,c2,cd,fd,h⟩:=f.out.ref.d a.out;have ay:=GW ((k:Int)+1) (by have:=a.out;omega);have D:(k:Int)<16:=by have:=a.out;omega
          have G:(0:Int)<=(k:Int):=by omega
          cases hdj:dj.getD k false;case false=>
           rw[hdj]at cd;have r:=GD (H.out.same a.out (GJ hdj));clear h hdj;go_wp2_with fail
           go_roundw
           case rel=>exact⟨k+1,dj,a.out,by go_num,r.out,f.out,q.out⟩
           case measure=>have:=a.out;simp[intOf];omega
          case true=>
           rw[hdj]at cd;have u:=aM w9 _ _ (k:Int) q.out (by rw[Hb];have:=Q.out;omega);rw[Po.mem_cast]at u;by_cases j:k∈s2.held
           case pos=>
            rw[GK j]at u;have r:=GD (H.out.same a.out (GL j));have C:=GD u;clear h hdj j u;go_wp2_with fail
            refine C.out.mono ?_;rintro e y⟨rfl,rfl⟩;go_wp2_with fail
            go_roundw
            case rel=>exact⟨k+1,dj,a.out,by go_num,r.out,f.out,q.out⟩
            case measure=>have:=a.out;simp[intOf];omega
           case neg=>
            rw[GY j]at u;have r:=GD (H.out.clear a.out j);have C:=GD u;obtain⟨hr,ht⟩:=h false;have O:=GD (f.out.gS I.out hr ht f.out.ap);have T:=GD (fA ht q.out (fun _ g hg hz=>az.out g hg hz));clear h hdj j u hr ht;go_wp2_with fail
            refine C.out.mono ?_;rintro e y⟨rfl,rfl⟩;go_wp2_with fail
            go_roundw
            case rel=>exact⟨k+1,_,a.out,by go_num,r.out,O.out,T.out⟩
            case measure=>have:=a.out;simp[intOf];omega
        case pos=>
         have ah:Hid ((0:Int)<(k:Int)):=by show _<_;omega
         obtain⟨k1,aw⟩:∃k1,k=k1+1:=⟨k-1,by omega⟩
         have aH:Hid (wrap64 ((k:Int)-1)=(k1:Int)):=by
          show _=_;rw[IA _ ⟨by omega,by have:=a.out;omega⟩];omega
         have aq:Hid (k1<hl):=by show _<_;omega
         obtain⟨y1,J⟩:∃y,y=s2.held.getD k1 0:=⟨_,rfl⟩
         have ab:=z k1 (by omega);rw[<-J]at ab;have Y1:=GD ab;have aG:Hid (y1<y):=by
          show _<_;rw[hy,J];exact wJ (E.out.aI I.out).sorted (by omega) (by rw[Q.out.1];exact t)
         clear W t z y0 hy J ab aw;as_aux_lemma=>
          have r3:=R3.out;have p0:=P0.out;have ad:((v:Int)!=(v:Int))=false:=by simp
          have K:=Y.out;have ae:¬(0<v):=by have:=Y.out;omega
          have t:=M.out;have ag:(k<hl):=by have:=M.out;omega
          have D:(k:Int)<16:=by have:=a.out;omega
          have G:(0:Int)<=(k:Int):=by omega
          have y0:=Y0.out;have av:¬((y:Int)<0):=by omega
          have J:¬((16:Int)<=(y:Int)):=by have:=al.out;omega
          have au:¬(16<=y):=by have:=al.out;omega
          have W:=ah.out;have af:(0<k):=by have:=ah.out;omega
          have aw:=aH.out;have aB:IntKind.i64.wrap ((k:Int)-1)=(k1:Int):=by rw[IntWalk.i64_left];exact aH.out
          have ab:=Y1.out;have aD:(k1:Int)<(hl:Int):=by have:=aq.out;omega
          have aC:=aq.out;have aE:(0:Int)<=(k1:Int):=by omega
          have aU:¬((y:Int)<=(y1:Int)):=by have:=aG.out;omega
          have aA:¬(y<=y1):=by have:=aG.out;omega
          go_quiet ((go_at_call 12;exact Calls.quiet_of (aj.out _)))
          have hR:=below_drewN wr.heap.size wr nq;have f:=GD (E.out.below I.out hR);have q:=GD (an.out.below hR);clear hR r3 p0 ad K ae t ag D G y0 av J au W af aw aB ab aD aC aE aU aA;generalize wr.drewN nq=w9 at f q⊢;obtain⟨gd,c2,cd,fd,h⟩:=f.out.ref.d a.out;have ay:=GW ((k:Int)+1) (by have:=a.out;omega);have D:(k:Int)<16:=by have:=a.out;omega
          have G:(0:Int)<=(k:Int):=by omega
          cases hdj:dj.getD k false;case false=>
           rw[hdj]at cd;have r:=GD (H.out.same a.out (GJ hdj));clear h hdj;go_wp2_with fail
           go_roundw
           case rel=>exact⟨k+1,dj,a.out,by go_num,r.out,f.out,q.out⟩
           case measure=>have:=a.out;simp[intOf];omega
          case true=>
           rw[hdj]at cd;have u:=aM w9 _ _ (k:Int) q.out (by rw[Hb];have:=Q.out;omega);rw[Po.mem_cast]at u;by_cases j:k∈s2.held
           case pos=>
            rw[GK j]at u;have r:=GD (H.out.same a.out (GL j));have C:=GD u;clear h hdj j u;go_wp2_with fail
            refine C.out.mono ?_;rintro e y⟨rfl,rfl⟩;go_wp2_with fail
            go_roundw
            case rel=>exact⟨k+1,dj,a.out,by go_num,r.out,f.out,q.out⟩
            case measure=>have:=a.out;simp[intOf];omega
           case neg=>
            rw[GY j]at u;have r:=GD (H.out.clear a.out j);have C:=GD u;obtain⟨hr,ht⟩:=h false;have O:=GD (f.out.gS I.out hr ht f.out.ap);have T:=GD (fA ht q.out (fun _ g hg hz=>az.out g hg hz));clear h hdj j u hr ht;go_wp2_with fail
            refine C.out.mono ?_;rintro e y⟨rfl,rfl⟩;go_wp2_with fail
            go_roundw
            case rel=>exact⟨k+1,_,a.out,by go_num,r.out,O.out,T.out⟩
            case measure=>have:=a.out;simp[intOf];omega
      case pos=>
       have Y:Hid ((0:Int)<(v:Int)):=by show _<_;omega
       have j:k∈s2.held:=(E.out.aI I.out).pinned k (by rw[<-ba.out];exact K);have aS:∀n:Nat,Calls Tryz.prog 13 #[.slice hp hl hc,.int .i64 (k:Int)] (wr.drewN n) fun e w'=>e=.returned (.bool true)/\w'=wr.drewN n:=fun n=>by
        have u:=aM (wr.drewN n) _ _ (k:Int) (an.out.below (below_drewN wr.heap.size wr n)) (by rw[Hb];have:=Q.out;omega);rw[Po.mem_cast,GK j]at u;exact u.mono fun _ _⟨h1,h2⟩=>⟨h1,h2.symm⟩
       have aK:=GD aS;clear K aS j;by_cases t:k<hl
       case neg=>
        have M:Hid (¬((k:Int)<(hl:Int))):=by show¬_;omega
        clear t;as_aux_lemma=>
         have r3:=R3.out;have p0:=P0.out;have ad:((v:Int)!=(v:Int))=false:=by simp
         have K:=Y.out;have ae:(0<v):=by have:=Y.out;omega
         have t:=M.out;have ag:¬(k<hl):=by have:=M.out;omega
         have D:(k:Int)<16:=by have:=a.out;omega
         have G:(0:Int)<=(k:Int):=by omega
         go_quiet (first|(go_at_call 12;exact Calls.quiet_of (aj.out _))|(go_at_call 13;exact Calls.quiet_of_same (aK.out _)))
         have hR:=below_drewN wr.heap.size wr nq;have f:=GD (E.out.below I.out hR);have q:=GD (an.out.below hR);clear hR r3 p0 ad K ae t ag D G;generalize wr.drewN nq=w9 at f q⊢;obtain⟨gd,c2,cd,fd,h⟩:=f.out.ref.d a.out;have ay:=GW ((k:Int)+1) (by have:=a.out;omega);have D:(k:Int)<16:=by have:=a.out;omega
         have G:(0:Int)<=(k:Int):=by omega
         cases hdj:dj.getD k false;case false=>
          rw[hdj]at cd;have r:=GD (H.out.same a.out (GJ hdj));clear h hdj;go_wp2_with fail
          go_roundw
          case rel=>exact⟨k+1,dj,a.out,by go_num,r.out,f.out,q.out⟩
          case measure=>have:=a.out;simp[intOf];omega
         case true=>
          rw[hdj]at cd;have u:=aM w9 _ _ (k:Int) q.out (by rw[Hb];have:=Q.out;omega);rw[Po.mem_cast]at u;by_cases j:k∈s2.held
          case pos=>
           rw[GK j]at u;have r:=GD (H.out.same a.out (GL j));have C:=GD u;clear h hdj j u;go_wp2_with fail
           refine C.out.mono ?_;rintro e y⟨rfl,rfl⟩;go_wp2_with fail
           go_roundw
           case rel=>exact⟨k+1,dj,a.out,by go_num,r.out,f.out,q.out⟩
           case measure=>have:=a.out;simp[intOf];omega
          case neg=>
           rw[GY j]at u;have r:=GD (H.out.clear a.out j);have C:=GD u;obtain⟨hr,ht⟩:=h false;have O:=GD (f.out.gS I.out hr ht f.out.ap);have T:=GD (fA ht q.out (fun _ g hg hz=>az.out g hg hz));clear h hdj j u hr ht;go_wp2_with fail
           refine C.out.mono ?_;rintro e y⟨rfl,rfl⟩;go_wp2_with fail
           go_roundw
           case rel=>exact⟨k+1,_,a.out,by go_num,r.out,O.out,T.out⟩
           case measure=>have:=a.out;simp[intOf];omega
       case pos=>
        have M:Hid ((k:Int)<(hl:Int)):=by show _<_;omega
        obtain⟨aV,bg,rfl,z⟩:∃b o,hp=some ⟨b,o,none⟩/\∀i,i<hl->wr.cell? ⟨b,o+i,none⟩=some (.int .i64 ((s2.held.getD i 0:Nat):Int)):=by
         obtain⟨p',c',e,-,-,hx⟩:=an.out.form;rw[Hb,Q.out.1]at e hx;simp only[Hc,Jg]at e;obtain⟨b,o,hb,hy⟩:=hx (by omega);refine⟨b,o,e.1.trans hb,fun i hi=>?_⟩;rw[hy i hi,qC]
        obtain⟨y,hy⟩:∃y,y=s2.held.getD k 0:=⟨_,rfl⟩
        have y0:=z k t;rw[<-hy]at y0;have Y0:=GD y0;have bp:Hid (aV<wr.heap.size):=Ib y0;have al:Hid (y<16):=by
         show _<_;rw[hy];refine E.out.Ek I.out _ ?_;rw[GG,GS (by rw[Q.out.1];exact t)];exact Ie _
        by_cases W:0<k
        case neg=>
         have ah:Hid (¬((0:Int)<(k:Int))):=by show¬_;omega
         clear W t z y0 hy;as_aux_lemma=>
          have r3:=R3.out;have p0:=P0.out;have ad:((v:Int)!=(v:Int))=false:=by simp
          have K:=Y.out;have ae:(0<v):=by have:=Y.out;omega
          have t:=M.out;have ag:(k<hl):=by have:=M.out;omega
          have D:(k:Int)<16:=by have:=a.out;omega
          have G:(0:Int)<=(k:Int):=by omega
          have y0:=Y0.out;have av:¬((y:Int)<0):=by omega
          have J:¬((16:Int)<=(y:Int)):=by have:=al.out;omega
          have au:¬(16<=y):=by have:=al.out;omega
          have W:=ah.out;have af:¬(0<k):=by have:=ah.out;omega
          go_quiet (first|(go_at_call 12;exact Calls.quiet_of (aj.out _))|(go_at_call 13;exact Calls.quiet_of_same (aK.out _)))
          have hR:=below_drewN wr.heap.size wr nq;have f:=GD (E.out.below I.out hR);have q:=GD (an.out.below hR);clear hR r3 p0 ad K ae t ag D G y0 av J au W af;generalize wr.drewN nq=w9 at f q⊢;obtain⟨gd,c2,cd,fd,h⟩:=f.out.ref.d a.out;have ay:=GW ((k:Int)+1) (by have:=a.out;omega);have D:(k:Int)<16:=by have:=a.out;omega
          have G:(0:Int)<=(k:Int):=by omega
          cases hdj:dj.getD k false;case false=>
           rw[hdj]at cd;have r:=GD (H.out.same a.out (GJ hdj));clear h hdj;go_wp2_with fail
           go_roundw
           case rel=>exact⟨k+1,dj,a.out,by go_num,r.out,f.out,q.out⟩
           case measure=>have:=a.out;simp[intOf];omega
          case true=>
           rw[hdj]at cd;have u:=aM w9 _ _ (k:Int) q.out (by rw[Hb];have:=Q.out;omega);rw[Po.mem_cast]at u;by_cases j:k∈s2.held
           case pos=>
            rw[GK j]at u;have r:=GD (H.out.same a.out (GL j));have C:=GD u;clear h hdj j u;go_wp2_with fail
            refine C.out.mono ?_;rintro e y⟨rfl,rfl⟩;go_wp2_with fail
            go_roundw
            case rel=>exact⟨k+1,dj,a.out,by go_num,r.out,f.out,q.out⟩
            case measure=>have:=a.out;simp[intOf];omega
           case neg=>
            rw[GY j]at u;have r:=GD (H.out.clear a.out j);have C:=GD u;obtain⟨hr,ht⟩:=h false;have O:=GD (f.out.gS I.out hr ht f.out.ap);have T:=GD (fA ht q.out (fun _ g hg hz=>az.out g hg hz));clear h hdj j u hr ht;go_wp2_with fail
            refine C.out.mono ?_;rintro e y⟨rfl,rfl⟩;go_wp2_with fail
            go_roundw
            case rel=>exact⟨k+1,_,a.out,by go_num,r.out,O.out,T.out⟩
            case measure=>have:=a.out;simp[intOf];omega
        case pos=>
         have ah:Hid ((0:Int)<(k:Int)):=by show _<_;omega
         obtain⟨k1,aw⟩:∃k1,k=k1+1:=⟨k-1,by omega⟩
         have aH:Hid (wrap64 ((k:Int)-1)=(k1:Int)):=by
          show _=_;rw[IA _ ⟨by omega,by have:=a.out;omega⟩];omega
         have aq:Hid (k1<hl):=by show _<_;omega
         obtain⟨y1,J⟩:∃y,y=s2.held.getD k1 0:=⟨_,rfl⟩
         have ab:=z k1 (by omega);rw[<-J]at ab;have Y1:=GD ab;have aG:Hid (y1<y):=by
          show _<_;rw[hy,J];exact wJ (E.out.aI I.out).sorted (by omega) (by rw[Q.out.1];exact t)
         clear W t z y0 hy J ab aw;as_aux_lemma=>
          have r3:=R3.out;have p0:=P0.out;have ad:((v:Int)!=(v:Int))=false:=by simp
          have K:=Y.out;have ae:(0<v):=by have:=Y.out;omega
          have t:=M.out;have ag:(k<hl):=by have:=M.out;omega
          have D:(k:Int)<16:=by have:=a.out;omega
          have G:(0:Int)<=(k:Int):=by omega
          have y0:=Y0.out;have av:¬((y:Int)<0):=by omega
          have J:¬((16:Int)<=(y:Int)):=by have:=al.out;omega
          have au:¬(16<=y):=by have:=al.out;omega
          have W:=ah.out;have af:(0<k):=by have:=ah.out;omega
          have aw:=aH.out;have aB:IntKind.i64.wrap ((k:Int)-1)=(k1:Int):=by rw[IntWalk.i64_left];exact aH.out
          have ab:=Y1.out;have aD:(k1:Int)<(hl:Int):=by have:=aq.out;omega
          have aC:=aq.out;have aE:(0:Int)<=(k1:Int):=by omega
          have aU:¬((y:Int)<=(y1:Int)):=by have:=aG.out;omega
          have aA:¬(y<=y1):=by have:=aG.out;omega
          go_quiet (first|(go_at_call 12;exact Calls.quiet_of (aj.out _))|(go_at_call 13;exact Calls.quiet_of_same (aK.out _)))
          have hR:=below_drewN wr.heap.size wr nq;have f:=GD (E.out.below I.out hR);have q:=GD (an.out.below hR);clear hR r3 p0 ad K ae t ag D G y0 av J au W af aw aB ab aD aC aE aU aA;generalize wr.drewN nq=w9 at f q⊢;obtain⟨gd,c2,cd,fd,h⟩:=f.out.ref.d a.out;have ay:=GW ((k:Int)+1) (by have:=a.out;omega);have D:(k:Int)<16:=by have:=a.out;omega
          have G:(0:Int)<=(k:Int):=by omega
          cases hdj:dj.getD k false;case false=>
           rw[hdj]at cd;have r:=GD (H.out.same a.out (GJ hdj));clear h hdj;go_wp2_with fail
           go_roundw
           case rel=>exact⟨k+1,dj,a.out,by go_num,r.out,f.out,q.out⟩
           case measure=>have:=a.out;simp[intOf];omega
          case true=>
           rw[hdj]at cd;have u:=aM w9 _ _ (k:Int) q.out (by rw[Hb];have:=Q.out;omega);rw[Po.mem_cast]at u;by_cases j:k∈s2.held
           case pos=>
            rw[GK j]at u;have r:=GD (H.out.same a.out (GL j));have C:=GD u;clear h hdj j u;go_wp2_with fail
            refine C.out.mono ?_;rintro e y⟨rfl,rfl⟩;go_wp2_with fail
            go_roundw
            case rel=>exact⟨k+1,dj,a.out,by go_num,r.out,f.out,q.out⟩
            case measure=>have:=a.out;simp[intOf];omega
           case neg=>
            rw[GY j]at u;have r:=GD (H.out.clear a.out j);have C:=GD u;obtain⟨hr,ht⟩:=h false;have O:=GD (f.out.gS I.out hr ht f.out.ap);have T:=GD (fA ht q.out (fun _ g hg hz=>az.out g hg hz));clear h hdj j u hr ht;go_wp2_with fail
            refine C.out.mono ?_;rintro e y⟨rfl,rfl⟩;go_wp2_with fail
            go_roundw
            case rel=>exact⟨k+1,_,a.out,by go_num,r.out,O.out,T.out⟩
            case measure=>have:=a.out;simp[intOf];omega
     ·as_aux_lemma=>
       obtain rfl:k=16:=by have:=bl.out;omega
       rw[show((16:Nat):Int)=16 from rfl];have bb:=GD (H.out.Fz bc.out (E.out.aI I.out));clear hlt;go_wp2_with fail
       refine(yr I.out E.out bb.out).mono ?_;rintro e y3⟨rfl,hb⟩;have bo:=GD (E.out.below I.out hb);clear hb E;go_wp2_with fail
       go_roundw
       case rel=>exact⟨i+1,U2,V2,X2,Z2,d2,aX,s2,N2,a7,dj,aT,aa.out,by go_num,bo.out,bb.out⟩
       case measure=>have:=aa.out;simp[intOf];omega
  ·as_aux_lemma=>
    obtain rfl:i=l.length:=by have:=bn.out;omega
    go_wp2_with fail
    refine(kh I.out _).mono ?_;rintro e w2⟨rfl,ax⟩;go_wp2_with fail
    go_ret;exact⟨rfl,ai.out.fb.trans (ax.mono ai.out.bw)⟩
end
end Go.Proofs.YtbpodmallknhfaaGreat
