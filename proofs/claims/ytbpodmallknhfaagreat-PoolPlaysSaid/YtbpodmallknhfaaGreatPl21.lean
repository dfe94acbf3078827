/- Parts of a proof. Conditions: as each row says. -/
import Derived.Test.YtbpodmallknhfaaGreatPl03
import Derived.Test.YtbpodmallknhfaaGreatPl20
import Derived.Test.YtbpodmallknhfaaGreatPl10
import Derived.Lib.EndianBits
namespace Go.Proofs.YtbpodmallknhfaaGreat
open Go.RowKit
structure iM(w:World)(b:Nat)(kd n fl:Int)(br:Bool):Prop where
 row:w.heap[b]?=some (.cells #[.int .i64 kd,.int .i64 n,.int .i64 fl,.bool br] 32 (0,0))
section
variable{w w':World}{b:Nat}{kd n fl:Int}{br:Bool}
theorem iM.cells(h:iM w b kd n fl br):w.cell? ⟨b,0,none⟩=some (.int .i64 kd)/\w.cell? ⟨b,1,none⟩=some (.int .i64 n)/\w.cell? ⟨b,2,none⟩=some (.int .i64 fl)/\w.cell? ⟨b,3,none⟩=some (.bool br):=
 ⟨ah h.row 0 rfl,ah h.row 1 rfl,ah h.row 2 rfl,ah h.row 3 rfl⟩
theorem iM.aj{T:Nat->Prop}(h:iM w b kd n fl br)(a:Touch T w w')(hs:¬T b):iM w' b kd n fl br:=⟨a.row h.row hs⟩
theorem _root_.Go.RowKit.Below.box(a:Below w.heap.size w w')(h:iM w b kd n fl br):iM w' b kd n fl br:=⟨by rw[a.block b (GN h.row)];exact h.row⟩
end
theorem Po.mem_cast(m:Nat)(l:List Nat):decide ((m:Int)∈l.map fun k:Nat=>(k:Int))=decide (m∈l):=by
 congr 1
 apply propext;rw[I2];constructor
 ·rintro⟨k,a,b⟩;obtain rfl:k=m:=by omega
  exact a
 ·exact fun h=>⟨m,h,rfl⟩
section
variable{PD:(Nat->Prop)->World->Nat->Dk.ak->Prop}{PL:(Nat->Prop)->(Nat->Prop)->World->Nat->Nat->Dk.ak->Wl.S->Prop}{PO:(Nat->Prop)->World->Nat->Nat->Nat->Po.S->Prop}{Hd:Dk.ak->Wl.S->Prop}{Hw:Dk.ak->Po.Ar->(Nat->Po.Pg)->Prop}{Hp:Dk.ak->Po.Ar->(Nat->Po.Pg->Prop)->Prop}
variable{U V X Z:Nat->Prop}{w w' w0:World}{B L P R base F K:Nat}{d:Dk.ak}{lg:Wl.S}{s:Po.S}{N:List Po.Pg}{fi:List Nat}{di:List Bool}{pi:List Nat}
theorem dt.bq(A:bh PD PL PO Hd Hw Hp){T:Nat->Prop}(h:dt PL PO Hw base F K U V X Z w0 w B L P R d lg s N fi di pi)(a:Touch T w w')(e:∀i,aB U V X i->¬T i)(c:∀i,Z i->¬T i)(b:∀i,T i->base<=i):dt PL PO Hw base F K U V X Z w0 w' B L P R d lg s N fi di pi:=
 ⟨⟨A.bq h.at_.at_ a e,h.at_.fu,h.at_.fv,h.at_.fx⟩,h.calm,h.ar,h.fr,h.ep,h.stop,h.pins,h.ref.aj a c,h.ap,h.fb.trans (a.below b h.bw),GR h.bw a.size⟩
theorem dt.Cs{n:Nat}{m:Dk.ak}{c:Wl.S}{f:Po.S}{u:Value}(h:dt PL PO Hw base F K U V X Z w0 w B L P R d lg s N fi di pi)(hw:mJ PL PO Hw U V X w B L P w' m c f u)(hC:Wl.Calm 120 m)(hl:Po.Lf lg c)(r:f.ar=s.ar)(hf:f.ao=s.ao)(A:K<=n)(hp:∀j,f.pins j<=n):
 ∃l k g,dt PL PO Hw base F n l k g Z w0 w' B L P R m c f N fi di pi/\Touch (aB U V X) w w'/\∀b,u.ownBlock=some b->¬aB l k g b:=by
 obtain⟨l,k,g,t,q,hT,z,y,x,v⟩:=h.at_.Cs hw h.bw;refine⟨l,k,g,⟨t,hC,r.trans h.ar,hf.trans h.fr,hl.an.trans h.ep,by rw[hl.stop];have:=h.stop;omega,hp,h.ref.aj hT fun i hz o=>h.ap i o hz,fun i e hz=>?_,h.fb.trans q,GR h.bw hT.size⟩,hT,v⟩;have p:=(h.ref.low i hz).2;rcases e with e|e|e
 ·rcases z i e with a|a
  ·exact h.ap i (GJ a) hz
  ·omega
 ·rcases y i e with a|a
  ·exact h.ap i (GL (GJ a)) hz
  ·omega
 ·rcases x i e with a|a
  ·exact h.ap i (GL (GL a)) hz
  ·omega
theorem dt.append(A:bh PD PL PO Hd Hw Hp){n:Nat->Prop}{a:Wl.S}{o:Nat}(h:dt PL PO Hw base F K U V X Z w0 w B L P R d lg s N fi di pi)(t:PL U n w' B L d a)(f:Touch V w w')(m:bA V n w)(hf:lg.ag<=a.ag)(hs:lg.stop<=a.stop)(he:a.an=lg.an)(r:a.at_=lg.at_)(q:a.count=lg.count)(p:K<=o)(l:a.stop<=52+27*o):
 dt PL PO Hw base F o U n X Z w0 w' B L P R d a s N fi di pi:=by
 refine⟨⟨⟨t,A.AB h.at_.at_.own f fun i c g=>h.at_.at_.off i (GL g) c,h.at_.at_.iK,fun i b c=>?_,fun k=>⟨Hh (h.at_.at_.fY k).1 hf,Hh (h.at_.at_.fY k).2 hs⟩,by rw[r,q];exact h.at_.at_.kz⟩,h.at_.fu,m.from h.at_.fv h.bw,h.at_.fx⟩,h.calm,h.ar,h.fr,he.trans h.ep,l,fun j=>GR (h.pins j) p,h.ref.aj f fun i hz g=>h.ap i (GL (GJ g)) hz,fun i b hz=>?_,h.fb.trans (f.under h.at_.fv h.bw),GR h.bw f.size⟩
 ·rcases b with b|b
  ·exact h.at_.at_.off i (GJ b) c
  ·rcases m i b with e|e
   ·exact h.at_.at_.off i (GL e) c
   ·have:=A.FE h.at_.at_.own i c;omega
 ·rcases b with b|b|b
  ·exact h.ap i (GJ b) hz
  ·rcases m i b with e|e
   ·exact h.ap i (GL (GJ e)) hz
   ·have:=(h.ref.low i hz).2;omega
  ·exact h.ap i (GL (GL b)) hz
end
theorem tD(w:World){t:Nat}(h:t<18446744073709551616):bm w (Wl.dn t) (.slice none 0 0) (.slice none 0 0) (.slice none 0 0) (.slice none 0 0) (.slice none 0 0):=⟨aO w,aO w,aO w,pE.ec w,eR.ec w,Wl.EP h⟩
theorem nE(fl:Int):∃t:Nat,bits .or .u64 (IntKind.u64.wrap fl) 1099511627776=(t:Int)/\t≠0/\t<18446744073709551616:=by
 have h:=IntKind.wrap_u64 fl;obtain⟨a,c⟩:∃a:Nat,(a:Int)=fl%18446744073709551616:=⟨(fl%18446744073709551616).toNat,by omega⟩
 rw[h,<-c];have hlt:a<2^64:=by
  have:(a:Int)<18446744073709551616:=by omega
  have e:(2:Nat)^64=18446744073709551616:=by decide
  omega
 have b:=(bits_nat .u64 64 (by decide) (fun n h0 d=>wraps_u64 n h0 d) a 1099511627776 hlt (by decide)).2;refine⟨a|||1099511627776,b,?_,?_⟩
 ·intro e;have:=Nat.right_le_or (n:=a) (m:=1099511627776);omega
 ·have:=Nat.or_lt_two_pow hlt (show(1099511627776:Nat)<2^64 by decide);have e:(2:Nat)^64=18446744073709551616:=by decide
  omega
def cF(PL:(Nat->Prop)->(Nat->Prop)->World->Nat->Nat->Dk.ak->Wl.S->Prop)(PO:(Nat->Prop)->World->Nat->Nat->Nat->Po.S->Prop)(Hw:Dk.ak->Po.Ar->(Nat->Po.Pg)->Prop)(base F K:Nat)(w0:World)(B L P R:Nat)(e:Ending)(w':World):Prop:=
 ∃U V X Z d lg s N fi di pi,e=.returned (.bool true)/\dt PL PO Hw base F (K+1) U V X Z w0 w' B L P R d lg s N fi di pi/\Po.kx s N fi di pi
def dJ(kn R Q e a d m:Nat)(c b:Value)(i:Nat)(v:Value)(_:World):Prop:=
 match i with
 |0=>v=.int .i64 0
 |1=>v=.int .i64 0
 |2=>v=.bool false
 |3=>v=.bool false
 |4=>v=.int .i64 0
 |5=>v=.bool true
 |6=>v=.bool true
 |7=>v=.agg #[.int .u64 (kn:Int),c]
 |8=>v=.pointer (some ⟨R,0,none⟩)
 |9=>v=.pointer (some ⟨R,0,none⟩)
 |10=>v=.pointer (some ⟨R,0,none⟩)
 |11=>v=.slice (some ⟨a,0,none⟩) 16 d
 |12=>v=.pointer (some ⟨e,1,none⟩)
 |13=>v=.int .i64 (m:Int)
 |14=>v=.pointer (some ⟨a,m*2,none⟩)
 |15=>v=.agg #[.int .u64 (kn:Int),b]
 |16=>v=.bool true
 |17=>v=.bool false
 |18=>v=.bool false
 |19=>v=.bool false
 |_=>True
theorem qJ(kn R Q e c d m:Nat)(b a:Value)(i:Nat)(v:Value)(w w':World)(_:Below w.heap.size w w')(h:dJ kn R Q e c d m b a i v w):dJ kn R Q e c d m b a i v w':=by
 unfold dJ at*
 split at h<;>first|exact h|trivial
section
variable{PD:(Nat->Prop)->World->Nat->Dk.ak->Prop}{PL:(Nat->Prop)->(Nat->Prop)->World->Nat->Nat->Dk.ak->Wl.S->Prop}{PO:(Nat->Prop)->World->Nat->Nat->Nat->Po.S->Prop}{Hd:Dk.ak->Wl.S->Prop}{Hw:Dk.ak->Po.Ar->(Nat->Po.Pg)->Prop}{Hp:Dk.ak->Po.Ar->(Nat->Po.Pg->Prop)->Prop}
variable{U V X Z:Nat->Prop}{w w' w0:World}{B L P R base F K:Nat}{d:Dk.ak}{lg:Wl.S}{s:Po.S}{N:List Po.Pg}{fi:List Nat}{di:List Bool}{pi:List Nat}
set_option maxHeartbeats 6400000 in
set_option maxRecDepth 20000 in
theorem zK(A:bh PD PL PO Hd Hw Hp)(h:dt PL PO Hw base F K U V X Z w0 w B L P R d lg s N fi di pi)(ht:Po.cW s N fi di pi)(hk:K<=150)(hf:1<=F/\F<=12)(fl:Int)(z:bF fl)(J:Bool)(n:Int)(hn:bF n/\n<0):
 Calls Tryz.prog 10 #[.pointer (some ⟨L,0,none⟩),.pointer (some ⟨P,0,none⟩),.pointer (some ⟨R,0,none⟩),.int .i64 (F:Int),.agg #[.int .i64 0,.int .i64 n,.int .i64 fl,.bool J]] w fun e w'=>cF PL PO Hw base F K w0 B L P R e w':=by
 have t:=GD A;have HT:=GD ht;have HK:=GD hk;have HF:=GD hf;have ag:=GD z;have HN:=GD hn;obtain⟨W,I⟩:∃W,W=w.alloc (.cells #[.int .i64 0,.int .i64 n,.int .i64 fl,.bool J] 32):=⟨_,rfl⟩
 have a:W.heap[w.heap.size]?=some (.cells #[.int .i64 0,.int .i64 n,.int .i64 fl,.bool J] 32 (0,0)):=by rw[I];exact GM _ _
 have b:Below w.heap.size w W:=by rw[I];exact ae _ _
 obtain⟨T,l⟩:∃B,B=w.heap.size:=⟨_,rfl⟩
 rw[<-l]at a;have o:Hid (iM W T 0 n fl J):=GD ⟨a⟩;have r:=GD b;have g:=GD (h.below A b);have ai:Hid ((∀i,aB U V X i->i≠T)/\(∀i,Z i->i≠T)):=GD ⟨fun i M e=>(by have:=A.lt h.at_.at_ i M;omega),fun i M e=>(by have:=(h.ref.low i M).2;omega)⟩;clear A h ht hk hf z a b hn;go_enter Tryz.func10,Tryz.ntmps10;go_upto_region 1 with(fail)
 rw[<-I,<-l];clear I l;obtain⟨b0,b1,b2,Y⟩:=o.out.cells;have ad:¬((0:Int)<=n):=by have:=HN.out;omega
 go_wp2_with fail
 refine(t.out.held g.out.at_.at_ g.out.calm).mono ?_;rintro e z1⟨hv,rfl,O,b⟩;obtain⟨hp,hc,rfl⟩:∃p c,hv=.slice p (s.held.map fun k:Nat=>(k:Int)).length c:=by
  obtain⟨p,c,e,-⟩:=O.aP.form;exact⟨p,c,e⟩
 obtain⟨hl,x⟩:∃n,n=(s.held.map fun k:Nat=>(k:Int)).length:=⟨_,rfl⟩
 have f:=GD (g.out.below t.out b);have aa:=GD (b.box o.out);have ah:Hid (Below w.heap.size w z1):=r.out.trans (b.mono r.out.size);clear b g o r;have af:=GD O;clear O b0 b1 b2 Y;rw[<-x];clear x;obtain⟨b0,b1,b2,Y⟩:=aa.out.cells;go_wp2_with fail
 refine(t.out.rJ n f.out.at_.at_ f.out.calm HN.out.1 (fun h=>by have S:=h.2;rw[f.out.ar]at S;have S:n<16:=S;have:=h.1;have:=HN.out;omega)).mono ?_;rintro e y⟨rfl,b⟩;have G:=GD (f.out.below t.out b);clear b;clear b0 b1 b2 Y;go_upto_region 13 with(fail)
 have m:=ae y (.cells #[.int .u64 0,.slice none 0 0] 59);have H:=GM y (.cells #[.int .u64 0,.slice none 0 0] 59);obtain⟨j,u⟩:∃j,j=y.alloc (.cells #[.int .u64 0,.slice none 0 0] 59):=⟨_,rfl⟩
 obtain⟨Q,hQ⟩:∃q,q=y.heap.size:=⟨_,rfl⟩
 rw[<-u]at m H⊢;rw[<-hQ]at H⊢;have E:=GD (G.out.below t.out m);have D:=GD (show j.heap[Q]?=some (.cells #[.int .u64 0,.slice none 0 0] 59 (0,0))from H);clear m u hQ H G;go_quiet (fail)
 have C:=below_drewN j.heap.size j nq;have ab:=GD (E.out.below t.out C);have v:(j.drewN nq).heap[Q]?=some (.cells #[.int .u64 0,.slice none 0 0] 59 (0,0)):=D.out;generalize j.drewN nq=y1 at*
 clear C E D;have q1:=bp v;clear v;go_wp2_with fail
 go_loopw [18] (fun iv wr=>iv=.int .i64 0/\y1=wr) (fun _ _=>0)
 case atStart=>exact⟨rfl,rfl⟩
 case round=>
  obtain⟨rfl,rfl⟩:=hrel;go_wp2_with fail
  go_ret;exact⟨U,V,X,Z,d,lg,s,N,fi,di,pi,rfl,ab.out.more (G8 _),HT.out.tie⟩
set_option maxHeartbeats 6400000 in
set_option maxRecDepth 20000 in
theorem zM(A:bh PD PL PO Hd Hw Hp)(h:dt PL PO Hw base F K U V X Z w0 w B L P R d lg s N fi di pi)(ht:Po.cW s N fi di pi)(hk:K<=150)(hf:1<=F/\F<=12)(fl:Int)(z:bF fl)(J:Bool)(n:Int)(hn:bF n/\16<=n):
 Calls Tryz.prog 10 #[.pointer (some ⟨L,0,none⟩),.pointer (some ⟨P,0,none⟩),.pointer (some ⟨R,0,none⟩),.int .i64 (F:Int),.agg #[.int .i64 0,.int .i64 n,.int .i64 fl,.bool J]] w fun e w'=>cF PL PO Hw base F K w0 B L P R e w':=by
 have t:=GD A;have HT:=GD ht;have HK:=GD hk;have HF:=GD hf;have ah:=GD z;have M:=GD hn;obtain⟨W,I⟩:∃W,W=w.alloc (.cells #[.int .i64 0,.int .i64 n,.int .i64 fl,.bool J] 32):=⟨_,rfl⟩
 have a:W.heap[w.heap.size]?=some (.cells #[.int .i64 0,.int .i64 n,.int .i64 fl,.bool J] 32 (0,0)):=by rw[I];exact GM _ _
 have b:Below w.heap.size w W:=by rw[I];exact ae _ _
 obtain⟨Y,l⟩:∃B,B=w.heap.size:=⟨_,rfl⟩
 rw[<-l]at a;have o:Hid (iM W Y 0 n fl J):=GD ⟨a⟩;have r:=GD b;have g:=GD (h.below A b);have aj:Hid ((∀i,aB U V X i->i≠Y)/\(∀i,Z i->i≠Y)):=GD ⟨fun i O e=>(by have:=A.lt h.at_.at_ i O;omega),fun i O e=>(by have:=(h.ref.low i O).2;omega)⟩;clear A h ht hk hf z a b hn;go_enter Tryz.func10,Tryz.ntmps10;go_upto_region 1 with(fail)
 rw[<-I,<-l];clear I l;obtain⟨b0,b1,b2,b3⟩:=o.out.cells;have af:(0:Int)<=n:=by have:=M.out;omega
 have ad:¬(n<16):=by have:=M.out;omega
 go_wp2_with fail
 refine(t.out.held g.out.at_.at_ g.out.calm).mono ?_;rintro e z1⟨hv,rfl,S,b⟩;obtain⟨hp,hc,rfl⟩:∃p c,hv=.slice p (s.held.map fun k:Nat=>(k:Int)).length c:=by
  obtain⟨p,c,e,-⟩:=S.aP.form;exact⟨p,c,e⟩
 obtain⟨hl,x⟩:∃n,n=(s.held.map fun k:Nat=>(k:Int)).length:=⟨_,rfl⟩
 have f:=GD (g.out.below t.out b);have aa:=GD (b.box o.out);have ai:Hid (Below w.heap.size w z1):=r.out.trans (b.mono r.out.size);clear b g o r;have ag:=GD S;clear S b0 b1 b2 b3;rw[<-x];clear x;obtain⟨b0,b1,b2,b3⟩:=aa.out.cells;go_wp2_with fail
 refine(t.out.rJ n f.out.at_.at_ f.out.calm M.out.1 (fun h=>by have T:=h.2;rw[f.out.ar]at T;have T:n<16:=T;have:=h.1;have:=M.out;omega)).mono ?_;rintro e y⟨rfl,b⟩;have G:=GD (f.out.below t.out b);clear b;clear b0 b1 b2 b3;go_upto_region 13 with(fail)
 have m:=ae y (.cells #[.int .u64 0,.slice none 0 0] 59);have H:=GM y (.cells #[.int .u64 0,.slice none 0 0] 59);obtain⟨j,u⟩:∃j,j=y.alloc (.cells #[.int .u64 0,.slice none 0 0] 59):=⟨_,rfl⟩
 obtain⟨Q,hQ⟩:∃q,q=y.heap.size:=⟨_,rfl⟩
 rw[<-u]at m H⊢;rw[<-hQ]at H⊢;have E:=GD (G.out.below t.out m);have D:=GD (show j.heap[Q]?=some (.cells #[.int .u64 0,.slice none 0 0] 59 (0,0))from H);clear m u hQ H G;go_quiet (fail)
 have C:=below_drewN j.heap.size j nq;have ab:=GD (E.out.below t.out C);have v:(j.drewN nq).heap[Q]?=some (.cells #[.int .u64 0,.slice none 0 0] 59 (0,0)):=D.out;generalize j.drewN nq=y1 at*
 clear C E D;have q1:=bp v;clear v;go_wp2_with fail
 go_loopw [18] (fun iv wr=>iv=.int .i64 0/\y1=wr) (fun _ _=>0)
 case atStart=>exact⟨rfl,rfl⟩
 case round=>
  obtain⟨rfl,rfl⟩:=hrel;go_wp2_with fail
  go_ret;exact⟨U,V,X,Z,d,lg,s,N,fi,di,pi,rfl,ab.out.more (G8 _),HT.out.tie⟩
set_option maxHeartbeats 6400000 in
set_option maxRecDepth 20000 in
theorem zL(A:bh PD PL PO Hd Hw Hp)(h:dt PL PO Hw base F K U V X Z w0 w B L P R d lg s N fi di pi)(ht:Po.cW s N fi di pi)(hk:K<=150)(hf:1<=F/\F<=12)(fl:Int)(aR:bF fl)(br:Bool)(m:Nat)(hm:m<16)(aN:m∈s.held):
 Calls Tryz.prog 10 #[.pointer (some ⟨L,0,none⟩),.pointer (some ⟨P,0,none⟩),.pointer (some ⟨R,0,none⟩),.int .i64 (F:Int),.agg #[.int .i64 0,.int .i64 (m:Int),.int .i64 fl,.bool br]] w fun e w'=>cF PL PO Hw base F K w0 B L P R e w':=by
 have T:=GD A;have HT:=GD ht;have HK:=GD hk;have HF:=GD hf;have bK:=GD aR;have HM:=GD hm;have a1:=GD aN;obtain⟨W,hW⟩:∃W,W=w.alloc (.cells #[.int .i64 0,.int .i64 (m:Int),.int .i64 fl,.bool br] 32):=⟨_,rfl⟩
 have G:W.heap[w.heap.size]?=some (.cells #[.int .i64 0,.int .i64 (m:Int),.int .i64 fl,.bool br] 32 (0,0)):=by rw[hW];exact GM _ _
 have t:Below w.heap.size w W:=by rw[hW];exact ae _ _
 obtain⟨bx,af⟩:∃B,B=w.heap.size:=⟨_,rfl⟩
 rw[<-af]at G;have ak:Hid (iM W bx 0 (m:Int) fl br):=GD ⟨G⟩;have ax:=GD t;have O:=GD (h.below A t);have bA:Hid ((∀i,aB U V X i->i≠bx)/\(∀i,Z i->i≠bx)):=GD ⟨fun i C e=>(by have:=A.lt h.at_.at_ i C;omega),fun i C e=>(by have:=(h.ref.low i C).2;omega)⟩;clear A h ht hk hf aR G t hm aN;go_enter Tryz.func10,Tryz.ntmps10;go_upto_region 1 with(fail)
 rw[<-hW,<-af];clear hW af;obtain⟨b0,b1,b2,b3⟩:=ak.out.cells;have bE:(0:Int)<=(m:Int):=by omega
 have bD:(m:Int)<16:=by have:=HM.out;omega
 go_wp2_with fail
 refine(T.out.held O.out.at_.at_ O.out.calm).mono ?_;rintro e z1⟨hv,rfl,E,t⟩;obtain⟨hp,hc,rfl⟩:∃p c,hv=.slice p (s.held.map fun k:Nat=>(k:Int)).length c:=by
  obtain⟨p,c,e,-⟩:=E.aP.form;exact⟨p,c,e⟩
 obtain⟨hl,aO⟩:∃n,n=(s.held.map fun k:Nat=>(k:Int)).length:=⟨_,rfl⟩
 have q:=GD (O.out.below T.out t);have aT:=GD (t.box ak.out);have bL:Hid (Below w.heap.size w z1):=ax.out.trans (t.mono ax.out.size);clear t O ak ax;have H:=GD (aM z1 _ _ (m:Int) E.aP (by rw[Hb];have:=(q.out.aI T.out).lS;have:=q.out.fr;have:=HF.out;omega));rw[Po.mem_cast]at H;clear E;rw[<-aO]at H⊢;clear aO b0 b1 b2 b3;obtain⟨b0,b1,b2,b3⟩:=aT.out.cells;rw[show decide (m∈s.held)=true from GK a1.out]at H;go_wp2_with fail
 refine H.out.mono ?_;rintro e z⟨rfl,rfl⟩;clear H;obtain⟨zb,I⟩:∃n,n=z1.heap.size:=⟨_,rfl⟩
 have bg:Hid (∀i,Z i->i<zb):=fun i C=>by rw[I];exact(q.out.ref.low i C).2
 have bf:Hid (base<=zb):=by show _<=_;rw[I];exact q.out.bw
 have hc:=T.out.get m q.out.at_.at_ q.out.calm (by have:=q.out.stop;have:=HK.out;omega) (by rw[q.out.ar];have:=HM.out;show(m:Int)<16;omega) (GJ a1.out);obtain⟨kn,ad⟩:∃x,x=(s.now m).1:=⟨_,rfl⟩
 obtain⟨bd,J⟩:∃x,x=(s.now m).2:=⟨_,rfl⟩
 have aw:Hid (bd.length=500):=by show _=_;rw[J];exact((q.out.aI T.out).ok m).2.1
 have bs:Hid (N.getD m (0,[])=(kn,bd)):=by show _=_;rw[HT.out.tie.now m HM.out,ad,J]
 rw[<-ad,<-J]at hc;clear ad J;go_wp2_with fail
 refine hc.mono ?_;rintro e y⟨u1,d2,a8,s2,rfl,E,hw,hC,hl,hs,-,-⟩;rw[<-I]at E;obtain⟨U2,V2,X2,C,hT,aK⟩:=q.out.Cs hw hC hl hs.ar hs.ao (G8 K) (fun j=>by rw[hs.pins];exact Iv (q.out.pins j));obtain⟨r,c1,rfl⟩:∃g c,u1=.slice (some ⟨g,0,none⟩) 500 c:=by
  rcases E.form with⟨-,h0⟩|⟨g,c,h,-⟩
  ·have:=aw.out;rw[h0]at this;simp at this
  ·rw[aw.out]at h;exact⟨g,c,h⟩
 have a2:=GD C;have bk:=GD (Po.kx.CQ HT.out hs (C.aI T.out));have aS:=GD (aT.out.aj hT (fun h=>bA.out.1 bx h rfl));have aX:=GD E;have aQ:=(World.ownsRow.lt E.own r rfl)
 have au:Hid (¬aB U2 V2 X2 r/\¬Z r/\base<=r):=⟨aK r rfl,fun hz=>by have:=bg.out r hz;omega,by have:=bf.out;omega⟩
 have Y:Hid (r<y.heap.size):=aQ.2;clear hc E hw hC hl hs C hT aK aQ b0 b1 b2 b3 I;go_upto_region 13 with(fail)
 obtain⟨W2,M⟩:∃W,W=y.alloc (.cells #[.int .u64 (kn:Int),.slice (some ⟨r,0,none⟩) 500 c1] 59):=⟨_,rfl⟩
 have hr:W2.heap[y.heap.size]?=some (.cells #[.int .u64 (kn:Int),.slice (some ⟨r,0,none⟩) 500 c1] 59 (0,0)):=by rw[M];exact GM _ _
 have t:Below y.heap.size y W2:=by rw[M];exact ae _ _
 rw[<-M];obtain⟨Q,hQ⟩:∃Q,Q=y.heap.size:=⟨_,rfl⟩
 have bz:Hid (¬Q=r):=by have:=Y.out;show¬_;omega
 rw[<-hQ]at hr⊢;have Q0:=GD (bj hr);have Q1:=GD (bp hr);have HQ:Hid (Q<W2.heap.size):=GN hr;have aq:=GD (a2.out.below T.out t);have ai:=GD (t.box aS.out);have al:=GD (aX.out.below t);obtain⟨-,bb,-,-⟩:=ai.out.cells;have a7:=GD bb;have a6:Hid (bx<W2.heap.size):=GN ai.out.row;obtain⟨gn,cn,u2,n0,n1,n2,-,-,ag,-⟩:=aq.out.ref.n HM.out;rw[bs.out]at n1 ag;have R0:=GD n0;have G0:=GD n1;have G1:=GD n2;have aY:=GD ag;have aV:Hid (R<W2.heap.size):=Ib n0;have av:Hid (gn<W2.heap.size):=Ib n1;clear M hr t hQ bb n0 n1 n2 ag a2 aS aX ai Y;refine Ord.walk (dJ kn R Q bx gn cn m (.slice (some ⟨r,0,none⟩) 500 c1) u2) (fun _ _ w'=>Below W2.heap.size W2 w') (fun a b=>Below a.heap.size a b)
  (by kernel_rfl) (by kernel_rfl) ?fr ?hfr (fun i v w w' t h=>qJ _ _ _ _ _ _ _ _ _ i v w w' t h) (fun xs=>(GF _ _).ij) ?he ?hend
 case hfr=>
  intro xs;simp only[Ord.fill,Act.put,GP,GX,GV];rfl
 case he=>
  iterate 20 (refine Ord.aa (fun D xs w2 hD hC hP hR f K l=>?_) ?_;rotate_left)
  rotate_left
  ·clear f;go_simp;exact l _ _ ⟨_,rfl,GF _ _,hR,rfl⟩
  ·clear f;go_simp;exact l _ _ ⟨_,rfl,GF _ _,hR,rfl⟩
  ·have q0:=Ord.ab _ f 0 (by decide);simp only[dJ]at q0;have q1:=Ord.ab _ f 1 (by decide);simp only[dJ]at q1;simp only[q0,q1]at l;clear f;go_simp;exact l _ _ ⟨_,rfl,GF _ _,hR,rfl⟩
  ·have q2:=Ord.ab _ f 2 (by decide);simp only[dJ]at q2;simp only[q2]at l;clear f;go_simp;exact l _ _ ⟨_,rfl,GF _ _,hR,rfl⟩
  ·have u:=Ord.ab _ f 3 (by decide);simp only[dJ]at u;simp only[u]at l;clear f;go_simp;exact l _ _ ⟨_,rfl,GF _ _,hR,rfl⟩
  ·have q4:=Ord.ab _ f 4 (by decide);simp only[dJ]at q4;have u:=Ord.ab _ f 3 (by decide);simp only[dJ]at u;simp only[q4,u]at l;clear f;go_simp;exact l _ _ ⟨_,rfl,GF _ _,hR,rfl⟩
  ·have q5:=Ord.ab _ f 5 (by decide);simp only[dJ]at q5;have u:=Ord.ab _ f 3 (by decide);simp only[dJ]at u;simp only[q5,u]at l;clear f;go_simp;exact l _ _ ⟨_,rfl,GF _ _,hR,rfl⟩
  ·have o:=Ord.ab _ f 6 (by decide);simp only[dJ]at o;simp only[o]at l;clear f;have ca:=(hR.cell (p:=⟨Q,0,none⟩) HQ.out).trans Q0.out;have cb:=(hR.cell (p:=⟨Q,1,none⟩) HQ.out).trans Q1.out;go_simp;exact l _ _ ⟨_,rfl,GF _ _,hR,rfl⟩
  ·have o:=Ord.ab _ f 6 (by decide);simp only[dJ]at o;simp only[o]at l;clear f;go_simp;exact l _ _ ⟨_,rfl,GF _ _,hR,rfl⟩
  ·have q8:=Ord.ab _ f 8 (by decide);simp only[dJ]at q8;have o:=Ord.ab _ f 6 (by decide);simp only[dJ]at o;simp only[q8,o]at l;clear f;go_simp;exact l _ _ ⟨_,rfl,GF _ _,hR,rfl⟩
  ·have q9:=Ord.ab _ f 9 (by decide);simp only[dJ]at q9;have o:=Ord.ab _ f 6 (by decide);simp only[dJ]at o;simp only[q9,o]at l;clear f;go_simp;exact l _ _ ⟨_,rfl,GF _ _,hR,rfl⟩
  ·have aJ:=Ord.ab _ f 10 (by decide);simp only[dJ]at aJ;have o:=Ord.ab _ f 6 (by decide);simp only[dJ]at o;simp only[aJ,o]at l;clear f;have ca:=(hR.cell (p:=⟨R,0,none⟩) aV.out).trans R0.out;go_simp;exact l _ _ ⟨_,rfl,GF _ _,hR,rfl⟩
  ·have o:=Ord.ab _ f 6 (by decide);simp only[dJ]at o;simp only[o]at l;clear f;go_simp;exact l _ _ ⟨_,rfl,GF _ _,hR,rfl⟩
  ·have aG:=Ord.ab _ f 12 (by decide);simp only[dJ]at aG;have o:=Ord.ab _ f 6 (by decide);simp only[dJ]at o;simp only[aG,o]at l;clear f;have ca:=(hR.cell (p:=⟨bx,1,none⟩) a6.out).trans a7.out;go_simp;exact l _ _ ⟨_,rfl,GF _ _,hR,rfl⟩
  ·have aH:=Ord.ab _ f 11 (by decide);simp only[dJ]at aH;have aF:=Ord.ab _ f 13 (by decide);simp only[dJ]at aF;have o:=Ord.ab _ f 6 (by decide);simp only[dJ]at o;simp only[aH,aF,o]at l;clear f;have bJ:(m:Int)<16:=by have:=HM.out;omega
   have bI:(0:Int)<=(m:Int):=by omega
   go_simp;exact l _ _ ⟨_,rfl,GF _ _,hR,rfl⟩
  ·have aE:=Ord.ab _ f 14 (by decide);simp only[dJ]at aE;have o:=Ord.ab _ f 6 (by decide);simp only[dJ]at o;simp only[aE,o]at l;clear f;have ca:=(hR.cell (p:=⟨gn,m*2,none⟩) av.out).trans G0.out;have cb:=(hR.cell (p:=⟨gn,m*2+1,none⟩) av.out).trans G1.out;go_simp;exact l _ _ ⟨_,rfl,GF _ _,hR,rfl⟩
  ·have q7:=Ord.ab _ f 7 (by decide);simp only[dJ]at q7;have aD:=Ord.ab _ f 15 (by decide);simp only[dJ]at aD;have o:=Ord.ab _ f 6 (by decide);simp only[dJ]at o;simp only[q7,aD,o]at l;clear f;go_simp;have hc:=mP kn kn (.slice (some ⟨r,0,none⟩) 500 c1) u2 bd bd w2 (al.out.aP.below hR) (aY.out.aP.below hR);rw[Pg.mc]at hc;refine hc.mono ?_;rintro e w'⟨rfl,t⟩;exact l _ _ ⟨_,rfl,t,hR.trans (t.mono hR.size),rfl⟩
  ·have aC:=Ord.ab _ f 16 (by decide);simp only[dJ]at aC;have o:=Ord.ab _ f 6 (by decide);simp only[dJ]at o;simp only[aC,o]at l;clear f;go_simp;exact l _ _ ⟨_,rfl,GF _ _,hR,rfl⟩
  ·have o:=Ord.ab _ f 6 (by decide);simp only[dJ]at o;have aA:=Ord.ab _ f 17 (by decide);simp only[dJ]at aA;have u:=Ord.ab _ f 3 (by decide);simp only[dJ]at u;simp only[o,aA,u]at l;clear f;go_simp;exact l _ _ ⟨_,rfl,GF _ _,hR,rfl⟩
  ·have u:=Ord.ab _ f 3 (by decide);simp only[dJ]at u;have az:=Ord.ab _ f 18 (by decide);simp only[dJ]at az;simp only[u,az]at l;clear f;go_simp;exact l _ _ ⟨_,rfl,GF _ _,hR,rfl⟩
  exact Ord.ay
 case hend=>
  intro D xs w9 hR hF;have ah:=(hF 19 (by decide)).2;simp only[dJ]at ah;rw[ah];clear ah;clear hF;generalize xs 0=x0 at*
  generalize xs 1=x1 at*
  generalize xs 2=x2 at*
  generalize xs 3=x3 at*
  generalize xs 4=x4 at*
  generalize xs 5=x5 at*
  generalize xs 6=x6 at*
  generalize xs 7=x7 at*
  generalize xs 8=x8 at*
  generalize xs 9=x9 at*
  generalize xs 10=x10 at*
  generalize xs 11=x11 at*
  generalize xs 12=x12 at*
  generalize xs 13=x13 at*
  generalize xs 14=x14 at*
  generalize xs 15=x15 at*
  generalize xs 16=x16 at*
  generalize xs 17=x17 at*
  generalize xs 18=x18 at*
  have bu:=GD (aq.out.below T.out hR);have bo:=GD (al.out.below hR);have bn:Hid (_/\Q<w9.heap.size):=⟨(hR.cell (p:=⟨Q,1,none⟩) HQ.out).trans Q1.out,Hh HQ.out hR.size⟩
  clear hR aq al aY Q0 Q1 HQ R0 aV a6 a7 G0 G1 av;go_wp2_with fail
  go_loopw [18] (fun iv wr=>∃(j:Nat)(l':List Nat),j<=500/\iv=.int .i64 (j:Int)/\l'.length=500/\Own zb wr (.slice (some ⟨r,0,none⟩) 500 c1) l'/\Touch (·=r) w9 wr) (fun iv _=>500-(intOf iv).toNat)
  case atStart=>exact⟨0,bd,G7 _,rfl,aw.out,bo.out,Touch.refl _ _⟩
  case round=>
   obtain⟨j,l',hj,rfl,hl,E,hT⟩:=hrel;have bt:=GD hj;have an:=GD hl;have aW:=GD E;have aU:=GD hT;have q1:=hT.cell bn.out.1 bz.out;clear hj hl E hT;by_cases hlt:j<500
   ·have aZ:=GD hlt;have bG:(j:Int)<500:=by omega
    have bH:(0:Int)<=(j:Int):=by omega
    obtain⟨cj,fj⟩:=aW.out.cellAt an.out j hlt;obtain⟨x,hx⟩:∃x,x=l'.getD j 0:=⟨_,rfl⟩
    rw[<-hx]at cj;obtain⟨zz,ba⟩:∃z:Nat,z=(x+1)%256:=⟨_,rfl⟩
    have bB:IntKind.u8.wrap ((x:Int)+1)=(zz:Int):=by rw[IntKind.wrap_u8];omega
    obtain⟨aL,bc⟩:=aW.out.stored an.out j zz (by omega);have bm:=GD aL;have bl:Hid (Touch (·=r) w9 (wr.setCell ⟨r,j,none⟩ (.int .u8 (zz:Int)))):=aU.out.trans (Touch.set (S:=(·=r)) r j _ rfl);have bC:=GW ((j:Int)+1) (by omega);clear aL bc hx ba hlt;go_wp2_with fail
    go_roundw
    case rel=>exact⟨j+1,_,aZ.out,by go_num,by rw[G4];exact an.out,bm.out,bl.out⟩
    case measure=>have:=aZ.out;simp[intOf];omega
   ·obtain rfl:j=500:=by have:=bt.out;omega
    rw[show((500:Nat):Int)=500 from rfl];clear hlt;go_wp2_with fail
    go_ret;exact⟨U2,V2,X2,Z,d2,a8,s2,N,fi,di,pi,rfl,bu.out.bq T.out aU.out (fun i C e=>au.out.1 (by rw[<-show i=r from e];exact C)) (fun i C e=>au.out.2.1 (by rw[<-show i=r from e];exact C)) (fun i e=>by rw[show i=r from e];exact au.out.2.2),bk.out⟩
set_option maxHeartbeats 6400000 in
set_option maxRecDepth 20000 in
theorem uN(A:bh PD PL PO Hd Hw Hp)(h:dt PL PO Hw base F K U V X Z w0 w B L P R d lg s N fi di pi)(ht:Po.cW s N fi di pi)(hk:K<=150)(hf:1<=F/\F<=12)(fl:Int)(J:bF fl)(br:Bool)(m:Nat)(hm:m<16)(G:m∉s.held)(I:Po.Full s):
 Calls Tryz.prog 10 #[.pointer (some ⟨L,0,none⟩),.pointer (some ⟨P,0,none⟩),.pointer (some ⟨R,0,none⟩),.int .i64 (F:Int),.agg #[.int .i64 0,.int .i64 (m:Int),.int .i64 fl,.bool br]] w fun e w'=>cF PL PO Hw base F K w0 B L P R e w':=by
 have C:=GD A;have HT:=GD ht;have HK:=GD hk;have HF:=GD hf;have ai:=GD J;have HM:=GD hm;have S:=GD G;have aa:=GD I;obtain⟨W,hW⟩:∃W,W=w.alloc (.cells #[.int .i64 0,.int .i64 (m:Int),.int .i64 fl,.bool br] 32):=⟨_,rfl⟩
 have b:W.heap[w.heap.size]?=some (.cells #[.int .i64 0,.int .i64 (m:Int),.int .i64 fl,.bool br] 32 (0,0)):=by rw[hW];exact GM _ _
 have o:Below w.heap.size w W:=by rw[hW];exact ae _ _
 obtain⟨bx,t⟩:∃B,B=w.heap.size:=⟨_,rfl⟩
 rw[<-t]at b;have v:Hid (iM W bx 0 (m:Int) fl br):=GD ⟨b⟩;have x:=GD o;have g:=GD (h.below A o);have ak:Hid ((∀i,aB U V X i->i≠bx)/\(∀i,Z i->i≠bx)):=GD ⟨fun i l e=>(by have:=A.lt h.at_.at_ i l;omega),fun i l e=>(by have:=(h.ref.low i l).2;omega)⟩;clear A h ht hk hf J b o hm G I;go_enter Tryz.func10,Tryz.ntmps10;go_upto_region 1 with(fail)
 rw[<-hW,<-t];clear hW t;obtain⟨b0,b1,b2,b3⟩:=v.out.cells;have ag:(0:Int)<=(m:Int):=by omega
 have af:(m:Int)<16:=by have:=HM.out;omega
 go_wp2_with fail
 refine(C.out.held g.out.at_.at_ g.out.calm).mono ?_;rintro e z1⟨hv,rfl,hO,o⟩;obtain⟨hp,hc,rfl⟩:∃p c,hv=.slice p (s.held.map fun k:Nat=>(k:Int)).length c:=by
  obtain⟨p,c,e,-⟩:=hO.aP.form;exact⟨p,c,e⟩
 obtain⟨hl,H⟩:∃n,n=(s.held.map fun k:Nat=>(k:Int)).length:=⟨_,rfl⟩
 have a:=GD (g.out.below C.out o);have ab:=GD (o.box v.out);have aj:Hid (Below w.heap.size w z1):=x.out.trans (o.mono x.out.size);clear o g v x;have f:=GD (aM z1 _ _ (m:Int) hO.aP (by rw[Hb];have:=(a.out.aI C.out).lS;have:=a.out.fr;have:=HF.out;omega));rw[Po.mem_cast]at f;clear hO;rw[<-H]at f⊢;clear H b0 b1 b2 b3;obtain⟨b0,b1,b2,b3⟩:=ab.out.cells;rw[show decide (m∈s.held)=false from GY S.out]at f;go_wp2_with fail
 refine f.out.mono ?_;rintro e z⟨rfl,rfl⟩;clear f;go_wp2_with fail
 refine(bo z1 a.out.ref (fun i l=>by rw[HT.out.tie.pins i l];have:=a.out.pins i;have:=HK.out;omega)).mono ?_;rintro e z⟨rfl,rfl⟩;have ah:(F:Int)<=(Po.fD pi:Int):=by have:=(Po.df (a.out.aI C.out) a.out.ar a.out.ref.lp HT.out.tie.pins).2 aa.out;rw[a.out.fr]at this;omega
 go_wp2_with fail
 refine(C.out.tu m a.out.at_.at_ a.out.calm (by rw[a.out.ar];have:=HM.out;show(m:Int)<16;omega) (fun h=>h.elim S.out fun h=>h aa.out)).mono ?_;rintro e y⟨rfl,hw⟩;obtain⟨U2,V2,X2,l,hT,-⟩:=a.out.fe hw a.out.calm (GJ rfl) rfl rfl (G8 K) (fun j=>Iv (a.out.pins j));have Y:=GD l;clear hw l hT;clear b0 b1 b2 b3;go_upto_region 13 with(fail)
 have u:=ae y (.cells #[.int .u64 0,.slice none 0 0] 59);have hq:=GM y (.cells #[.int .u64 0,.slice none 0 0] 59);obtain⟨r,D⟩:∃r,r=y.alloc (.cells #[.int .u64 0,.slice none 0 0] 59):=⟨_,rfl⟩
 obtain⟨Q,hQ⟩:∃q,q=y.heap.size:=⟨_,rfl⟩
 rw[<-D]at u hq⊢;rw[<-hQ]at hq⊢;have T:=GD (Y.out.below C.out u);have O:=GD (show r.heap[Q]?=some (.cells #[.int .u64 0,.slice none 0 0] 59 (0,0))from hq);clear u D hQ hq Y;go_quiet (fail)
 have M:=below_drewN r.heap.size r nq;have ad:=GD (T.out.below C.out M);have E:(r.drewN nq).heap[Q]?=some (.cells #[.int .u64 0,.slice none 0 0] 59 (0,0)):=O.out;generalize r.drewN nq=y1 at*
 clear M T O;have q1:=bp E;clear E;go_wp2_with fail
 go_loopw [18] (fun iv wr=>iv=.int .i64 0/\y1=wr) (fun _ _=>0)
 case atStart=>exact⟨rfl,rfl⟩
 case round=>
  obtain⟨rfl,rfl⟩:=hrel;go_wp2_with fail
  go_ret;exact⟨U2,V2,X2,Z,d,lg,s,N,fi,di,pi,rfl,ad.out,HT.out.tie⟩
set_option maxHeartbeats 6400000 in
set_option maxRecDepth 20000 in
theorem uM(A:bh PD PL PO Hd Hw Hp)(h:dt PL PO Hw base F K U V X Z w0 w B L P R d lg s N fi di pi)(ht:Po.cW s N fi di pi)(hk:K<=150)(hf:1<=F/\F<=12)(fl:Int)(aS:bF fl)(br:Bool)(m:Nat)(hm:m<16)(aN:m∉s.held)(aR:¬Po.Full s):
 Calls Tryz.prog 10 #[.pointer (some ⟨L,0,none⟩),.pointer (some ⟨P,0,none⟩),.pointer (some ⟨R,0,none⟩),.int .i64 (F:Int),.agg #[.int .i64 0,.int .i64 (m:Int),.int .i64 fl,.bool br]] w fun e w'=>cF PL PO Hw base F K w0 B L P R e w':=by
 have I:=GD A;have HT:=GD ht;have HK:=GD hk;have HF:=GD hf;have bO:=GD aS;have HM:=GD hm;have bA:=GD aN;have a6:=GD aR;obtain⟨W,hW⟩:∃W,W=w.alloc (.cells #[.int .i64 0,.int .i64 (m:Int),.int .i64 fl,.bool br] 32):=⟨_,rfl⟩
 have G:W.heap[w.heap.size]?=some (.cells #[.int .i64 0,.int .i64 (m:Int),.int .i64 fl,.bool br] 32 (0,0)):=by rw[hW];exact GM _ _
 have t:Below w.heap.size w W:=by rw[hW];exact ae _ _
 obtain⟨bx,af⟩:∃B,B=w.heap.size:=⟨_,rfl⟩
 rw[<-af]at G;have ak:Hid (iM W bx 0 (m:Int) fl br):=GD ⟨G⟩;have ax:=GD t;have T:=GD (h.below A t);have bD:Hid ((∀i,aB U V X i->i≠bx)/\(∀i,Z i->i≠bx)):=GD ⟨fun i u e=>(by have:=A.lt h.at_.at_ i u;omega),fun i u e=>(by have:=(h.ref.low i u).2;omega)⟩;clear A h ht hk hf aS G t hm aN aR;go_enter Tryz.func10,Tryz.ntmps10;go_upto_region 1 with(fail)
 rw[<-hW,<-af];clear hW af;obtain⟨b0,b1,b2,b3⟩:=ak.out.cells;have bI:(0:Int)<=(m:Int):=by omega
 have bH:(m:Int)<16:=by have:=HM.out;omega
 go_wp2_with fail
 refine(I.out.held T.out.at_.at_ T.out.calm).mono ?_;rintro e z1⟨hv,rfl,E,t⟩;obtain⟨hp,hc,rfl⟩:∃p c,hv=.slice p (s.held.map fun k:Nat=>(k:Int)).length c:=by
  obtain⟨p,c,e,-⟩:=E.aP.form;exact⟨p,c,e⟩
 obtain⟨hl,aO⟩:∃n,n=(s.held.map fun k:Nat=>(k:Int)).length:=⟨_,rfl⟩
 have q:=GD (T.out.below I.out t);have aU:=GD (t.box ak.out);have bP:Hid (Below w.heap.size w z1):=ax.out.trans (t.mono ax.out.size);clear t T ak ax;have H:=GD (aM z1 _ _ (m:Int) E.aP (by rw[Hb];have:=(q.out.aI I.out).lS;have:=q.out.fr;have:=HF.out;omega));rw[Po.mem_cast]at H;clear E;rw[<-aO]at H⊢;clear aO b0 b1 b2 b3;obtain⟨b0,b1,b2,b3⟩:=aU.out.cells;rw[show decide (m∈s.held)=false from GY bA.out]at H;go_wp2_with fail
 refine H.out.mono ?_;rintro e z⟨rfl,rfl⟩;clear H;go_wp2_with fail
 refine(bo z1 q.out.ref (fun i u=>by rw[HT.out.tie.pins i u];have:=q.out.pins i;have:=HK.out;omega)).mono ?_;rintro e z⟨rfl,rfl⟩;have bN:¬((F:Int)<=(Po.fD pi:Int)):=fun h=>a6.out ((Po.df (q.out.aI I.out) q.out.ar q.out.ref.lp HT.out.tie.pins).1 (by rw[q.out.fr];omega));obtain⟨zb,J⟩:∃n,n=z1.heap.size:=⟨_,rfl⟩
 have bk:Hid (∀i,Z i->i<zb):=fun i u=>by rw[J];exact(q.out.ref.low i u).2
 have bg:Hid (base<=zb):=by show _<=_;rw[J];exact q.out.bw
 have hc:=I.out.get m q.out.at_.at_ q.out.calm (by have:=q.out.stop;have:=HK.out;omega) (by rw[q.out.ar];have:=HM.out;show(m:Int)<16;omega) (GL a6.out);obtain⟨kn,ad⟩:∃x,x=(s.now m).1:=⟨_,rfl⟩
 obtain⟨bd,M⟩:∃x,x=(s.now m).2:=⟨_,rfl⟩
 have aw:Hid (bd.length=500):=by show _=_;rw[M];exact((q.out.aI I.out).ok m).2.1
 have bu:Hid (N.getD m (0,[])=(kn,bd)):=by show _=_;rw[HT.out.tie.now m HM.out,ad,M]
 rw[<-ad,<-M]at hc;clear ad M;go_wp2_with fail
 refine hc.mono ?_;rintro e y⟨u1,d2,ba,s2,rfl,E,hw,hC,hl,hs,-,-⟩;rw[<-J]at E;obtain⟨U2,V2,X2,u,hT,aK⟩:=q.out.Cs hw hC hl hs.ar hs.ao (G8 K) (fun j=>by rw[hs.pins];exact Iv (q.out.pins j));obtain⟨r,c1,rfl⟩:∃g c,u1=.slice (some ⟨g,0,none⟩) 500 c:=by
  rcases E.form with⟨-,h0⟩|⟨g,c,h,-⟩
  ·have:=aw.out;rw[h0]at this;simp at this
  ·rw[aw.out]at h;exact⟨g,c,h⟩
 have a2:=GD u;have bl:=GD (Po.kx.CQ HT.out hs (u.aI I.out));have aT:=GD (aU.out.aj hT (fun h=>bD.out.1 bx h rfl));have aY:=GD E;have aQ:=(World.ownsRow.lt E.own r rfl)
 have au:Hid (¬aB U2 V2 X2 r/\¬Z r/\base<=r):=⟨aK r rfl,fun hz=>by have:=bk.out r hz;omega,by have:=bg.out;omega⟩
 have Y:Hid (r<y.heap.size):=aQ.2;clear hc E hw hC hl hs u hT aK aQ b0 b1 b2 b3 J;go_upto_region 13 with(fail)
 obtain⟨W2,O⟩:∃W,W=y.alloc (.cells #[.int .u64 (kn:Int),.slice (some ⟨r,0,none⟩) 500 c1] 59):=⟨_,rfl⟩
 have hr:W2.heap[y.heap.size]?=some (.cells #[.int .u64 (kn:Int),.slice (some ⟨r,0,none⟩) 500 c1] 59 (0,0)):=by rw[O];exact GM _ _
 have t:Below y.heap.size y W2:=by rw[O];exact ae _ _
 rw[<-O];obtain⟨Q,hQ⟩:∃Q,Q=y.heap.size:=⟨_,rfl⟩
 have bC:Hid (¬Q=r):=by have:=Y.out;show¬_;omega
 rw[<-hQ]at hr⊢;have Q0:=GD (bj hr);have Q1:=GD (bp hr);have HQ:Hid (Q<W2.heap.size):=GN hr;have aq:=GD (a2.out.below I.out t);have ai:=GD (t.box aT.out);have al:=GD (aY.out.below t);obtain⟨-,bb,-,-⟩:=ai.out.cells;have a8:=GD bb;have a7:Hid (bx<W2.heap.size):=GN ai.out.row;obtain⟨gn,cn,u2,n0,n1,n2,-,-,ag,-⟩:=aq.out.ref.n HM.out;rw[bu.out]at n1 ag;have R0:=GD n0;have G0:=GD n1;have G1:=GD n2;have aZ:=GD ag;have aW:Hid (R<W2.heap.size):=Ib n0;have av:Hid (gn<W2.heap.size):=Ib n1;clear O hr t hQ bb n0 n1 n2 ag a2 aT aY ai Y;refine Ord.walk (dJ kn R Q bx gn cn m (.slice (some ⟨r,0,none⟩) 500 c1) u2) (fun _ _ w'=>Below W2.heap.size W2 w') (fun a b=>Below a.heap.size a b)
  (by kernel_rfl) (by kernel_rfl) ?fr ?hfr (fun i v w w' t h=>qJ _ _ _ _ _ _ _ _ _ i v w w' t h) (fun xs=>(GF _ _).ij) ?he ?hend
 case hfr=>
  intro xs;simp only[Ord.fill,Act.put,GP,GX,GV];rfl
 case he=>
  iterate 20 (refine Ord.aa (fun D xs w2 hD hC hP hR f K l=>?_) ?_;rotate_left)
  rotate_left
  ·clear f;go_simp;exact l _ _ ⟨_,rfl,GF _ _,hR,rfl⟩
  ·clear f;go_simp;exact l _ _ ⟨_,rfl,GF _ _,hR,rfl⟩
  ·have q0:=Ord.ab _ f 0 (by decide);simp only[dJ]at q0;have q1:=Ord.ab _ f 1 (by decide);simp only[dJ]at q1;simp only[q0,q1]at l;clear f;go_simp;exact l _ _ ⟨_,rfl,GF _ _,hR,rfl⟩
  ·have q2:=Ord.ab _ f 2 (by decide);simp only[dJ]at q2;simp only[q2]at l;clear f;go_simp;exact l _ _ ⟨_,rfl,GF _ _,hR,rfl⟩
  ·have C:=Ord.ab _ f 3 (by decide);simp only[dJ]at C;simp only[C]at l;clear f;go_simp;exact l _ _ ⟨_,rfl,GF _ _,hR,rfl⟩
  ·have q4:=Ord.ab _ f 4 (by decide);simp only[dJ]at q4;have C:=Ord.ab _ f 3 (by decide);simp only[dJ]at C;simp only[q4,C]at l;clear f;go_simp;exact l _ _ ⟨_,rfl,GF _ _,hR,rfl⟩
  ·have q5:=Ord.ab _ f 5 (by decide);simp only[dJ]at q5;have C:=Ord.ab _ f 3 (by decide);simp only[dJ]at C;simp only[q5,C]at l;clear f;go_simp;exact l _ _ ⟨_,rfl,GF _ _,hR,rfl⟩
  ·have o:=Ord.ab _ f 6 (by decide);simp only[dJ]at o;simp only[o]at l;clear f;have ca:=(hR.cell (p:=⟨Q,0,none⟩) HQ.out).trans Q0.out;have cb:=(hR.cell (p:=⟨Q,1,none⟩) HQ.out).trans Q1.out;go_simp;exact l _ _ ⟨_,rfl,GF _ _,hR,rfl⟩
  ·have o:=Ord.ab _ f 6 (by decide);simp only[dJ]at o;simp only[o]at l;clear f;go_simp;exact l _ _ ⟨_,rfl,GF _ _,hR,rfl⟩
  ·have q8:=Ord.ab _ f 8 (by decide);simp only[dJ]at q8;have o:=Ord.ab _ f 6 (by decide);simp only[dJ]at o;simp only[q8,o]at l;clear f;go_simp;exact l _ _ ⟨_,rfl,GF _ _,hR,rfl⟩
  ·have q9:=Ord.ab _ f 9 (by decide);simp only[dJ]at q9;have o:=Ord.ab _ f 6 (by decide);simp only[dJ]at o;simp only[q9,o]at l;clear f;go_simp;exact l _ _ ⟨_,rfl,GF _ _,hR,rfl⟩
  ·have aJ:=Ord.ab _ f 10 (by decide);simp only[dJ]at aJ;have o:=Ord.ab _ f 6 (by decide);simp only[dJ]at o;simp only[aJ,o]at l;clear f;have ca:=(hR.cell (p:=⟨R,0,none⟩) aW.out).trans R0.out;go_simp;exact l _ _ ⟨_,rfl,GF _ _,hR,rfl⟩
  ·have o:=Ord.ab _ f 6 (by decide);simp only[dJ]at o;simp only[o]at l;clear f;go_simp;exact l _ _ ⟨_,rfl,GF _ _,hR,rfl⟩
  ·have aG:=Ord.ab _ f 12 (by decide);simp only[dJ]at aG;have o:=Ord.ab _ f 6 (by decide);simp only[dJ]at o;simp only[aG,o]at l;clear f;have ca:=(hR.cell (p:=⟨bx,1,none⟩) a7.out).trans a8.out;go_simp;exact l _ _ ⟨_,rfl,GF _ _,hR,rfl⟩
  ·have aH:=Ord.ab _ f 11 (by decide);simp only[dJ]at aH;have aF:=Ord.ab _ f 13 (by decide);simp only[dJ]at aF;have o:=Ord.ab _ f 6 (by decide);simp only[dJ]at o;simp only[aH,aF,o]at l;clear f;have bM:(m:Int)<16:=by have:=HM.out;omega
   have bL:(0:Int)<=(m:Int):=by omega
   go_simp;exact l _ _ ⟨_,rfl,GF _ _,hR,rfl⟩
  ·have aE:=Ord.ab _ f 14 (by decide);simp only[dJ]at aE;have o:=Ord.ab _ f 6 (by decide);simp only[dJ]at o;simp only[aE,o]at l;clear f;have ca:=(hR.cell (p:=⟨gn,m*2,none⟩) av.out).trans G0.out;have cb:=(hR.cell (p:=⟨gn,m*2+1,none⟩) av.out).trans G1.out;go_simp;exact l _ _ ⟨_,rfl,GF _ _,hR,rfl⟩
  ·have q7:=Ord.ab _ f 7 (by decide);simp only[dJ]at q7;have aD:=Ord.ab _ f 15 (by decide);simp only[dJ]at aD;have o:=Ord.ab _ f 6 (by decide);simp only[dJ]at o;simp only[q7,aD,o]at l;clear f;go_simp;have hc:=mP kn kn (.slice (some ⟨r,0,none⟩) 500 c1) u2 bd bd w2 (al.out.aP.below hR) (aZ.out.aP.below hR);rw[Pg.mc]at hc;refine hc.mono ?_;rintro e w'⟨rfl,t⟩;exact l _ _ ⟨_,rfl,t,hR.trans (t.mono hR.size),rfl⟩
  ·have aC:=Ord.ab _ f 16 (by decide);simp only[dJ]at aC;have o:=Ord.ab _ f 6 (by decide);simp only[dJ]at o;simp only[aC,o]at l;clear f;go_simp;exact l _ _ ⟨_,rfl,GF _ _,hR,rfl⟩
  ·have o:=Ord.ab _ f 6 (by decide);simp only[dJ]at o;have aA:=Ord.ab _ f 17 (by decide);simp only[dJ]at aA;have C:=Ord.ab _ f 3 (by decide);simp only[dJ]at C;simp only[o,aA,C]at l;clear f;go_simp;exact l _ _ ⟨_,rfl,GF _ _,hR,rfl⟩
  ·have C:=Ord.ab _ f 3 (by decide);simp only[dJ]at C;have az:=Ord.ab _ f 18 (by decide);simp only[dJ]at az;simp only[C,az]at l;clear f;go_simp;exact l _ _ ⟨_,rfl,GF _ _,hR,rfl⟩
  exact Ord.ay
 case hend=>
  intro D xs w9 hR hF;have ah:=(hF 19 (by decide)).2;simp only[dJ]at ah;rw[ah];clear ah;clear hF;generalize xs 0=x0 at*
  generalize xs 1=x1 at*
  generalize xs 2=x2 at*
  generalize xs 3=x3 at*
  generalize xs 4=x4 at*
  generalize xs 5=x5 at*
  generalize xs 6=x6 at*
  generalize xs 7=x7 at*
  generalize xs 8=x8 at*
  generalize xs 9=x9 at*
  generalize xs 10=x10 at*
  generalize xs 11=x11 at*
  generalize xs 12=x12 at*
  generalize xs 13=x13 at*
  generalize xs 14=x14 at*
  generalize xs 15=x15 at*
  generalize xs 16=x16 at*
  generalize xs 17=x17 at*
  generalize xs 18=x18 at*
  have bB:=GD (aq.out.below I.out hR);have bt:=GD (al.out.below hR);have bs:Hid (_/\Q<w9.heap.size):=⟨(hR.cell (p:=⟨Q,1,none⟩) HQ.out).trans Q1.out,Hh HQ.out hR.size⟩
  clear hR aq al aZ Q0 Q1 HQ R0 aW a7 a8 G0 G1 av;go_wp2_with fail
  go_loopw [18] (fun iv wr=>∃(j:Nat)(l':List Nat),j<=500/\iv=.int .i64 (j:Int)/\l'.length=500/\Own zb wr (.slice (some ⟨r,0,none⟩) 500 c1) l'/\Touch (·=r) w9 wr) (fun iv _=>500-(intOf iv).toNat)
  case atStart=>exact⟨0,bd,G7 _,rfl,aw.out,bt.out,Touch.refl _ _⟩
  case round=>
   obtain⟨j,l',hj,rfl,hl,E,hT⟩:=hrel;have bz:=GD hj;have an:=GD hl;have aX:=GD E;have aV:=GD hT;have q1:=hT.cell bs.out.1 bC.out;clear hj hl E hT;by_cases hlt:j<500
   ·have a1:=GD hlt;have bJ:(j:Int)<500:=by omega
    have bK:(0:Int)<=(j:Int):=by omega
    obtain⟨cj,fj⟩:=aX.out.cellAt an.out j hlt;obtain⟨x,hx⟩:∃x,x=l'.getD j 0:=⟨_,rfl⟩
    rw[<-hx]at cj;obtain⟨zz,bc⟩:∃z:Nat,z=(x+1)%256:=⟨_,rfl⟩
    have bE:IntKind.u8.wrap ((x:Int)+1)=(zz:Int):=by rw[IntKind.wrap_u8];omega
    obtain⟨aL,bf⟩:=aX.out.stored an.out j zz (by omega);have bn:=GD aL;have bm:Hid (Touch (·=r) w9 (wr.setCell ⟨r,j,none⟩ (.int .u8 (zz:Int)))):=aV.out.trans (Touch.set (S:=(·=r)) r j _ rfl);have bG:=GW ((j:Int)+1) (by omega);clear aL bf hx bc hlt;go_wp2_with fail
    go_roundw
    case rel=>exact⟨j+1,_,a1.out,by go_num,by rw[G4];exact an.out,bn.out,bm.out⟩
    case measure=>have:=a1.out;simp[intOf];omega
   ·obtain rfl:j=500:=by have:=bz.out;omega
    rw[show((500:Nat):Int)=500 from rfl];clear hlt;go_wp2_with fail
    go_ret;exact⟨U2,V2,X2,Z,d2,ba,s2,N,fi,di,pi,rfl,bB.out.bq I.out aV.out (fun i u e=>au.out.1 (by rw[<-show i=r from e];exact u)) (fun i u e=>au.out.2.1 (by rw[<-show i=r from e];exact u)) (fun i e=>by rw[show i=r from e];exact au.out.2.2),bl.out⟩
end
def js(R b m ls:Nat)(fl:Int)(a:Nat)(i:Nat)(v:Value)(w:World):Prop:=
 match i with
 |0=>v=.pointer (some ⟨R,0,none⟩)
 |1=>v=.pointer (some ⟨b,1,none⟩)
 |2=>v=.int .i64 (m:Int)
 |3=>v=.int .u64 (ls:Int)
 |4=>v=.pointer (some ⟨b,2,none⟩)
 |5=>v=.int .i64 fl
 |6=>∃g,v=.slice (some ⟨g,0,none⟩) 500 500/\a<=g/\Own a w (.slice (some ⟨g,0,none⟩) 500 500) (Po.ck fl)
 |7=>∃g,v=ed ls (.slice (some ⟨g,0,none⟩) 500 500)/\a<=g/\Own a w (.slice (some ⟨g,0,none⟩) 500 500) (Po.ck fl)
 |_=>True
theorem j5{Z:Nat->Prop}(R l m ls:Nat)(fl:Int)(j:Nat)(hz:∀i,Z i->i<j)(i:Nat)(v:Value)(w w':World)(k:Touch Z w w')(h:js R l m ls fl j i v w):js R l m ls fl j i v w':=by
 unfold js at*
 split at h
 ·exact h
 ·exact h
 ·exact h
 ·exact h
 ·exact h
 ·exact h
 ·obtain⟨g,f,e,d⟩:=h;exact⟨g,f,e,d.aj k fun b c a=>by simp only[Value.ownBlock,GO]at c;have:=hz b a;omega⟩
 ·obtain⟨g,f,e,d⟩:=h;exact⟨g,f,e,d.aj k fun b c a=>by simp only[Value.ownBlock,GO]at c;have:=hz b a;omega⟩
 ·trivial
structure tY(base R:Nat)(Z:Nat->Prop)(W:World)(N:List (Nat×List Nat))(fi:List Nat)(di:List Bool)(pi:List Nat)(D:Nat->Bool)(xs:Nat->Value)(w:World):Prop where
 fb:D 8=false->Below W.heap.size W w
 fin:D 8=true->∃g,W.heap.size<=g/\eQ base (fun i=>Z i\/i=g) R w N fi di pi/\Touch Z W w/\g<w.heap.size
section
variable{base R:Nat}{Z:Nat->Prop}{W w w':World}{N:List (Nat×List Nat)}{fi:List Nat}{di:List Bool}{pi:List Nat}{D:Nat->Bool}{xs:Nat->Value}{u:Value}
theorem tY.first(xs:Nat->Value):tY base R Z W N fi di pi (fun _=>false) xs W.drew:=⟨fun _=>(GF _ _).ij,fun h=>by cases h⟩
theorem tY.step(h:tY base R Z W N fi di pi D xs w)(j:Nat)(c:(j !=8)=true)(b:D 8=false)(d:Below w.heap.size w w'):tY base R Z W N fi di pi (Ord.bB D j) (Ord.set xs j u) w':=by
 rw[IZ]at c;refine⟨fun _=>(h.fb b).trans (d.mono (h.fb b).size),fun a=>?_⟩;rw[bf D (H4 c),b]at a;cases a
theorem tY.last(h:tY base R Z W N fi di pi D xs w)(e:D 8=false)(b:Touch Z w w'){g:Nat}(d:W.heap.size<=g)(c:eQ base (fun i=>Z i\/i=g) R w' N fi di pi)(hl:g<w.heap.size):tY base R Z W N fi di pi (Ord.bB D 8) (Ord.set xs 8 u) w':=by
 refine⟨fun a=>?_,fun _=>⟨g,d,c,(Touch.ax (h.fb e)).trans b,Hh hl b.size⟩⟩;rw[et]at a;cases a
end
theorem aJ.kI{g:Nat}{w:World}{l:List Nat}(h:aJ w (.slice (some ⟨g,0,none⟩) 500 500) l)(hl:l.length=500):aJ w (.slice (some ⟨g,1,none⟩) 499 499) (l.drop 1):=by
 have a:aJ w (.slice (some ⟨g,0,none⟩) l.length 500) l:=by rw[hl];exact h
 have:=a.drop 1 (by omega);rw[hl]at this;exact this
section
variable{PD:(Nat->Prop)->World->Nat->Dk.ak->Prop}{PL:(Nat->Prop)->(Nat->Prop)->World->Nat->Nat->Dk.ak->Wl.S->Prop}{PO:(Nat->Prop)->World->Nat->Nat->Nat->Po.S->Prop}{Hd:Dk.ak->Wl.S->Prop}{Hw:Dk.ak->Po.Ar->(Nat->Po.Pg)->Prop}{Hp:Dk.ak->Po.Ar->(Nat->Po.Pg->Prop)->Prop}
variable{U V X Z:Nat->Prop}{w w' w0:World}{B L P R base F K:Nat}{d:Dk.ak}{lg:Wl.S}{s:Po.S}{N:List Po.Pg}{fi:List Nat}{di:List Bool}{pi:List Nat}
set_option maxHeartbeats 6400000 in
set_option maxRecDepth 20000 in
theorem uL(A:bh PD PL PO Hd Hw Hp)(h:dt PL PO Hw base F K U V X Z w0 w B L P R d lg s N fi di pi)(ht:Po.cW s N fi di pi)(hk:K<=150)(hf:1<=F/\F<=12)(fl:Int)(bk:bF fl)(br:Bool)(m:Nat)(hm:m<16)(bf:m∉s.held)(bj:Po.Full s):
 Calls Tryz.prog 10 #[.pointer (some ⟨L,0,none⟩),.pointer (some ⟨P,0,none⟩),.pointer (some ⟨R,0,none⟩),.int .i64 (F:Int),.agg #[.int .i64 1,.int .i64 (m:Int),.int .i64 fl,.bool br]] w fun e w'=>cF PL PO Hw base F K w0 B L P R e w':=by
 have C:=GD A;have HT:=GD ht;have HK:=GD hk;have HF:=GD hf;have bE:=GD bk;have HM:=GD hm;have a6:=GD bf;have a8:=GD bj;obtain⟨W,hW⟩:∃W,W=w.alloc (.cells #[.int .i64 1,.int .i64 (m:Int),.int .i64 fl,.bool br] 32):=⟨_,rfl⟩
 have al:W.heap[w.heap.size]?=some (.cells #[.int .i64 1,.int .i64 (m:Int),.int .i64 fl,.bool br] 32 (0,0)):=by rw[hW];exact GM _ _
 have u:Below w.heap.size w W:=by rw[hW];exact ae _ _
 obtain⟨bx,aR⟩:∃B,B=w.heap.size:=⟨_,rfl⟩
 rw[<-aR]at al;have aT:Hid (iM W bx 1 (m:Int) fl br):=GD ⟨al⟩;have bb:=GD u;have aG:=GD (h.below A u);have aE:Hid ((∀i,aB U V X i->i≠bx)/\(∀i,Z i->i≠bx)):=GD ⟨fun i a e=>(by have:=A.lt h.at_.at_ i a;omega),fun i a e=>(by have:=(h.ref.low i a).2;omega)⟩;clear A h ht hk hf bk al u hm bf bj;go_enter Tryz.func10,Tryz.ntmps10;go_upto_region 1 with(fail)
 rw[<-hW,<-aR];clear hW aR;obtain⟨Q,b1,b2,O⟩:=aT.out.cells;have bB:(0:Int)<=(m:Int):=by omega
 have bA:(m:Int)<16:=by have:=HM.out;omega
 go_wp2_with fail
 refine(C.out.held aG.out.at_.at_ aG.out.calm).mono ?_;rintro e z1⟨hv,rfl,H,u⟩;obtain⟨hp,hc,rfl⟩:∃p c,hv=.slice p (s.held.map fun k:Nat=>(k:Int)).length c:=by
  obtain⟨p,c,e,-⟩:=H.aP.form;exact⟨p,c,e⟩
 obtain⟨hl,bg⟩:∃n,n=(s.held.map fun k:Nat=>(k:Int)).length:=⟨_,rfl⟩
 have o:=GD (aG.out.below C.out u);have au:=GD (u.box aT.out);have bG:Hid (Below w.heap.size w z1):=bb.out.trans (u.mono bb.out.size);clear u aG aT bb;have aA:=GD (aM z1 _ _ (m:Int) H.aP (by rw[Hb];have:=(o.out.aI C.out).lS;have:=o.out.fr;have:=HF.out;omega));rw[Po.mem_cast]at aA;clear H;rw[<-bg]at aA⊢;clear bg Q b1 b2 O;obtain⟨Q,b1,b2,O⟩:=au.out.cells;rw[show decide (m∈s.held)=false from GY a6.out]at aA;go_wp2_with fail
 refine aA.out.mono ?_;rintro e z⟨rfl,rfl⟩;clear aA;go_wp2_with fail
 refine(bo z1 o.out.ref (fun i a=>by rw[HT.out.tie.pins i a];have:=o.out.pins i;have:=HK.out;omega)).mono ?_;rintro e z⟨rfl,rfl⟩;have bC:(F:Int)<=(Po.fD pi:Int):=by have:=(Po.df (o.out.aI C.out) o.out.ar o.out.ref.lp HT.out.tie.pins).2 a8.out;rw[o.out.fr]at this;omega
 cases br;case true=>
  as_aux_lemma=>
   have f:=GD (o.out.more (G8 K));have J:=GD au.out;obtain⟨y6,aK⟩:∃y,y=z1:=⟨_,rfl⟩
   have aD:Hid (bx<y6.heap.size):=by show _<_;rw[aK];exact GN au.out.row
   rw[<-aK]at f J Q b1 b2 O⊢;clear aK;obtain⟨U6,V6,X6,ah,aO,aH⟩:∃U' I X' ai,dt PL PO Hw base F (K+1) U' I X' Z w0 y6 B L P R d ai s N fi di pi/\∀i,aB U' I X' i->i≠bx:=⟨U,V,X,lg,f.out,aE.out.1⟩
   have ag:=GD aH;clear f aH;have f:=GD aO;have bz:Hid (0<ah.stop):=GD (by have:=(aO.at_.at_.fY 0).2;omega);have a2:Hid (0<18446744073709551616):=by show 0<_;decide
   clear aO;go_wp2_with fail
   refine(bM fl y6).mono ?_;rintro e y7⟨g,rfl,aQ,H,u⟩;have q:=GD (f.out.below C.out u);have aa:=GD (u.box J.out);have G:=GD H;have r:Hid ((∀i,aB U6 V6 X6 i->i<g)/\(∀i,Z i->i<g)/\base<=g/\g<y7.heap.size):=GD ⟨fun i a=>(by have:=C.out.lt f.out.at_.at_ i a;omega),fun i a=>(by have:=(f.out.ref.low i a).2;omega),(by have:=f.out.bw;omega),(World.ownsRow.lt H.own g rfl).2⟩;clear aQ H u f J Q b1 b2 O;obtain⟨Q,b1,b2,O⟩:=aa.out.cells;go_wp2_with fail
   refine(C.out.nZ m (0,Po.ck fl) _ q.out.at_.at_ q.out.calm (by rw[q.out.ar];have:=HM.out;show(m:Int)<16;omega) (fun h=>h.elim a6.out fun h=>h a8.out) (Po.ig fl a2.out) G.out.aP).mono ?_;rintro e y8⟨rfl,hw⟩;obtain⟨U8,V8,X8,d8,aJ,s8,a,Y,an,ak⟩:∃U' I X' d' ai s',dt PL PO Hw base F (K+1) U' I X' Z w0 y8 B L P R d' ai s' N fi di pi/\Touch (aB U6 V6 X6) y7 y8/\(∀i,aB U' I X' i->aB U6 V6 X6 i\/y7.heap.size<=i)/\s'=s:=by
    obtain⟨U',I,X',h1,h2,h3⟩:=q.out.fe hw q.out.calm (GJ rfl) rfl rfl (GH _) q.out.pins;exact⟨U',I,X',d,ah,s,h1,h2,h3,rfl⟩
   clear hw;have ay:=GD a;have aZ:=GD ak;have aq:=GD (aa.out.aj Y (fun h=>ag.out bx h rfl));have ad:Hid ((∀i,aB U8 V8 X8 i->¬i=g)/\(∀i,Z i->¬i=g)/\base<=g):=GD ⟨fun i a e=>(by
    rcases an i a with h|h
    ·have:=r.out.1 i h;omega
    ·have:=r.out.2.2.2;omega),fun i a e=>(by have:=r.out.2.1 i a;omega),r.out.2.2.1⟩
   have av:=GD (G.out.aj Y fun b u h=>by
    simp only[Value.ownBlock,GO]at u;have:=r.out.1 b h;omega)
   have a1:Hid (bx≠g):=fun e=>by have h1:=(World.ownsRow.lt G.out.own g rfl).1;have h2:=aD.out;omega
   clear a Y an ak Q b1 b2 O q aa G r;go_wp2_with fail
   go_loopw [24] (fun iv wr=>∃(j:Nat)(l':List Nat),j<=500/\iv=.int .i64 (j:Int)/\l'.length=500/\Own y6.heap.size wr (.slice (some ⟨g,0,none⟩) 500 500) l'/\Touch (·=g) y8 wr) (fun iv _=>500-(intOf iv).toNat)
   case atStart=>exact⟨0,_,G7 _,rfl,Po.aW fl,av.out,Touch.refl _ _⟩
   case round=>
    obtain⟨j,l',hj,rfl,hl,H,hT⟩:=hrel;have ax:=GD hj;have v:=GD hl;have ab:=GD H;have E:=GD hT;clear hj hl H hT;by_cases hlt:j<500
    ·have aw:=GD hlt;have bt:(j:Int)<500:=by omega
     have bu:(0:Int)<=(j:Int):=by omega
     obtain⟨cj,fj⟩:=ab.out.cellAt v.out j hlt;obtain⟨D,-⟩:=ab.out.stored v.out j 0 (by decide);rw[show((0:Nat):Int)=0 from rfl]at D;have aY:=GD D;have aU:Hid (Touch (·=g) y8 (wr.setCell ⟨g,j,none⟩ (.int .u8 0))):=E.out.trans (Touch.set (S:=(·=g)) g j _ rfl);have bs:=GW ((j:Int)+1) (by omega);clear D hlt;go_wp2_with fail
     go_roundw
     case rel=>exact⟨j+1,_,aw.out,by go_num,by rw[G4];exact v.out,aY.out,aU.out⟩
     case measure=>have:=aw.out;simp[intOf];omega
    ·obtain rfl:j=500:=by have:=ax.out;omega
     rw[show((500:Nat):Int)=500 from rfl];clear hlt;have a7:=GD (ay.out.bq C.out E.out ad.out.1 ad.out.2.1 (fun i e=>by rw[show i=g from e];exact ad.out.2.2));have aS:=GD (aq.out.aj E.out a1.out);clear ay aq av E ax;obtain⟨Q,b1,b2,O⟩:=aS.out.cells;have ao:=ab.out.aP.kI v.out;have ba:=GD ao;clear ao;go_upto_region 38 with(fail)
     go_still_tail 6,(by kernel_rfl)
     have T:Below wr.heap.size wr wr.drew:=(GF _ _).ij;have l:=GD (a7.out.below C.out T);have M:=GD (ba.out.below T);change wpList _ _ _ _ _ wr.drew;generalize wr.drew=y11 at l M⊢;clear T Q b1 b2 O;go_wp2_with fail
     refine(C.out.dC (m:Int) 0 (l'.drop 1) _ l.out.at_.at_ l.out.calm ⟨by have:=HM.out;omega,by have:=HM.out;omega⟩ (by decide) M.out (GL (by rw[G5,v.out];decide))).mono ?_;rintro e bp⟨rfl,u⟩;have az:=GD (l.out.below C.out u);clear u l;go_wp2_with fail
     go_ret;exact⟨U8,V8,X8,_,d8,aJ,s8,_,_,_,pi,rfl,az.out,by rw[aZ.out];exact HT.out.tie⟩
 case false=>
  obtain⟨t,bc,aL,aF⟩:=nE fl;have bD:=GD aF;have hc:=C.out.append (Wl.dn t) (.slice none 0 0) (.slice none 0 0) (.slice none 0 0) (.slice none 0 0) (.slice none 0 0) o.out.at_.at_.log (tD z1 aF) (Wl.oZ t) (by rw[o.out.ep];decide) (by have:=o.out.stop;have:=HK.out;omega);rw[show cz (Wl.dn t) (.slice none 0 0) (.slice none 0 0) (.slice none 0 0) (.slice none 0 0) (.slice none 0 0)=.agg #[.int .i64 4,.int .u64 0,.int .u32 0,.int .u64 (t:Int),.int .u32 0,.int .u16 0,.slice none 0 0,.slice none 0 0,.slice none 0 0,.int .u64 0,.int .u64 0,.bool false,.int .u64 0,.slice none 0 0,.slice none 0 0]from rfl]at hc;have hM:=Wl.oY (s:=lg) aL;by_cases af:(Wl.size (Wl.aV lg (Wl.dn t)):Int)<=Wl.left lg
  case neg=>
   as_aux_lemma=>
    rw[Wl.eO hM af,show((0:Nat):Int)=0 from rfl,show((5:Nat):Int)=5 from rfl]at hc;have aC:=GD hc;clear hc hM af aL aF;go_wp2_with fail
    refine aC.out.mono ?_;rintro e y⟨rfl,I,hL,hT,hG⟩;have a:=o.out.append C.out hL hT hG (GH _) (GH _) rfl rfl rfl (G8 K) (by have:=o.out.stop;omega);have f:=GD a;clear aC hL hT hG a Q b1 b2 O bc;go_wp2_with fail
    go_ret;exact⟨U,I,X,Z,d,lg,s,N,fi,di,pi,rfl,f.out,HT.out.tie⟩
  case pos=>
   as_aux_lemma=>
    rw[Wl.eP hM af,show((0:Nat):Int)=0 from rfl]at hc;have aC:=GD hc;have aX:Hid ((Wl.app lg (Wl.dn t)).stop=lg.stop+27):=by show lg.stop+Wl.size _=_;rw[Wl.lT]
    clear hc hM af aL aF;go_wp2_with fail
    refine aC.out.mono ?_;rintro e y6⟨rfl,I,hL,hT,hG⟩;obtain⟨ah,aN⟩:∃x,x=Wl.app lg (Wl.dn t):=⟨_,rfl⟩
    have D:ah.stop=lg.stop+27:=by rw[aN];exact aX.out
    have a:=o.out.append C.out hL hT hG (GH _) (by rw[aX.out];omega) rfl rfl rfl (G8 K) (by rw[aX.out];have:=o.out.stop;omega);rw[<-aN]at a;have f:=GD a;have J:=GD (au.out.aj hT (fun h=>aE.out.1 bx (GL (GJ h)) rfl));have aD:Hid (bx<y6.heap.size):=GN J.out.row;have ag:Hid (∀i,aB U I X i->i≠bx):=fun i a e=>by
     rcases a with a|a|a
     ·exact aE.out.1 i (GJ a) e
     ·rcases hG i a with h|h
      ·exact aE.out.1 i (GL (GJ h)) e
      ·have:=GN au.out.row;omega
     ·exact aE.out.1 i (GL (GL a)) e
    obtain⟨ls,bd⟩:∃n,n=lg.stop:=⟨_,rfl⟩
    have bz:Hid (ls<ah.stop):=GD (by omega);have a2:Hid (ls<18446744073709551616):=GD (by have:=o.out.stop;have:=HK.out;omega);rw[<-bd];obtain⟨U6,bn⟩:∃x,x=U:=⟨_,rfl⟩
    obtain⟨V6,bm⟩:∃x,x=I:=⟨_,rfl⟩
    obtain⟨X6,bl⟩:∃x,x=X:=⟨_,rfl⟩
    rw[<-bn,<-bm,<-bl]at f ag;clear aC hL hT hG aN D a bd bn bm bl Q b1 b2 O bc;obtain⟨Q,b1,b2,O⟩:=J.out.cells;go_wp2_with fail
    refine(bM fl y6).mono ?_;rintro e y7⟨g,rfl,aQ,H,u⟩;have q:=GD (f.out.below C.out u);have aa:=GD (u.box J.out);have G:=GD H;have r:Hid ((∀i,aB U6 V6 X6 i->i<g)/\(∀i,Z i->i<g)/\base<=g/\g<y7.heap.size):=GD ⟨fun i a=>(by have:=C.out.lt f.out.at_.at_ i a;omega),fun i a=>(by have:=(f.out.ref.low i a).2;omega),(by have:=f.out.bw;omega),(World.ownsRow.lt H.own g rfl).2⟩;clear aQ H u f J Q b1 b2 O;obtain⟨Q,b1,b2,O⟩:=aa.out.cells;go_wp2_with fail
    refine(C.out.nZ m (ls,Po.ck fl) _ q.out.at_.at_ q.out.calm (by rw[q.out.ar];have:=HM.out;show(m:Int)<16;omega) (fun h=>h.elim a6.out fun h=>h a8.out) (Po.ig fl a2.out) G.out.aP).mono ?_;rintro e y8⟨rfl,hw⟩;obtain⟨U8,V8,X8,d8,aJ,s8,a,Y,an,ak⟩:∃U' I X' d' ai s',dt PL PO Hw base F (K+1) U' I X' Z w0 y8 B L P R d' ai s' N fi di pi/\Touch (aB U6 V6 X6) y7 y8/\(∀i,aB U' I X' i->aB U6 V6 X6 i\/y7.heap.size<=i)/\s'=s:=by
     obtain⟨U',I,X',h1,h2,h3⟩:=q.out.fe hw q.out.calm (GJ rfl) rfl rfl (GH _) q.out.pins;exact⟨U',I,X',d,ah,s,h1,h2,h3,rfl⟩
    clear hw;have ay:=GD a;have aZ:=GD ak;have aq:=GD (aa.out.aj Y (fun h=>ag.out bx h rfl));have ad:Hid ((∀i,aB U8 V8 X8 i->¬i=g)/\(∀i,Z i->¬i=g)/\base<=g):=GD ⟨fun i a e=>(by
     rcases an i a with h|h
     ·have:=r.out.1 i h;omega
     ·have:=r.out.2.2.2;omega),fun i a e=>(by have:=r.out.2.1 i a;omega),r.out.2.2.1⟩
    have av:=GD (G.out.aj Y fun b u h=>by
     simp only[Value.ownBlock,GO]at u;have:=r.out.1 b h;omega)
    have a1:Hid (bx≠g):=fun e=>by have h1:=(World.ownsRow.lt G.out.own g rfl).1;have h2:=aD.out;omega
    clear a Y an ak Q b1 b2 O q aa G r;go_wp2_with fail
    go_loopw [24] (fun iv wr=>∃(j:Nat)(l':List Nat),j<=500/\iv=.int .i64 (j:Int)/\l'.length=500/\Own y6.heap.size wr (.slice (some ⟨g,0,none⟩) 500 500) l'/\Touch (·=g) y8 wr) (fun iv _=>500-(intOf iv).toNat)
    case atStart=>exact⟨0,_,G7 _,rfl,Po.aW fl,av.out,Touch.refl _ _⟩
    case round=>
     obtain⟨j,l',hj,rfl,hl,H,hT⟩:=hrel;have ax:=GD hj;have v:=GD hl;have ab:=GD H;have E:=GD hT;clear hj hl H hT;by_cases hlt:j<500
     ·have aw:=GD hlt;have bt:(j:Int)<500:=by omega
      have bu:(0:Int)<=(j:Int):=by omega
      obtain⟨cj,fj⟩:=ab.out.cellAt v.out j hlt;obtain⟨D,-⟩:=ab.out.stored v.out j 0 (by decide);rw[show((0:Nat):Int)=0 from rfl]at D;have aY:=GD D;have aU:Hid (Touch (·=g) y8 (wr.setCell ⟨g,j,none⟩ (.int .u8 0))):=E.out.trans (Touch.set (S:=(·=g)) g j _ rfl);have bs:=GW ((j:Int)+1) (by omega);clear D hlt;go_wp2_with fail
      go_roundw
      case rel=>exact⟨j+1,_,aw.out,by go_num,by rw[G4];exact v.out,aY.out,aU.out⟩
      case measure=>have:=aw.out;simp[intOf];omega
     ·obtain rfl:j=500:=by have:=ax.out;omega
      rw[show((500:Nat):Int)=500 from rfl];clear hlt;have a7:=GD (ay.out.bq C.out E.out ad.out.1 ad.out.2.1 (fun i e=>by rw[show i=g from e];exact ad.out.2.2));have aS:=GD (aq.out.aj E.out a1.out);clear ay aq av E ax;obtain⟨Q,b1,b2,O⟩:=aS.out.cells;have ao:=ab.out.aP.kI v.out;have ba:=GD ao;clear ao;go_upto_region 38 with(fail)
      go_still_tail 6,(by kernel_rfl)
      have T:Below wr.heap.size wr wr.drew:=(GF _ _).ij;have l:=GD (a7.out.below C.out T);have M:=GD (ba.out.below T);change wpList _ _ _ _ _ wr.drew;generalize wr.drew=y11 at l M⊢;clear T Q b1 b2 O;go_wp2_with fail
      refine(C.out.dC (m:Int) 0 (l'.drop 1) _ l.out.at_.at_ l.out.calm ⟨by have:=HM.out;omega,by have:=HM.out;omega⟩ (by decide) M.out (GL (by rw[G5,v.out];decide))).mono ?_;rintro e bp⟨rfl,u⟩;have az:=GD (l.out.below C.out u);clear u l;go_wp2_with fail
      go_ret;exact⟨U8,V8,X8,_,d8,aJ,s8,_,_,_,pi,rfl,az.out,by rw[aZ.out];exact HT.out.tie⟩
end
section
variable{PD:(Nat->Prop)->World->Nat->Dk.ak->Prop}{PL:(Nat->Prop)->(Nat->Prop)->World->Nat->Nat->Dk.ak->Wl.S->Prop}{PO:(Nat->Prop)->World->Nat->Nat->Nat->Po.S->Prop}{Hd:Dk.ak->Wl.S->Prop}{Hw:Dk.ak->Po.Ar->(Nat->Po.Pg)->Prop}{Hp:Dk.ak->Po.Ar->(Nat->Po.Pg->Prop)->Prop}
variable{U V X Z:Nat->Prop}{w w' w0:World}{B L P R base F K:Nat}{d:Dk.ak}{lg:Wl.S}{s:Po.S}{N:List Po.Pg}{fi:List Nat}{di:List Bool}{pi:List Nat}
set_option maxHeartbeats 6400000 in
set_option maxRecDepth 20000 in
theorem uK(A:bh PD PL PO Hd Hw Hp)(h:dt PL PO Hw base F K U V X Z w0 w B L P R d lg s N fi di pi)(ht:Po.cW s N fi di pi)(hk:K<=150)(hf:1<=F/\F<=12)(fl:Int)(bR:bF fl)(br:Bool)(m:Nat)(hm:m<16)(bN:m∉s.held)(bQ:¬Po.Full s):
 Calls Tryz.prog 10 #[.pointer (some ⟨L,0,none⟩),.pointer (some ⟨P,0,none⟩),.pointer (some ⟨R,0,none⟩),.int .i64 (F:Int),.agg #[.int .i64 1,.int .i64 (m:Int),.int .i64 fl,.bool br]] w fun e w'=>cF PL PO Hw base F K w0 B L P R e w':=by
 have O:=GD A;have HT:=GD ht;have HK:=GD hk;have HF:=GD hf;have b9:=GD bR;have HM:=GD hm;have b4:=GD bN;have bH:=GD bQ;obtain⟨W,hW⟩:∃W,W=w.alloc (.cells #[.int .i64 1,.int .i64 (m:Int),.int .i64 fl,.bool br] 32):=⟨_,rfl⟩
 have aK:W.heap[w.heap.size]?=some (.cells #[.int .i64 1,.int .i64 (m:Int),.int .i64 fl,.bool br] 32 (0,0)):=by rw[hW];exact GM _ _
 have q:Below w.heap.size w W:=by rw[hW];exact ae _ _
 obtain⟨bx,bt⟩:∃B,B=w.heap.size:=⟨_,rfl⟩
 rw[<-bt]at aK;have bu:Hid (iM W bx 1 (m:Int) fl br):=GD ⟨aK⟩;have bJ:=GD q;have bf:=GD (h.below A q);have aE:Hid ((∀i,aB U V X i->i≠bx)/\(∀i,Z i->i≠bx)):=GD ⟨fun i f e=>(by have:=A.lt h.at_.at_ i f;omega),fun i f e=>(by have:=(h.ref.low i f).2;omega)⟩;clear A h ht hk hf bR aK q hm bN bQ;go_enter Tryz.func10,Tryz.ntmps10;go_upto_region 1 with(fail)
 rw[<-hW,<-bt];clear hW bt;obtain⟨b0,b1,b2,b3⟩:=bu.out.cells;have b6:(0:Int)<=(m:Int):=by omega
 have b5:(m:Int)<16:=by have:=HM.out;omega
 go_wp2_with fail
 refine(O.out.held bf.out.at_.at_ bf.out.calm).mono ?_;rintro e z1⟨hv,rfl,M,q⟩;obtain⟨hp,hc,rfl⟩:∃p c,hv=.slice p (s.held.map fun k:Nat=>(k:Int)).length c:=by
  obtain⟨p,c,e,-⟩:=M.aP.form;exact⟨p,c,e⟩
 obtain⟨hl,bO⟩:∃n,n=(s.held.map fun k:Nat=>(k:Int)).length:=⟨_,rfl⟩
 have I:=GD (bf.out.below O.out q);have aU:=GD (q.box bu.out);have ca:Hid (Below w.heap.size w z1):=bJ.out.trans (q.mono bJ.out.size);clear q bf bu bJ;have ba:=GD (aM z1 _ _ (m:Int) M.aP (by rw[Hb];have:=(I.out.aI O.out).lS;have:=I.out.fr;have:=HF.out;omega));rw[Po.mem_cast]at ba;clear M;rw[<-bO]at ba⊢;clear bO b0 b1 b2 b3;obtain⟨b0,b1,b2,b3⟩:=aU.out.cells;rw[show decide (m∈s.held)=false from GY b4.out]at ba;go_wp2_with fail
 refine ba.out.mono ?_;rintro e z⟨rfl,rfl⟩;clear ba;go_wp2_with fail
 refine(bo z1 I.out.ref (fun i f=>by rw[HT.out.tie.pins i f];have:=I.out.pins i;have:=HK.out;omega)).mono ?_;rintro e z⟨rfl,rfl⟩;have b7:¬((F:Int)<=(Po.fD pi:Int)):=fun h=>bH.out ((Po.df (I.out.aI O.out) I.out.ar I.out.ref.lp HT.out.tie.pins).1 (by rw[I.out.fr];omega));cases br;case true=>
  as_aux_lemma=>
   have C:=GD (I.out.more (G8 K));have av:=GD aU.out;obtain⟨y6,bk⟩:∃y,y=z1:=⟨_,rfl⟩
   have bc:Hid (bx<y6.heap.size):=by show _<_;rw[bk];exact GN aU.out.row
   rw[<-bk]at C av b0 b1 b2 b3⊢;clear bk;obtain⟨U6,V6,X6,aH,bp,bg⟩:∃U' V' X' az,dt PL PO Hw base F (K+1) U' V' X' Z w0 y6 B L P R d az s N fi di pi/\∀i,aB U' V' X' i->i≠bx:=⟨U,V,X,lg,C.out,aE.out.1⟩
   have aG:=GD bg;clear C bg;have C:=GD bp;have bE:Hid (0<aH.stop):=GD (by have:=(bp.at_.at_.fY 0).2;omega);have bG:Hid (0<18446744073709551616):=by show 0<_;decide
   clear bp;go_wp2_with fail
   refine(bM fl y6).mono ?_;rintro e y7⟨G,rfl,bs,M,q⟩;have u:=GD (C.out.below O.out q);have aD:=GD (q.box av.out);have aq:=GD M;have Q:Hid ((∀i,aB U6 V6 X6 i->i<G)/\(∀i,Z i->i<G)/\base<=G/\G<y7.heap.size):=GD ⟨fun i f=>(by have:=O.out.lt C.out.at_.at_ i f;omega),fun i f=>(by have:=(C.out.ref.low i f).2;omega),(by have:=C.out.bw;omega),(World.ownsRow.lt M.own G rfl).2⟩;clear bs M q C av b0 b1 b2 b3;obtain⟨b0,b1,b2,b3⟩:=aD.out.cells;go_wp2_with fail
   refine(O.out.put m (0,Po.ck fl) _ u.out.at_.at_ (u.out.cy O.out) (by have:=u.out.stop;have:=HK.out;omega) (by rw[u.out.ar];have:=HM.out;show(m:Int)<16;omega) (GL bH.out) (Po.ig fl bG.out) aq.out.aP bE.out).mono ?_;rintro e y8 h;obtain⟨d8,bj,s8,rfl,hw,-,hC,hl,Y⟩:∃d' az s',e=.returned (.int .i64 0)/\cA PL PO Hw U6 V6 X6 y7 B L P y8 d' az s'/\Wl.aX 120 d'/\(Wl.Calm 120 d->Wl.Calm 120 d')/\Po.Lf aH az/\Po.kJ s m (0,Po.ck fl) s':=by
    rcases h with h|⟨h,-⟩
    ·exact h
    ·exact absurd u.out.calm h
   obtain⟨U8,V8,X8,f,aC,aO⟩:=u.out.fe hw (hC u.out.calm) hl Y.ar Y.ao (GH _) (fun j=>by rw[Y.pins];exact u.out.pins j);have bz:=GD (Po.kx.put HT.out Y (f.aI O.out) HM.out f.ref.lN f.ref.lf f.ref.ld);clear h hw hC hl;have a6:=GD f;have aS:=GD (aD.out.aj aC (fun h=>aG.out bx h rfl));have au:Hid ((∀i,aB U8 V8 X8 i->¬i=G)/\(∀i,Z i->¬i=G)/\base<=G):=GD ⟨fun i f e=>(by
    rcases aO i f with h|h
    ·have:=Q.out.1 i h;omega
    ·have:=Q.out.2.2.2;omega),fun i f e=>(by have:=Q.out.2.1 i f;omega),Q.out.2.2.1⟩
   have aY:=GD (aq.out.aj aC fun b q h=>by
    simp only[Value.ownBlock,GO]at q;have:=Q.out.1 b h;omega)
   have bD:Hid (bx≠G):=fun e=>by have h1:=(World.ownsRow.lt aq.out.own G rfl).1;have h2:=bc.out;omega
   clear f aC aO Y b0 b1 b2 b3 u aD aq Q;go_wp2_with fail
   go_loopw [24] (fun iv wr=>∃(j:Nat)(l':List Nat),j<=500/\iv=.int .i64 (j:Int)/\l'.length=500/\Own y6.heap.size wr (.slice (some ⟨G,0,none⟩) 500 500) l'/\Touch (·=G) y8 wr) (fun iv _=>500-(intOf iv).toNat)
   case atStart=>exact⟨0,_,G7 _,rfl,Po.aW fl,aY.out,Touch.refl _ _⟩
   case round=>
    obtain⟨j,l',hj,rfl,hl,M,hT⟩:=hrel;have a2:=GD hj;have ad:=GD hl;have an:=GD M;have al:=GD hT;clear hj hl M hT;by_cases hlt:j<500
    ·have a1:=GD hlt;have bX:(j:Int)<500:=by omega
     have bY:(0:Int)<=(j:Int):=by omega
     obtain⟨cj,fj⟩:=an.out.cellAt ad.out j hlt;obtain⟨ah,-⟩:=an.out.stored ad.out j 0 (by decide);rw[show((0:Nat):Int)=0 from rfl]at ah;have bC:=GD ah;have bA:Hid (Touch (·=G) y8 (wr.setCell ⟨G,j,none⟩ (.int .u8 0))):=al.out.trans (Touch.set (S:=(·=G)) G j _ rfl);have bW:=GW ((j:Int)+1) (by omega);clear ah hlt;go_wp2_with fail
     go_roundw
     case rel=>exact⟨j+1,_,a1.out,by go_num,by rw[G4];exact ad.out,bC.out,bA.out⟩
     case measure=>have:=a1.out;simp[intOf];omega
    ·obtain rfl:j=500:=by have:=a2.out;omega
     rw[show((500:Nat):Int)=500 from rfl];clear hlt;have r:=GD (a6.out.bq O.out al.out au.out.1 au.out.2.1 (fun i e=>by rw[show i=G from e];exact au.out.2.2));have ak:=GD (aS.out.aj al.out bD.out);clear a6 aS aY al a2;obtain⟨b0,b1,b2,b3⟩:=ak.out.cells;go_upto_region 37 with(fail)
     have C1:=GD b1;have C2:=GD b2;have ag:Hid (bx<wr.heap.size):=GN ak.out.row;have aR:Hid (∀i,Z i->i<wr.heap.size):=fun i f=>(r.out.ref.low i f).2;clear b0 b1 b2 b3;refine Ord.walk (js R bx m 0 fl wr.heap.size) (fun D xs w'=>tY base R Z wr (N.set m (0,Po.ck fl)) (if di.getD m false=true then fi else fi.set m 0) (di.set m true) pi D xs w') (fun a b=>Touch Z a b)
      (by kernel_rfl) (by kernel_rfl) ?fra ?hfra (fun i v w w' q h=>j5 _ _ _ _ _ _ aR.out i v w w' q h) (fun xs=>tY.first xs) ?hea ?henda
     case hfra=>
      intro xs;simp only[Ord.fill,Act.put,GP,GX,GV];rfl
     case hea=>
      iterate 9 (refine Ord.aa (fun D xs w2 hD hC hP hR E K J=>?_) ?_;rotate_left)
      rotate_left
      ·clear E;have o:D 8=false:=by
        cases hx:D 8 with
        |false=>rfl
        |true=>exact absurd (Ord.af hC 8 0 rfl hx) (by rw[hD];decide)
       have l:=hR.fb o;go_simp;exact J _ _ ⟨_,rfl,Touch.refl _ _,hR.step 0 (by decide) o (GF _ _),rfl⟩
      ·clear E;have o:D 8=false:=by
        cases hx:D 8 with
        |false=>rfl
        |true=>exact absurd (Ord.af hC 2 1 rfl (Ord.af hC 8 2 rfl hx)) (by rw[hD];decide)
       have l:=hR.fb o;go_simp;exact J _ _ ⟨_,rfl,Touch.refl _ _,hR.step 1 (by decide) o (GF _ _),rfl⟩
      ·have q1:=Ord.ab _ E 1 (by decide);simp only[js]at q1;simp only[q1]at J;clear E;have o:D 8=false:=by
        cases hx:D 8 with
        |false=>rfl
        |true=>exact absurd (Ord.af hC 8 2 rfl hx) (by rw[hD];decide)
       have l:=hR.fb o;have cc:=(l.cell (p:=⟨bx,1,none⟩) ag.out).trans C1.out;go_simp;exact J _ _ ⟨_,rfl,Touch.refl _ _,hR.step 2 (by decide) o (GF _ _),rfl⟩
      ·clear E;have o:D 8=false:=by
        cases hx:D 8 with
        |false=>rfl
        |true=>exact absurd (Ord.af hC 7 3 rfl (Ord.af hC 8 7 rfl hx)) (by rw[hD];decide)
       have l:=hR.fb o;go_simp;exact J _ _ ⟨_,rfl,Touch.refl _ _,hR.step 3 (by decide) o (GF _ _),rfl⟩
      ·clear E;have o:D 8=false:=by
        cases hx:D 8 with
        |false=>rfl
        |true=>exact absurd (Ord.af hC 5 4 rfl (Ord.af hC 6 5 rfl (Ord.af hC 7 6 rfl (Ord.af hC 8 7 rfl hx)))) (by rw[hD];decide)
       have l:=hR.fb o;go_simp;exact J _ _ ⟨_,rfl,Touch.refl _ _,hR.step 4 (by decide) o (GF _ _),rfl⟩
      ·have q4:=Ord.ab _ E 4 (by decide);simp only[js]at q4;simp only[q4]at J;clear E;have o:D 8=false:=by
        cases hx:D 8 with
        |false=>rfl
        |true=>exact absurd (Ord.af hC 6 5 rfl (Ord.af hC 7 6 rfl (Ord.af hC 8 7 rfl hx))) (by rw[hD];decide)
       have l:=hR.fb o;have cc:=(l.cell (p:=⟨bx,2,none⟩) ag.out).trans C2.out;go_simp;exact J _ _ ⟨_,rfl,Touch.refl _ _,hR.step 5 (by decide) o (GF _ _),rfl⟩
      ·have q5:=Ord.ab _ E 5 (by decide);simp only[js]at q5;simp only[q5]at J;clear E;have o:D 8=false:=by
        cases hx:D 8 with
        |false=>rfl
        |true=>exact absurd (Ord.af hC 7 6 rfl (Ord.af hC 8 7 rfl hx)) (by rw[hD];decide)
       have l:=hR.fb o;go_simp;refine(bM fl w2).mono ?_;rintro e w'⟨g,rfl,hg,M,q⟩;exact J _ _ ⟨_,rfl,Touch.ax q,hR.step 6 (by decide) o q,⟨g,rfl,GR l.size hg,M.from l.size⟩⟩
      ·have q3:=Ord.ab _ E 3 (by decide);simp only[js]at q3;have q6:=Ord.ab _ E 6 (by decide);simp only[js]at q6;obtain⟨g,e6,hg,M⟩:=q6;simp only[q3]at J;clear E;have o:D 8=false:=by
        cases hx:D 8 with
        |false=>rfl
        |true=>exact absurd (Ord.af hC 8 7 rfl hx) (by rw[hD];decide)
       have l:=hR.fb o;simp only[e6]at J;go_simp;exact J _ _ ⟨_,rfl,Touch.refl _ _,hR.step 7 (by decide) o (GF _ _),⟨g,rfl,hg,M⟩⟩
      ·have q0:=Ord.ab _ E 0 (by decide);simp only[js]at q0;have q2:=Ord.ab _ E 2 (by decide);simp only[js]at q2;have q7:=Ord.ab _ E 7 (by decide);simp only[js]at q7;obtain⟨g,e7,hg,M⟩:=q7;simp only[q0,q2]at J;clear E;simp only[e7]at J;have l:=hR.fb hD;have hr:=r.out.ref.below l;have aN:=(World.ownsRow.lt M.own g rfl).2;go_simp;refine(jf w2 hr HM.out 0 (.slice (some ⟨g,0,none⟩) 500 500) (Po.ck fl) (M.from r.out.bw) (fun i=>Z i\/i=g) (fun j hj=>GJ hj) (fun j hj=>GL (by simp only[Value.ownBlock,GO]at hj;exact hj.symm)) (fun j hj=>by
        rcases hj with hj|rfl
        ·exact hr.low j hj
        ·exact⟨GR r.out.bw hg,aN⟩) (Po.aW fl) (fun b q hz=>by
        simp only[Value.ownBlock,GO]at q;have:=(r.out.ref.low b hz).2;omega)).mono ?_
       rintro e w'⟨rfl,bm,aJ⟩;exact J _ _ ⟨_,rfl,aJ,hR.last hD aJ hg bm aN,trivial⟩
      exact Ord.ay
     case henda=>
      intro D xs T hR hF;obtain⟨g3,bZ,aL,ai,bP⟩:=hR.fin (hF 8 (by decide)).1;have a8:=GD (r.out.gS O.out aL ai fun i f hz=>by
       rcases hz with hz|rfl
       ·exact r.out.ap i f hz
       ·have:=O.out.lt r.out.at_.at_ i f;omega)
      have aT:=GD (ak.out.aj ai (fun h=>aE.out.2 bx h rfl));have aZ:=GD (an.out.aj ai fun b q h=>au.out.2.1 b h (by simp only[Value.ownBlock,GO]at q;exact q.symm));clear hF hR aL ai r ak an C1 C2 ag aR;generalize xs 0=x0 at*
      generalize xs 1=x1 at*
      generalize xs 2=x2 at*
      generalize xs 3=x3 at*
      generalize xs 4=x4 at*
      generalize xs 5=x5 at*
      generalize xs 6=x6 at*
      generalize xs 7=x7 at*
      generalize xs 8=x8 at*
      obtain⟨b0,b1,b2,b3⟩:=aT.out.cells;have aQ:=aZ.out.aP.kI ad.out;have bI:=GD aQ;clear aQ;go_upto_region 38 with(fail)
      go_still_tail 6,(by kernel_rfl)
      have aA:Below T.heap.size T T.drew:=(GF _ _).ij;have H:=GD (a8.out.below O.out aA);have aw:=GD (bI.out.below aA);change wpList _ _ _ _ _ T.drew;generalize T.drew=y11 at H aw⊢;clear aA b0 b1 b2 b3;go_wp2_with fail
      refine(O.out.dC (m:Int) 0 (l'.drop 1) _ H.out.at_.at_ H.out.calm ⟨by have:=HM.out;omega,by have:=HM.out;omega⟩ (by decide) aw.out (GL (by rw[G5,ad.out];decide))).mono ?_;rintro e bV⟨rfl,q⟩;have a7:=GD (H.out.below O.out q);clear q H;go_wp2_with fail
      go_ret;exact⟨U8,V8,X8,_,d8,bj,s8,_,_,_,pi,rfl,a7.out,bz.out⟩
 case false=>
  obtain⟨t,bK,bl,bd⟩:=nE fl;have b8:=GD bd;have hc:=O.out.append (Wl.dn t) (.slice none 0 0) (.slice none 0 0) (.slice none 0 0) (.slice none 0 0) (.slice none 0 0) I.out.at_.at_.log (tD z1 bd) (Wl.oZ t) (by rw[I.out.ep];decide) (by have:=I.out.stop;have:=HK.out;omega);rw[show cz (Wl.dn t) (.slice none 0 0) (.slice none 0 0) (.slice none 0 0) (.slice none 0 0) (.slice none 0 0)=.agg #[.int .i64 4,.int .u64 0,.int .u32 0,.int .u64 (t:Int),.int .u32 0,.int .u16 0,.slice none 0 0,.slice none 0 0,.slice none 0 0,.int .u64 0,.int .u64 0,.bool false,.int .u64 0,.slice none 0 0,.slice none 0 0]from rfl]at hc;have hM:=Wl.oY (s:=lg) bl;by_cases aF:(Wl.size (Wl.aV lg (Wl.dn t)):Int)<=Wl.left lg
  case neg=>
   as_aux_lemma=>
    rw[Wl.eO hM aF,show((0:Nat):Int)=0 from rfl,show((5:Nat):Int)=5 from rfl]at hc;have bb:=GD hc;clear hc hM aF bl bd;go_wp2_with fail
    refine bb.out.mono ?_;rintro e y⟨rfl,V',hL,hT,hG⟩;have f:=I.out.append O.out hL hT hG (GH _) (GH _) rfl rfl rfl (G8 K) (by have:=I.out.stop;omega);have C:=GD f;clear bb hL hT hG f b0 b1 b2 b3 bK;go_wp2_with fail
    go_ret;exact⟨U,V',X,Z,d,lg,s,N,fi,di,pi,rfl,C.out,HT.out.tie⟩
  case pos=>
   as_aux_lemma=>
    rw[Wl.eP hM aF,show((0:Nat):Int)=0 from rfl]at hc;have bb:=GD hc;have bB:Hid ((Wl.app lg (Wl.dn t)).stop=lg.stop+27):=by show lg.stop+Wl.size _=_;rw[Wl.lT]
    clear hc hM aF bl bd;go_wp2_with fail
    refine bb.out.mono ?_;rintro e y6⟨rfl,V',hL,hT,hG⟩;obtain⟨aH,bn⟩:∃x,x=Wl.app lg (Wl.dn t):=⟨_,rfl⟩
    have ah:aH.stop=lg.stop+27:=by rw[bn];exact bB.out
    have f:=I.out.append O.out hL hT hG (GH _) (by rw[bB.out];omega) rfl rfl rfl (G8 K) (by rw[bB.out];have:=I.out.stop;omega);rw[<-bn]at f;have C:=GD f;have av:=GD (aU.out.aj hT (fun h=>aE.out.1 bx (GL (GJ h)) rfl));have bc:Hid (bx<y6.heap.size):=GN av.out.row;have aG:Hid (∀i,aB U V' X i->i≠bx):=fun i f e=>by
     rcases f with f|f|f
     ·exact aE.out.1 i (GJ f) e
     ·rcases hG i f with h|h
      ·exact aE.out.1 i (GL (GJ h)) e
      ·have:=GN aU.out.row;omega
     ·exact aE.out.1 i (GL (GL f)) e
    obtain⟨ls,bL⟩:∃n,n=lg.stop:=⟨_,rfl⟩
    have bE:Hid (ls<aH.stop):=GD (by omega);have bG:Hid (ls<18446744073709551616):=GD (by have:=I.out.stop;have:=HK.out;omega);rw[<-bL];obtain⟨U6,bU⟩:∃x,x=U:=⟨_,rfl⟩
    obtain⟨V6,bT⟩:∃x,x=V':=⟨_,rfl⟩
    obtain⟨X6,bS⟩:∃x,x=X:=⟨_,rfl⟩
    rw[<-bU,<-bT,<-bS]at C aG;clear bb hL hT hG bn ah f bL bU bT bS b0 b1 b2 b3 bK;obtain⟨b0,b1,b2,b3⟩:=av.out.cells;go_wp2_with fail
    refine(bM fl y6).mono ?_;rintro e y7⟨G,rfl,bs,M,q⟩;have u:=GD (C.out.below O.out q);have aD:=GD (q.box av.out);have aq:=GD M;have Q:Hid ((∀i,aB U6 V6 X6 i->i<G)/\(∀i,Z i->i<G)/\base<=G/\G<y7.heap.size):=GD ⟨fun i f=>(by have:=O.out.lt C.out.at_.at_ i f;omega),fun i f=>(by have:=(C.out.ref.low i f).2;omega),(by have:=C.out.bw;omega),(World.ownsRow.lt M.own G rfl).2⟩;clear bs M q C av b0 b1 b2 b3;obtain⟨b0,b1,b2,b3⟩:=aD.out.cells;go_wp2_with fail
    refine(O.out.put m (ls,Po.ck fl) _ u.out.at_.at_ (u.out.cy O.out) (by have:=u.out.stop;have:=HK.out;omega) (by rw[u.out.ar];have:=HM.out;show(m:Int)<16;omega) (GL bH.out) (Po.ig fl bG.out) aq.out.aP bE.out).mono ?_;rintro e y8 h;obtain⟨d8,bj,s8,rfl,hw,-,hC,hl,Y⟩:∃d' az s',e=.returned (.int .i64 0)/\cA PL PO Hw U6 V6 X6 y7 B L P y8 d' az s'/\Wl.aX 120 d'/\(Wl.Calm 120 d->Wl.Calm 120 d')/\Po.Lf aH az/\Po.kJ s m (ls,Po.ck fl) s':=by
     rcases h with h|⟨h,-⟩
     ·exact h
     ·exact absurd u.out.calm h
    obtain⟨U8,V8,X8,f,aC,aO⟩:=u.out.fe hw (hC u.out.calm) hl Y.ar Y.ao (GH _) (fun j=>by rw[Y.pins];exact u.out.pins j);have bz:=GD (Po.kx.put HT.out Y (f.aI O.out) HM.out f.ref.lN f.ref.lf f.ref.ld);clear h hw hC hl;have a6:=GD f;have aS:=GD (aD.out.aj aC (fun h=>aG.out bx h rfl));have au:Hid ((∀i,aB U8 V8 X8 i->¬i=G)/\(∀i,Z i->¬i=G)/\base<=G):=GD ⟨fun i f e=>(by
     rcases aO i f with h|h
     ·have:=Q.out.1 i h;omega
     ·have:=Q.out.2.2.2;omega),fun i f e=>(by have:=Q.out.2.1 i f;omega),Q.out.2.2.1⟩
    have aY:=GD (aq.out.aj aC fun b q h=>by
     simp only[Value.ownBlock,GO]at q;have:=Q.out.1 b h;omega)
    have bD:Hid (bx≠G):=fun e=>by have h1:=(World.ownsRow.lt aq.out.own G rfl).1;have h2:=bc.out;omega
    clear f aC aO Y b0 b1 b2 b3 u aD aq Q;go_wp2_with fail
    go_loopw [24] (fun iv wr=>∃(j:Nat)(l':List Nat),j<=500/\iv=.int .i64 (j:Int)/\l'.length=500/\Own y6.heap.size wr (.slice (some ⟨G,0,none⟩) 500 500) l'/\Touch (·=G) y8 wr) (fun iv _=>500-(intOf iv).toNat)
    case atStart=>exact⟨0,_,G7 _,rfl,Po.aW fl,aY.out,Touch.refl _ _⟩
    case round=>
     obtain⟨j,l',hj,rfl,hl,M,hT⟩:=hrel;have a2:=GD hj;have ad:=GD hl;have an:=GD M;have al:=GD hT;clear hj hl M hT;by_cases hlt:j<500
     ·have a1:=GD hlt;have bX:(j:Int)<500:=by omega
      have bY:(0:Int)<=(j:Int):=by omega
      obtain⟨cj,fj⟩:=an.out.cellAt ad.out j hlt;obtain⟨ah,-⟩:=an.out.stored ad.out j 0 (by decide);rw[show((0:Nat):Int)=0 from rfl]at ah;have bC:=GD ah;have bA:Hid (Touch (·=G) y8 (wr.setCell ⟨G,j,none⟩ (.int .u8 0))):=al.out.trans (Touch.set (S:=(·=G)) G j _ rfl);have bW:=GW ((j:Int)+1) (by omega);clear ah hlt;go_wp2_with fail
      go_roundw
      case rel=>exact⟨j+1,_,a1.out,by go_num,by rw[G4];exact ad.out,bC.out,bA.out⟩
      case measure=>have:=a1.out;simp[intOf];omega
     ·obtain rfl:j=500:=by have:=a2.out;omega
      rw[show((500:Nat):Int)=500 from rfl];clear hlt;have r:=GD (a6.out.bq O.out al.out au.out.1 au.out.2.1 (fun i e=>by rw[show i=G from e];exact au.out.2.2));have ak:=GD (aS.out.aj al.out bD.out);clear a6 aS aY al a2;obtain⟨b0,b1,b2,b3⟩:=ak.out.cells;go_upto_region 37 with(fail)
      have C1:=GD b1;have C2:=GD b2;have ag:Hid (bx<wr.heap.size):=GN ak.out.row;have aR:Hid (∀i,Z i->i<wr.heap.size):=fun i f=>(r.out.ref.low i f).2;clear b0 b1 b2 b3;refine Ord.walk (js R bx m ls fl wr.heap.size) (fun D xs w'=>tY base R Z wr (N.set m (ls,Po.ck fl)) (if di.getD m false=true then fi else fi.set m ls) (di.set m true) pi D xs w') (fun a b=>Touch Z a b)
       (by kernel_rfl) (by kernel_rfl) ?frb ?hfrb (fun i v w w' q h=>j5 _ _ _ _ _ _ aR.out i v w w' q h) (fun xs=>tY.first xs) ?heb ?hendb
      case hfrb=>
       intro xs;simp only[Ord.fill,Act.put,GP,GX,GV];rfl
      case heb=>
       iterate 9 (refine Ord.aa (fun D xs w2 hD hC hP hR E K J=>?_) ?_;rotate_left)
       rotate_left
       ·clear E;have o:D 8=false:=by
         cases hx:D 8 with
         |false=>rfl
         |true=>exact absurd (Ord.af hC 8 0 rfl hx) (by rw[hD];decide)
        have l:=hR.fb o;go_simp;exact J _ _ ⟨_,rfl,Touch.refl _ _,hR.step 0 (by decide) o (GF _ _),rfl⟩
       ·clear E;have o:D 8=false:=by
         cases hx:D 8 with
         |false=>rfl
         |true=>exact absurd (Ord.af hC 2 1 rfl (Ord.af hC 8 2 rfl hx)) (by rw[hD];decide)
        have l:=hR.fb o;go_simp;exact J _ _ ⟨_,rfl,Touch.refl _ _,hR.step 1 (by decide) o (GF _ _),rfl⟩
       ·have q1:=Ord.ab _ E 1 (by decide);simp only[js]at q1;simp only[q1]at J;clear E;have o:D 8=false:=by
         cases hx:D 8 with
         |false=>rfl
         |true=>exact absurd (Ord.af hC 8 2 rfl hx) (by rw[hD];decide)
        have l:=hR.fb o;have cc:=(l.cell (p:=⟨bx,1,none⟩) ag.out).trans C1.out;go_simp;exact J _ _ ⟨_,rfl,Touch.refl _ _,hR.step 2 (by decide) o (GF _ _),rfl⟩
       ·clear E;have o:D 8=false:=by
         cases hx:D 8 with
         |false=>rfl
         |true=>exact absurd (Ord.af hC 7 3 rfl (Ord.af hC 8 7 rfl hx)) (by rw[hD];decide)
        have l:=hR.fb o;go_simp;exact J _ _ ⟨_,rfl,Touch.refl _ _,hR.step 3 (by decide) o (GF _ _),rfl⟩
       ·clear E;have o:D 8=false:=by
         cases hx:D 8 with
         |false=>rfl
         |true=>exact absurd (Ord.af hC 5 4 rfl (Ord.af hC 6 5 rfl (Ord.af hC 7 6 rfl (Ord.af hC 8 7 rfl hx)))) (by rw[hD];decide)
        have l:=hR.fb o;go_simp;exact J _ _ ⟨_,rfl,Touch.refl _ _,hR.step 4 (by decide) o (GF _ _),rfl⟩
       ·have q4:=Ord.ab _ E 4 (by decide);simp only[js]at q4;simp only[q4]at J;clear E;have o:D 8=false:=by
         cases hx:D 8 with
         |false=>rfl
         |true=>exact absurd (Ord.af hC 6 5 rfl (Ord.af hC 7 6 rfl (Ord.af hC 8 7 rfl hx))) (by rw[hD];decide)
        have l:=hR.fb o;have cc:=(l.cell (p:=⟨bx,2,none⟩) ag.out).trans C2.out;go_simp;exact J _ _ ⟨_,rfl,Touch.refl _ _,hR.step 5 (by decide) o (GF _ _),rfl⟩
       ·have q5:=Ord.ab _ E 5 (by decide);simp only[js]at q5;simp only[q5]at J;clear E;have o:D 8=false:=by
         cases hx:D 8 with
         |false=>rfl
         |true=>exact absurd (Ord.af hC 7 6 rfl (Ord.af hC 8 7 rfl hx)) (by rw[hD];decide)
        have l:=hR.fb o;go_simp;refine(bM fl w2).mono ?_;rintro e w'⟨g,rfl,hg,M,q⟩;exact J _ _ ⟨_,rfl,Touch.ax q,hR.step 6 (by decide) o q,⟨g,rfl,GR l.size hg,M.from l.size⟩⟩
       ·have q3:=Ord.ab _ E 3 (by decide);simp only[js]at q3;have q6:=Ord.ab _ E 6 (by decide);simp only[js]at q6;obtain⟨g,e6,hg,M⟩:=q6;simp only[q3]at J;clear E;have o:D 8=false:=by
         cases hx:D 8 with
         |false=>rfl
         |true=>exact absurd (Ord.af hC 8 7 rfl hx) (by rw[hD];decide)
        have l:=hR.fb o;simp only[e6]at J;go_simp;exact J _ _ ⟨_,rfl,Touch.refl _ _,hR.step 7 (by decide) o (GF _ _),⟨g,rfl,hg,M⟩⟩
       ·have q0:=Ord.ab _ E 0 (by decide);simp only[js]at q0;have q2:=Ord.ab _ E 2 (by decide);simp only[js]at q2;have q7:=Ord.ab _ E 7 (by decide);simp only[js]at q7;obtain⟨g,e7,hg,M⟩:=q7;simp only[q0,q2]at J;clear E;simp only[e7]at J;have l:=hR.fb hD;have hr:=r.out.ref.below l;have aN:=(World.ownsRow.lt M.own g rfl).2;go_simp;refine(jf w2 hr HM.out ls (.slice (some ⟨g,0,none⟩) 500 500) (Po.ck fl) (M.from r.out.bw) (fun i=>Z i\/i=g) (fun j hj=>GJ hj) (fun j hj=>GL (by simp only[Value.ownBlock,GO]at hj;exact hj.symm)) (fun j hj=>by
         rcases hj with hj|rfl
         ·exact hr.low j hj
         ·exact⟨GR r.out.bw hg,aN⟩) (Po.aW fl) (fun b q hz=>by
         simp only[Value.ownBlock,GO]at q;have:=(r.out.ref.low b hz).2;omega)).mono ?_
        rintro e w'⟨rfl,bm,aJ⟩;exact J _ _ ⟨_,rfl,aJ,hR.last hD aJ hg bm aN,trivial⟩
       exact Ord.ay
      case hendb=>
       intro D xs T hR hF;obtain⟨g3,bZ,aL,ai,bP⟩:=hR.fin (hF 8 (by decide)).1;have a8:=GD (r.out.gS O.out aL ai fun i f hz=>by
        rcases hz with hz|rfl
        ·exact r.out.ap i f hz
        ·have:=O.out.lt r.out.at_.at_ i f;omega)
       have aT:=GD (ak.out.aj ai (fun h=>aE.out.2 bx h rfl));have aZ:=GD (an.out.aj ai fun b q h=>au.out.2.1 b h (by simp only[Value.ownBlock,GO]at q;exact q.symm));clear hF hR aL ai r ak an C1 C2 ag aR;generalize xs 0=x0 at*
       generalize xs 1=x1 at*
       generalize xs 2=x2 at*
       generalize xs 3=x3 at*
       generalize xs 4=x4 at*
       generalize xs 5=x5 at*
       generalize xs 6=x6 at*
       generalize xs 7=x7 at*
       generalize xs 8=x8 at*
       obtain⟨b0,b1,b2,b3⟩:=aT.out.cells;have aQ:=aZ.out.aP.kI ad.out;have bI:=GD aQ;clear aQ;go_upto_region 38 with(fail)
       go_still_tail 6,(by kernel_rfl)
       have aA:Below T.heap.size T T.drew:=(GF _ _).ij;have H:=GD (a8.out.below O.out aA);have aw:=GD (bI.out.below aA);change wpList _ _ _ _ _ T.drew;generalize T.drew=y11 at H aw⊢;clear aA b0 b1 b2 b3;go_wp2_with fail
       refine(O.out.dC (m:Int) 0 (l'.drop 1) _ H.out.at_.at_ H.out.calm ⟨by have:=HM.out;omega,by have:=HM.out;omega⟩ (by decide) aw.out (GL (by rw[G5,ad.out];decide))).mono ?_;rintro e bV⟨rfl,q⟩;have a7:=GD (H.out.below O.out q);clear q H;go_wp2_with fail
       go_ret;exact⟨U8,V8,X8,_,d8,bj,s8,_,_,_,pi,rfl,a7.out,bz.out⟩
end
end Go.Proofs.YtbpodmallknhfaaGreat
