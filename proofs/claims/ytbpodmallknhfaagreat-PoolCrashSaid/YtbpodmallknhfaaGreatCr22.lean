/- Parts of a proof. Conditions: as each row says. -/
import Derived.Test.YtbpodmallknhfaaGreatCr19
import Derived.Test.YtbpodmallknhfaaGreatCr21
namespace Go.Proofs.YtbpodmallknhfaaGreat
open Go.RowKit
theorem Cc(d:Dk.aq)(a:List Nat)(i:Nat):(Dk.ay d a).waits.getD i none=none:=by
 show(List.replicate (Dk.size d) none).getD i none=none;rw[List.getD_eq_getElem?_getD,List.getElem?_replicate];split<;>rfl
theorem mZ{d:Dk.aq}{n:Int}(h:d.off=false)(b:0<=n)(a:n<=1073741824):Dk.arm d n=({d with bL:=n.toNat},0):=by
 unfold Dk.arm;rw[if_neg (by rw[h];decide),if_neg (by omega)]
section
variable{PD:(Nat->Prop)->World->Nat->Dk.aq->Prop}{PL:(Nat->Prop)->(Nat->Prop)->World->Nat->Nat->Dk.aq->Wl.S->Prop}{PO:(Nat->Prop)->World->Nat->Nat->Nat->Po.S->Prop}{Hd:Dk.aq->Wl.S->Prop}{Hw:Dk.aq->Po.Ar->(Nat->Po.Pg)->Prop}{Hp:Dk.aq->Po.Ar->(Nat->Po.Pg->Prop)->Prop}
variable{U U' V V' X Z Z':Nat->Prop}{w w' w0:World}{B L P base g sb F K:Nat}{d d':Dk.aq}{lg lg':Wl.S}{s:Po.S}{vs:List Value}{LL MM:List (List Po.Pg)}{sf:List Nat}{c:Nat->Po.Pg->Prop}{f:Nat->Po.Pg}
theorem lG.append(A:cQ PD PL PO Hd Hw Hp){n:Nat}(h:lG PL PO Hw base g sb F K U V X Z w0 w B L P d lg s vs LL MM sf)(t:PL U V' w' B L d lg')(f:Touch V w w')(m:br V V' w)(hf:lg.ae<=lg'.ae)(hs:lg.stop<=lg'.stop)(he:lg'.ai=lg.ai)(p:lg'.at_=lg.at_)(o:lg'.count=lg.count)(u:K<=n)(l:lg'.stop<=52+27*n):
 lG PL PO Hw base g sb F n U V' X Z w0 w' B L P d lg' s vs LL MM sf:=by
 have r:=f.under h.at_.fv h.mem.bw;refine⟨⟨⟨t,A.xz h.at_.at_.own f fun i b e=>h.at_.at_.off i (Or.inr e) b,h.at_.at_.eu,fun i a b=>?_,fun k=>⟨Nat.lt_of_lt_of_le (h.at_.at_.im k).1 hf,Nat.lt_of_lt_of_le (h.at_.at_.im k).2 hs⟩,by rw[p,o];exact h.at_.at_.kf⟩,h.at_.fu,m.from h.at_.fv h.mem.bw,h.at_.fx⟩,h.bG,h.ar,h.fr,h.pins,he.trans h.ep,by rw[p,o];exact h.la,l,h.mem.al f (fun i a e=>h.ap i (Or.inr (Or.inl e)) a) r,fun i a hz=>?_,h.now,h.sl,h.dk,fun j q=>by have:=h.qg j q;omega,h.same,h.len⟩
 ·rcases a with a|a
  ·exact h.at_.at_.off i (Or.inl a) b
  ·rcases m i a with c|c
   ·exact h.at_.at_.off i (Or.inr c) b
   ·have:=A.GM h.at_.at_.own i b;omega
 ·rcases a with a|a|a
  ·exact h.ap i (Or.inl a) hz
  ·rcases m i a with c|c
   ·exact h.ap i (Or.inr (Or.inl c)) hz
   ·have:=(h.mem.zb i hz).2;omega
  ·exact h.ap i (Or.inr (Or.inr a)) hz
structure CH(PD:(Nat->Prop)->World->Nat->Dk.aq->Prop)(Hd:Dk.aq->Wl.S->Prop)(Hp:Dk.aq->Po.Ar->(Nat->Po.Pg->Prop)->Prop)(base g sb:Nat)(U Z:Nat->Prop)(w0 w:World)(B:Nat)(d:Dk.aq)(lg:Wl.S)(vs:List Value)(LL:List (List Po.Pg))(sf:List Nat)(c:Nat->Po.Pg->Prop):Prop where
 dev:PD U w B d
 bG:Wl.aY 120 d
 off:d.off=false
 idle:∀i,d.waits.getD i none=none
 hd:Hd d lg
 hp:Hp d Po.eu c
 cc:∀k x,k<16->c k x->x∈(LL.getD k []).drop (sf.getD k 0)/\x.1<lg.ae
 ep:lg.ai=1
 la:lg.at_=0/\lg.count=30
 stop:lg.stop<=52+27*61
 aQ:Wl.Good lg
 mem:Mem Z base g sb w0 w vs LL sf
 fu:km base U
 ap:∀i,U i->¬Z i
theorem kG(d:br U U' w)(h:∀i,U i->¬Z i)(hz:∀i,Z i->i<w.heap.size):∀i,U' i->¬Z i:=fun i c a=>by
 rcases d i c with b|b
 ·exact h i b a
 ·have:=hz i a;omega
theorem wi{a:List Nat}(c:Wl.aY 120 d)(b:Dk.Ok (Dk.ay d a)):Wl.aY 120 (Dk.ay d a):=⟨b,(c.ay a).sz,(c.ay a).aW⟩
theorem FU.ay(A:cQ PD PL PO Hd Hw Hp){a:List Nat}(h:FU PD Hd Hp base g sb U Z w0 w B d lg vs LL sf c)(j:PD U' w' B (Dk.ay d a))(e:Touch U w w')(f:br U U' w):CH PD Hd Hp base g sb U' Z w0 w' B (Dk.ay d a) lg vs LL sf c:=
 ⟨j,wi h.bG (A.Ff j),rfl,Cc d a,(h.hd a).1,(h.hd a).2,h.cc,h.ep,h.la,h.stop,h.aQ,h.mem.al e (fun i b hu=>h.ap i hu b) (e.under h.fu h.mem.bw),f.from h.fu h.mem.bw,kG f h.ap fun i b=>(h.mem.zb i b).2⟩
theorem CH.arm(A:cQ PD PL PO Hd Hw Hp)(C:xf PD PL Hd Hw Hp){n:Int}(h:CH PD Hd Hp base g sb U Z w0 w B d lg vs LL sf c)(m:0<=n)(l:n<=1073741824)(f:PD U' w' B (Dk.arm d n).1)(j:Touch U w w')(k:br U U' w):CH PD Hd Hp base g sb U' Z w0 w' B (Dk.arm d n).1 lg vs LL sf c:=by
 have e:=mZ h.off m l;have hd:=C.wA n h.hd;have hp:=C.BL n h.hp;have a:=A.Ff f;rw[e]at hd hp f a⊢;exact⟨f,⟨a,h.bG.sz,h.bG.aW⟩,h.off,h.idle,hd,hp,h.cc,h.ep,h.la,h.stop,h.aQ,h.mem.al j (fun i b hu=>h.ap i hu b) (j.under h.fu h.mem.bw),k.from h.fu h.mem.bw,kG k h.ap fun i b=>(h.mem.zb i b).2⟩
theorem CH.below(A:cQ PD PL PO Hd Hw Hp)(h:CH PD Hd Hp base g sb U Z w0 w B d lg vs LL sf c)(a:Below w.heap.size w w'):CH PD Hd Hp base g sb U Z w0 w' B d lg vs LL sf c:=
 ⟨A.Ed (T:=fun i=>w.heap.size<=i) h.dev (.dC a fun _ _ h=>h) (fun i b=>by have:=A.He h.dev i b;omega),h.bG,h.off,h.idle,h.hd,h.hp,h.cc,h.ep,h.la,h.stop,h.aQ,h.mem.below a,h.fu,h.ap⟩
theorem CH.again(h:CH PD Hd Hp base g sb U Z w0 w B d lg vs LL sf c)(l:PD U' w' B d')(k:Wl.aY 120 d')(j:∀b,Hd (Dk.ay d' b) lg/\Hp (Dk.ay d' b) Po.eu c)(e:Touch U w w')(f:br U U' w):FU PD Hd Hp base g sb U' Z w0 w' B d' lg vs LL sf c:=
 ⟨l,k,j,h.cc,h.ep,h.la,h.stop,h.aQ,h.mem.al e (fun i a hu=>h.ap i hu a) (e.under h.fu h.mem.bw),f.from h.fu h.mem.bw,kG f h.ap fun i a=>(h.mem.zb i a).2⟩
structure FK(PD:(Nat->Prop)->World->Nat->Dk.aq->Prop)(Hd:Dk.aq->Wl.S->Prop)(Hw:Dk.aq->Po.Ar->(Nat->Po.Pg)->Prop)(base g sb:Nat)(U Z:Nat->Prop)(w0 w:World)(B:Nat)(d:Dk.aq)(lg:Wl.S)(vs:List Value)(LL:List (List Po.Pg))(sf:List Nat)(f:Nat->Po.Pg):Prop where
 dev:PD U w B d
 bG:Wl.aY 120 d
 off:d.off=false
 hd:Hd d lg
 hw:Hw d Po.eu f
 ok:∀k,Po.cK (f k)
 cc:∀k,k<16->f k∈(LL.getD k []).drop (sf.getD k 0)
 all:∀k,(f k).1<lg.ae
 ep:lg.ai=1
 la:lg.at_=0/\lg.count=30
 stop:lg.stop<=52+27*61
 aQ:Wl.Good lg
 mem:Mem Z base g sb w0 w vs LL sf
 fu:km base U
 ap:∀i,U i->¬Z i
theorem CH.Bu(C:xf PD PL Hd Hw Hp)(h:CH PD Hd Hp base g sb U Z w0 w B d lg vs LL sf c)(s:PD U' w' B d')(r:Wl.aY 120 d')(o:d'.off=false)(hd:Hd d' lg)(hw:Hw d' Po.eu f)(j:∀k,Po.cK (f k))(p:∀k:Nat,(k:Int)<Po.eu.cB->c k (f k))(m:Touch U w w')(n:br U U' w):∃f,FK PD Hd Hw base g sb U' Z w0 w' B d' lg vs LL sf f:=by
 have e:=fun k a=>h.cc k _ a (p k (by show(k:Int)<16;omega));refine⟨fun k=>if k<16 then f k else Po.blank,s,r,o,hd,C.BK hw fun k a=>(if_pos (by have a:(k:Int)<16:=a;omega)).symm,fun k=>?_,fun k a=>?_,fun k=>?_,h.ep,h.la,h.stop,h.aQ,h.mem.al m (fun i l hu=>h.ap i hu l) (m.under h.fu h.mem.bw),n.from h.fu h.mem.bw,kG n h.ap fun i l=>(h.mem.zb i l).2⟩
 ·split
  ·exact j k
  ·exact⟨by show 0<_;decide,Pg.bU 500,fun b q=>by rw[List.eq_of_mem_replicate q];decide⟩
 ·rw[if_pos a];exact(e k a).1
 ·split
  ·next a=>exact(e k a).2
  ·exact Nat.lt_of_le_of_lt (Nat.zero_le _) (e 0 (by decide)).2
theorem FK.Fi(A:cQ PD PL PO Hd Hw Hp)(C:xf PD PL Hd Hw Hp)(h:FK PD Hd Hw base g sb U Z w0 w B d lg vs LL sf f)(c:PD U' w' B (Dk.arm d 0).1)(j:Touch U w w')(k:br U U' w):FK PD Hd Hw base g sb U' Z w0 w' B (Dk.arm d 0).1 lg vs LL sf f/\Wl.Calm 120 (Dk.arm d 0).1:=by
 have e:=mZ (n:=0) h.off (by decide) (by decide);have hd:=C.wA 0 h.hd;have hw:=C.wo 0 h.hw;have a:=A.Ff c;rw[e]at hd hw c a⊢;exact⟨⟨c,⟨a,h.bG.sz,h.bG.aW⟩,h.off,hd,hw,h.ok,h.cc,h.all,h.ep,h.la,h.stop,h.aQ,h.mem.al j (fun i b hu=>h.ap i hu b) (j.under h.fu h.mem.bw),k.from h.fu h.mem.bw,kG k h.ap fun i b=>(h.mem.zb i b).2⟩,⟨h.off,rfl,h.bG.sz,h.bG.aW⟩⟩
theorem eN{lg:Wl.S}(h:lg.at_=0/\lg.count=30):Po.ve Po.eu lg.at_ lg.count:=fun i a=>by
 rw[h.1,h.2];rcases a with a|a
 ·have b:(34:Int)<=(i:Int):=a.1;omega
 ·have b:(40:Int)<=(i:Int):=a.1;omega
structure FT(PL:(Nat->Prop)->(Nat->Prop)->World->Nat->Nat->Dk.aq->Wl.S->Prop)(Hw:Dk.aq->Po.Ar->(Nat->Po.Pg)->Prop)(base g sb:Nat)(U V Z:Nat->Prop)(w0 w:World)(B L:Nat)(d:Dk.aq)(lg:Wl.S)(vs:List Value)(LL:List (List Po.Pg))(sf:List Nat)(f:Nat->Po.Pg):Prop where
 log:PL U V w B L d lg
 calm:Wl.Calm 120 d
 hw:Hw d Po.eu f
 ok:∀k,Po.cK (f k)
 cc:∀k,k<16->f k∈(LL.getD k []).drop (sf.getD k 0)
 all:∀k,(f k).1<lg.ae
 la:lg.at_=0/\lg.count=30
 fs:lg.ae=lg.stop
 stop:lg.stop<=52+27*61
 mem:Mem Z base g sb w0 w vs LL sf
 fu:km base U
 fv:km base V
 ap:∀i,cY U V i->¬Z i
theorem FK.opened(h:FK PD Hd Hw base g sb U Z w0 w B d lg vs LL sf f)(A:cQ PD PL PO Hd Hw Hp){k:Nat}(m:k<=lg.cd.length)(hf:lg.ae<=Wl.placeOf lg k)(p:PL U' V' w' B L d' (Wl.cut lg k))(hC:Wl.Calm 120 d')(l:Po.il 0 30 d d')(c:Touch U w w')(e:br U U' w)(b:∀i,V' i->w.heap.size<=i):
 FT PL Hw base g sb U' V' Z w0 w' B L d' (Wl.cut lg k) vs LL sf f:=by
 have o:=c.under h.fu h.mem.bw;refine⟨p,hC,A.BJ (n:=120) h.hw (by have:=eN h.la;rw[h.la.1,h.la.2]at this;exact this) l (hC.sz.trans h.bG.sz.symm) Po.fq h.bG.sz,h.ok,h.cc,fun j=>Nat.lt_of_lt_of_le (h.all j) hf,h.la,rfl,?_,h.mem.al c (fun i a hu=>h.ap i hu a) o,e.from h.fu h.mem.bw,fun i a=>Nat.le_trans h.mem.bw (b i a),fun i a hz=>?_⟩
 ·have r:=(Wl.lh h.aQ m).2;have q:=h.stop;show Wl.placeOf lg k<=_;omega
 ·rcases a with a|a
  ·exact kG e h.ap (fun i a=>(h.mem.zb i a).2) i a hz
  ·have:=b i a;have:=(h.mem.zb i hz).2;omega
theorem FT.below(A:cQ PD PL PO Hd Hw Hp)(h:FT PL Hw base g sb U V Z w0 w B L d lg vs LL sf f)(a:Below w.heap.size w w'):FT PL Hw base g sb U V Z w0 w' B L d lg vs LL sf f:=
 ⟨A.qX (T:=fun i=>w.heap.size<=i) h.log (.dC a fun _ _ h=>h) (fun i b=>by have:=A.Dl h.log i b;omega),h.calm,h.hw,h.ok,h.cc,h.all,h.la,h.fs,h.stop,h.mem.below a,h.fu,h.fv,h.ap⟩
structure Ek(PL:(Nat->Prop)->(Nat->Prop)->World->Nat->Nat->Dk.aq->Wl.S->Prop)(PO:(Nat->Prop)->World->Nat->Nat->Nat->Po.S->Prop)(Hw:Dk.aq->Po.Ar->(Nat->Po.Pg)->Prop)(base g sb F:Nat)(U V X Z:Nat->Prop)(w0 w:World)(B L P:Nat)(d:Dk.aq)(lg:Wl.S)(s:Po.S)(vs:List Value)(LL:List (List Po.Pg))(sf:List Nat)(f:Nat->Po.Pg):Prop where
 at_:jH PL PO Hw base U V X w B L P d lg s
 calm:Wl.Calm 120 d
 ar:s.ar=Po.eu
 fr:s.aC=F
 pins:∀j,s.pins j=0
 clean:Po.Clean s f
 cc:∀k,k<16->f k∈(LL.getD k []).drop (sf.getD k 0)
 all:∀k,(f k).1<lg.stop
 stop:lg.stop<=52+27*61
 mem:Mem Z base g sb w0 w vs LL sf
 ap:∀i,eO U V X i->¬Z i
theorem FT.made(A:cQ PD PL PO Hd Hw Hp)(h:FT PL Hw base g sb U V Z w0 w B L d lg vs LL sf f)(l:PO X w' B L P (Po.fresh f F Po.eu))(c:∀i,X i->w.heap.size<=i)(j:Below w.heap.size w w'):Ek PL PO Hw base g sb F U V X Z w0 w' B L P d lg (Po.fresh f F Po.eu) vs LL sf f:=by
 have e:=h.below A j;refine⟨⟨⟨e.log,l,e.hw,fun i a b=>?_,fun k=>⟨h.all k,by show(f k).1<_;rw[<-h.fs];exact h.all k⟩,eN h.la⟩,h.fu,h.fv,fun i a=>Nat.le_trans h.mem.bw (c i a)⟩,h.calm,rfl,rfl,fun _=>rfl,⟨rfl,fun _=>rfl⟩,h.cc,fun k=>by rw[<-h.fs];exact h.all k,h.stop,e.mem,fun i a hz=>?_⟩
 ·have:=A.Dl h.log i a;have:=c i b;omega
 ·rcases a with a|a|a
  ·exact h.ap i (Or.inl a) hz
  ·exact h.ap i (Or.inr a) hz
  ·have:=c i a;have:=(h.mem.zb i hz).2;omega
theorem Ek.below(A:cQ PD PL PO Hd Hw Hp)(h:Ek PL PO Hw base g sb F U V X Z w0 w B L P d lg s vs LL sf f)(a:Below w.heap.size w w'):Ek PL PO Hw base g sb F U V X Z w0 w' B L P d lg s vs LL sf f:=
 ⟨h.at_.below A a,h.calm,h.ar,h.fr,h.pins,h.clean,h.cc,h.all,h.stop,h.mem.below a,h.ap⟩
theorem Ek.E8(A:cQ PD PL PO Hd Hw Hp){c:Po.S}{u:Value}(h:Ek PL PO Hw base g sb F U V X Z w0 w B L P d lg s vs LL sf f)(p:nk PL PO Hw U V X w B L P w' d' lg' c u)(hm:Po.qb s c)(n:(∀k,s.first k=none)->d'=d/\lg'=lg):
 ∃U' V' e,Ek PL PO Hw base g sb F U' V' e Z w0 w' B L P d lg c vs LL sf f:=by
 obtain⟨rfl,rfl⟩:=n h.clean.2;obtain⟨U',V',e,l,q,hT,v,t,r,-⟩:=h.at_.E8 p h.mem.bw;refine⟨U',V',e,l,h.calm,hm.ar.trans h.ar,hm.aC.trans h.fr,fun j=>by rw[hm.pins];exact h.pins j,h.clean.Gc hm (A.ud l.at_.own),h.cc,h.all,h.stop,h.mem.al hT (fun i a m=>h.ap i m a) q,fun i a hz=>?_⟩;have o:=(h.mem.zb i hz).2;rcases a with a|a|a
 ·rcases v i a with b|b
  ·exact h.ap i (Or.inl b) hz
  ·omega
 ·rcases t i a with b|b
  ·exact h.ap i (Or.inr (Or.inl b)) hz
  ·omega
 ·rcases r i a with b|b
  ·exact h.ap i (Or.inr (Or.inr b)) hz
  ·omega
end
theorem Cq(x m:Int)(a:0<m)(d:m<=400):∃q:Nat,(IntKind.u64.wrap x).tmod m=(q:Int)/\(q:Int)<m:=by
 rw[IntKind.wrap_u64,Int.tmod_eq_emod_of_nonneg (by omega)];have c:=Int.emod_nonneg (x%18446744073709551616) (show m≠0 by omega);have b:=Int.emod_lt_of_pos (x%18446744073709551616) a;exact⟨((x%18446744073709551616)%m).toNat,by omega,by omega⟩
def D7:List Value:=List.replicate 16 (.slice none 0 0)
theorem A4{w:World}{Z:Nat->Prop}(hz:Z w.heap.size):qD Z w.heap.size (w.alloc (.cells #[.slice none 0 0,.slice none 0 0,.slice none 0 0,.slice none 0 0,.slice none 0 0,.slice none 0 0,.slice none 0 0,.slice none 0 0,.slice none 0 0,.slice none 0 0,.slice none 0 0,.slice none 0 0,.slice none 0 0,.slice none 0 0,.slice none 0 0,.slice none 0 0] 69)) D7 (List.replicate 16 []):=by
 have e:∀i,D7.getD i undef=.slice none 0 0\/D7.getD i undef=undef:=fun i=>by
  unfold D7;rw[List.getD_eq_getElem?_getD,List.getElem?_replicate];split
  ·exact Or.inl rfl
  ·exact Or.inr rfl
 refine⟨List.length_replicate,List.length_replicate,heap_alloc_last _ _,fun i c _=>?_,fun i j c l _ b a=>?_,hz⟩
 ·have g:D7.getD i undef=.slice none 0 0:=by
   unfold D7;rw[List.getD_eq_getElem?_getD,List.getElem?_replicate,if_pos c];rfl
  have f:(List.replicate 16 ([]:List Po.Pg)).getD i []=[]:=by
   rw[List.getD_eq_getElem?_getD,List.getElem?_replicate];split<;>rfl
  rw[g,f];exact⟨[],A7 0 _,rfl,(fun b a=>by cases a),fun k d=>absurd d (Nat.not_lt_zero k)⟩
 ·rcases e i with h|h<;> · rw[h]at a;cases a
theorem fV.GY{i:Nat}{Z:Nat->Prop}{g:Nat}{w:World}{vs:List Value}{LL:List (List Po.Pg)}(h:qD Z g w vs LL):fV i Z g w vs LL:=⟨h.len,h.nQ,h.row,fun j a _=>h.at_ j a (by omega),h.ap,h.zg⟩
theorem A6{w:World}{Z:Nat->Prop}{k:Nat}{u:Value}{m:List Nat}(hu:Own 0 w u m)(hz:∀b,u.ownBlock=some b->Z b)(d:Z w.heap.size):ft Z (w.alloc (.cells #[.int .u64 (k:Int),u] 59)) (.slice (some ⟨w.heap.size,0,none⟩) 1 1) [(k,m)]:=by
 refine⟨[(k,u)],⟨rfl,Or.inr ⟨w.heap.size,1,_,rfl,Nat.zero_le _,heap_alloc_last _ _,Nat.le_refl _,by decide,rfl,rfl⟩⟩,rfl,fun b c=>?_,fun j a=>?_⟩
 ·simp only[Value.ownBlock,Option.some.injEq]at c;rw[<-c];exact d
 ·obtain rfl:j=0:=by simp at a;exact a
  exact⟨rfl,hu.below ((Below.refl _ _).alloc (Nat.le_refl _) _),hz⟩
def CU(w:World):World:=(w.alloc (.cells #[.slice none 0 0,.slice none 0 0,.slice none 0 0,.slice none 0 0,.slice none 0 0,.slice none 0 0,.slice none 0 0,.slice none 0 0,.slice none 0 0,.slice none 0 0,.slice none 0 0,.slice none 0 0,.slice none 0 0,.slice none 0 0,.slice none 0 0,.slice none 0 0] 69)).alloc (.cells #[.int .i64 0,.int .i64 0,.int .i64 0,.int .i64 0,.int .i64 0,.int .i64 0,.int .i64 0,.int .i64 0,.int .i64 0,.int .i64 0,.int .i64 0,.int .i64 0,.int .i64 0,.int .i64 0,.int .i64 0,.int .i64 0] 70)
theorem CT(w:World):(w.alloc (.cells #[.slice none 0 0,.slice none 0 0,.slice none 0 0,.slice none 0 0,.slice none 0 0,.slice none 0 0,.slice none 0 0,.slice none 0 0,.slice none 0 0,.slice none 0 0,.slice none 0 0,.slice none 0 0,.slice none 0 0,.slice none 0 0,.slice none 0 0,.slice none 0 0] 69)).alloc (.cells #[.int .i64 0,.int .i64 0,.int .i64 0,.int .i64 0,.int .i64 0,.int .i64 0,.int .i64 0,.int .i64 0,.int .i64 0,.int .i64 0,.int .i64 0,.int .i64 0,.int .i64 0,.int .i64 0,.int .i64 0,.int .i64 0] 70)=CU w:=rfl
theorem Mem.mono{Z Z':Nat->Prop}{base g sb:Nat}{w0 w:World}{vs:List Value}{LL:List (List Po.Pg)}{sf:List Nat}(h:Mem Z base g sb w0 w vs LL sf)(hz:∀i,Z i->Z' i)(a:∀i,Z' i->base<=i/\i<w.heap.size):Mem Z' base g sb w0 w vs LL sf:=
 ⟨h.eP.mono hz,h.safe,hz sb h.zs,h.ns,a,h.wX,h.bw,h.qg⟩
section
variable{PD:(Nat->Prop)->World->Nat->Dk.aq->Prop}{PL:(Nat->Prop)->(Nat->Prop)->World->Nat->Nat->Dk.aq->Wl.S->Prop}{PO:(Nat->Prop)->World->Nat->Nat->Nat->Po.S->Prop}{Hd:Dk.aq->Wl.S->Prop}{Hw:Dk.aq->Po.Ar->(Nat->Po.Pg)->Prop}{Hp:Dk.aq->Po.Ar->(Nat->Po.Pg->Prop)->Prop}
variable{U U' V V' X Z Z':Nat->Prop}{w w' w0 w1:World}{B L P base g sb F K k:Nat}{d d':Dk.aq}{lg lg':Wl.S}{s:Po.S}{vs:List Value}{LL MM:List (List Po.Pg)}{sf:List Nat}{c:Nat->Po.Pg->Prop}{f:Nat->Po.Pg}
theorem jH.bL(A:cQ PD PL PO Hd Hw Hp)(C:xf PD PL Hd Hw Hp){n:Int}(h:jH PL PO Hw base U V X w B L P d lg s)(g:PL U' V w' B L (Dk.arm d n).1 lg)(hT:Touch U w w')(c:br U U' w)(f:base<=w.heap.size):jH PL PO Hw base U' V X w' B L P (Dk.arm d n).1 lg s:=
 ⟨⟨g,A.xz h.at_.own hT fun i a hu=>h.at_.off i (Or.inl hu) a,C.wo n h.at_.eu,fun i b a=>(by
  rcases b with b|b
  ·rcases c i b with e|e
   ·exact h.at_.off i (Or.inl e) a
   ·have:=A.GM h.at_.own i a;omega
  ·exact h.at_.off i (Or.inr b) a),h.at_.im,h.at_.kf⟩,c.from h.fu f,h.fv,h.fx⟩
structure CN(PL:(Nat->Prop)->(Nat->Prop)->World->Nat->Nat->Dk.aq->Wl.S->Prop)(PO:(Nat->Prop)->World->Nat->Nat->Nat->Po.S->Prop)(Hw:Dk.aq->Po.Ar->(Nat->Po.Pg)->Prop)(base g F:Nat)(U V X:Nat->Prop)(w0 w:World)(B L P:Nat)(d:Dk.aq)(vs:List Value)(LL:List (List Po.Pg))(k:Nat):Prop where
 at_:jH PL PO Hw base U V X w B L P d (Wl.fresh 0 30) (Po.fresh (fun _=>Po.blank) F Po.eu)
 bG:Wl.aY 120 d
 mem:Mem (fun i=>g<=i/\i<w.heap.size) base g (g+1) w0 w vs LL (List.replicate 16 0)
 ap:∀i,eO U V X i->i<g
 lo:base<=g
 fst:∀j,j<16->LL.getD j []=if j<k then [Po.blank]else []
theorem CN.below(A:cQ PD PL PO Hd Hw Hp)(h:CN PL PO Hw base g F U V X w0 w B L P d vs LL k)(b:Below w.heap.size w w'):CN PL PO Hw base g F U V X w0 w' B L P d vs LL k:=
 ⟨h.at_.below A b,h.bG,(h.mem.below b).mono (fun i a=>⟨a.1,Nat.lt_of_lt_of_le a.2 b.size⟩) (fun i a=>⟨Nat.le_trans h.lo a.1,a.2⟩),h.ap,h.lo,h.fst⟩
theorem CN.next(A:cQ PD PL PO Hd Hw Hp)(h:CN PL PO Hw base g F U V X w0 w B L P d vs LL k)(q:k<16){u:Value}(hu:Own 0 w u (Pg.bm 500))(hz:∀b,u.ownBlock=some b->g<=b):
 CN PL PO Hw base g F U V X w0 ((w.alloc (.cells #[.int .u64 0,u] 59)).setCell ⟨g,k,none⟩ (.slice (some ⟨w.heap.size,0,none⟩) 1 1)) B L P d (vs.set k (.slice (some ⟨w.heap.size,0,none⟩) 1 1)) (LL.set k [Po.blank]) (k+1):=by
 obtain⟨w2,c⟩:∃w2,w2=w.alloc (.cells #[.int .u64 0,u] 59):=⟨_,rfl⟩
 have n:w2.heap.size=w.heap.size+1:=by rw[c,World.size_alloc]
 have t:Below w.heap.size w w2:=by rw[c];exact(Below.refl _ _).alloc (Nat.le_refl _) _
 have a:=h.below A t;have r:g<w.heap.size:=lt_of_block h.mem.eP.row;have x:ft (fun i=>g<=i/\i<w2.heap.size) w2 (.slice (some ⟨w.heap.size,0,none⟩) 1 1) [Po.blank]:=by
  have:=A6 (Z:=fun i=>g<=i/\i<w2.heap.size) (k:=0) hu (fun b p=>⟨hz b p,by rw[n];exact Nat.lt_succ_of_lt (World.ownsRow.lt hu.own b p).2⟩) ⟨Nat.le_of_lt r,by rw[n];exact Nat.lt_succ_self _⟩;rw[show((0:Nat):Int)=0 from rfl,<-c]at this;exact this
 have hp:=(fV.GY (i:=k) a.mem.eP).stored q x (fun _ h=>h) (fun j o y b p z=>by
  simp only[Value.ownBlock,Option.some.injEq]at p;obtain⟨l,-,-,C,-⟩:=h.mem.eP.at_ j o (by omega);have:=(C b z).2;omega)
 have hT:Touch (·=g) w2 (w2.setCell ⟨g,k,none⟩ (.slice (some ⟨w.heap.size,0,none⟩) 1 1)):=Touch.set (S:=(·=g)) g k _ rfl;have s:Below base w2 (w2.setCell ⟨g,k,none⟩ (.slice (some ⟨w.heap.size,0,none⟩) 1 1)):=hT.below (fun i e=>by rw[show i=g from e];exact h.lo) a.mem.bw;rw[<-c];have m:(w2.setCell ⟨g,k,none⟩ (.slice (some ⟨w.heap.size,0,none⟩) 1 1)).heap.size=w2.heap.size:=by simp
 refine⟨⟨A.bQ a.at_.at_ hT fun i f e=>by have:=h.ap i f;rw[show i=g from e]at this;omega,a.at_.fu,a.at_.fv,a.at_.fx⟩,h.bG,⟨hp.mono fun i f=>⟨f.1,by rw[m];exact f.2⟩,a.mem.safe.al hT (fun e=>by have e:g+1=g:=e;omega),⟨Nat.le_succ g,by rw[m];exact a.mem.zs.2⟩,h.mem.ns,fun i f=>⟨Nat.le_trans h.lo f.1,f.2⟩,a.mem.wX.trans s,Nat.le_trans a.mem.bw hT.size,fun j o=>?_⟩,h.ap,h.lo,fun j o=>?_⟩
 ·by_cases e:k=j
  ·subst e;rw[aZ _ _ _ (by rw[h.mem.eP.len];exact q)];decide
  ·rw[bX _ _ _ e];exact h.mem.qg j o
 by_cases e:k=j
 ·subst e;rw[aZ _ _ _ (by rw[h.mem.eP.len];exact q),if_pos (by omega)]
 ·rw[bX _ _ _ e,h.fst j o];by_cases v:j<k
  ·rw[if_pos v,if_pos (by omega)]
  ·rw[if_neg v,if_neg (by omega)]
theorem CN.full(h:CN PL PO Hw base g F U V X w0 w B L P d vs LL 16):lG PL PO Hw base g (g+1) F 0 U V X (fun i=>g<=i/\i<w.heap.size) w0 w B L P d (Wl.fresh 0 30) (Po.fresh (fun _=>Po.blank) F Po.eu) vs LL LL (List.replicate 16 0):=by
 have b:∀j,j<16->LL.getD j []=[Po.blank]:=fun j a=>by rw[h.fst j a,if_pos a]
 have h0:∀j,(List.replicate 16 0).getD j 0=0:=fun j=>by rw[List.getD_eq_getElem?_getD,List.getElem?_replicate];split<;>rfl
 exact⟨h.at_,h.bG,rfl,rfl,fun _=>rfl,rfl,⟨rfl,rfl⟩,Nat.le_refl _,h.mem,fun i c hz=>by have:=h.ap i c;omega,fun j a=>by rw[b j a];rfl,fun j a=>by rw[b j a,h0];decide,fun j a=>by rw[b j a,h0];exact List.mem_singleton.2 rfl,fun j a=>by rw[b j a];decide,Or.inl rfl,h.mem.eP.len⟩
theorem DL(h:jH PL PO Hw base U V X w B L P d (Wl.fresh 0 30) (Po.fresh (fun _=>Po.blank) F Po.eu))(A:cQ PD PL PO Hd Hw Hp)(v:Wl.aY 120 d)(u:Below base w0 w)(g:base<=w.heap.size):
 CN PL PO Hw base w.heap.size F U V X w0 (CU w) B L P d D7 (List.replicate 16 []) 0:=by
 unfold CU;obtain⟨w2,c⟩:∃w2,w2=w.alloc (.cells #[.slice none 0 0,.slice none 0 0,.slice none 0 0,.slice none 0 0,.slice none 0 0,.slice none 0 0,.slice none 0 0,.slice none 0 0,.slice none 0 0,.slice none 0 0,.slice none 0 0,.slice none 0 0,.slice none 0 0,.slice none 0 0,.slice none 0 0,.slice none 0 0] 69):=⟨_,rfl⟩
 have l:w2.heap.size=w.heap.size+1:=by rw[c,World.size_alloc]
 have hp:=A4 (w:=w) (Z:=fun i=>w.heap.size<=i/\i<w.heap.size+2) ⟨Nat.le_refl _,by omega⟩;have q:Below w.heap.size w w2:=by rw[c];exact(Below.refl _ _).alloc (Nat.le_refl _) _
 rw[<-c]at hp⊢;obtain⟨w3,a⟩:∃w3,w3=w2.alloc (.cells #[.int .i64 0,.int .i64 0,.int .i64 0,.int .i64 0,.int .i64 0,.int .i64 0,.int .i64 0,.int .i64 0,.int .i64 0,.int .i64 0,.int .i64 0,.int .i64 0,.int .i64 0,.int .i64 0,.int .i64 0,.int .i64 0] 70):=⟨_,rfl⟩
 have e:w3.heap.size=w.heap.size+2:=by rw[a,World.size_alloc,l]
 have b:Below w2.heap.size w2 w3:=by rw[a];exact(Below.refl _ _).alloc (Nat.le_refl _) _
 have o:kX (w.heap.size+1) w3 (List.replicate 16 0):=⟨List.length_replicate,by
  have:=heap_alloc_last w2 (.cells #[.int .i64 0,.int .i64 0,.int .i64 0,.int .i64 0,.int .i64 0,.int .i64 0,.int .i64 0,.int .i64 0,.int .i64 0,.int .i64 0,.int .i64 0,.int .i64 0,.int .i64 0,.int .i64 0,.int .i64 0,.int .i64 0] 70);rw[l]at this;rw[a];exact this⟩
 rw[<-a];have m:Below w.heap.size w w3:=q.trans (b.mono (by omega));refine⟨h.below A m,v,⟨⟨hp.len,hp.nQ,(b.block _ (by omega)).trans hp.row,fun i f he=>?_,hp.ap,⟨Nat.le_refl _,by rw[e];omega⟩⟩,o,⟨Nat.le_succ _,by rw[e];omega⟩,Nat.succ_ne_self _,fun i f=>⟨Nat.le_trans g f.1,f.2⟩,u.trans (m.mono g),by omega,fun j t=>?_⟩,A.lt h.at_,g,fun j t=>?_⟩
 ·have y:=hp.at_ i f he;have x:=y.mono (Z':=fun i=>w.heap.size<=i/\i<w3.heap.size) fun i f=>⟨f.1,by rw[e];exact f.2⟩
  obtain⟨r,k1,k2,s,n⟩:=x;refine⟨r,k1.below b,k2,s,fun k p=>⟨(n k p).1,(n k p).2.1.below b,(n k p).2.2⟩⟩
 ·rw[List.getD_eq_getElem?_getD,List.getElem?_replicate];split<;>exact Nat.zero_le _
 ·rw[if_neg (Nat.not_lt_zero j),List.getD_eq_getElem?_getD,List.getElem?_replicate];split<;>rfl
end
theorem wp_append_run{w:World}{o:Oper}{a:Act}{K:Act->World->Prop}{Q:Exit->Act->World->Prop}(s x:Operand)(t c:TypeId)
 (f:o.op=.call {callee:=.builtin .append,args:=#[s,x],argTypes:=#[t,c]}) (vs b:Value) (hs:a.eval s=vs) (d:a.eval x=b) (v':Value) (w':World)
 (e:(Builtin.append_ #[t,c] o.type #[vs,b]).run Tryz.prog w=.ok v' w') (h:K (a.put o.dst v') w'):o.wp Tryz.prog a w K Q:=by
 unfold Oper.wp;simp[execOp,f,resolve,invoke,builtin,hs,d,e,Result.andThen];exact h
def Ap(g:Nat)(v:Value)(b:Nat):Prop:=b=g\/v.ownBlock=some b
def FP(Z:Nat->Prop)(g2:Nat)(v:Value)(b:Nat):Prop:=Z b\/b=g2\/v.ownBlock=some b
def CL(g n:Nat)(v:Value)(k g2:Nat)(W:World)(j:Nat)(u:Value)(w:World):Prop:=
 match j with
 |0=>u=.int .i64 (n:Int)
 |1=>u=.int .i64 (n:Int)
 |2=>u=.pointer (some ⟨g,n,none⟩)
 |3=>u=v
 |4=>u=.agg #[.int .u64 (k:Int),.slice (some ⟨g2,0,none⟩) 500 500]
 |5=>∃q,u=.slice (some ⟨q,0,none⟩) 1 1/\W.heap.size<=q/\w.cell? ⟨q,0,none⟩=some (.int .u64 (k:Int))/\w.cell? ⟨q,1,none⟩=some (.slice (some ⟨g2,0,none⟩) 500 500)
 |7=>u=.pointer (some ⟨g,n,none⟩)
 |_=>True
theorem CL.bQ{g n:Nat}{v:Value}{k g2:Nat}{W:World}{j:Nat}{u:Value}{w w':World}(h:CL g n v k g2 W j u w)(a:Touch (Ap g v) w w')(hz:∀i,Ap g v i->i<W.heap.size):CL g n v k g2 W j u w':=by
 rcases j with _|_|_|_|_|_|_|_|j
 ·exact h
 ·exact h
 ·exact h
 ·exact h
 ·exact h
 ·obtain⟨q,l,f,e,d⟩:=h;have b:¬Ap g v q:=fun c=>by have:=hz q c;omega
  exact⟨q,l,f,a.cell e b,a.cell d b⟩
 ·trivial
 ·exact h
 ·trivial
structure zZ(W:World)(Z:Nat->Prop)(g n g2:Nat)(vs:List Value)(LL:List (List Po.Pg))(x:Po.Pg)(D:Nat->Bool)(xs:Nat->Value)(w:World):Prop where
 al:Touch (Ap g (vs.getD n undef)) W w
 s0:D 6=false->qD Z g w vs LL
 s1:D 6=true->D 8=false->fV n Z g w vs LL/\ft (FP Z g2 (xs 6)) w (xs 6) (LL.getD n []++[x])
 fr:D 6=true->(xs 6).ownBlock=(vs.getD n undef).ownBlock\/∃b,(xs 6).ownBlock=some b/\W.heap.size<=b
 s2:D 8=true->qD (FP Z g2 (xs 6)) g w (vs.set n (xs 6)) (LL.set n (LL.getD n []++[x]))
 c8:D 8=true->D 6=true
section
variable{W w w':World}{Z:Nat->Prop}{g n g2:Nat}{vs:List Value}{LL:List (List Po.Pg)}{x:Po.Pg}{D:Nat->Bool}{xs:Nat->Value}
theorem zZ.quiet(h:zZ W Z g n g2 vs LL x D xs w)(k:Nat)(u:Value)(a:(k !=6&&k !=8)=true):zZ W Z g n g2 vs LL x (Ord.bP D k) (Ord.set xs k u) w:=by
 simp only[Bool.and_eq_true,bne_iff_ne]at a;have b:Ord.bP D k 6=D 6:=if_neg (Ne.symm a.1);have d:Ord.bP D k 8=D 8:=if_neg (Ne.symm a.2);have c:Ord.set xs k u 6=xs 6:=if_neg (Ne.symm a.1);exact⟨h.al,by rw[b];exact h.s0,by rw[b,d,c];exact h.s1,by rw[b,c];exact h.fr,by rw[d,c];exact h.s2,by rw[b,d];exact h.c8⟩
theorem zZ.new(h:zZ W Z g n g2 vs LL x D xs w)(b:Below w.heap.size w w')(a:D 6=false)(hz:∀i,Z i->i<W.heap.size):zZ W Z g n g2 vs LL x D xs w':=by
 have d:D 8≠true:=fun e=>by rw[h.c8 e]at a;cases a
 exact⟨h.al.trans (.aE b),fun e=>(h.s0 e).al (T:=fun i=>w.heap.size<=i) (.dC b fun _ _ h=>h) (fun i c=>by have:=hz i c;have:=h.al.size;omega),(fun e=>by rw[a]at e;cases e),(fun e=>by rw[a]at e;cases e),(fun e=>absurd e d),h.c8⟩
theorem zZ.app(h:zZ W Z g n g2 vs LL x D xs w)(o:n<16)(j:D 6=false){v':Value}(c:w.grownBy w' (vs.getD n undef).ownBlock)(f:v'.ownBlock=(vs.getD n undef).ownBlock\/v'.ownBlock=some w.heap.size){u:Value}(hu:∀b,u.ownBlock=some b->b=g2)
 (hp:ft (fun b=>Z b\/v'.ownBlock=some b\/u.ownBlock=some b) w' v' (LL.getD n []++[x])):zZ W Z g n g2 vs LL x (Ord.bP D 6) (Ord.set xs 6 v') w':=by
 have q:Ord.bP D 6 6=true:=if_pos rfl;have m:Ord.bP D 6 8=D 8:=if_neg (by decide);have k:Ord.set xs 6 v' 6=v':=if_pos rfl;have l:D 8≠true:=fun e=>by rw[h.c8 e]at j;cases j
 have d:ft (FP Z g2 v') w' v' (LL.getD n []++[x]):=hp.mono fun b a=>by
  rcases a with a|a|a
  ·exact Or.inl a
  ·exact Or.inr (Or.inr a)
  ·exact Or.inr (Or.inl (hu b a))
 exact⟨h.al.trans ⟨c.os,c.tape,c.output,c.size,fun i p hs=>c.block i p fun e=>hs (Or.inr e.symm)⟩,(fun e=>by rw[q]at e;cases e),fun _ _=>⟨(h.s0 j).grown o c,by rw[k];exact d⟩,(fun _=>by rw[k];exact f.imp id fun e=>⟨_,e,h.al.size⟩),(fun e=>by rw[m]at e;exact absurd e l),(fun e=>by rw[m]at e;exact absurd e l)⟩
theorem zZ.store(h:zZ W Z g n g2 vs LL x D xs w)(o:n<16)(d:D 6=true)(u:D 8=false)(hz:∀i,Z i->i<W.heap.size):zZ W Z g n g2 vs LL x (Ord.bP D 8) (Ord.set xs 8 undef) (w.setCell ⟨g,n,none⟩ (xs 6)):=by
 have r:Ord.bP D 8 6=D 6:=if_neg (by decide);have y:Ord.bP D 8 8=true:=if_pos rfl;have m:Ord.set xs 8 undef 6=xs 6:=if_neg (by decide);obtain⟨f,s⟩:=h.s1 d u;have k:qD (FP Z g2 (xs 6)) g (w.setCell ⟨g,n,none⟩ (xs 6)) (vs.set n (xs 6)) (LL.set n (LL.getD n []++[x])):=f.stored o s (fun b a=>Or.inl a) fun j p c b a q=>by
  rcases h.fr d with e|⟨z,e,t⟩
  ·rw[e]at a;exact f.ap n j o p (Ne.symm c) b a q
  ·rw[e]at a;simp only[Option.some.injEq]at a;obtain⟨l,-,-,v,-⟩:=f.at_ j p c;have:=hz b (v b q);omega
 exact⟨h.al.trans (Touch.set (S:=Ap g (vs.getD n undef)) g n _ (Or.inl rfl)),(fun e=>by rw[r,d]at e;cases e),(fun _ e=>by rw[y]at e;cases e),(fun _=>by rw[m];exact h.fr d),(fun _=>by rw[m];exact k),(fun _=>by rw[r];exact d)⟩
end
section
variable{PD:(Nat->Prop)->World->Nat->Dk.aq->Prop}{PL:(Nat->Prop)->(Nat->Prop)->World->Nat->Nat->Dk.aq->Wl.S->Prop}{PO:(Nat->Prop)->World->Nat->Nat->Nat->Po.S->Prop}{Hd:Dk.aq->Wl.S->Prop}{Hw:Dk.aq->Po.Ar->(Nat->Po.Pg)->Prop}{Hp:Dk.aq->Po.Ar->(Nat->Po.Pg->Prop)->Prop}
variable{U V X Z:Nat->Prop}{w w' w0:World}{B L P base g sb F K n g2:Nat}{d:Dk.aq}{lg:Wl.S}{s:Po.S}{vs:List Value}{LL:List (List Po.Pg)}{sf:List Nat}{x:Po.Pg}{v':Value}
theorem lG.down(A:cQ PD PL PO Hd Hw Hp)(h:lG PL PO Hw base g sb F K U V X Z w0 w B L P d lg s vs LL LL sf)(o:n<16)(k:Touch (Ap g (vs.getD n undef)) w w')(hp:qD (FP Z g2 v') g w' (vs.set n v') (LL.set n (LL.getD n []++[x])))
 (hfr:v'.ownBlock=(vs.getD n undef).ownBlock\/∃b,v'.ownBlock=some b/\w.heap.size<=b) (v:base<=g2/\g2<w.heap.size) (t:∀i,eO U V X i->i≠g2) (H:K<=90):
 lG PL PO Hw base g sb F K U V X (FP Z g2 v') w0 w' B L P d lg s (vs.set n v') (LL.set n (LL.getD n []++[x])) LL sf:=by
 obtain⟨l,E,-,z,-⟩:=h.mem.eP.at_ n o (by omega);have y:∀i,Ap g (vs.getD n undef) i->Z i:=fun i a=>by
  rcases a with rfl|a
  ·exact h.mem.eP.zg
  ·exact z i a
 have f:Below base w w':=k.below (fun i a=>(h.mem.zb i (y i a)).1) h.mem.bw;have q:¬Ap g (vs.getD n undef) sb:=fun p=>by
  rcases p with p|p
  ·exact h.mem.ns p
  ·obtain⟨-,cs,u⟩:=kt E p;rw[h.mem.safe.2]at u;simp at u
 have c:∀b,v'.ownBlock=some b->Z b\/w.heap.size<=b:=fun b f=>by
  rcases hfr with e|⟨I,e,D⟩
  ·rw[e]at f;exact Or.inl (z b f)
  ·rw[e]at f;simp only[Option.some.injEq]at f;exact Or.inr (by omega)
 have r:∀b,v'.ownBlock=some b->b<w'.heap.size:=fun b f=>by
  have:=hp.at_ n o (by omega);rw[aZ _ _ _ (by rw[h.mem.eP.nQ];exact o)]at this;obtain⟨G,k1,-⟩:=this;exact(kt k1 f).1
 refine⟨⟨A.bQ h.at_.at_ k fun i a hs=>h.ap i a (y i hs),h.at_.fu,h.at_.fv,h.at_.fx⟩,h.bG,h.ar,h.fr,h.pins,h.ep,h.la,h.stop,⟨hp,h.mem.safe.al k q,Or.inl h.mem.zs,h.mem.ns,fun i a=>?_,h.mem.wX.trans f,Nat.le_trans h.mem.bw k.size,fun j C=>?_⟩,fun i a hz=>?_,h.now,h.sl,h.dk,h.qg,Or.inr ⟨n,x,o,rfl⟩,h.len⟩
 ·rcases a with a|rfl|a
  ·exact⟨(h.mem.zb i a).1,Nat.lt_of_lt_of_le (h.mem.zb i a).2 k.size⟩
  ·exact⟨v.1,Nat.lt_of_lt_of_le v.2 k.size⟩
  ·refine⟨?_,r i a⟩;rcases c i a with m|m
   ·exact(h.mem.zb i m).1
   ·exact Nat.le_trans h.mem.bw m
 ·have:=h.qg j C;by_cases e:n=j
  ·subst e;rw[aZ _ _ _ (by rw[h.len];exact o),List.length_append,List.length_singleton];omega
  ·rw[bX _ _ _ e];omega
 ·rcases hz with hz|hz|hz
  ·exact h.ap i a hz
  ·exact t i a hz
  ·rcases c i hz with m|m
   ·exact h.ap i a m
   ·have:=A.lt h.at_.at_ i a;omega
end
end Go.Proofs.YtbpodmallknhfaaGreat
namespace Go.Proofs.YtbpodmallknhfaaGreat.Wl
open Go.Proofs.YtbpodmallknhfaaGreat
def il(at_ count:Nat)(d a:Dk.aq):Prop:=∀i,(i<at_\/at_+count+2<=i)->d.waits.getD i none=none->a.waits.getD i none=none/\a.aP.getD i []=d.aP.getD i []
theorem il.refl(a c:Nat)(d:Dk.aq):il a c d d:=fun _ _ h=>⟨h,rfl⟩
theorem il.trans{a c:Nat}{d e f:Dk.aq}(h:il a c d e)(k:il a c e f):il a c d f:=fun i b hw=>by
 have j:=h i b hw;have g:=k i b j.1;exact⟨g.1,g.2.trans j.2⟩
theorem il.cj{a c:Nat}{d e:Dk.aq}(h:il a c d e):il a c d (Dk.cj e):=fun i b hw=>by
 obtain⟨g,f,-,-⟩:=Dk.ee e;rw[g,f];exact h i b hw
theorem getD_set_ne{α:Type}(l:List α){i j:Nat}(h:i≠j)(x z:α):(l.set i x).getD j z=l.getD j z:=by
 rw[List.getD_eq_getElem?_getD,List.getD_eq_getElem?_getD,List.getElem?_set_ne h]
theorem il.put{a c:Nat}{d e:Dk.aq}(h:il a c d e){i:Nat}(k:a<=i/\i<a+c+2)(b:List Nat):il a c d (Dk.put e i b):=fun j g hw=>by
 have f:=h j g hw;refine⟨?_,f.2⟩;show(e.waits.set i (some b)).getD j none=none;rw[getD_set_ne _ (by omega)];exact f.1
theorem il.last{a c:Nat}{d e:Dk.aq}(h:il a c d e)(f:Dk.Ok e):il a c d (Dk.last e):=fun j g hw=>by
 have b:=h j g hw;refine⟨?_,?_⟩
 ·show(Dk.none_ e).getD j none=none;unfold Dk.none_;exact Dk.cU _ _ _
 ·by_cases hl:j<Dk.size e
  ·rw[Dk.dY f hl,b.1];exact b.2
  ·rw[<-b.2];have k:(Dk.last e).aP.length<=j:=by have:=Dk.cf f;unfold Dk.size at this hl;omega
   have i:e.aP.length<=j:=by unfold Dk.size at hl;omega
   rw[List.getD_eq_getElem?_getD,List.getD_eq_getElem?_getD,List.getElem?_eq_none k,List.getElem?_eq_none i]
theorem il.told{a c:Nat}{d:Dk.aq}{b:List Nat}(f:Dk.Ok d)(e:Dk.fI b):il a c d (told d a b):=
 (((il.refl a c d).put (i:=a) ⟨Nat.le_refl _,by omega⟩ b).put (i:=a+1) ⟨by omega,by omega⟩ b).last (Dk.eT (Dk.eT f _ e) _ e)
end Go.Proofs.YtbpodmallknhfaaGreat.Wl
