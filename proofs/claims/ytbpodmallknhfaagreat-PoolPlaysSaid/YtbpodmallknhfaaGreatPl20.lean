/- Parts of a proof. Conditions: as each row says. -/
import Derived.Test.YtbpodmallknhfaaGreatPl19
import Derived.Test.YtbpodmallknhfaaGreatPl08
import Derived.StillTailTactics
import Derived.BigQuiet
import Derived.Deep.QuietTactic
import Derived.Laws.StructEq
namespace Go.Proofs.YtbpodmallknhfaaGreat
open Go.RowKit
def Po.fD:List Nat->Nat
 | []=>0
 |x::l=>(if 0<x then 1 else 0)+Po.fD l
theorem Po.qB(l:List Nat)(k:Nat)(h:k<l.length):Po.fD (l.take (k+1))=Po.fD (l.take k)+(if 0<l.getD k 0 then 1 else 0):=by
 induction l generalizing k with
 |nil=>simp at h
 |cons x l ih=>
  cases k with
  |zero=>simp[Po.fD]
  |succ k=>
   have:=ih k (by simpa using h);simp only[List.take_succ_cons,Po.fD,List.getD_cons_succ];omega
theorem Po.Ct(l:List Nat):Po.fD l<=l.length:=by
 induction l with
 |nil=>exact GH _
 |cons x l ih=>simp only[Po.fD,G2];split<;>omega
section
variable{base R:Nat}{Z:Nat->Prop}{N:List (Nat×List Nat)}{fi:List Nat}{di:List Bool}{pi:List Nat}
set_option maxHeartbeats 1600000 in
set_option maxRecDepth 20000 in
theorem bo(w:World)(h:eQ base Z R w N fi di pi)(hs:∀i,i<16->pi.getD i 0<=1000000):Calls Tryz.prog 36 #[.pointer (some ⟨R,0,none⟩)] w fun e w'=>e=.returned (.int .i64 (Po.fD pi:Int))/\w=w':=by
 have j:=GD h;have D:=GD hs;clear h hs;go_enter Tryz.func36,Tryz.ntmps36;go_wp2_with fail
 go_loopw [3,4] (fun t l wr=>∃k:Nat,k<=16/\l=.int .i64 (k:Int)/\t=.int .i64 (Po.fD (pi.take k):Int)/\w=wr) (fun _ l _=>16-(intOf l).toNat)
 case atStart=>exact⟨0,G7 _,rfl,rfl,rfl⟩
 case round=>
  obtain⟨k,q,rfl,rfl,rfl⟩:=hrel;have f:=Po.Ct (pi.take k);rw[Hj]at f;have C:=GD q;by_cases hlt:k<16
  ·have d:=GD hlt;obtain⟨A,c3,B,-,-⟩:=j.out.p hlt;have y:(k:Int)<16:=by omega
   have z:(0:Int)<=(k:Int):=by omega
   have a:=Po.qB pi k (by rw[j.out.lp];exact hlt);obtain⟨v,o⟩:∃v,v=pi.getD k 0:=⟨_,rfl⟩
   obtain⟨c,r⟩:∃c,c=Po.fD (pi.take k):=⟨_,rfl⟩
   rw[<-o]at B a;rw[<-r]at a f⊢;have s:=GD a;have n:Hid (c<=16):=GD (by omega);clear a o r f hlt q;have x:=GW ((k:Int)+1) (by have:=d.out;omega);have u:=GW ((c:Int)+1) (by have:=n.out;omega);by_cases hz:0<v
   ·have m:(0:Int)<(v:Int):=by omega
    have b:=s.out;rw[GU hz]at b;have g:=GD b;clear b hz;go_wp2_with fail
    go_roundw
    case rel=>exact⟨k+1,d.out,by go_num,by rw[g.out];go_num,trivial⟩
    case measure=>have:=d.out;simp[intOf];omega
   ·have m:¬((0:Int)<(v:Int)):=by omega
    have b:=s.out;rw[GQ hz]at b;have g:=GD b;clear b hz;go_wp2_with fail
    go_roundw
    case rel=>exact⟨k+1,d.out,by go_num,by rw[g.out];rfl,trivial⟩
    case measure=>have:=d.out;simp[intOf];omega
  ·obtain rfl:k=16:=by omega
   obtain⟨A,c3,-,-,-⟩:=j.out.p (i:=0) (by decide);rw[Hm (by rw[j.out.lp];omega)];go_wp2_with fail
   go_ret;exact⟨rfl,rfl⟩
set_option maxHeartbeats 3200000 in
set_option maxRecDepth 20000 in
theorem jf(w:World)(h:eQ base Z R w N fi di pi){m:Nat}(hm:m<16)(k:Nat)(u:Value)(x:List Nat)(hx:Own base w u x)(E:Nat->Prop)(hz:∀j,Z j->E j)(Y:∀j,u.ownBlock=some j->E j)(H:∀j,E j->base<=j/\j<w.heap.size)(hlen:x.length=500)(hu:∀b,u.ownBlock=some b->¬Z b):
 Calls Tryz.prog 37 #[.pointer (some ⟨R,0,none⟩),.int .i64 (m:Int),ed k u] w fun e w'=>e=(.returned (.tuple #[]))/\eQ base E R w' (N.set m (k,x)) (if di.getD m false=true then fi else fi.set m k) (di.set m true) pi/\Touch Z w w':=by
 obtain⟨ag,D⟩:∃f,f=(if di.getD m false=true then fi else fi.set m k):=⟨_,rfl⟩
 rw[<-D];have ao:=GD D;clear D;have HR:=GD h;have HX:=GD hx;have K:Hid ((∀j,Z j->E j)/\(∀j,u.ownBlock=some j->E j)/\∀j,E j->base<=j/\j<w.heap.size):=⟨hz,Y,H⟩
 have HM:=GD hm;obtain⟨p,c,rfl⟩:∃p c,u=.slice p 500 c:=by
  obtain⟨p,c,e,-⟩:=hx.aP.form;rw[hlen]at e;exact⟨p,c,e⟩
 obtain⟨W,hW⟩:∃W,W=w.alloc (.cells #[.int .u64 (k:Int),.slice p 500 c] 59):=⟨_,rfl⟩
 have A:W.heap[w.heap.size]?=some (.cells #[.int .u64 (k:Int),.slice p 500 c] 59 (0,0)):=by rw[hW];exact GM _ _
 have I:Below w.heap.size w W:=by rw[hW];exact ae _ _
 obtain⟨Q,hQ⟩:∃Q,Q=w.heap.size:=⟨_,rfl⟩
 rw[<-hQ]at A;have G:=GD I;have i:=GD A;have an:=GD (HR.out.below I);have ak:=GD (HX.out.below I);have aw:=GD hQ;have au:(m:Int)<16:=by omega
 have av:(0:Int)<=(m:Int):=by omega
 have al:Hid (∀b,(Value.slice p 500 c).ownBlock=some b->¬Z b):=hu;have F:Hid (¬Z Q):=fun hz=>by have:=(h.low Q hz).2;omega
 clear h hx hz Y H hm A I hu;go_enter Tryz.func37,Tryz.ntmps37;go_upto_region 1 with(fail)
 rw[<-hW,<-hQ];clear hW hQ;obtain⟨gd,cd,q,fd,a⟩:=an.out.d HM.out;cases hdi:di.getD m false;case true=>
  rw[hdi]at q;obtain⟨C,t⟩:=a true;have o:=GD C;have g:=GD t;have U:Hid (ag=fi):=by show _=_;rw[ao.out,hdi];rfl
  clear a C t hdi;go_upto_region 4 with(fail)
  obtain⟨gn,cn,u1,n0,n1,n2,O,M,-,a⟩:=o.out.n HM.out;have V:=g.out.cell (bj i.out) F.out;have q1:=g.out.cell (bp i.out) F.out;obtain⟨W2,l⟩:∃W2,W2=W.setCell ⟨gd,m,none⟩ (.bool true):=⟨_,rfl⟩
  rw[<-l]at n0 n1 n2 O M V q1 o g⊢;rw[<-l]at a;have r:Own base W2 (.slice p 500 c) x:=ak.out.aj g.out fun b I hz=>al.out b I hz;have L:W.heap.size<=W2.heap.size:=g.out.size;obtain⟨B,s⟩:=a k (.slice p 500 c) x E r K.out.1 K.out.2.1 (fun j hj=>⟨(K.out.2.2 j hj).1,by have:=(K.out.2.2 j hj).2;have:=G.out.size;omega⟩);have S:=GD B;have P:=GD (g.out.trans s);clear a r B s l o g L cd q fd;go_still_tail 7,(by kernel_rfl)
  go_wp2_with fail
  refine bodyPost_end (v:=.tuple #[]) (by simp[results,Tryz.results37,go_sem]) rfl ⟨rfl,?_,?_⟩
  ·rw[U.out];exact S.out.aj (T:=fun _=>False) ⟨rfl,rfl,rfl,GH _,fun _ _ _=>rfl⟩ (fun _ _ h=>h)
  ·exact(Touch.ax G.out).trans (P.out.trans ⟨rfl,rfl,rfl,GH _,fun _ _ _=>rfl⟩)
 case false=>
  rw[hdi]at q;obtain⟨gf,cf,ar,ff,y⟩:=an.out.f HM.out;have V:=bj i.out;have U:Hid (ag=fi.set m k):=by show _=_;rw[ao.out,hdi];rfl
  obtain⟨ad,aa⟩:=y k;obtain⟨X,hX⟩:∃X,X=(W.setCell ⟨gf,m,none⟩ (.int .u64 (k:Int))).drew:=⟨_,rfl⟩
  have af:eQ base Z R X N (fi.set m k) di pi:=by rw[hX];exact ad.aj (T:=fun _=>False) ⟨rfl,rfl,rfl,GH _,fun _ _ _=>rfl⟩ (fun _ _ h=>h)
  have ab:Touch Z W X:=by rw[hX];exact aa.trans ⟨rfl,rfl,rfl,GH _,fun _ _ _=>rfl⟩
  obtain⟨aq,ai,J,ah,z⟩:=af.d HM.out;obtain⟨C,t⟩:=z true;have o:=GD C;have g:=GD (ab.trans t);have HC:Hid (_/\_/\_):=⟨ai,J,ah⟩
  clear a z hdi C t ad aa af ab y ai J ah;go_upto_region 2 with(fail)
  go_still_tail 8,(by kernel_rfl)
  go_upto_region 3 with(fail)
  rw[<-hX];clear hX cf ar ff cd q fd V;obtain⟨cd,q,fd⟩:=HC.out;go_upto_region 4 with(fail)
  clear cd q fd;obtain⟨gn,cn,u1,n0,n1,n2,O,M,-,a⟩:=o.out.n HM.out;have V:=g.out.cell (bj i.out) F.out;have q1:=g.out.cell (bp i.out) F.out;obtain⟨W2,l⟩:∃W2,W2=X.setCell ⟨aq,m,none⟩ (.bool true):=⟨_,rfl⟩
  rw[<-l]at n0 n1 n2 O M V q1 o g⊢;rw[<-l]at a;have r:Own base W2 (.slice p 500 c) x:=ak.out.aj g.out fun b I hz=>al.out b I hz;have L:W.heap.size<=W2.heap.size:=g.out.size;obtain⟨B,s⟩:=a k (.slice p 500 c) x E r K.out.1 K.out.2.1 (fun j hj=>⟨(K.out.2.2 j hj).1,by have:=(K.out.2.2 j hj).2;have:=G.out.size;omega⟩);have S:=GD B;have P:=GD (g.out.trans s);clear a r B s l o g L;go_still_tail 7,(by kernel_rfl)
  go_wp2_with fail
  refine bodyPost_end (v:=.tuple #[]) (by simp[results,Tryz.results37,go_sem]) rfl ⟨rfl,?_,?_⟩
  ·rw[U.out];exact S.out.aj (T:=fun _=>False) ⟨rfl,rfl,rfl,GH _,fun _ _ _=>rfl⟩ (fun _ _ h=>h)
  ·exact(Touch.ax G.out).trans (P.out.trans ⟨rfl,rfl,rfl,GH _,fun _ _ _=>rfl⟩)
end
set_option maxHeartbeats 1600000 in
set_option maxRecDepth 20000 in
theorem aM(w:World)(v:Value)(l:List Int)(n:Int)(A:Ints.aJ w v l)(hl:l.length<=1000000):Calls Tryz.prog 13 #[v,.int .i64 n] w fun e w'=>e=.returned (.bool (decide (n∈l)))/\w=w':=by
 obtain⟨p,cap,rfl,z,-,hp⟩:=A.form;have G:=GD hp;have q:=GD hl;clear A hp hl;go_enter Tryz.func13,Tryz.ntmps13;go_wp2_with fail
 go_loopw [5] (fun i wr=>∃k:Nat,k<=l.length/\i=.int .i64 (k:Int)/\n∉l.take k/\w=wr) (fun i _=>l.length-(intOf i).toNat)
 case atStart=>exact⟨0,G7 _,rfl,by simp,rfl⟩
 case round=>
  obtain⟨k,x,rfl,u,rfl⟩:=hrel;have B:=GD u;have r:=GD x;clear u x;by_cases hlt:k<l.length
  ·have g:=GD hlt;obtain⟨b,off,rfl,t⟩:=G.out (by omega);have C:=t k hlt;have E:(k:Int)<(l.length:Int):=by omega
   have F:(0:Int)<=(k:Int):=by omega
   have d:l.take (k+1)=l.take k++[l.getD k 0]:=by
    rw[Ih hlt,GG,GS hlt];rfl
   have a:l.getD k 0∈l:=by
    rw[GG,GS hlt];exact Ie _
   generalize l.getD k 0=y at*
   have o:=GD d;have f:=GD a;have D:=GW ((k:Int)+1) (by have:=q.out;omega);clear t d a hlt;by_cases c:y=n
   ·subst c;have j:(y==y)=true:=by simp
    have s:Hid (decide (y∈l)=true):=GK f.out;go_wp2_with fail
    go_ret;exact⟨by rw[s.out];rfl,rfl⟩
   ·have j:(y==n)=false:=by simpa using c
    have m:Hid (¬n=y):=fun e=>c e.symm;go_wp2_with fail
    go_roundw
    case rel=>
     refine⟨k+1,g.out,by go_num,?_,trivial⟩;rw[o.out,List.mem_append,List.mem_singleton];exact fun h=>h.elim B.out m.out
    case measure=>have:=g.out;simp[intOf];omega
  ·obtain rfl:k=l.length:=by have:=r.out;omega
   have s:Hid (decide (n∈l)=false):=GY (by have:=B.out;rwa[Hm (GH _)]at this);go_wp2_with fail
   go_ret;exact⟨by rw[s.out];rfl,rfl⟩
end Go.Proofs.YtbpodmallknhfaaGreat
namespace Go.Proofs.YtbpodmallknhfaaGreat
namespace Po
theorem kM:∀{a b:List Nat},a.Pairwise (·< ·)->b.Pairwise (·< ·)->(∀x,x∈a↔x∈b)->a=b
 | [],[],_,_,_=>rfl
 | [],y::b,_,_,h=>by have:=(h y).2 (Hr ..);cases this
 |x::a,[],_,_,h=>by have:=(h x).1 (Hr ..);cases this
 |x::a,y::b,ha,hb,h=>by
  obtain⟨d,g⟩:=List.pairwise_cons.1 ha;obtain⟨c,f⟩:=List.pairwise_cons.1 hb;have e:x=y:=by
   have k:=(h x).1 (Hr ..);have j:=(h y).2 (Hr ..);rcases List.mem_cons.1 k with e|e
   ·exact e
   ·rcases List.mem_cons.1 j with i|i
    ·exact i.symm
    ·have:=c x e;have:=d y i;omega
  subst e;rw[kM g f fun z=>?_];constructor
  ·intro hz;rcases List.mem_cons.1 ((h z).1 (Hx _ hz))with e|e
   ·have:=d z hz;omega
   ·exact e
  ·intro hz;rcases List.mem_cons.1 ((h z).2 (Hx _ hz))with e|e
   ·have:=c z hz;omega
   ·exact e
theorem ly(n:Nat):(List.range n).Pairwise (·< ·):=List.pairwise_lt_range
theorem o0(l:List Nat):∀k,k<=l.length->fD (l.take k)=((List.range k).filter fun i=>decide (0<l.getD i 0)).length
 |0,_=>by rw[IQ];rfl
 |k+1,h=>by
  rw[qB l k h,o0 l k (by omega),IV,List.filter_append,GI];congr 1
  by_cases hz:0<l.getD k 0
  ·rw[GU hz];simp only[List.filter_cons,hz,decide_true,if_true,List.filter_nil,I1]
  ·rw[GQ hz];simp only[List.filter_cons,hz,decide_false,List.filter_nil];rfl
theorem df{s:S}(g:Good s)(e:s.ar=iK){pi:List Nat}(hl:pi.length=16)(hp:∀k,k<16->pi.getD k 0=s.pins k):s.ao<=fD pi↔Full s:=by
 have c:∀k∈s.held,k<16:=fun k b=>by
  have:=g.Ej k b;rw[e]at this;have:(k:Int)<16:=this;omega
 have m:fD pi=((List.range 16).filter fun i=>decide (0<pi.getD i 0)).length:=by
  have:=o0 pi 16 (by omega);rwa[Hm (by omega)]at this
 have l:((List.range 16).filter fun i=>decide (0<pi.getD i 0))=s.held.filter fun i=>decide (0<s.pins i):=by
  refine kM ((ly 16).filter _) (g.sorted.filter _) fun x=>?_;rw[List.mem_filter,List.mem_filter,List.mem_range,Jh,Jh];constructor
  ·rintro⟨d,a⟩;rw[hp x d]at a;exact⟨g.pinned x a,a⟩
  ·rintro⟨d,a⟩;exact⟨c x d,by rw[hp x (c x d)];exact a⟩
 rw[m,l];have d:=List.length_filter_le (fun i=>decide (0<s.pins i)) s.held;have a:=g.lS;constructor
 ·intro h;refine⟨by omega,fun k b=>?_⟩;have j:(s.held.filter fun i=>decide (0<s.pins i)).length=s.held.length:=by omega
  have f:=List.length_filter_eq_length_iff.1 j k b;exact IJ f
 ·intro h;rw[List.filter_eq_self.2 fun k b=>GK (h.2 k b)];have:=h.1;omega
def gd(s:S)(k:Nat):Option (Nat×Nat):=(s.first k).map fun f=>(k,f)
theorem tE{s:S}(g:Good s)(d:s.ar=iK):tF s=(List.range 16).filterMap (gd s):=by
 have b:∀k∈s.held,k<16:=fun k c=>by
  have:=g.Ej k c;rw[d]at this;have:(k:Int)<16:=this;omega
 have f:s.held=(List.range 16).filter fun i=>decide (i∈s.held):=by
  refine kM g.sorted ((ly 16).filter _) fun x=>?_;rw[List.mem_filter,List.mem_range,Jh];exact⟨fun h=>⟨b x h,h⟩,fun h=>h.2⟩
 show s.held.filterMap (gd s)=_;have e:∀l:List Nat,(l.filter fun i=>decide (i∈s.held)).filterMap (gd s)=l.filterMap (gd s):=by
  intro l;induction l with
  |nil=>rfl
  |cons x l ih=>
   by_cases a:x∈s.held
   ·rw[List.filter_cons_of_pos (by exact GK a),I7,I7,ih]
   ·rw[List.filter_cons_of_neg (by simpa using a),ih,I7];have:gd s x=none:=by unfold gd;rw[g.lQ a];rfl
    rw[this]
 rw[<-e (List.range 16),<-f]
structure kx(s:S)(N:List Pg)(b:List Nat)(a:List Bool)(pi:List Nat):Prop where
 now:∀k,k<16->N.getD k (0,[])=s.now k
 pins:∀k,k<16->pi.getD k 0=s.pins k
 d1:∀k,k<16->k∈s.held->a.getD k false=true->s.first k=some (b.getD k 0)
 d2:∀k,k<16->s.first k≠none->a.getD k false=true
structure cW(s:S)(N:List Pg)(b:List Nat)(a:List Bool)(pi:List Nat):Prop where
 tie:kx s N b a pi
 c:∀k,k<16->a.getD k false=true->k∈s.held
theorem oR{α:Type}(n:Nat)(x d:α){k:Nat}(h:k<n):(List.replicate n x).getD k d=x:=by
 rw[GG,IU,GU h];rfl
theorem bJ{α:Type}{l:List α}{m k:Nat}{x d:α}(h:m<l.length):(l.set m x).getD k d=if k=m then x else l.getD k d:=by
 rw[GG,List.getElem?_set];by_cases e:m=k
 ·subst e;rw[GU rfl,GU rfl,GU h];rfl
 ·rw[GQ e,GQ (H4 e),<-GG]
theorem uq(fr:Nat):cW (fresh (fun _=>blank) fr iK) (List.replicate 16 blank) (List.replicate 16 0) (List.replicate 16 false) (List.replicate 16 0):=
 ⟨⟨fun k a=>oR _ _ _ a,fun k a=>oR _ _ _ a,(fun k _ a=>by cases a),fun k _ a=>absurd rfl a⟩,fun k a h=>by rw[oR _ _ _ a]at h;cases h⟩
theorem kx.CQ{s t:S}{N:List Pg}{e:List Nat}{f:List Bool}{pi:List Nat}(h:cW s N e f pi)(m:qI s t)(g:Good t):kx t N e f pi:=by
 refine⟨fun k a=>by rw[m.now];exact h.tie.now k a,fun k a=>by rw[m.pins];exact h.tie.pins k a,fun k a b d=>by rw[m.first k b];exact h.tie.d1 k a (h.c k a d) d,fun k a b=>?_⟩;refine h.tie.d2 k a ?_;rw[<-m.first k (g.aD k b)];exact b
theorem kx.put{s t:S}{N:List Pg}{j:List Nat}{d:List Bool}{pi:List Nat}{n:Nat}{x:Pg}(h:cW s N j d pi)(m:kJ s n x t)(g:Good t)(o:n<16)(lN:N.length=16)(lf:j.length=16)(ld:d.length=16):
 kx t (N.set n x) (if d.getD n false=true then j else j.set n x.1) (d.set n true) pi:=by
 refine⟨fun k a=>?_,fun k a=>by rw[m.pins];exact h.tie.pins k a,fun k a i l=>?_,fun k a i=>?_⟩
 ·rw[m.now,bJ (by omega)];by_cases e:k=n
  ·rw[GU e,e,cC]
  ·rw[GQ e,dQ _ _ e];exact h.tie.now k a
 ·by_cases e:k=n
  ·subst e;rw[m.own.2];by_cases b:d.getD k false=true
   ·rw[GU b,h.tie.d1 k a (h.c k a b) b];rfl
   ·rw[GQ b,bJ (by omega),GU rfl];have:s.first k=none:=by
     cases e:s.first k with
     |none=>rfl
     |some f=>exact absurd (h.tie.d2 k a (by rw[e];intro c;cases c)) b
    rw[this];rfl
  ·rw[bJ (by omega),GQ e]at l;rw[m.first k e i,h.tie.d1 k a (h.c k a l) l];split
   ·rfl
   ·rw[bJ (by omega),GQ e]
 ·rw[bJ (by omega)];by_cases e:k=n
  ·rw[GU e]
  ·rw[GQ e];refine h.tie.d2 k a ?_;rw[<-m.first k e (g.aD k i)];exact i
theorem kx.ag{s t:S}{N:List Pg}{i:List Nat}{f:List Bool}{pi:List Nat}{n:Nat}(h:cW s N i f pi)(m:iE s n t)(g:Good t)(ld:f.length=16)(j:n<16):kx t N i (f.set n false) pi:=by
 refine⟨fun k a=>by rw[m.now];exact h.tie.now k a,fun k a=>by rw[m.pins];exact h.tie.pins k a,fun k a d b=>?_,fun k a d=>?_⟩
 ·rw[bJ (by omega)]at b;by_cases e:k=n
  ·rw[GU e]at b;cases b
  ·rw[GQ e]at b;rw[m.first k e d];exact h.tie.d1 k a (h.c k a b) b
 ·rw[bJ (by omega)];by_cases e:k=n
  ·rw[e,m.own]at d;exact absurd rfl d
  ·rw[GQ e];refine h.tie.d2 k a ?_;rw[<-m.first k e (g.aD k d)];exact d
theorem kx.lY{s t:S}{N:List Pg}{d:List Nat}{g b:List Bool}{pi:List Nat}(h:cW s N d g pi)(m:nn s t)(e:∀k,k<16->b.getD k false=false):kx t N d b pi:=
 ⟨fun k a=>by rw[m.now];exact h.tie.now k a,fun k a=>by rw[m.pins];exact h.tie.pins k a,(fun k a _ c=>by rw[e k a]at c;cases c),fun k _ f=>absurd (m.first k) f⟩
theorem kx.pinned{s t:S}{N:List Pg}{f:List Nat}{i:List Bool}{pi:List Nat}{n:Nat}(h:cW s N f i pi)(m:Pinned s n t)(g:Good t)(lp:pi.length=16)(j:n<16):kx t N f i (pi.set n (pi.getD n 0+1)):=by
 refine⟨fun k a=>by rw[m.now];exact h.tie.now k a,fun k a=>?_,fun k a b d=>by rw[m.first k b];exact h.tie.d1 k a (h.c k a d) d,fun k a b=>?_⟩
 ·rw[m.pins,bJ (by omega)];by_cases e:k=n
  ·rw[GU e,e,cC,h.tie.pins n j]
  ·rw[GQ e,dQ _ _ e];exact h.tie.pins k a
 ·refine h.tie.d2 k a ?_;rw[<-m.first k (g.aD k b)];exact b
theorem kx.iN{s:S}{N:List Pg}{a:List Nat}{b:List Bool}{pi:List Nat}{n:Nat}(h:cW s N a b pi)(lp:pi.length=16)(c:n<16):kx (iN s n) N a b (pi.set n (pi.getD n 0-1)):=by
 refine⟨h.tie.now,fun k d=>?_,h.tie.d1,h.tie.d2⟩;show _=cI s.pins n (s.pins n-1) k;rw[bJ (by omega)];by_cases e:k=n
 ·rw[GU e,e,cC,h.tie.pins n c]
 ·rw[GQ e,dQ _ _ e];exact h.tie.pins k d
end Po
end Go.Proofs.YtbpodmallknhfaaGreat
namespace Go.Proofs.YtbpodmallknhfaaGreat
open Go.RowKit
section
variable{PD:(Nat->Prop)->World->Nat->Dk.ak->Prop}{PL:(Nat->Prop)->(Nat->Prop)->World->Nat->Nat->Dk.ak->Wl.S->Prop}{PO:(Nat->Prop)->World->Nat->Nat->Nat->Po.S->Prop}{Hd:Dk.ak->Wl.S->Prop}{Hw:Dk.ak->Po.Ar->(Nat->Po.Pg)->Prop}{Hp:Dk.ak->Po.Ar->(Nat->Po.Pg->Prop)->Prop}
variable{U V X Z:Nat->Prop}{w w' w0:World}{B L P R base F K:Nat}{d:Dk.ak}{lg:Wl.S}{s:Po.S}{N:List Po.Pg}{fi:List Nat}{di:List Bool}{pi:List Nat}
structure dt(PL:(Nat->Prop)->(Nat->Prop)->World->Nat->Nat->Dk.ak->Wl.S->Prop)(PO:(Nat->Prop)->World->Nat->Nat->Nat->Po.S->Prop)(Hw:Dk.ak->Po.Ar->(Nat->Po.Pg)->Prop)(base F K:Nat)(U V X Z:Nat->Prop)(w0 w:World)(B L P R:Nat)(d:Dk.ak)(lg:Wl.S)(s:Po.S)(N:List Po.Pg)(fi:List Nat)(di:List Bool)(pi:List Nat):Prop where
 at_:pB PL PO Hw base U V X w B L P d lg s
 calm:Wl.Calm 120 d
 ar:s.ar=Po.iK
 fr:s.ao=F
 ep:lg.an=1
 stop:lg.stop<=52+27*K
 pins:∀j,s.pins j<=K
 ref:eQ base Z R w N fi di pi
 ap:∀i,aB U V X i->¬Z i
 fb:Below base w0 w
 bw:base<=w.heap.size
theorem dt.below(A:bh PD PL PO Hd Hw Hp)(h:dt PL PO Hw base F K U V X Z w0 w B L P R d lg s N fi di pi)(a:Below w.heap.size w w'):dt PL PO Hw base F K U V X Z w0 w' B L P R d lg s N fi di pi:=
 ⟨h.at_.below A a,h.calm,h.ar,h.fr,h.ep,h.stop,h.pins,h.ref.below a,h.ap,h.fb.trans (a.mono h.bw),GR h.bw a.size⟩
theorem dt.cy(A:bh PD PL PO Hd Hw Hp)(h:dt PL PO Hw base F K U V X Z w0 w B L P R d lg s N fi di pi):Wl.aX 120 d:=⟨A.Fg (A.dev h.at_.at_.log),h.calm.sz,h.calm.bD⟩
theorem dt.aI(A:bh PD PL PO Hd Hw Hp)(h:dt PL PO Hw base F K U V X Z w0 w B L P R d lg s N fi di pi):Po.Good s:=A.AE h.at_.at_.own
theorem dt.more{a:Nat}(h:dt PL PO Hw base F K U V X Z w0 w B L P R d lg s N fi di pi)(b:K<=a):dt PL PO Hw base F a U V X Z w0 w B L P R d lg s N fi di pi:=
 ⟨h.at_,h.calm,h.ar,h.fr,h.ep,by have:=h.stop;omega,fun j=>GR (h.pins j) b,h.ref,h.ap,h.fb,h.bw⟩
theorem dt.fe{l:Nat}{k:Dk.ak}{b:Wl.S}{c:Po.S}(h:dt PL PO Hw base F K U V X Z w0 w B L P R d lg s N fi di pi)(hw:cA PL PO Hw U V X w B L P w' k b c)(hC:Wl.Calm 120 k)(hl:Po.Lf lg b)(q:c.ar=s.ar)(hf:c.ao=s.ao)(x:K<=l)(hp:∀j,c.pins j<=l):
 ∃g f e,dt PL PO Hw base F l g f e Z w0 w' B L P R k b c N fi di pi/\Touch (aB U V X) w w'/\(∀i,aB g f e i->aB U V X i\/w.heap.size<=i):=by
 obtain⟨g,f,e,r,p,hT,v,u,t⟩:=h.at_.fe hw h.bw;have m:∀i,aB g f e i->aB U V X i\/w.heap.size<=i:=fun i a=>by
  rcases a with a|a|a
  ·exact(v i a).imp GJ id
  ·exact(u i a).imp (fun h=>GL (GJ h)) id
  ·exact(t i a).imp (fun h=>GL (GL h)) id
 refine⟨g,f,e,⟨r,hC,q.trans h.ar,hf.trans h.fr,hl.an.trans h.ep,by rw[hl.stop];have:=h.stop;omega,hp,h.ref.aj hT fun i hz o=>h.ap i o hz,fun i a hz=>?_,h.fb.trans p,GR h.bw hT.size⟩,hT,m⟩;rcases m i a with n|n
 ·exact h.ap i n hz
 ·have:=(h.ref.low i hz).2;omega
theorem dt.gS(A:bh PD PL PO Hd Hw Hp){f:Nat->Prop}{g:List Po.Pg}{b:List Nat}{c:List Bool}{a:List Nat}(h:dt PL PO Hw base F K U V X Z w0 w B L P R d lg s N fi di pi)(j:eQ base f R w' g b c a)(e:Touch Z w w')(hz:∀i,aB U V X i->¬f i):dt PL PO Hw base F K U V X f w0 w' B L P R d lg s g b c a:=
 ⟨⟨A.bq h.at_.at_ e h.ap,h.at_.fu,h.at_.fv,h.at_.fx⟩,h.calm,h.ar,h.fr,h.ep,h.stop,h.pins,j,hz,h.fb.trans (e.below (fun i k=>(h.ref.low i k).1) h.bw),GR h.bw e.size⟩
theorem dt.Ek(A:bh PD PL PO Hd Hw Hp)(h:dt PL PO Hw base F K U V X Z w0 w B L P R d lg s N fi di pi):∀k∈s.held,k<16:=fun k a=>by
 have:=(h.aI A).Ej k a;rw[h.ar]at this;have:(k:Int)<16:=this;omega
theorem oU(g:Nat->Option (Nat×Nat))(k:Nat)(a:k<16):(List.range 16).filterMap g=(List.range k).filterMap g++((g k).toList++((List.range 16).drop (k+1)).filterMap g):=by
 have d:List.range 16=List.range k++(k::(List.range 16).drop (k+1)):=by
  have c:List.range k=(List.range 16).take k:=by rw[List.take_range];congr 1;omega
  have b:k::(List.range 16).drop (k+1)=(List.range 16).drop k:=by
   rw[List.drop_eq_getElem_cons (i:=k) (by simpa using a)];simp
  rw[c,b,IN]
 conv=>lhs;rw[d]
 rw[List.filterMap_append,I7];congr 1
 cases g k<;>rfl
set_option maxHeartbeats 3200000 in
set_option maxRecDepth 20000 in
theorem yr(A:bh PD PL PO Hd Hw Hp)(h:dt PL PO Hw base F K U V X Z w0 w B L P R d lg s N fi di pi)(ht:Po.cW s N fi di pi):Calls Tryz.prog 14 #[.pointer (some ⟨P,0,none⟩),.pointer (some ⟨R,0,none⟩)] w fun e w'=>e=.returned (.bool true)/\Below w.heap.size w w':=by
 have HA:=GD A;have HI:=GD h;have W:=GD ht;have ab:=GD (Po.tE (h.aI A) h.ar);clear A h ht;go_enter Tryz.func14,Tryz.ntmps14;go_wp2_with fail
 refine(HA.out.aD HI.out.at_.at_ HI.out.calm).mono ?_;rintro e w1⟨v,rfl,H,x⟩;rw[ab.out]at H;obtain⟨D,I⟩:∃D,D=(List.range 16).filterMap (Po.gd s):=⟨_,rfl⟩
 rw[<-I]at H;have E:=GD I;have C:D.length<=16:=by rw[I];exact GR (List.length_filterMap_le _ _) (by simp)
 have ad:=GD C;obtain⟨p,cap,rfl,-,-,hp⟩:=H.aP.form;have HP:=GD hp;have HR:=GD (HI.out.ref.below x);have HB:=GD x;clear H x hp I C;go_wp2_with fail
 go_loopw [6,7] (fun nv J wr=>∃k:Nat,k<=16/\J=.int .i64 (k:Int)/\nv=.int .i64 (((List.range k).filterMap (Po.gd s)).length:Int)/\Below w1.heap.size w1 wr) (fun _ J _=>16-(intOf J).toNat)
 case atStart=>exact⟨0,G7 _,rfl,rfl,GF _ _⟩
 case round=>
  obtain⟨k,hk,rfl,rfl,x⟩:=hrel;have aa:=GD hk;have g:=GD x;clear hk x;by_cases hlt:k<16
  ·have l:=GD hlt;have ag:(k:Int)<16:=by omega
   have ah:(0:Int)<=(k:Int):=by omega
   obtain⟨gd,c2,T,-,-⟩:=(HR.out.below g.out).d hlt;have j:=oU (Po.gd s) k hlt;rw[<-E.out]at j;have i:(List.range (k+1)).filterMap (Po.gd s)=(List.range k).filterMap (Po.gd s)++(Po.gd s k).toList:=by
    rw[IV,List.filterMap_append,I7];cases Po.gd s k<;>rfl
   obtain⟨n,o⟩:∃n,n=((List.range k).filterMap (Po.gd s)).length:=⟨_,rfl⟩
   cases hdi:di.getD k false;case false=>
    have y:Po.gd s k=none:=by
     unfold Po.gd;cases e:s.first k with
     |none=>rfl
     |some f=>have:=W.out.tie.d2 k hlt (by rw[e];intro c;cases c);rw[hdi]at this;cases this
    rw[y]at i;have u:Hid (((List.range (k+1)).filterMap (Po.gd s)).length=n):=by show _=_;rw[i,o];simp
    rw[hdi]at T;rw[<-o];clear j i o y hdi hlt;have M:=GW ((k:Int)+1) (by have:=l.out;omega);go_wp2_with fail
    go_roundw
    case rel=>exact⟨k+1,l.out,by go_num,by rw[u.out],g.out⟩
    case measure=>have:=l.out;simp[intOf];omega
   case true=>
    have z:=W.out.tie.d1 k hlt (W.out.c k hlt hdi) hdi;have y:Po.gd s k=some (k,fi.getD k 0):=by unfold Po.gd;rw[z];rfl
    rw[y]at i j;have u:Hid (((List.range (k+1)).filterMap (Po.gd s)).length=n+1):=by show _=_;rw[i,o];simp
    have t:D.getD n (0,0)=(k,fi.getD k 0):=by
     rw[j,o,GG,Hy (GH _),Nat.sub_self];rfl
    have r:n<D.length:=by
     rw[j,o];simp
    rw[hdi]at T;rw[<-o];obtain⟨gf,c1,cf,-,-⟩:=(HR.out.below g.out).f hlt;obtain⟨b,off,rfl,a⟩:=HP.out (by omega);obtain⟨f,hf⟩:∃f,f=fi.getD k 0:=⟨_,rfl⟩
    rw[<-hf]at t cf;have m:∀q,q<2->(eR.cells D)[n*2+q]?=(eR.enc (k,f))[q]?:=fun q hq=>by
     rw[eR.iY D n q r hq];have:D.getD n default=(k,f):=t;rw[this]
    have S:=(g.out.cell (p:=⟨b,off+(n*2+0),none⟩) (Ib ((a (n*2+0) (by omega)).trans (m 0 (by decide))))).trans ((a (n*2+0) (by omega)).trans (m 0 (by decide)));have Q:=(g.out.cell (p:=⟨b,off+(n*2+1),none⟩) (Ib ((a (n*2+1) (by omega)).trans (m 1 (by decide))))).trans ((a (n*2+1) (by omega)).trans (m 1 (by decide)));have S:wr.cell? ⟨b,off+n*2,none⟩=some (.int .u32 (k:Int)):=S;have Q:wr.cell? ⟨b,off+n*2+1,none⟩=some (.int .u64 (f:Int)):=Q;have Y:=GD r;have O:¬((D.length:Int)<=(n:Int)):=by omega
    have i:(n:Int)<(D.length:Int):=by omega
    have af:(0:Int)<=(n:Int):=by omega
    have hu:IntKind.u32.wrap (k:Int)=(k:Int):=Jn _ (by omega);clear j o y hdi hlt z t hf a m r;go_upto_region 7 with(fail)
    go_quiet (fail)
    have G:=GD (g.out.trans ((below_drewN wr.heap.size wr nq).mono g.out.size));generalize wr.drewN nq=W3 at G⊢;clear c1 c2 T cf S Q O i hu;have M:=GW ((k:Int)+1) (by have:=l.out;omega);have ae:=GW ((n:Int)+1) (by have:=Y.out;have:=ad.out;omega);go_wp2_with fail
    go_roundw
    case rel=>exact⟨k+1,l.out,by go_num,by rw[u.out];go_num,G.out⟩
    case measure=>have:=l.out;simp[intOf];omega
  ·obtain rfl:k=16:=by have:=aa.out;omega
   rw[<-E.out];have ai:((D.length:Int)==(D.length:Int))=true:=by simp
   go_wp2_with fail
   go_ret;exact⟨rfl,HB.out.trans (g.out.mono HB.out.size)⟩
end
end Go.Proofs.YtbpodmallknhfaaGreat
namespace Go.Proofs.YtbpodmallknhfaaGreat.Rg
open Go.Proofs.YtbpodmallknhfaaGreat
def mark:List Nat:=[112,117,116,32,98,97,99,107,32]
def tag(n t:Nat):List Nat:=mark++[t,n%256,n/256%256]
def part(k:Nat)(l:List Nat)(i:Nat):List Nat:=(l.drop (k*i)).take k
def row(t b:List Nat)(m:Nat):List Nat:=(List.range m).flatMap fun i=>t++part 52 b i
def laid(b t:List Nat):List Nat:=row t b 10++List.replicate 8 0
def rG(s:List Nat)(m:Nat):List Nat:=(List.range m).map fun i=>(part 64 s i).getD 9 0
def gP(s:List Nat):Nat:=s.getD 9 0
def ej(s:List Nat):Nat:=s.getD 10 0+256*s.getD 11 0
def Told(s:List Nat):Prop:=∀i,i<10->(part 64 s i).take 12=tag (ej s) (gP s)
def rest(s:List Nat)(m:Nat):List Nat:=(List.range m).flatMap fun i=>(part 64 s i).drop 12
def cut(s:List Nat):List Nat:=(rest s 10).take 512
def Whole(s:List Nat)(n:Nat)(x:Po.Pg):Prop:=Told s/\ej s=n/\Pg.cJ (cut s)=0/\x=(Pg.cG (cut s),Pg.cY (cut s))
theorem bZ(n t:Nat):(tag n t).length=12:=rfl
theorem Dd(n t:Nat):(tag n t).getD 10 0=n%256:=rfl
theorem De(n t:Nat):(tag n t).getD 11 0=n/256%256:=rfl
theorem qV{n t:Nat}(b:t<256):∀x∈tag n t,x<256:=by
 intro x a;simp only[tag,mark,Iy,Hg,IX,IY,or_false]at a;omega
theorem eI{k:Nat}{l:List Nat}{i:Nat}(h:k*(i+1)<=l.length):(part k l i).length=k:=by
 have:k*(i+1)=k*i+k:=Jl k i;simp only[part,Hj,G5];omega
theorem rm(k:Nat)(l:List Nat)(i:Nat):(part k l i).length<=k:=by simp only[part,Hj];omega
theorem j8{k:Nat}{l:List Nat}(h:∀x∈l,x<256)(i:Nat):∀x∈part k l i,x<256:=fun x a=>h x (Ht (Hl a))
theorem gZ(k:Nat)(l:List Nat):∀m:Nat,(List.range m).flatMap (part k l)=l.take (k*m)
 |0=>by simp
 |m+1=>by
  rw[IV,Io,gZ k l m,Jl];simp only[Ha,IC,Ip];rw[List.take_add];rfl
theorem my{a b:List Nat}(j:a.length=640)(g:b.length=640)(h:∀i,i<10->part 64 a i=part 64 b i):a=b:=by
 have e:=gZ 64 a 10;have d:=gZ 64 b 10;rw[Hm (by omega)]at e d;rw[<-e,<-d];have:∀l:List Nat,(∀i∈l,i<10)->l.flatMap (part 64 a)=l.flatMap (part 64 b):=by
  intro l;induction l with
  |nil=>intro _;rfl
  |cons x l f=>
   intro hl;rw[Ha,Ha,h x (hl x (Hr ..)),f fun i c=>hl i (Hx _ c)]
 exact this _ fun i c=>List.mem_range.1 c
theorem lr(t b:List Nat)(m:Nat):row t b (m+1)=row t b m++(t++part 52 b m):=by
 unfold row;rw[IV,Io];simp only[Ha,IC,Ip]
theorem je{t b:List Nat}(a:t.length=12)(c:b.length=512):∀m,m<=9->(row t b m).length=64*m
 |0,_=>rfl
 |m+1,h=>by
  rw[lr,GI,GI,je a c m (by omega),a,eI (by omega)];omega
theorem qi{b:List Nat}(a:b.length=512):(part 52 b 9).length=44:=by
 simp only[part,Hj,G5];omega
theorem sH{t b:List Nat}(a:t.length=12)(c:b.length=512):(row t b 10).length=632:=by
 rw[lr,GI,GI,je a c 9 (by omega),a,qi c]
theorem eL{t b:List Nat}(a:t.length=12)(c:b.length=512):(laid b t).length=640:=by
 unfold laid;rw[GI,sH a c,G9]
theorem zX{t b:List Nat}(c:∀x∈t,x<256)(e:∀x∈b,x<256)(m:Nat):∀x∈row t b m,x<256:=by
 intro x a;unfold row at a;obtain⟨i,-,d⟩:=List.mem_flatMap.1 a;rcases List.mem_append.1 d with h|h
 ·exact c x h
 ·exact j8 e i x h
theorem nj{t b:List Nat}(c:∀x∈t,x<256)(d:∀x∈b,x<256):∀x∈laid b t,x<256:=by
 intro x a;rcases List.mem_append.1 a with h|h
 ·exact zX c d 10 x h
 ·rw[Ik h];decide
theorem oo{a c:List Nat}{i:Nat}(h:64*(i+1)<=a.length):part 64 (a++c) i=part 64 a i:=by
 have:64*(i+1)=64*i+64:=by omega
 unfold part;rw[List.drop_append_of_le_length (by omega),List.take_append_of_le_length (by rw[G5];omega)]
theorem wo{a c:List Nat}{i:Nat}(h:a.length=64*i)(b:c.length<=64):part 64 (a++c) i=c:=by
 unfold part;rw[IF h,Hm b]
theorem sG{t b:List Nat}(a:t.length=12)(c:b.length=512):∀m,m<=9->∀i,i<m->part 64 (row t b m) i=t++part 52 b i
 |0,_,_,h=>absurd h (Ii _)
 |m+1,hm,i,hi=>by
  rw[lr];have hl:=je a c m (by omega);rcases Hi i m with h|h
  ·rw[oo (by rw[hl];omega),sG a c m (by omega) i h]
  ·obtain rfl:i=m:=by omega
   exact wo hl (by rw[GI,a,eI (by omega)];omega)
theorem vq(b t:List Nat):laid b t=row t b 9++((t++part 52 b 9)++List.replicate 8 0):=by
 unfold laid;rw[lr,G3]
theorem qs{t b:List Nat}(a:t.length=12)(c:b.length=512){i:Nat}(d:i<10):part 64 (laid b t) i=if i<9 then t++part 52 b i else(t++part 52 b 9)++List.replicate 8 0:=by
 rw[vq];have hl:=je a c 9 (GH _);by_cases h:i<9
 ·rw[GU h,oo (by rw[hl];omega),sG a c 9 (GH _) i h]
 ·obtain rfl:i=9:=by omega
  rw[GQ h];exact wo hl (by rw[GI,GI,a,qi c,G9];decide)
theorem kg{t b:List Nat}(a:t.length=12)(d:b.length=512){i:Nat}(c:i<10):(part 64 (laid b t) i).take 12=t:=by
 rw[qs a d c];split
 ·exact Iu a
 ·rw[G3];exact Iu a
theorem qw{t b:List Nat}(a:t.length=12)(d:b.length=512){i:Nat}(c:i<10):(part 64 (laid b t) i).drop 12=if i<9 then part 52 b i else part 52 b 9++List.replicate 8 0:=by
 rw[qs a d c];by_cases h:i<9
 ·rw[GU h,GU h,IF a]
 ·rw[GQ h,GQ h,G3,IF a]
theorem mh(s:List Nat)(m:Nat):rest s (m+1)=rest s m++(part 64 s m).drop 12:=by
 unfold rest;rw[IV,Io];simp only[Ha,IC,Ip]
theorem qf{t b:List Nat}(a:t.length=12)(c:b.length=512):∀m,m<=9->rest (laid b t) m=(List.range m).flatMap (part 52 b)
 |0,_=>rfl
 |m+1,h=>by
  rw[mh,qf a c m (by omega),qw a c (by omega),GU (by omega),IV,Io];simp only[Ha,IC,Ip]
theorem tG{t b:List Nat}(c:t.length=12)(a:b.length=512):cut (laid b t)=b:=by
 unfold cut;rw[mh,qf c a 9 (GH _),qw c a (by decide),GQ (by decide),<-G3];have e:=gZ 52 b 10;rw[Hm (by omega),IV,Io]at e;simp only[Ha,IC,Ip]at e;rw[e,Iu a]
theorem gI{k:Nat}{l:List Nat}{i j:Nat}(a:j<k):(part k l i).getD j 0=l.getD (k*i+j) 0:=by
 unfold part;simp only[GG,Ij,List.getElem?_drop,GU a]
theorem fo{l:List Nat}{n j:Nat}(a:j<n):(l.take n).getD j 0=l.getD j 0:=by
 simp only[GG,Ij,GU a]
theorem xm(s:List Nat):gP s=(part 64 s 0).getD 9 0:=by rw[gI (by decide)];rfl
theorem xO(s:List Nat):ej s=(part 64 s 0).getD 10 0+256*(part 64 s 0).getD 11 0:=by
 rw[gI (by decide),gI (by decide)];rfl
theorem xY{n t:Nat}{b:List Nat}(a:b.length=512):gP (laid b (tag n t))=t:=by
 rw[xm,<-fo (n:=12) (by decide),kg (bZ n t) a (by decide)];rfl
theorem qt{n t:Nat}{b:List Nat}(a:b.length=512)(c:n<65536):ej (laid b (tag n t))=n:=by
 rw[xO,<-fo (n:=12) (by decide),<-fo (n:=12) (j:=11) (by decide),kg (bZ n t) a (by decide),Dd,De];omega
theorem nC{n t:Nat}{x:Po.Pg}(a:Po.cX x)(c:n<65536):Whole (laid (Pg.form x.1 x.2) (tag n t)) n x:=by
 have b:(Pg.form x.1 x.2).length=512:=by rw[Pg.bP,a.2.1]
 refine⟨fun i d=>?_,qt b c,?_,?_⟩
 ·rw[kg (bZ n t) b d,xY b,qt b c]
 ·rw[tG (bZ n t) b];exact Pg.jh a.2.2 a.2.1
 ·rw[tG (bZ n t) b,Pg.ot a.2.2 a.2.1 a.1,Pg.ou a.2.2 a.2.1]
def F8(a b c:List Nat):Prop:=c.length=640/\∀i,i<10->part 64 c i=part 64 a i\/part 64 c i=part 64 b i
theorem Cr{s:List Nat}{m i:Nat}(h:i<m):(part 64 s i).getD 9 0∈rG s m:=List.mem_map.2 ⟨i,List.mem_range.2 h,rfl⟩
theorem AJ{a c:List Nat}{n t:Nat}{b:List Nat}(m:a.length=640)(j:b.length=512)(k:t∉rG a 10)(hm:F8 a (laid b (tag n t)) c)(l:Told c):c=a\/c=laid b (tag n t):=by
 have hl:=eL (bZ n t) j;have f:∀i,i<10->(part 64 c i).getD 9 0=gP c:=fun i d=>by
  rw[<-fo (n:=12) (by decide),l i d];rfl
 have g:∀i,i<10->part 64 c i=part 64 (laid b (tag n t)) i->gP c=t:=fun i d e=>by
  rw[<-f i d,e,<-fo (n:=12) (by decide),kg (bZ n t) j d];rfl
 have hold:∀i,i<10->part 64 c i=part 64 a i->gP c≠t:=fun i d e h=>by
  have:=Cr (s:=a) d;rw[<-e,f i d,h]at this;exact k this
 by_cases h:gP c=t
 ·refine GL (my hm.1 hl fun i d=>?_);rcases hm.2 i d with e|e
  ·exact absurd h (hold i d e)
  ·exact e
 ·refine GJ (my hm.1 m fun i d=>?_);rcases hm.2 i d with e|e
  ·exact e
  ·exact absurd (g i d e) h
theorem nJ{s:List Nat}(h:Told s):s.getD 0 0=112/\s.getD 64 0=112:=by
 have h0:=h 0 (by decide);have c:=h 1 (by decide);have b:=gI (k:=64) (l:=s) (i:=0) (j:=0) (by decide);have a:=gI (k:=64) (l:=s) (i:=1) (j:=0) (by decide);rw[<-fo (n:=12) (by decide),h0]at b;rw[<-fo (n:=12) (by decide),c]at a;exact⟨b.symm,a.symm⟩
theorem qm{b:List Nat}(h:Pg.cJ b=0):(Pg.cY b).length=500:=by
 have hl:b.length=512:=by
  unfold Pg.cJ at h;split at h
  ·cases h
  ·omega
 unfold Pg.cY;rw[GU h,G5];omega
end Go.Proofs.YtbpodmallknhfaaGreat.Rg
