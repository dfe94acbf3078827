/- Parts of a proof. Conditions: as each row says. -/
import Derived.Test.YtbpodmallknhfaaGreatPl03
import Derived.OrdersIn
namespace Go.Proofs.YtbpodmallknhfaaGreat.Ord.In
variable{P:Program}{F0:Fence}{nF:Nat}
def one(F0:Fence)(nF:Nat)(P:Program)(ops:Array Oper)(Q:Exit->Act->World->Prop)(o:Oper)(K:Act->World->Prop)(a:Act)(w:World):Prop:=
 if Region.wanted o (yielded ops a.tmps)then o.wpIn F0 nF P a w K Q else K (a.put o.dst undef) w
def each(F0:Fence)(nF:Nat)(P:Program)(ops:Array Oper)(Q:Exit->Act->World->Prop)(a:List Oper)(a0:Act)(F:Nat->Value->World->Prop)(R:(Nat->Bool)->(Nat->Value)->World->Prop)(T:World->World->Prop):Nat->List Oper->Prop
 |_,[]=>True
 |k,o::r=>(∀D xs w,D k=false->closed a D->(∀e∈o.after,Region.binds .any e=true->D e.on=true)->R D xs w->ahead F xs w (o.after.toList.filter fun e=>Region.binds .any e)->one F0 nF P ops Q o (fun b w'=>∃v,b=(fill a xs 0 a0).put o.dst v/\T w w'/\R (bB D k) (set xs k v) w'/\F k v w') (fill a xs 0 a0) w)/\each F0 nF P ops Q a a0 F R T (k+1) r
theorem iX{ops:Array Oper}{Q:Exit->Act->World->Prop}{a:List Oper}{a0:Act}{F:Nat->Value->World->Prop}{R:(Nat->Bool)->(Nat->Value)->World->Prop}{T:World->World->Prop}:
 ∀(l:List Oper)(k i:Nat)(o:Oper),each F0 nF P ops Q a a0 F R T k l->l[i]?=some o->∀D xs w,D (k+i)=false->closed a D->(∀e∈o.after,Region.binds .any e=true->D e.on=true)->R D xs w->ahead F xs w (o.after.toList.filter fun e=>Region.binds .any e)->
  one F0 nF P ops Q o (fun c w'=>∃v,c=(fill a xs 0 a0).put o.dst v/\T w w'/\R (bB D (k+i)) (set xs (k+i) v) w'/\F (k+i) v w') (fill a xs 0 a0) w
 | [],_,_,_,_,h=>by simp at h
 |b::r,k,i,o,he,h=>by
  cases i with
  |zero=>
   obtain rfl:b=o:=by simpa using h
   exact he.1
  |succ i=>
   have:=iX r (k+1) i o he.2 (by simpa using h);rwa[show k+1+i=k+(i+1)by omega]at this
theorem fS(C:∀f,F0.fn f){l:List Oper}{Q:Exit->Act->World->Prop}{a0:Act}{F:Nat->Value->World->Prop}{R:(Nat->Bool)->(Nat->Value)->World->Prop}{T:World->World->Prop}(hb:back l 0=true)(E:apart l=true)
 (hT:∀k v w w',T w w'->F k v w->F k v w') (he:each F0 nF P l.toArray Q l a0 F R T 0 l)
 (hend:∀D xs w,R D xs w->(∀k,k<l.length->D k=true/\F k (xs k) w)->Q .normal (fill l xs 0 a0) w):
 ∀(fuel:Nat)(a:Array Bool)(xs:Nat->Value)(w:World),a.size=l.length->a.toList.count false=fuel->closed l (fun k=>a.getD k false)->R (fun k=>a.getD k false) xs w->(∀k,a.getD k false=true->F k (xs k) w)->
  wpAnyIn F0 nF P .any l.toArray Q fuel a (fill l xs 0 a0) w
 |0,a,xs,w,hsz,hc,hC,hR,hF=>by
  have b:∀k,k<l.length->a.getD k false=true:=by
   intro k y;cases h:a.getD k false with
   |true=>rfl
   |false=>
    have hlt:k<a.size:=by omega
    have:a[k]=false:=by simpa[hlt]using h
    have hm:false∈a.toList:=by rw[<-this];simp
    exact absurd hc (by have:=List.count_pos_iff.2 hm;omega)
  refine⟨?_,hend _ xs w hR fun k y=>⟨b k y,hF k (b k y)⟩⟩;refine List.eq_nil_iff_forall_not_mem.2 fun i N=>?_;obtain⟨g,o,x,-⟩:=mem_ready.1 N;have A:i<l.length:=by simpa using(Array.getElem?_eq_some_iff.1 x).1
  have:=b i A;have X:a.getD i true=true:=by
   have hlt:i<a.size:=by omega
   simpa[hlt]using this
  rw[X]at g;cases g
 |fuel+1,a,xs,w,hsz,hc,hC,hR,hF=>by
  refine⟨fun h0=>?_,fun i N=>?_⟩
  ·exfalso;have hm:false∈a.toList:=List.count_pos_iff.1 (by omega);obtain⟨j,G,L⟩:=List.getElem_of_mem hm;have hex:∃n,n<l.length/\a.getD n true=false/\∀m,m<n->a.getD m false=true:=by
    have hP:∀n,(n<l.length/\a.getD n true=false)->∃n,n<l.length/\a.getD n true=false/\∀m,m<n->a.getD m false=true:=by
     intro n;induction n using Nat.strongRecOn with
     |_ n ih=>
      intro⟨q,t⟩;by_cases b:∀m,m<n->a.getD m false=true
      ·exact⟨n,q,t,b⟩
      ·simp only[Classical.not_forall]at b;obtain⟨m,K,J⟩:=b;have hlt:m<a.size:=by omega
       refine ih m K ⟨by omega,?_⟩;simpa[hlt]using J
    refine hP j ⟨by simpa[hsz]using G,?_⟩;have hlt:j<a.size:=by simpa using G
    simpa[hlt]using L
   obtain⟨n,q,t,I⟩:=hex;have x:l.toArray[n]?=some l[n]:=by simp[q]
   have Z:n∈Region.ready .any l.toArray a:=mem_ready.2 ⟨t,_,x,fun e u S=>I _ (by have:=mG l 0 n _ hb (by simp[q]) e u S;omega)⟩;rw[h0]at Z;cases Z
  ·obtain⟨g,o,x,b⟩:=mem_ready.1 N;have p:l[i]?=some o:=by simpa using x
   have A:i<l.length:=by
    rcases Hi i l.length with h|h
    ·exact h
    ·rw[He h]at p;cases p
   have r:a.getD i false=false:=by
    have hlt:i<a.size:=by omega
    simpa[hlt]using g
   have c:=iX l 0 i o he p (fun k=>a.getD k false) xs w (by rw[H8];exact r) hC b hR (pA _ fun e u=>by obtain⟨h1,X⟩:=List.mem_filter.1 u;exact hF _ (b e (by simpa using h1) X));have H:wpOpIn F0 nF P l.toArray Q i (fun a' w'=>∃v,a'=(fill l xs 0 a0).put o.dst v/\T w w'/\R (bB (fun k=>a.getD k false) (0+i)) (set xs (0+i) v) w'/\F (0+i) v w') (fill l xs 0 a0) w:=by
    unfold wpOpIn;simp only[x];unfold one at c;split
    ·next hwa=>rw[GU hwa]at c;exact c
    ·next hwa=>rw[GQ hwa]at c;exact⟨fun f _=>C f,c⟩
   refine wpOpIn_mono (fun a' w' h=>?_) H;obtain⟨v,rfl,U,V,W⟩:=h;rw[oV l xs 0 i a0 o v E p];refine fS C hb E hT he hend fuel (a.setIfInBounds i true) (set xs (0+i) v) w' (by simpa using hsz) ?_ ?_ ?_ fun k y=>?_
   ·have hlt:i<a.size:=by omega
    have r:a[i]=false:=by simpa[hlt]using g
    have O:(a.toList.set i true).count false+1=a.toList.count false:=by
     have hm:false∈a.toList:=by rw[<-r];simp
     have:=List.count_pos_iff.2 hm;rw[List.count_set (by simpa using hlt),GU (by simp[r]),GQ (by decide)];omega
    have hg:(a.setIfInBounds i true).toList.count false+1=a.toList.count false:=by
     rw[Array.toList_setIfInBounds];exact O
    rw[hc]at hg;exact Nat.succ.inj hg
   ·intro j Y z G e he s;by_cases B:i=j
    ·subst B;obtain rfl:o=Y:=GZ (p.symm.trans z);exact getD_set_true (b e he s)
    ·have M:a.getD j false=true:=by rw[<-getD_set_ne (i:=i) (j:=j) false B];exact G
     exact getD_set_true (hC j Y z M e he s)
   ·have hD:(fun k=>(a.setIfInBounds i true).getD k false)=bB (fun k=>a.getD k false) (0+i):=by
     funext k
     unfold bB;have hlt:i<a.size:=by omega
     by_cases d:k=0+i
     ·rw[GU d,d,H8];simp[hlt]
     ·rw[GQ d,getD_set_ne (i:=i) (j:=k) false (by omega)]
    rw[hD];exact V
   ·unfold set;by_cases d:k=0+i
    ·rw[GU d,d];exact W
    ·rw[GQ d];exact hT k _ w w' U (hF k (by rw[getD_set_ne (i:=i) (j:=k) false (by omega)]at y;exact y))
theorem regionF(d:∀f,F0.fn f){id:Nat}{l:List Oper}{Q:Exit->Act->World->Prop}{a:Act}{w:World}(F:Nat->Value->World->Prop)(R:(Nat->Bool)->(Nat->Value)->World->Prop)(T:World->World->Prop)
 (hm:P.follows .mixedOrders=true) (e:(back l 0&&apart l)=true) (hT:∀k v w w',T w w'->F k v w->F k v w') (hR:R (fun _=>false) (fun k=>first a l[k]?) {w with drawn:=w.drawn+1})
 (he:each F0 nF P l.toArray Q l a F R T 0 l) (hend:∀D xs w,R D xs w->(∀k,k<l.length->D k=true/\F k (xs k) w)->Q .normal (fill l xs 0 a) w):(Code.region id l.toArray true).wpIn F0 nF P Q a w:=by
 rw[Hs]at e;refine wpIn_region_any hm ?_;have hf:=kX l (fun k=>first a l[k]?) 0 a (fun j=>by rw[H8]);have:=fS d e.1 e.2 hT he hend l.toArray.size (Array.replicate l.toArray.size false) (fun k=>first a l[k]?) {w with drawn:=w.drawn+1} (by simp) (by simp) (fun j o _ c=>by simp[IE]at c;split at c<;>simp at c) (by
  have g:(fun k=>(Array.replicate l.toArray.size false).getD k false)=fun _=>false:=by
   funext k
   simp only[Array.getD_eq_getD_getElem?,IE];split<;>rfl
  rw[g];exact hR) (fun k b=>by simp[IE]at b;split at b<;>simp at b)
 rwa[hf]at this
theorem region(b:∀f,F0.fn f){id:Nat}{l:List Oper}{Q:Exit->Act->World->Prop}{a:Act}{w:World}(F:Nat->Value->World->Prop)(R:(Nat->Bool)->(Nat->Value)->World->Prop)(T:World->World->Prop)
 (hm:P.follows .mixedOrders=true) (c:(back l 0&&apart l)=true) (hT:∀k v w w',T w w'->F k v w->F k v w') (hR:∀xs,R (fun _=>false) xs {w with drawn:=w.drawn+1})
 (he:each F0 nF P l.toArray Q l a F R T 0 l) (hend:∀D xs w,R D xs w->(∀k,k<l.length->D k=true/\F k (xs k) w)->Q .normal (fill l xs 0 a) w):(Code.region id l.toArray true).wpIn F0 nF P Q a w:=
 regionF b F R T hm c hT (hR _) he hend
def ib(F0:Fence)(nF:Nat)(P:Program)(ops:Array Oper)(Q:Exit->Act->World->Prop)(a:List Oper)(fr:(Nat->Value)->Act)(F:Nat->Value->World->Prop)(R:(Nat->Bool)->(Nat->Value)->World->Prop)(T:World->World->Prop):Nat->List Oper->Prop
 |_,[]=>True
 |k,o::r=>(∀D xs w,D k=false->closed a D->(∀e∈o.after,Region.binds .any e=true->D e.on=true)->R D xs w->ahead F xs w (o.after.toList.filter fun e=>Region.binds .any e)->∀K:Act->World->Prop,(∀b w',(∃v,b=(fr xs).put o.dst v/\T w w'/\R (bB D k) (set xs k v) w'/\F k v w')->K b w')->
  if Region.wanted o (yielded ops (fr xs).tmps)then o.wpIn F0 nF P (fr xs) w K Q else K ((fr xs).put o.dst undef) w)/\ib F0 nF P ops Q a fr F R T (k+1) r
theorem jn{ops:Array Oper}{Q:Exit->Act->World->Prop}{b:List Oper}{a0:Act}{fr:(Nat->Value)->Act}{F:Nat->Value->World->Prop}{R:(Nat->Bool)->(Nat->Value)->World->Prop}{T:World->World->Prop}(hfr:∀xs,fill b xs 0 a0=fr xs):
 ∀(k:Nat)(l:List Oper),ib F0 nF P ops Q b fr F R T k l->each F0 nF P ops Q b a0 F R T k l
 |_,[],_=>trivial
 |k,o::r,h=>⟨fun D xs w d hC c hR e=>by
  rw[hfr xs];have a:=h.1 D xs w d hC c hR e _ fun _ _ h=>h;unfold one;split
  ·next hw=>rw[GU hw]at a;exact a
  ·next hw=>rw[GQ hw]at a;exact a,jn hfr (k+1) r h.2⟩
theorem ay{ops:Array Oper}{Q:Exit->Act->World->Prop}{a:List Oper}{fr:(Nat->Value)->Act}{F:Nat->Value->World->Prop}{R:(Nat->Bool)->(Nat->Value)->World->Prop}{T:World->World->Prop}{k:Nat}:ib F0 nF P ops Q a fr F R T k []:=trivial
theorem aa{ops:Array Oper}{Q:Exit->Act->World->Prop}{a:List Oper}{fr:(Nat->Value)->Act}{F:Nat->Value->World->Prop}{R:(Nat->Bool)->(Nat->Value)->World->Prop}{T:World->World->Prop}{k:Nat}{o:Oper}{r:List Oper}
 (h:∀D xs w,D k=false->closed a D->(∀e∈o.after,Region.binds .any e=true->D e.on=true)->R D xs w->ahead F xs w (o.after.toList.filter fun e=>Region.binds .any e)->∀K:Act->World->Prop,(∀b w',(∃v,b=(fr xs).put o.dst v/\T w w'/\R (bB D k) (set xs k v) w'/\F k v w')->K b w')->
  if Region.wanted o (yielded ops (fr xs).tmps)then o.wpIn F0 nF P (fr xs) w K Q else K ((fr xs).put o.dst undef) w)
 (c:ib F0 nF P ops Q a fr F R T (k+1) r):ib F0 nF P ops Q a fr F R T k (o::r):=⟨h,c⟩
theorem walk(b:∀f,F0.fn f){id:Nat}{l:List Oper}{Q:Exit->Act->World->Prop}{a:Act}{w:World}(F:Nat->Value->World->Prop)(R:(Nat->Bool)->(Nat->Value)->World->Prop)(T:World->World->Prop)
 (hm:P.follows .mixedOrders=true) (c:(back l 0&&apart l)=true) (fr:(Nat->Value)->Act) (hfr:∀xs,fill l xs 0 a=fr xs) (hT:∀k v w w',T w w'->F k v w->F k v w') (hR:∀xs,R (fun _=>false) xs w.drew)
 (he:ib F0 nF P l.toArray Q l fr F R T 0 l) (hend:∀D xs w,R D xs w->(∀k,k<l.length->D k=true/\F k (xs k) w)->Q .normal (fr xs) w):(Code.region id l.toArray true).wpIn F0 nF P Q a w:=
 region b F R T hm c hT hR (jn hfr 0 l he) fun D xs w e d=>by rw[hfr xs];exact hend D xs w e d
theorem CN(b:∀f,F0.fn f){id:Nat}{l:List Oper}{Q:Exit->Act->World->Prop}{a:Act}{w:World}(F:Nat->Value->World->Prop)(R:(Nat->Bool)->(Nat->Value)->World->Prop)(T:World->World->Prop)
 (hm:P.follows .mixedOrders=true) (c:(back l 0&&apart l)=true) (fr:(Nat->Value)->Act) (hfr:∀xs,fill l xs 0 a=fr xs) (hT:∀k v w w',T w w'->F k v w->F k v w') (hR:∀xs,(∀k,xs k=first a l[k]?)->R (fun _=>false) xs w.drew)
 (he:ib F0 nF P l.toArray Q l fr F R T 0 l) (hend:∀D xs w,R D xs w->(∀k,k<l.length->D k=true/\F k (xs k) w)->Q .normal (fr xs) w):(Code.region id l.toArray true).wpIn F0 nF P Q a w:=
 regionF b F R T hm c hT (hR _ fun _=>rfl) (jn hfr 0 l he) fun D xs w e d=>by rw[hfr xs];exact hend D xs w e d
end Go.Proofs.YtbpodmallknhfaaGreat.Ord.In
