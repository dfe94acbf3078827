/- Parts of a proof. Conditions: as each row says. -/
import Derived.Test.YtbpodmallknhfaaGreatPl14
import Derived.RangeFuncLeaves
import Derived.RangeFuncBox
import Derived.RangeFuncFrom
import Derived.RangeFuncWrites
namespace Go.Proofs.YtbpodmallknhfaaGreat
open Go.RowKit
structure tQ{β:Type}(B:Nat)(I:β->World->Prop):Prop where
 grow:∀s W a,I s W->W.grownBy a none->I s a
 zj:∀s W l o b,I s W->B<=l->W.heap[l]?=some o->o.isCells=false->o.isWalk=false->I s (W.putObj l b)
theorem tQ.alloc{β:Type}{B:Nat}{I:β->World->Prop}(h:tQ B I){s:β}{W:World}(o:Obj)(hs:I s W):I s (W.alloc o):=h.grow s W _ hs (World.grownBy_alloc W o none)
def EW{α:Type}(F:Fence)(n:Nat)(P:Program)(g:Nat)(lb:Array Value)(a:α->Array Value)(V:List α->World->Prop)(Y:List α->α->Prop)(S:List α->Prop)(w:World):Prop:=
 ∀(l:Nat)(J:(Nat->Prop)->List α->World->Prop)(X:Nat->Prop)(W:World),Below w.heap.size w W->(∀X pre W1 W2,J X pre W1->W1.grownBy W2 none->J X pre W2)->(∀X pre W1,J X pre W1->V pre W1)->
  (∀X pre W1,J X pre W1->∀i,X i->i<W1.heap.size)->
  (∀X pre x W1,J X pre W1->Y pre x->YieldAt F (n-1) P l (a x) W1 fun e c=>e=.returned (.bool true)/\∃b,J b (pre++[x]) c/\Touch X W1 c/\bA X b W1)->
  J X [] W->
  CallsIn F n P g (#[.func (.yield l) #[] #[]]++lb) W fun e c=>(∃v,e=.returned v)/\∃xs b,S xs/\J b xs c
theorem gh{F:Fence}{n:Nat}{P:Program}{α:Type}{g:Operand}{T:Array Tmp}{assign body:Code}{Q:Exit->Act->World->Prop}{a:Act}{w:World}
 (aa:F.round=none) (h1:1<=n) {gf:Nat} {lb:Array Value} (hg:a.eval g=.func (.func gf) #[] lb) (ar:F.fn gf) (eg:∀args w,(callFunc gf args).run P w=.ok (.enter gf args) w)
 {d:α->Array Value} {V:List α->World->Prop} {Y:List α->α->Prop} {S:List α->Prop} {w0:World} (J:EW F (n-1) P gf lb d V Y S w0) (R:Below w0.heap.size w0 w) (ab:∀x,(d x).size=T.size)
 (I:(Nat->Prop)->List α->World->Prop) (H:Nat->Prop) (hI:∀X,tQ w.heap.size (I X)) (hV:∀X pre W,I X pre W->V pre W) (hlt:∀X pre W,I X pre W->∀i,X i->i<W.heap.size) (h0:I H [] w) (q:α->Act)
 (j:∀(l:Nat)(x:α)(W:World)(K:Act->World->Prop),K (q x) W->
  assign.wpIn (F.inRound l) (n-1-1) P (Exit.then K (fun _ _ _=>False)) {tmps:=(T.zip (d x)).foldl (fun t(p,v)=>t.setIfInBounds p v) a.tmps,defers:=[]} W)
 (E:∀(l:Nat)(X:Nat->Prop)(pre:List α)(x:α)(W:World),I X pre W->Y pre x->body.wpIn (F.inRound l) (n-1-1) P (fun e _ W'=>e=.normal/\∃r,I r (pre++[x]) W'/\Touch X W W'/\bA X r W) (q x) W)
 (C:∀(D:Nat)(xs:List α)(X:Nat->Prop)(W:World),w.heap.size<=D->S xs->I X xs W->W.heap[D]?=some (.deferred (some []))->Q .normal {a with defers:={target:=.collected D,args:=#[]}::a.defers} W):
 (Code.rangeFunc g T assign body).wpIn F n P Q a w:=by
 refine wpIn_rangeFunc ?_;intro fn aj;rw[aa];obtain⟨rec,b⟩:∃rec:LoopState->Option Code->Loop,rec=fun st pe=>{state:=st,pending:=pe,fn,tmps:=a.tmps,params:=T,assign,body,defers:=w.heap.size}:=⟨_,rfl⟩
 obtain⟨W1,k⟩:∃W1,(w.alloc (.deferred (some []))).alloc (.loop (rec .ready none))=W1:=⟨_,rfl⟩
 have y:(w.alloc (.deferred (some []))).heap.size=w.heap.size+1:=by simp
 have an:W1.heap[w.heap.size+1]?=some (.loop (rec .ready none)):=by
  rw[<-k];have:=World.alloc_heap_new (w.alloc (.deferred (some []))) (.loop (rec .ready none));rwa[y]at this
 have ao:W1.heap[w.heap.size]?=some (.deferred (some [])):=by
  rw[<-k];exact(Below.heap_alloc _ _ _ (by rw[y];omega)).trans (World.alloc_heap_new w _)
 have aq:I H [] W1:=by rw[<-k];exact(hI H).alloc _ ((hI H).alloc _ h0)
 have ak:Below w0.heap.size w0 W1:=by
  rw[<-k];exact R.trans ((((GF _ w).alloc (GH _) _).alloc (by rw[y];omega) _).mono R.size)
 refine⟨w.heap.size+1,[{target:=.collected w.heap.size,args:=#[]}],W1,{target:=.fn (.func gf) lb,args:=#[.func (.yield (w.heap.size+1)) #[] #[]]},W1,gf,
  #[.func (.yield (w.heap.size+1)) #[] #[]]++lb,W1,?_,?_,?_,?_,fun _=>h1,?_⟩
 ·rw[<-k,b];exact run_enterLoop_outer _ _ _ _ _
 ·simp only[resolve,hg];simp[go_sem]
 ·intro f' O;simp[Target.leads]at O;subst O;exact ar
 ·simp[invoke,go_sem,eg]
 ·have al:=hlt H [] w h0;refine(J (w.heap.size+1)
   (fun X pre W=>I X pre W/\W.heap[w.heap.size+1]?=some (.loop (rec .ready none))/\W.heap[w.heap.size]?=some (.deferred (some []))/\∀i,X i->i≠w.heap.size/\i≠w.heap.size+1)
   H W1 ak
   (fun X s A B hs z=>⟨(hI X).grow s A B hs.1 z,(z.block _ (Array.getElem?_eq_some_iff.1 hs.2.1).1 (fun e=>by cases e)).trans hs.2.1,(z.block _ (Array.getElem?_eq_some_iff.1 hs.2.2.1).1 (fun e=>by cases e)).trans hs.2.2.1,hs.2.2.2⟩)
   (fun X pre W h=>hV X pre W h.1) (fun X pre W h=>hlt X pre W h.1) ?_ ⟨aq,an,ao,fun i M=>by have:=al i M;omega⟩).mono ?_
  ·rintro X pre x W⟨M,hl,hk,U⟩Z;have L:w.heap.size+1<W.heap.size:=(Array.getElem?_eq_some_iff.1 hl).1;have hy:=run_yield (P:=P) (args:=d x) hl (by rw[b];exact ab x);rw[b]at hy;refine⟨fn,_,assign,body,hy,roundIn_of_wpIn aj (j _ x W _ ⟨_,run_beginRound hl (by rw[b]),?_⟩)⟩;obtain⟨G,c⟩:∃G,G=W.putObj (w.heap.size+1) (.loop {rec .ready none with state:=.busy}):=⟨_,rfl⟩
   have ae:G.heap[w.heap.size+1]?=some (.loop {rec .ready none with state:=.busy}):=by rw[c];exact World.putObj_heap_same L
   have ag:G.heap[w.heap.size]?=some (.deferred (some [])):=by rw[c];exact(World.putObj_heap_other (by omega)).trans hk
   have ai:I X pre G:=by rw[c];exact(hI X).zj _ _ _ _ _ M (by omega) hl rfl rfl
   rw[<-c];refine wpIn_mono (E _ X pre x G ai Z) ?_;rintro e a3 W3⟨rfl,r,ah,u,N⟩;have o:=u.row ae fun h=>(U _ h).2 rfl;have af:=u.row ag fun h=>(U _ h).1 rfl;have m:G.heap.size=W.heap.size:=by rw[c];simp[World.putObj]
   have hend:(Instr.endRound (w.heap.size+1) none).run P W3=.ok (.bool true) (W3.putObj (w.heap.size+1) (.loop (rec .ready none))):=by
    have:=run_endRound (P:=P) none o;rw[b]at this⊢;exact this
   refine⟨_,_,hend,rfl,r,⟨?_,World.putObj_heap_same (Array.getElem?_eq_some_iff.1 o).1,(World.putObj_heap_other (by omega)).trans af,fun i f=>?_⟩,?_,fun i f=>?_⟩
   ·exact(hI r).zj _ _ _ _ _ ah (by omega) o rfl rfl
   ·rcases N i f with h|h
    ·exact U i h
    ·rw[m]at h;omega
   ·refine⟨?_,?_,?_,?_,fun i f ad=>?_⟩
    ·have:=u.os;rw[c]at this;exact this
    ·have:=u.tape;rw[c]at this;exact this
    ·have:=u.output;rw[c]at this;exact this
    ·have:=u.size;rw[m]at this;simpa[World.putObj]using this
    ·by_cases e:i=w.heap.size+1
     ·subst e;exact(World.putObj_heap_same (Array.getElem?_eq_some_iff.1 o).1).trans hl.symm
     ·rw[World.putObj_heap_other e,u.block i (by rw[m];exact f) ad,c,World.putObj_heap_other e]
   ·rcases N i f with h|h
    ·exact GJ h
    ·exact GL (by rw[<-m];exact h)
  ·rintro e W2⟨⟨v,rfl⟩,xs,r,hS,M,hl,hk,U⟩;have hend:=run_endLoop (P:=P) hl (by rw[b];simp);rw[b]at hend;exact⟨none,_,hend,C _ xs r _ (GH _) hS ((hI r).zj _ _ _ _ _ M (by omega) hl rfl rfl) ((World.putObj_heap_other (by omega)).trans hk)⟩
end Go.Proofs.YtbpodmallknhfaaGreat
