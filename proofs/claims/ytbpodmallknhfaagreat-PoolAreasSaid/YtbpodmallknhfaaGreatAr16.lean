/- Parts of a proof. Conditions: as each row says. -/
import Derived.Test.YtbpodmallknhfaaGreatAr11
import Derived.RangeFuncLeaves
import Derived.RangeFuncBox
import Derived.RangeFuncFrom
import Derived.RangeFuncWrites
namespace Go.Proofs.YtbpodmallknhfaaGreat
open Go.RowKit
structure KeptV {β : Type} (B : Nat) (I : β → World → Prop) : Prop where
  grow : ∀ s W W', I s W → W.grownBy W' none → I s W'
  turn : ∀ s W l o o', I s W → B ≤ l → W.heap[l]? = some o → o.isCells = false → o.isWalk = false → I s (W.putObj l o')
theorem KeptV.alloc {β : Type} {B : Nat} {I : β → World → Prop} (h : KeptV B I) {s : β} {W : World} (o : Obj) (hs : I s W) : I s (W.alloc o) := h.grow s W _ hs (World.grownBy_alloc W o none)
def SeqV {α : Type} (F : Fence) (n : Nat) (P : Program) (g : Nat) (lb : Array Value) (encs : α → Array Value) (V : List α → World → Prop) (Y : List α → α → Prop) (S : List α → Prop) (w : World) : Prop :=
  ∀ (l : Nat) (J : (Nat → Prop) → List α → World → Prop) (X : Nat → Prop) (W : World), Below w.heap.size w W → (∀ X pre W1 W2, J X pre W1 → W1.grownBy W2 none → J X pre W2) → (∀ X pre W1, J X pre W1 → V pre W1) →
    (∀ X pre W1, J X pre W1 → ∀ i, X i → i < W1.heap.size) →
    (∀ X pre x W1, J X pre W1 → Y pre x → YieldAt F (n - 1) P l (encs x) W1 fun e W' => e = .returned (.bool true) ∧ ∃ X', J X' (pre ++ [x]) W' ∧ Touch X W1 W' ∧ Grew X X' W1) →
    J X [] W →
    CallsIn F n P g (#[.func (.yield l) #[] #[]] ++ lb) W fun e W' => (∃ v, e = .returned v) ∧ ∃ xs X', S xs ∧ J X' xs W'
theorem wpIn_rangeFunc_view {F : Fence} {n : Nat} {P : Program} {α : Type} {g : Operand} {ps : Array Tmp} {assign body : Code} {Q : Exit → Act → World → Prop} {a : Act} {w : World}
    (hro : F.round = none) (h1 : 1 ≤ n) {gf : Nat} {lb : Array Value} (hg : a.eval g = .func (.func gf) #[] lb) (hFg : F.fn gf) (eg : ∀ args w, (callFunc gf args).run P w = .ok (.enter gf args) w)
    {encs : α → Array Value} {V : List α → World → Prop} {Y : List α → α → Prop} {S : List α → Prop} {w0 : World} (hseq : SeqV F (n - 1) P gf lb encs V Y S w0) (hb0 : Below w0.heap.size w0 w) (hps : ∀ x, (encs x).size = ps.size)
    (I : (Nat → Prop) → List α → World → Prop) (X0 : Nat → Prop) (hI : ∀ X, KeptV w.heap.size (I X)) (hV : ∀ X pre W, I X pre W → V pre W) (hlt : ∀ X pre W, I X pre W → ∀ i, X i → i < W.heap.size) (h0 : I X0 [] w) (a₁ : α → Act)
    (hassign : ∀ (l : Nat) (x : α) (W : World) (K : Act → World → Prop), K (a₁ x) W →
      assign.wpIn (F.inRound l) (n - 1 - 1) P (Exit.then K (fun _ _ _ => False)) { tmps := (ps.zip (encs x)).foldl (fun t (p, v) => t.setIfInBounds p v) a.tmps, defers := [] } W)
    (hbody : ∀ (l : Nat) (X : Nat → Prop) (pre : List α) (x : α) (W : World), I X pre W → Y pre x → body.wpIn (F.inRound l) (n - 1 - 1) P (fun e _ W' => e = .normal ∧ ∃ X', I X' (pre ++ [x]) W' ∧ Touch X W W' ∧ Grew X X' W) (a₁ x) W)
    (hdone : ∀ (D : Nat) (xs : List α) (X : Nat → Prop) (W : World), w.heap.size ≤ D → S xs → I X xs W → W.heap[D]? = some (.deferred (some [])) → Q .normal { a with defers := { target := .collected D, args := #[] } :: a.defers } W) :
    (Code.rangeFunc g ps assign body).wpIn F n P Q a w := by
  refine wpIn_rangeFunc ?_
  intro fn hfn
  rw [hro]
  obtain ⟨rec, hrec⟩ : ∃ rec : LoopState → Option Code → Loop, rec = fun st pe => { state := st, pending := pe, fn, tmps := a.tmps, params := ps, assign, body, defers := w.heap.size } := ⟨_, rfl⟩
  obtain ⟨W1, hW1⟩ : ∃ W1, (w.alloc (.deferred (some []))).alloc (.loop (rec .ready none)) = W1 := ⟨_, rfl⟩
  have hs1 : (w.alloc (.deferred (some []))).heap.size = w.heap.size + 1 := by simp
  have hL1 : W1.heap[w.heap.size + 1]? = some (.loop (rec .ready none)) := by
    rw [← hW1]
    have := World.alloc_heap_new (w.alloc (.deferred (some []))) (.loop (rec .ready none))
    rwa [hs1] at this
  have hK1 : W1.heap[w.heap.size]? = some (.deferred (some [])) := by
    rw [← hW1]
    exact (Below.heap_alloc _ _ _ (by rw [hs1]; omega)).trans (World.alloc_heap_new w _)
  have hI1 : I X0 [] W1 := by rw [← hW1]; exact (hI X0).alloc _ ((hI X0).alloc _ h0)
  have hb1 : Below w0.heap.size w0 W1 := by
    rw [← hW1]
    exact hb0.trans ((((Below.refl _ w).alloc (Nat.le_refl _) _).alloc (by rw [hs1]; omega) _).mono hb0.size)
  refine ⟨w.heap.size + 1, [{ target := .collected w.heap.size, args := #[] }], W1, { target := .fn (.func gf) lb, args := #[.func (.yield (w.heap.size + 1)) #[] #[]] }, W1, gf,
    #[.func (.yield (w.heap.size + 1)) #[] #[]] ++ lb, W1, ?_, ?_, ?_, ?_, fun _ => h1, ?_⟩
  · rw [← hW1, hrec]; exact run_enterLoop_outer _ _ _ _ _
  · simp only [resolve, hg]
    simp [go_sem]
  · intro f' hf'
    simp [Target.leads] at hf'
    subst hf'
    exact hFg
  · simp [invoke, go_sem, eg]
  · have hX0 := hlt X0 [] w h0
    refine (hseq (w.heap.size + 1)
      (fun X pre W => I X pre W ∧ W.heap[w.heap.size + 1]? = some (.loop (rec .ready none)) ∧ W.heap[w.heap.size]? = some (.deferred (some [])) ∧ ∀ i, X i → i ≠ w.heap.size ∧ i ≠ w.heap.size + 1)
      X0 W1 hb1
      (fun X s A B hs hg' => ⟨(hI X).grow s A B hs.1 hg', (hg'.block _ (Array.getElem?_eq_some_iff.1 hs.2.1).1 (fun e => by cases e)).trans hs.2.1, (hg'.block _ (Array.getElem?_eq_some_iff.1 hs.2.2.1).1 (fun e => by cases e)).trans hs.2.2.1, hs.2.2.2⟩)
      (fun X pre W h => hV X pre W h.1) (fun X pre W h => hlt X pre W h.1) ?_ ⟨hI1, hL1, hK1, fun i hi => by have := hX0 i hi; omega⟩).mono ?_
    · rintro X pre x W ⟨hi, hl, hk, hx⟩ hy0
      have hltl : w.heap.size + 1 < W.heap.size := (Array.getElem?_eq_some_iff.1 hl).1
      have hy := run_yield (P := P) (args := encs x) hl (by rw [hrec]; exact hps x)
      rw [hrec] at hy
      refine ⟨fn, _, assign, body, hy, roundIn_of_wpIn hfn (hassign _ x W _ ⟨_, run_beginRound hl (by rw [hrec]), ?_⟩)⟩
      obtain ⟨Wb, hWb⟩ : ∃ Wb, Wb = W.putObj (w.heap.size + 1) (.loop { rec .ready none with state := .busy }) := ⟨_, rfl⟩
      have hl2 : Wb.heap[w.heap.size + 1]? = some (.loop { rec .ready none with state := .busy }) := by rw [hWb]; exact World.putObj_heap_same hltl
      have hk2 : Wb.heap[w.heap.size]? = some (.deferred (some [])) := by rw [hWb]; exact (World.putObj_heap_other (by omega)).trans hk
      have hi2 : I X pre Wb := by rw [hWb]; exact (hI X).turn _ _ _ _ _ hi (by omega) hl rfl rfl
      rw [← hWb]
      refine wpIn_mono (hbody _ X pre x Wb hi2 hy0) ?_
      rintro e a3 W3 ⟨rfl, X', hi3, ht, hgr⟩
      have hl3 := ht.row hl2 fun h => (hx _ h).2 rfl
      have hk3 := ht.row hk2 fun h => (hx _ h).1 rfl
      have hsz : Wb.heap.size = W.heap.size := by rw [hWb]; simp [World.putObj]
      have hend : (Instr.endRound (w.heap.size + 1) none).run P W3 = .ok (.bool true) (W3.putObj (w.heap.size + 1) (.loop (rec .ready none))) := by
        have := run_endRound (P := P) none hl3
        rw [hrec] at this ⊢
        exact this
      refine ⟨_, _, hend, rfl, X', ⟨?_, World.putObj_heap_same (Array.getElem?_eq_some_iff.1 hl3).1, (World.putObj_heap_other (by omega)).trans hk3, fun i hi' => ?_⟩, ?_, fun i hi' => ?_⟩
      · exact (hI X').turn _ _ _ _ _ hi3 (by omega) hl3 rfl rfl
      · rcases hgr i hi' with h | h
        · exact hx i h
        · rw [hsz] at h; omega
      · refine ⟨?_, ?_, ?_, ?_, fun i hi' hni => ?_⟩
        · have := ht.os; rw [hWb] at this; exact this
        · have := ht.tape; rw [hWb] at this; exact this
        · have := ht.output; rw [hWb] at this; exact this
        · have := ht.size; rw [hsz] at this; simpa [World.putObj] using this
        · by_cases e : i = w.heap.size + 1
          · subst e
            exact (World.putObj_heap_same (Array.getElem?_eq_some_iff.1 hl3).1).trans hl.symm
          · rw [World.putObj_heap_other e, ht.block i (by rw [hsz]; exact hi') hni, hWb, World.putObj_heap_other e]
      · rcases hgr i hi' with h | h
        · exact Or.inl h
        · exact Or.inr (by rw [← hsz]; exact h)
    · rintro e W2 ⟨⟨v, rfl⟩, xs, X', hS, hi, hl, hk, hx⟩
      have hend := run_endLoop (P := P) hl (by rw [hrec]; simp)
      rw [hrec] at hend
      exact ⟨none, _, hend, hdone _ xs X' _ (Nat.le_refl _) hS ((hI X').turn _ _ _ _ _ hi (by omega) hl rfl rfl) ((World.putObj_heap_other (by omega)).trans hk)⟩
end Go.Proofs.YtbpodmallknhfaaGreat
