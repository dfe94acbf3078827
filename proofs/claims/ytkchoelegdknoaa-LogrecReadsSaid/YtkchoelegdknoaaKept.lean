/- A region whose order floats: what each operation has made stays as it was told, till it is used up. Conditions: what is told is stable under what is made behind it. -/
import Derived.Test.YtkchoelegdknoaaLay
namespace Go.Proofs.Ytkchoelegdknoaa
open Go.RowKit

structure KeptR (base : Nat) (W : World) (P : Nat → World → Value → Prop) (til : Nat → Option Nat) (D : Nat → Bool) (xs : Nat → Value) (w : World) : Prop where
  below : Below base W w
  size : base ≤ w.heap.size
  each : ∀ k, D k = true → (∀ j, til k = some j → D j = false) → P k w (xs k)
section
variable {base : Nat} {W w w' : World} {P : Nat → World → Value → Prop} {til : Nat → Option Nat} {D : Nat → Bool} {xs : Nat → Value}
theorem KeptR.first (xs : Nat → Value) (hs : base ≤ W.heap.size) : KeptR base W P til (fun _ => false) xs W.drew := ⟨(Below.refl _ _).go1, hs, fun _ h => (by cases h)⟩
theorem KeptR.step (h : KeptR base W P til D xs w) (k : Nat) (v : Value) (hst : ∀ k w w' v, P k w v → Below w.heap.size w w' → P k w' v) (hb : Below w.heap.size w w') (hp : P k w' v) : KeptR base W P til (Ord.wth D k) (Ord.set xs k v) w' := by
  refine ⟨h.below.trans (hb.mono h.size), Nat.le_trans h.size hb.size, fun j hj ha => ?_⟩
  by_cases e : j = k
  · subst e
    rw [show Ord.set xs j v j = v from if_pos rfl]
    exact hp
  · rw [show Ord.set xs k v j = xs j from if_neg e]
    rw [show Ord.wth D k j = D j from if_neg e] at hj
    refine hst _ _ _ _ (h.each j hj fun i hi => ?_) hb
    have := ha i hi
    unfold Ord.wth at this
    split at this
    · cases this
    · exact this
theorem KeptR.append (h : KeptR base W P til D xs w) (k : Nat) (v : Value) (hb : Below base w w') (hd : ∀ j, j ≠ k → D j = true → (∀ i, til j = some i → Ord.wth D k i = false) → P j w' (xs j)) (hp : P k w' v) : KeptR base W P til (Ord.wth D k) (Ord.set xs k v) w' := by
  refine ⟨h.below.trans hb, Nat.le_trans h.size hb.size, fun j hj ha => ?_⟩
  by_cases e : j = k
  · subst e
    rw [show Ord.set xs j v j = v from if_pos rfl]
    exact hp
  · rw [show Ord.set xs k v j = xs j from if_neg e]
    rw [show Ord.wth D k j = D j from if_neg e] at hj
    exact hd j e hj ha
theorem wth_at (D : Nat → Bool) (k : Nat) : Ord.wth D k k = true := if_pos rfl
end
end Go.Proofs.Ytkchoelegdknoaa
