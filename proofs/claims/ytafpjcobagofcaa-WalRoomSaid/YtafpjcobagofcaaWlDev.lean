/- The program's device, with the blocks that are its own. Conditions: none. -/
import Derived.Test.YtafpjcobagofcaaWlBase
import Derived.Test.YtafpjcobagofcaaDkM
namespace Go.Proofs.Ytafpjcobagofcaa
open Go.RowKit

def WlPD (U : Nat → Prop) (w : World) (B : Nat) (d : Dk.Dev) : Prop := ∃ m1 m2, PDev w B m1 m2 d ∧ U = DS B m1 m2
theorem wl_dkeep {U T : Nat → Prop} {w w' : World} {B : Nat} {d : Dk.Dev} (h : WlPD U w B d) (ht : Touch T w w') (hs : ∀ i, U i → ¬ T i) : WlPD U w' B d := by
  obtain ⟨m1, m2, h, rfl⟩ := h
  exact ⟨m1, m2, h.keep ht hs, rfl⟩
theorem wl_dlt {U : Nat → Prop} {w : World} {B : Nat} {d : Dk.Dev} (h : WlPD U w B d) : ∀ i, U i → i < w.heap.size := by
  obtain ⟨m1, m2, h, rfl⟩ := h
  exact h.lt
theorem wl_new (n : Nat) (w : World) (h1 : 1 ≤ n) (h2 : n ≤ 65536) : Calls Try.prog 5 #[.int .i64 n, .int .i64 n] w fun e w' =>
    ∃ B U, e = .returned (.tuple #[.pointer (some ⟨B, 0, none⟩), .int .i64 0]) ∧ WlPD U w' B (Dk.fresh n n) ∧ (∀ i, U i → w.heap.size ≤ i) ∧ Below w.heap.size w w' :=
  (new_good_any n n w h1 h2 (Nat.le_refl _)).mono fun _ _ ⟨B, m1, m2, he, hP, hS, hb⟩ => ⟨B, DS B m1 m2, he, ⟨m1, m2, hP, rfl⟩, hS, hb⟩
end Go.Proofs.Ytafpjcobagofcaa
