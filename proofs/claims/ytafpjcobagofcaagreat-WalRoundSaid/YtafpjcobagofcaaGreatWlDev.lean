/- The program's device, with the blocks that are its own. Conditions: none. -/
import Derived.Test.YtafpjcobagofcaaGreatWlBase
import Derived.Test.YtafpjcobagofcaaGreatDkM
import Derived.Test.YtafpjcobagofcaaGreatDkCrM
namespace Go.Proofs.YtafpjcobagofcaaGreat
open Go.RowKit

def WlPD (U : Nat → Prop) (w : World) (B : Nat) (d : Dk.Dev) : Prop := ∃ m1 m2, PDev w B m1 m2 d ∧ U = DS B m1 m2
theorem wl_dkeep {U T : Nat → Prop} {w w' : World} {B : Nat} {d : Dk.Dev} (h : WlPD U w B d) (ht : Touch T w w') (hs : ∀ i, U i → ¬ T i) : WlPD U w' B d := by
  obtain ⟨m1, m2, h, rfl⟩ := h
  exact ⟨m1, m2, h.keep ht hs, rfl⟩
theorem wl_dlt {U : Nat → Prop} {w : World} {B : Nat} {d : Dk.Dev} (h : WlPD U w B d) : ∀ i, U i → i < w.heap.size := by
  obtain ⟨m1, m2, h, rfl⟩ := h
  exact h.lt
theorem wl_new (n : Nat) (w : World) (h1 : 1 ≤ n) (h2 : n ≤ 65536) : Calls Tryz.prog 7 #[.int .i64 n, .int .i64 n] w fun e w' =>
    ∃ B U, e = .returned (.tuple #[.pointer (some ⟨B, 0, none⟩), .int .i64 0]) ∧ WlPD U w' B (Dk.fresh n n) ∧ (∀ i, U i → w.heap.size ≤ i) ∧ Below w.heap.size w w' :=
  (new_good_any n n w h1 h2 (Nat.le_refl _)).mono fun _ _ ⟨B, m1, m2, he, hP, hS, hb⟩ => ⟨B, DS B m1 m2, he, ⟨m1, m2, hP, rfl⟩, hS, hb⟩
theorem wl_crash {U : Nat → Prop} {w : World} {B : Nat} {d : Dk.Dev} (v : Value) (ps : List Nat) (h : WlPD U w B d) (hB : Bts w v ps) (hv : 0 < ps.length → ∀ g, v.ownBlock = some g → ¬ U g) :
    Calls Tryz.prog 22 #[.pointer (some ⟨B, 0, none⟩), v] w fun e w' => e = .returned (.int .i64 0) ∧ ∃ U', WlPD U' w' B (Dk.crash d ps) ∧ Touch U w w' ∧ Grew U U' w := by
  obtain ⟨m1, m2, h, rfl⟩ := h
  exact (crash_any h v ps hB hv).mono fun _ _ ⟨he, hP, ht⟩ => ⟨he, DS B m1 m2, ⟨m1, m2, hP, rfl⟩, ht, fun i hi => Or.inl hi⟩
end Go.Proofs.YtafpjcobagofcaaGreat
