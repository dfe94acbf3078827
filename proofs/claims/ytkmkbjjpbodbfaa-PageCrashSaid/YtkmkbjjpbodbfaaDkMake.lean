/- The program's device, made or refused. Conditions: none. -/
import Derived.Test.YtkmkbjjpbodbfaaDkPD
namespace Go.Proofs.Ytkmkbjjpbodbfaa
open Go.RowKit

set_option maxHeartbeats 800000 in
theorem new_good_any (n most : Nat) (w : World) (h1 : 1 ≤ n) (h2 : n ≤ 65536) (h3 : most ≤ n) :
    Calls Try.prog 15 #[.int .i64 n, .int .i64 most] w fun e w' => ∃ B m1 m2, e = .returned (.tuple #[.pointer (some ⟨B, 0, none⟩), .int .i64 0]) ∧ PDev w' B m1 m2 (Dk.fresh n most) ∧ (∀ i, DS B m1 m2 i → w.heap.size ≤ i) ∧ Below w.heap.size w w' := by
  have hmm := @run_makeMap Try.prog
  have k1 : ¬ ((n : Int) < 1) := by omega
  have k2 : ¬ ((65536 : Int) < n) := by omega
  have k3 : ¬ ((most : Int) < 0) := by omega
  have k4 : ¬ ((n : Int) < (most : Int)) := by omega
  go_enter Try.func15, Try.ntmps15
  go_wp2
  go_ret2
  have hz : Dk.size (Dk.fresh n most) = n := by show (List.replicate n Dk.blank).length = n; rw [List.length_replicate]
  have b0 : Below w.heap.size w (w.alloc (.map #[] 0)) := (Below.refl _ _).alloc (Nat.le_refl _) _
  have q1 := mapAt_made w h2
  have q2 := mapAt_made (w.alloc (.map #[] 0)) h2
  have s1 : (w.alloc (.map #[] 0)).heap.size = w.heap.size + 1 := by simp
  have s2 : ((w.alloc (.map #[] 0)).alloc (.map #[] 0)).heap.size = w.heap.size + 1 + 1 := by simp
  have q1' := q1.below ((Below.refl _ (w.alloc (.map #[] 0))).alloc (Nat.le_refl _) (.map #[] 0))
  generalize ho : Obj.cells #[Value.int .i64 (n : Int), Value.int .i64 (most : Int), Value.map (some w.heap.size), Value.map (some (w.heap.size + 1)), Value.int .i64 0, Value.bool false] 70 = o
  have b3 := (Below.refl _ ((w.alloc (.map #[] 0)).alloc (.map #[] 0))).alloc (Nat.le_refl _) o
  refine ⟨w.heap.size + 1 + 1, rfl, w.heap.size, w.heap.size + 1, ⟨Dk.own_fresh h1 h2 h3, ?_, ?_, ?_, by omega, by omega, by omega⟩, ?_, (b0.alloc (by omega) _).alloc (by omega) _⟩
  · rw [hz, ← s2, heap_alloc_last, ← ho]; rfl
  · rw [Dk.seenL_fresh]; exact q1'.below b3
  · rw [s1] at q2; exact q2.below b3
  · rintro i (rfl | rfl | rfl) <;> omega

set_option maxHeartbeats 800000 in
theorem new_bad_any (n most : Int) (w : World) (h : badNew n most) :
    Calls Try.prog 15 #[.int .i64 n, .int .i64 most] w fun e w' => e = .returned (.tuple #[.pointer none, .int .i64 2]) ∧ w' = w := by
  by_cases e1 : n < 1
  · go_enter Try.func15, Try.ntmps15
    go_wp2
    go_ret2
    exact ⟨rfl, rfl⟩
  by_cases e2 : 65536 < n
  · go_enter Try.func15, Try.ntmps15
    go_wp2
    go_ret2
    exact ⟨rfl, rfl⟩
  by_cases e3 : most < 0
  · go_enter Try.func15, Try.ntmps15
    go_wp2
    go_ret2
    exact ⟨rfl, rfl⟩
  have e4 : n < most := by unfold badNew at h; omega
  clear h
  go_enter Try.func15, Try.ntmps15
  go_wp2
  go_ret2
  exact ⟨rfl, rfl⟩
end Go.Proofs.Ytkmkbjjpbodbfaa
