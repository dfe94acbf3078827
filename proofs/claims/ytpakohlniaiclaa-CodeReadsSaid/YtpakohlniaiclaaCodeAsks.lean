/- How a slice of questions that comes in is read. Conditions: none. -/
import Derived.Test.YtpakohlniaiclaaCodeReads
import Derived.Deep.SlicePairs
namespace Go.Proofs.Ytpakohlniaiclaa
open Go.ChangeShapes Go.WideShapes Go.ChangeAt Go.RowKit Go.Deep


theorem int_most {n : Int} (h : (Lit.int .i64 n).wf = true) : n ≤ 9223372036854775807 := by
  have h2 : IntKind.i64.max = 9223372036854775807 := rfl
  simp only [Lit.wf, Bool.and_eq_true, decide_eq_true_eq] at h
  omega

theorem open_asks {H : Type} {enc : TypeId × Value → H} {W : World} {base : Nat} {spare : Nat → Bool} {held : Bool} {a : Option Addr} {len cap : Nat} {d : DataW H} {ps : List MemPlace}
    (h : DataW.Trod enc Try.prog W base spare held 37 (.slice a len cap) d ps) : Asks W (.slice a len cap) len := by
  obtain ⟨fuel, hf⟩ := h
  rcases open_slice_pairs Try.underlying37 Try.underlying46 (by kernel_rfl) rfl rfl (by kernel_rfl) (by kernel_rfl) hf with ⟨hcs, _⟩ | ⟨x, l, c, m, n, V0, V1, D0, D1, P0, P1, hcs, _, hl, hm, hmm, _, hx⟩
  · simp [Value.cells] at hcs
    obtain ⟨rfl, rfl, rfl⟩ := hcs
    exact ⟨none, 0, rfl, Nat.le_refl _, by decide, fun h => absurd h (by decide)⟩
  · simp [Value.cells] at hcs
    obtain ⟨rfl, rfl, rfl⟩ := hcs
    have hlm : len ≤ m := by rw [hmm]; split <;> omega
    refine ⟨some x, cap, rfl, hl, by unfold maxLen at hm; exact hm, fun h0 => ?_⟩
    obtain ⟨b, off, spot⟩ := x
    have hspot : spot = none := by
      have hc := (hx 0 (by omega)).1
      simpa [Addr.add] using World.cell?_spot hc
    subst hspot
    refine ⟨b, off, rfl, fun i hi => ?_⟩
    obtain ⟨h1, h2, h3, h4⟩ := hx i (by omega)
    obtain ⟨k, hk, -, -⟩ := DataW.trod_int (k := .i64) Try.underlying3 h3
    obtain ⟨q, hq, -, hwf⟩ := DataW.trod_int (k := .i64) Try.underlying3 h4
    simp only [List.cons.injEq, and_true] at hk hq
    rw [hk] at h1
    rw [hq] at h2
    have hadd : ∀ j, (⟨b, off, none⟩ : Addr).add j = ⟨b, off + j, none⟩ := by intro j; unfold Addr.add; split <;> simp_all
    rw [hadd] at h1 h2
    exact ⟨k, q, h1, by rw [Nat.add_assoc]; exact h2, int_most hwf⟩
end Go.Proofs.Ytpakohlniaiclaa
