/- Hits and slices of hits that come in: opened to their numbers, and shut again. Conditions: none. -/
import Derived.Test.YtljichhmfbefaaaHitRow
import Derived.Deep.SlicePairs
import Derived.Lib.SmallJoins
import Derived.ProofKit
import Derived.OpenShut
namespace Go.Proofs.Ytljichhmfbefaaa
open Go.ChangeShapes Go.WideShapes Go.ChangeAt Go.RowKit Go.Deep Go.Joins

theorem u64_of {n : Int} (h : (Lit.int .u64 n).wf = true) : ∃ k : UInt64, n = (k.toNat : Int) := by
  have h1 : IntKind.u64.min = 0 := rfl
  have h2 : IntKind.u64.max = 18446744073709551615 := rfl
  simp only [Lit.wf, Bool.and_eq_true, decide_eq_true_eq] at h
  refine ⟨UInt64.ofNat n.toNat, ?_⟩
  have e : (UInt64.ofNat n.toNat).toNat = n.toNat % 18446744073709551616 := by simp
  omega

theorem s64_of {n : Int} (h : (Lit.int .i64 n).wf = true) : ∃ k : Int64, n = k.toInt := by
  obtain ⟨h1, h2⟩ := i64_of h
  refine ⟨Int64.ofInt n, (Int64.toInt_ofInt_of_le ?_ ?_).symm⟩
  · rw [show (2 : Int) ^ 63 = 9223372036854775808 by decide]; exact h1
  · rw [show (2 : Int) ^ 63 = 9223372036854775808 by decide]; omega

theorem wf_u64 (k : UInt64) : (Lit.int .u64 (k.toNat : Int)).wf = true := by
  have h1 : IntKind.u64.min = 0 := rfl
  have h2 : IntKind.u64.max = 18446744073709551615 := rfl
  have := k.toNat_lt
  simp only [Lit.wf, Bool.and_eq_true, decide_eq_true_eq]
  omega

theorem wf_s64 (k : Int64) : (Lit.int .i64 k.toInt).wf = true := by
  have h1 : IntKind.i64.min = -9223372036854775808 := rfl
  have h2 : IntKind.i64.max = 9223372036854775807 := rfl
  have a := k.le_toInt
  have b := k.toInt_lt
  rw [show (2 : Int) ^ 63 = 9223372036854775808 by decide] at a b
  simp only [Lit.wf, Bool.and_eq_true, decide_eq_true_eq]
  omega

theorem open_hit {H : Type} {enc : TypeId × Value → H} {W : World} {base b0 : Nat} {spare : Nat → Bool} {held : Bool} {r : Reach} {v : Value} {d : DataW H} {ps : List MemPlace}
    (hv : Value.okWide Try.prog W r b0 35 v) (h : DataW.Trod enc Try.prog W base spare held 35 v d ps) :
    ∃ h : Hit, v = .agg #[.int .u64 (h.1.toNat : Int), .int .i64 h.2.toInt] ∧ d = .agg [.lit (.int .u64 (h.1.toNat : Int)), .lit (.int .i64 h.2.toInt)] ∧ ps = [] := by
  obtain ⟨c0, c1, y0, y1, m, rfl, rfl, rfl, hy0, hy1⟩ := open_agg2 Try.underlying35 (by kernel_rfl) (by kernel_rfl) hv h
  obtain ⟨a, e0, rfl, wa⟩ := DataW.trod_int (k := .u64) Try.underlying33 hy0
  obtain ⟨b, e1, rfl, wb⟩ := DataW.trod_int (k := .i64) Try.underlying2 hy1
  simp at e0 e1
  subst e0 e1
  obtain ⟨k, rfl⟩ := u64_of wa
  obtain ⟨z, rfl⟩ := s64_of wb
  exact ⟨(k, z), rfl, rfl, rfl⟩

theorem shut_hit {H : Type} {enc : TypeId × Value → H} {W : World} {base : Nat} {spare : Nat → Bool} {held : Bool} (h : Hit) :
    DataW.Trod enc Try.prog W base spare held 35 (.agg #[.int .u64 (h.1.toNat : Int), .int .i64 h.2.toInt]) (.agg [.lit (.int .u64 (h.1.toNat : Int)), .lit (.int .i64 h.2.toInt)]) [] :=
  shut_agg2 (y0 := (.lit (.int .u64 (h.1.toNat : Int)), [])) (y1 := (.lit (.int .i64 h.2.toInt), [])) Try.underlying35 (by kernel_rfl) (by kernel_rfl)
    ⟨1, by simp [DataW.trod, Try.underlying33, wf_u64]⟩ ⟨1, by simp [DataW.trod, Try.underlying2, wf_s64]⟩

theorem list_of {α : Type} [Inhabited α] {P : Nat → α → Prop} : ∀ (n : Nat), (∀ i, i < n → ∃ x, P i x) → ∃ l : List α, l.length = n ∧ ∀ i, i < n → P i (l.getD i default)
  | 0, _ => ⟨[], rfl, fun i h => absurd h (Nat.not_lt_zero i)⟩
  | n + 1, h => by
    obtain ⟨l, h1, h2⟩ := list_of n fun i hi => h i (by omega)
    obtain ⟨x, hx⟩ := h n (Nat.lt_succ_self n)
    refine ⟨l ++ [x], by simp [h1], fun i hi => ?_⟩
    by_cases h3 : i < n
    · have := h2 i h3
      rw [List.getD_eq_getElem?_getD, List.getElem?_append_left (by omega), ← List.getD_eq_getElem?_getD]
      exact this
    · obtain rfl : i = n := by omega
      rw [List.getD_eq_getElem?_getD, List.getElem?_append_right (by omega)]
      simpa [h1] using hx

theorem open_hits {H : Type} {enc : TypeId × Value → H} {W : World} {base : Nat} {spare : Nat → Bool} {held : Bool} {a : Option Addr} {len cap : Nat} {d : DataW H} {ps : List MemPlace}
    (h : DataW.Trod enc Try.prog W base spare held 32 (.slice a len cap) d ps) : ∃ l : List Hit, HBts W (.slice a len cap) l := by
  obtain ⟨fuel, hf⟩ := h
  rcases open_slice_pairs Try.underlying32 Try.underlying35 (by kernel_rfl) rfl rfl (by kernel_rfl) (by kernel_rfl) hf with ⟨hcs, _⟩ | ⟨x, l, c, m, n, V0, V1, D0, D1, P0, P1, hcs, _, hl, hm, hmm, _, hx⟩
  · simp [Value.cells] at hcs
    obtain ⟨rfl, rfl, rfl⟩ := hcs
    exact ⟨[], none, 0, rfl, by decide, fun _ => rfl, fun h => absurd h (by decide)⟩
  · simp [Value.cells] at hcs
    obtain ⟨rfl, rfl, rfl⟩ := hcs
    have hlm : len ≤ m := by rw [hmm]; split <;> omega
    obtain ⟨L, hL, hLc⟩ := list_of (α := Hit) (P := fun i h => W.cell? (x.add (i * 2)) = some (.int .u64 (h.1.toNat : Int)) ∧ W.cell? (x.add (i * 2 + 1)) = some (.int .i64 h.2.toInt)) len (fun i hi => by
      obtain ⟨h1, h2, h3, h4⟩ := hx i (by omega)
      obtain ⟨k, hk, -, wa⟩ := DataW.trod_int (k := .u64) Try.underlying33 h3
      obtain ⟨q, hq, -, wb⟩ := DataW.trod_int (k := .i64) Try.underlying2 h4
      simp only [List.cons.injEq, and_true] at hk hq
      obtain ⟨k', rfl⟩ := u64_of wa
      obtain ⟨q', rfl⟩ := s64_of wb
      exact ⟨(k', q'), by rw [h1, hk], by rw [h2, hq]⟩)
    subst hL
    refine ⟨L, some x, cap, rfl, ⟨hl, by unfold maxLen at hm; exact hm⟩, fun h => by simp at h, fun h0 => ?_⟩
    obtain ⟨b, off, spot⟩ := x
    have hspot : spot = none := by
      have hc := (hLc 0 (by omega)).1
      simpa [Addr.add] using World.cell?_spot hc
    subst hspot
    refine ⟨b, off, rfl, fun j hj => ?_⟩
    have hadd : ∀ j, (⟨b, off, none⟩ : Addr).add j = ⟨b, off + j, none⟩ := by intro j; unfold Addr.add; split <;> simp_all
    obtain ⟨h1, h2⟩ := hLc (j / 2) (by omega)
    rw [hadd] at h1 h2
    rcases Nat.mod_two_eq_zero_or_one j with h | h
    · have e : j / 2 * 2 = j := by omega
      rw [e] at h1
      rw [h1, ← cellsH_key L (j / 2) (by omega), e]
    · have e : j / 2 * 2 + 1 = j := by omega
      rw [e] at h2
      rw [h2, ← cellsH_dist L (j / 2) (by omega), e]
end Go.Proofs.Ytljichhmfbefaaa
