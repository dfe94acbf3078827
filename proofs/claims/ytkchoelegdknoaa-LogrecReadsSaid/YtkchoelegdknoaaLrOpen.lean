/- Records, and their lists, that come in: opened to what they hold. Conditions: none. -/
import Derived.Test.YtkchoelegdknoaaLrVal
import Derived.Deep.SlicePairs
import Derived.Deep.Fields
import Derived.Lib.SmallJoins
import Derived.ProofKit
import Derived.OpenShut
import Derived.SizedLaws
namespace Go.Proofs.Ytkchoelegdknoaa
open Go.ChangeShapes Go.WideShapes Go.ChangeAt Go.RowKit Go.Deep Go.Joins

theorem nat_of_u16 {n : Int} (h : (Lit.int .u16 n).wf = true) : ∃ m : Nat, m < 65536 ∧ n = (m : Int) := by
  have h1 : IntKind.u16.min = 0 := rfl
  have h2 : IntKind.u16.max = 65535 := rfl
  simp only [Lit.wf, Bool.and_eq_true, decide_eq_true_eq] at h
  exact ⟨n.toNat, by omega, by omega⟩
theorem i64_wf {n : Int} (h : (Lit.int .i64 n).wf = true) : -9223372036854775808 ≤ n ∧ n < 9223372036854775808 := by
  have h1 : IntKind.i64.min = -9223372036854775808 := rfl
  have h2 : IntKind.i64.max = 9223372036854775807 := rfl
  simp only [Lit.wf, Bool.and_eq_true, decide_eq_true_eq] at h
  omega
theorem Lr.list_of {α : Type} [Inhabited α] {P : Nat → α → Prop} : ∀ (n : Nat), (∀ i, i < n → ∃ x, P i x) → ∃ l : List α, l.length = n ∧ ∀ i, i < n → P i (l.getD i default)
  | 0, _ => ⟨[], rfl, fun i h => absurd h (Nat.not_lt_zero i)⟩
  | n + 1, h => by
    obtain ⟨l, h1, h2⟩ := Lr.list_of n fun i hi => h i (by omega)
    obtain ⟨x, hx⟩ := h n (Nat.lt_succ_self n)
    refine ⟨l ++ [x], by simp [h1], fun i hi => ?_⟩
    by_cases h3 : i < n
    · have := h2 i h3
      rw [List.getD_eq_getElem?_getD, List.getElem?_append_left (by omega), ← List.getD_eq_getElem?_getD]
      exact this
    · obtain rfl : i = n := by omega
      rw [List.getD_eq_getElem?_getD, List.getElem?_append_right (by omega)]
      simpa [h1] using hx
theorem Chr.list3 {α : Type} {l : List α} (h : l.length = 3) : ∃ c0 c1 c2, l = [c0, c1, c2] := by
  match l, h with
  | [c0, c1, c2], _ => exact ⟨c0, c1, c2, rfl⟩
set_option maxRecDepth 20000 in
theorem Chr.opened {H : Type} {enc : TypeId × Value → H} {W : World} {base : Nat} {spare : Nat → Bool} {held : Bool} {a : Option Addr} {len cap : Nat} {d : DataW H} {ps : List MemPlace}
    (h : DataW.Trod enc Try.prog W base spare held 27 (.slice a len cap) d ps) : ∃ l : List Chr.El, Chr.Bts W (.slice a len cap) l ∧ ∀ c ∈ l, c.1 < 18446744073709551616 ∧ c.2.1 < 18446744073709551616 ∧ c.2.2 < 18446744073709551616 := by
  obtain ⟨fuel, hf⟩ := h
  have ce : Try.prog.cellsOf 50 = 3 := by kernel_rfl
  rcases open_slice Try.underlying27 hf with ⟨hcs, _⟩ | ⟨x, l, c, m, n, D, Pl, hcs, _, hl, hm, hmm, hd, hx⟩
  · simp [Value.cells] at hcs
    obtain ⟨rfl, rfl, rfl⟩ := hcs
    exact ⟨[], Chr.bts_nil _, by simp⟩
  · simp [Value.cells] at hcs
    obtain ⟨rfl, rfl, rfl⟩ := hcs
    have hlm : len ≤ m := by rw [hmm]; split <;> omega
    obtain ⟨b, off, spot⟩ := x
    rcases Nat.eq_zero_or_pos len with h0 | h0
    · subst h0
      exact ⟨[], ⟨_, cap, rfl, ⟨hl, by unfold maxLen at hm; exact hm⟩, fun h => (by simp at h), fun h => absurd h (by decide)⟩, by simp⟩
    have hspot : spot = none := by
      obtain ⟨cs', h1, _⟩ := hx 0 (by omega)
      rw [ce] at h1
      obtain ⟨_, hlen, hcell⟩ := World.cells?_some h1
      have e := hcell 0 (by omega)
      rw [List.getElem?_eq_getElem (show 0 < cs'.length by omega)] at e
      have e' := World.cell?_spot e
      simpa [Addr.add] using e'
    subst hspot
    obtain ⟨L, hL, hLc⟩ := Lr.list_of (α := Chr.El) (P := fun i c => (W.cell? ⟨b, off + i * 3, none⟩ = some (.int .u64 (c.1 : Int)) ∧ W.cell? ⟨b, off + i * 3 + 1, none⟩ = some (.int .u64 (c.2.1 : Int)) ∧ W.cell? ⟨b, off + i * 3 + 2, none⟩ = some (.int .u64 (c.2.2 : Int))) ∧ (c.1 < 18446744073709551616 ∧ c.2.1 < 18446744073709551616 ∧ c.2.2 < 18446744073709551616)) len (fun i hi => by
      obtain ⟨cs', h1, h2⟩ := hx i (by omega)
      rw [ce, add_plain] at h1
      obtain ⟨_, hlen, hcell⟩ := World.cells?_some h1
      obtain ⟨c0, c1, c2, rfl⟩ := Chr.list3 (by omega : cs'.length = 3)
      obtain ⟨xs, n', -, -, -, hlen2, hff⟩ := DataW.trod_struct Try.underlying50 h2
      obtain ⟨y0, y1, y2, rfl⟩ := Chr.list3 (l := xs) (by simpa using hlen2)
      have g0 : DataW.trod enc Try.prog W base spare held n' 23 [c0] = some y0 := by have h := hff 0 _ rfl; simpa [show Try.prog.cellsOf 23 = 1 by kernel_rfl] using h
      obtain ⟨z0, e0, -, w0⟩ := DataW.trod_int (k := .u64) Try.underlying23 g0
      obtain ⟨k0, hk0, rfl⟩ := nat_of_u64 w0
      simp only [List.cons.injEq, and_true] at e0
      subst e0
      have g1 : DataW.trod enc Try.prog W base spare held n' 23 [c1] = some y1 := by have h := hff 1 _ rfl; simpa [show Try.prog.cellsOf 23 = 1 by kernel_rfl] using h
      obtain ⟨z1, e1, -, w1⟩ := DataW.trod_int (k := .u64) Try.underlying23 g1
      obtain ⟨k1, hk1, rfl⟩ := nat_of_u64 w1
      simp only [List.cons.injEq, and_true] at e1
      subst e1
      have g2 : DataW.trod enc Try.prog W base spare held n' 23 [c2] = some y2 := by have h := hff 2 _ rfl; simpa [show Try.prog.cellsOf 23 = 1 by kernel_rfl] using h
      obtain ⟨z2, e2, -, w2⟩ := DataW.trod_int (k := .u64) Try.underlying23 g2
      obtain ⟨k2, hk2, rfl⟩ := nat_of_u64 w2
      simp only [List.cons.injEq, and_true] at e2
      subst e2
      exact ⟨(k0, k1, k2), ⟨by have := hcell 0 (by decide); simpa [add_plain] using this, by have := hcell 1 (by decide); simpa [add_plain] using this, by have := hcell 2 (by decide); simpa [add_plain] using this⟩, ⟨hk0, hk1, hk2⟩⟩)
    subst hL
    refine ⟨L, ⟨_, cap, rfl, ⟨hl, by unfold maxLen at hm; exact hm⟩, fun h => (by simp at h), fun _ => ⟨b, off, rfl, fun j hj => ?_⟩⟩, fun c hc => ?_⟩
    · have h1 := (hLc (j / 3) (by omega)).1
      have h2 := Chr.cells_at L (j / 3) (j % 3) (by omega) (Nat.mod_lt _ (by decide))
      rw [show j / 3 * 3 + j % 3 = j by omega] at h2
      rw [h2]
      have hcase : j % 3 = 0 ∨ j % 3 = 1 ∨ j % 3 = 2 := by omega
      rcases hcase with hcase | hcase | hcase
      · rw [hcase, show off + j = off + j / 3 * 3 by omega]
        exact h1.1
      · rw [hcase, show off + j = off + j / 3 * 3 + 1 by omega]
        exact h1.2.1
      · rw [hcase, show off + j = off + j / 3 * 3 + 2 by omega]
        exact h1.2.2
    · obtain ⟨i, hi, rfl⟩ := List.getElem_of_mem hc
      have := (hLc i hi).2
      rw [List.getD_eq_getElem?_getD, List.getElem?_eq_getElem hi] at this
      exact this
theorem Dir.list3 {α : Type} {l : List α} (h : l.length = 2) : ∃ c0 c1, l = [c0, c1] := by
  match l, h with
  | [c0, c1], _ => exact ⟨c0, c1, rfl⟩
set_option maxRecDepth 20000 in
theorem Dir.opened {H : Type} {enc : TypeId × Value → H} {W : World} {base : Nat} {spare : Nat → Bool} {held : Bool} {a : Option Addr} {len cap : Nat} {d : DataW H} {ps : List MemPlace}
    (h : DataW.Trod enc Try.prog W base spare held 28 (.slice a len cap) d ps) : ∃ l : List Dir.El, Dir.Bts W (.slice a len cap) l ∧ ∀ c ∈ l, c.1 < 4294967296 ∧ c.2 < 18446744073709551616 := by
  obtain ⟨fuel, hf⟩ := h
  have ce : Try.prog.cellsOf 52 = 2 := by kernel_rfl
  rcases open_slice Try.underlying28 hf with ⟨hcs, _⟩ | ⟨x, l, c, m, n, D, Pl, hcs, _, hl, hm, hmm, hd, hx⟩
  · simp [Value.cells] at hcs
    obtain ⟨rfl, rfl, rfl⟩ := hcs
    exact ⟨[], Dir.bts_nil _, by simp⟩
  · simp [Value.cells] at hcs
    obtain ⟨rfl, rfl, rfl⟩ := hcs
    have hlm : len ≤ m := by rw [hmm]; split <;> omega
    obtain ⟨b, off, spot⟩ := x
    rcases Nat.eq_zero_or_pos len with h0 | h0
    · subst h0
      exact ⟨[], ⟨_, cap, rfl, ⟨hl, by unfold maxLen at hm; exact hm⟩, fun h => (by simp at h), fun h => absurd h (by decide)⟩, by simp⟩
    have hspot : spot = none := by
      obtain ⟨cs', h1, _⟩ := hx 0 (by omega)
      rw [ce] at h1
      obtain ⟨_, hlen, hcell⟩ := World.cells?_some h1
      have e := hcell 0 (by omega)
      rw [List.getElem?_eq_getElem (show 0 < cs'.length by omega)] at e
      have e' := World.cell?_spot e
      simpa [Addr.add] using e'
    subst hspot
    obtain ⟨L, hL, hLc⟩ := Lr.list_of (α := Dir.El) (P := fun i c => (W.cell? ⟨b, off + i * 2, none⟩ = some (.int .u32 (c.1 : Int)) ∧ W.cell? ⟨b, off + i * 2 + 1, none⟩ = some (.int .u64 (c.2 : Int))) ∧ (c.1 < 4294967296 ∧ c.2 < 18446744073709551616)) len (fun i hi => by
      obtain ⟨cs', h1, h2⟩ := hx i (by omega)
      rw [ce, add_plain] at h1
      obtain ⟨_, hlen, hcell⟩ := World.cells?_some h1
      obtain ⟨c0, c1, rfl⟩ := Dir.list3 (by omega : cs'.length = 2)
      obtain ⟨xs, n', -, -, -, hlen2, hff⟩ := DataW.trod_struct Try.underlying52 h2
      obtain ⟨y0, y1, rfl⟩ := Dir.list3 (l := xs) (by simpa using hlen2)
      have g0 : DataW.trod enc Try.prog W base spare held n' 24 [c0] = some y0 := by have h := hff 0 _ rfl; simpa [show Try.prog.cellsOf 24 = 1 by kernel_rfl] using h
      obtain ⟨z0, e0, -, w0⟩ := DataW.trod_int (k := .u32) Try.underlying24 g0
      obtain ⟨k0, hk0, rfl⟩ := nat_of_u32 w0
      simp only [List.cons.injEq, and_true] at e0
      subst e0
      have g1 : DataW.trod enc Try.prog W base spare held n' 23 [c1] = some y1 := by have h := hff 1 _ rfl; simpa [show Try.prog.cellsOf 23 = 1 by kernel_rfl] using h
      obtain ⟨z1, e1, -, w1⟩ := DataW.trod_int (k := .u64) Try.underlying23 g1
      obtain ⟨k1, hk1, rfl⟩ := nat_of_u64 w1
      simp only [List.cons.injEq, and_true] at e1
      subst e1
      exact ⟨(k0, k1), ⟨by have := hcell 0 (by decide); simpa [add_plain] using this, by have := hcell 1 (by decide); simpa [add_plain] using this⟩, ⟨hk0, hk1⟩⟩)
    subst hL
    refine ⟨L, ⟨_, cap, rfl, ⟨hl, by unfold maxLen at hm; exact hm⟩, fun h => (by simp at h), fun _ => ⟨b, off, rfl, fun j hj => ?_⟩⟩, fun c hc => ?_⟩
    · have h1 := (hLc (j / 2) (by omega)).1
      have h2 := Dir.cells_at L (j / 2) (j % 2) (by omega) (Nat.mod_lt _ (by decide))
      rw [show j / 2 * 2 + j % 2 = j by omega] at h2
      rw [h2]
      have hcase : j % 2 = 0 ∨ j % 2 = 1 := by omega
      rcases hcase with hcase | hcase
      · rw [hcase, show off + j = off + j / 2 * 2 by omega]
        exact h1.1
      · rw [hcase, show off + j = off + j / 2 * 2 + 1 by omega]
        exact h1.2
    · obtain ⟨i, hi, rfl⟩ := List.getElem_of_mem hc
      have := (hLc i hi).2
      rw [List.getD_eq_getElem?_getD, List.getElem?_eq_getElem hi] at this
      exact this
theorem Lr.array15 {α : Type} {cs : Array α} (h : cs.size = 15) : ∃ c0 c1 c2 c3 c4 c5 c6 c7 c8 c9 c10 c11 c12 c13 c14, cs = #[c0, c1, c2, c3, c4, c5, c6, c7, c8, c9, c10, c11, c12, c13, c14] := by
  obtain ⟨l⟩ := cs
  match l, h with
  | [c0, c1, c2, c3, c4, c5, c6, c7, c8, c9, c10, c11, c12, c13, c14], _ => exact ⟨c0, c1, c2, c3, c4, c5, c6, c7, c8, c9, c10, c11, c12, c13, c14, rfl⟩
theorem Lr.list15 {α : Type} {l : List α} (h : l.length = 15) : ∃ y0 y1 y2 y3 y4 y5 y6 y7 y8 y9 y10 y11 y12 y13 y14, l = [y0, y1, y2, y3, y4, y5, y6, y7, y8, y9, y10, y11, y12, y13, y14] := by
  match l, h with
  | [y0, y1, y2, y3, y4, y5, y6, y7, y8, y9, y10, y11, y12, y13, y14], _ => exact ⟨y0, y1, y2, y3, y4, y5, y6, y7, y8, y9, y10, y11, y12, y13, y14, rfl⟩
set_option maxHeartbeats 1600000 in
set_option maxRecDepth 20000 in
theorem open_rec {H : Type} {enc : TypeId × Value → H} {W : World} {base b0 : Nat} {spare : Nat → Bool} {held : Bool} {r : Reach} {v : Value} {d : DataW H} {ps : List MemPlace}
    (hv : Value.okWide Try.prog W r b0 30 v) (h : DataW.Trod enc Try.prog W base spare held 30 v d ps) :
    ∃ (x : Lr.R) (o n u c e : Value) (ds : List (DataW H)) (d6 d7 d8 : DataW H), v = RecV x o n u c e ∧ d = .agg ds ∧ ds[6]? = some d6 ∧ ds[7]? = some d7 ∧ ds[8]? = some d8 ∧
      (x.old = [] ∨ ∃ elems rest, d6 = .slice elems rest ∧ x.old.length ≤ elems.length) ∧ (x.new = [] ∨ ∃ elems rest, d7 = .slice elems rest ∧ x.new.length ≤ elems.length) ∧ (x.undo = [] ∨ ∃ elems rest, d8 = .slice elems rest ∧ x.undo.length ≤ elems.length) ∧
      (x.old.length ≤ 140737488355328 → x.new.length ≤ 140737488355328 → x.undo.length ≤ 140737488355328 → RecAt W x o n u c e) := by
  have hs := Try.underlying30
  obtain ⟨cs, rfl, hsz⟩ := okWide_struct hs hv
  have hC : Try.prog.cellsOf 30 = 15 := by kernel_rfl
  obtain ⟨c0, c1, c2, c3, c4, c5, c6, c7, c8, c9, c10, c11, c12, c13, c14, rfl⟩ := Lr.array15 (hsz.trans hC)
  obtain ⟨fuel, hf⟩ := h
  obtain ⟨xs, m, -, hx, -, hlen, hff⟩ := DataW.trod_struct hs hf
  obtain ⟨y0, y1, y2, y3, y4, y5, y6, y7, y8, y9, y10, y11, y12, y13, y14, rfl⟩ := Lr.list15 (l := xs) (by simpa using hlen)
  simp only [Prod.mk.injEq] at hx
  have g0 : DataW.trod enc Try.prog W base spare held m 22 [c0] = some y0 := by have h := hff 0 _ rfl; simpa [Value.cells, show Try.prog.cellsOf 22 = 1 by kernel_rfl] using h
  have g1 : DataW.trod enc Try.prog W base spare held m 23 [c1] = some y1 := by have h := hff 1 _ rfl; simpa [Value.cells, show Try.prog.cellsOf 23 = 1 by kernel_rfl] using h
  have g2 : DataW.trod enc Try.prog W base spare held m 24 [c2] = some y2 := by have h := hff 2 _ rfl; simpa [Value.cells, show Try.prog.cellsOf 24 = 1 by kernel_rfl] using h
  have g3 : DataW.trod enc Try.prog W base spare held m 23 [c3] = some y3 := by have h := hff 3 _ rfl; simpa [Value.cells, show Try.prog.cellsOf 23 = 1 by kernel_rfl] using h
  have g4 : DataW.trod enc Try.prog W base spare held m 24 [c4] = some y4 := by have h := hff 4 _ rfl; simpa [Value.cells, show Try.prog.cellsOf 24 = 1 by kernel_rfl] using h
  have g5 : DataW.trod enc Try.prog W base spare held m 25 [c5] = some y5 := by have h := hff 5 _ rfl; simpa [Value.cells, show Try.prog.cellsOf 25 = 1 by kernel_rfl] using h
  have g6 : DataW.trod enc Try.prog W base spare held m 26 [c6] = some y6 := by have h := hff 6 _ rfl; simpa [Value.cells, show Try.prog.cellsOf 26 = 1 by kernel_rfl] using h
  have g7 : DataW.trod enc Try.prog W base spare held m 26 [c7] = some y7 := by have h := hff 7 _ rfl; simpa [Value.cells, show Try.prog.cellsOf 26 = 1 by kernel_rfl] using h
  have g8 : DataW.trod enc Try.prog W base spare held m 26 [c8] = some y8 := by have h := hff 8 _ rfl; simpa [Value.cells, show Try.prog.cellsOf 26 = 1 by kernel_rfl] using h
  have g9 : DataW.trod enc Try.prog W base spare held m 23 [c9] = some y9 := by have h := hff 9 _ rfl; simpa [Value.cells, show Try.prog.cellsOf 23 = 1 by kernel_rfl] using h
  have g10 : DataW.trod enc Try.prog W base spare held m 23 [c10] = some y10 := by have h := hff 10 _ rfl; simpa [Value.cells, show Try.prog.cellsOf 23 = 1 by kernel_rfl] using h
  have g11 : DataW.trod enc Try.prog W base spare held m 4 [c11] = some y11 := by have h := hff 11 _ rfl; simpa [Value.cells, show Try.prog.cellsOf 4 = 1 by kernel_rfl] using h
  have g12 : DataW.trod enc Try.prog W base spare held m 23 [c12] = some y12 := by have h := hff 12 _ rfl; simpa [Value.cells, show Try.prog.cellsOf 23 = 1 by kernel_rfl] using h
  have g13 : DataW.trod enc Try.prog W base spare held m 27 [c13] = some y13 := by have h := hff 13 _ rfl; simpa [Value.cells, show Try.prog.cellsOf 27 = 1 by kernel_rfl] using h
  have g14 : DataW.trod enc Try.prog W base spare held m 28 [c14] = some y14 := by have h := hff 14 _ rfl; simpa [Value.cells, show Try.prog.cellsOf 28 = 1 by kernel_rfl] using h
  obtain ⟨n0, e0, -, w0⟩ := DataW.trod_int (k := .i64) Try.underlying22 g0
  obtain ⟨b0, b0'⟩ := i64_wf w0
  obtain ⟨z1, e1, -, w1⟩ := DataW.trod_int (k := .u64) Try.underlying23 g1
  obtain ⟨n1, b1, rfl⟩ := nat_of_u64 w1
  obtain ⟨z2, e2, -, w2⟩ := DataW.trod_int (k := .u32) Try.underlying24 g2
  obtain ⟨n2, b2, rfl⟩ := nat_of_u32 w2
  obtain ⟨z3, e3, -, w3⟩ := DataW.trod_int (k := .u64) Try.underlying23 g3
  obtain ⟨n3, b3, rfl⟩ := nat_of_u64 w3
  obtain ⟨z4, e4, -, w4⟩ := DataW.trod_int (k := .u32) Try.underlying24 g4
  obtain ⟨n4, b4, rfl⟩ := nat_of_u32 w4
  obtain ⟨z5, e5, -, w5⟩ := DataW.trod_int (k := .u16) Try.underlying25 g5
  obtain ⟨n5, b5, rfl⟩ := nat_of_u16 w5
  obtain ⟨a6, n6, s6, e6⟩ := slice_form Try.underlying26 g6
  obtain ⟨a7, n7, s7, e7⟩ := slice_form Try.underlying26 g7
  obtain ⟨a8, n8, s8, e8⟩ := slice_form Try.underlying26 g8
  obtain ⟨z9, e9, -, w9⟩ := DataW.trod_int (k := .u64) Try.underlying23 g9
  obtain ⟨n9, b9, rfl⟩ := nat_of_u64 w9
  obtain ⟨z10, e10, -, w10⟩ := DataW.trod_int (k := .u64) Try.underlying23 g10
  obtain ⟨n10, b10, rfl⟩ := nat_of_u64 w10
  obtain ⟨n11, e11, -⟩ := DataW.trod_bool Try.underlying4 g11
  obtain ⟨z12, e12, -, w12⟩ := DataW.trod_int (k := .u64) Try.underlying23 g12
  obtain ⟨n12, b12, rfl⟩ := nat_of_u64 w12
  obtain ⟨a13, n13, s13, e13⟩ := slice_form Try.underlying27 g13
  obtain ⟨a14, n14, s14, e14⟩ := slice_form Try.underlying28 g14
  simp only [List.cons.injEq, and_true] at e0 e1 e2 e3 e4 e5 e6 e7 e8 e9 e10 e11 e12 e13 e14
  subst e0 e1 e2 e3 e4 e5 e6 e7 e8 e9 e10 e11 e12 e13 e14
  have t6 : DataW.Trod enc Try.prog W base spare held 26 (.slice a6 n6 s6) y6.1 y6.2 := ⟨m, by simpa [Value.cells] using g6⟩
  obtain ⟨l6, v6, r6⟩ := open_bts t6
  have t7 : DataW.Trod enc Try.prog W base spare held 26 (.slice a7 n7 s7) y7.1 y7.2 := ⟨m, by simpa [Value.cells] using g7⟩
  obtain ⟨l7, v7, r7⟩ := open_bts t7
  have t8 : DataW.Trod enc Try.prog W base spare held 26 (.slice a8 n8 s8) y8.1 y8.2 := ⟨m, by simpa [Value.cells] using g8⟩
  obtain ⟨l8, v8, r8⟩ := open_bts t8
  have t13 : DataW.Trod enc Try.prog W base spare held 27 (.slice a13 n13 s13) y13.1 y13.2 := ⟨m, by simpa [Value.cells] using g13⟩
  obtain ⟨l13, v13, r13⟩ := Chr.opened t13
  have t14 : DataW.Trod enc Try.prog W base spare held 28 (.slice a14 n14 s14) y14.1 y14.2 := ⟨m, by simpa [Value.cells] using g14⟩
  obtain ⟨l14, v14, r14⟩ := Dir.opened t14
  refine ⟨⟨n0, n1, n2, n3, n4, n5, l6, l7, l8, n9, n10, n11, n12, l13, l14⟩, _, _, _, _, _, [y0.1, y1.1, y2.1, y3.1, y4.1, y5.1, y6.1, y7.1, y8.1, y9.1, y10.1, y11.1, y12.1, y13.1, y14.1], _, _, _, rfl, by simpa using hx.1, rfl, rfl, rfl, r6, r7, r8, fun h6 h7 h8 => ?_⟩
  have B6 := v6 h6
  have B7 := v7 h7
  have B8 := v8 h8
  exact ⟨B6, B7, B8, v13, v14, ⟨⟨b0, by dsimp only; omega⟩, b1, b2, b3, b4, b5, B6.small, B7.small, B8.small, b9, b10, b12, r13, r14⟩⟩
theorem rec_sized {H : Type} {ts : List TypeId} {ds es : List (DataW H)} (h : (DataW.weightsEach Try.prog ts ds).all (· ≤ reachBytes) = true) {j : Nat} (ht : ts[j]? = some 30) (hd : ds[j]? = some (.agg es)) :
    (DataW.weightsEach Try.prog [22, 23, 24, 23, 24, 25, 26, 26, 26, 23, 23, 4, 23, 27, 28] es).all (· ≤ reachBytes) = true := by
  refine List.all_eq_true.2 fun n hn => List.all_eq_true.1 h n (DataW.weights_mem_each ht hd n ?_)
  simp only [DataW.weights, Try.underlying30]
  exact hn
end Go.Proofs.Ytkchoelegdknoaa
