/- Parts of a proof. Conditions: as each row says. -/
import Derived.Test.YtbpodmallknhfaaGreatBk03
import Derived.Deep.SlicePairs
import Derived.Lib.SmallJoins
import Derived.ProofKit
import Derived.OpenShut
import Derived.SizedLaws
namespace Go.Proofs.YtbpodmallknhfaaGreat
open Go.ChangeShapes Go.WideShapes Go.ChangeAt Go.RowKit Go.Deep Go.Joins
structure PopV where
  kind : Int
  n : Int
  fill : Int
  bare : Bool
instance : Inhabited PopV := ⟨⟨0, 0, 0, false⟩⟩
structure PopAt (W : World) (b o : Nat) (x : PopV) : Prop where
  c0 : W.cell? ⟨b, o, none⟩ = some (.int .i64 x.kind)
  c1 : W.cell? ⟨b, o + 1, none⟩ = some (.int .i64 x.n)
  c2 : W.cell? ⟨b, o + 2, none⟩ = some (.int .i64 x.fill)
  c3 : W.cell? ⟨b, o + 3, none⟩ = some (.bool x.bare)
  k0 : Ints.Okk x.kind
  k1 : Ints.Okk x.n
  k2 : Ints.Okk x.fill
theorem pop_list_of {α : Type} [Inhabited α] {P : Nat → α → Prop} : ∀ (n : Nat), (∀ i, i < n → ∃ x, P i x) → ∃ l : List α, l.length = n ∧ ∀ i, i < n → P i (l.getD i default)
  | 0, _ => ⟨[], rfl, fun i h => absurd h (Nat.not_lt_zero i)⟩
  | n + 1, h => by
    obtain ⟨l, h1, h2⟩ := pop_list_of n fun i hi => h i (by omega)
    obtain ⟨x, hx⟩ := h n (Nat.lt_succ_self n)
    refine ⟨l ++ [x], by simp [h1], fun i hi => ?_⟩
    by_cases h3 : i < n
    · have := h2 i h3
      rw [List.getD_eq_getElem?_getD, List.getElem?_append_left (by omega), ← List.getD_eq_getElem?_getD]
      exact this
    · obtain rfl : i = n := by omega
      rw [List.getD_eq_getElem?_getD, List.getElem?_append_right (by omega)]
      simpa [h1] using hx
set_option maxRecDepth 20000 in
theorem open_pop {H : Type} {enc : TypeId × Value → H} {W : World} {base n : Nat} {spare : Nat → Bool} {held : Bool} {b o : Nat} {cs : List Value} {y : DataW H × List MemPlace}
    (h1 : W.cells? base ⟨b, o, none⟩ 4 = some cs) (h2 : DataW.trod enc Tryz.prog W base spare held n 32 cs = some y) : ∃ x : PopV, PopAt W b o x := by
  obtain ⟨_, hlen, hcell⟩ := World.cells?_some h1
  obtain ⟨xs, k, hk, hxy, _, hxl, hf⟩ := DataW.trod_struct Tryz.underlying32 h2
  match xs, hxl, cs, hlen with
  | [y0, y1, y2, y3], _, [v0, v1, v2, v3], _ =>
    have g0 := hf 0 _ rfl
    have g1 := hf 1 _ rfl
    have g2 := hf 2 _ rfl
    have g3 := hf 3 _ rfl
    have q1 : Tryz.prog.cellsOf 3 = 1 := by kernel_rfl
    have q2 : Tryz.prog.cellsOf 4 = 1 := by kernel_rfl
    simp [q1, q2] at g0 g1 g2 g3
    have e0 := hcell 0 (by omega)
    have e1 := hcell 1 (by omega)
    have e2 := hcell 2 (by omega)
    have e3 := hcell 3 (by omega)
    simp [add_plain] at e0 e1 e2 e3
    obtain ⟨a0, f0, -, w0⟩ := DataW.trod_int (k := .i64) Tryz.underlying3 g0
    obtain ⟨a1, f1, -, w1⟩ := DataW.trod_int (k := .i64) Tryz.underlying3 g1
    obtain ⟨a2, f2, -, w2⟩ := DataW.trod_int (k := .i64) Tryz.underlying3 g2
    obtain ⟨a3, f3, -⟩ := DataW.trod_bool Tryz.underlying4 g3
    simp only [List.cons.injEq, and_true] at f0 f1 f2 f3
    subst f0 f1 f2 f3
    exact ⟨⟨a0, a1, a2, a3⟩, ⟨e0, e1, e2, e3, w0, w1, w2⟩⟩
structure PopsIn (W : World) (v : Value) (l : List PopV) : Prop where
  form : ∃ p cap, v = .slice p l.length cap ∧ (l.length ≤ cap ∧ cap ≤ 9223372036854775807) ∧ (p = none → cap = 0) ∧ (0 < l.length → ∃ b off, p = some ⟨b, off, none⟩ ∧ ∀ i, i < l.length → PopAt W b (off + i * 4) (l.getD i default))
set_option maxRecDepth 20000 in
theorem open_pops {H : Type} {enc : TypeId × Value → H} {W : World} {base : Nat} {spare : Nat → Bool} {held : Bool} {a : Option Addr} {len cap : Nat} {d : DataW H} {ps : List MemPlace}
    (h : DataW.Trod enc Tryz.prog W base spare held 22 (.slice a len cap) d ps) : ∃ l : List PopV, PopsIn W (.slice a len cap) l := by
  obtain ⟨fuel, hf⟩ := h
  have ce : Tryz.prog.cellsOf 32 = 4 := by kernel_rfl
  rcases open_slice Tryz.underlying22 hf with ⟨hcs, _⟩ | ⟨x, l, c, m, n, D, Pl, hcs, _, hl, hm, hmm, hd, hx⟩
  · simp [Value.cells] at hcs
    obtain ⟨rfl, rfl, rfl⟩ := hcs
    exact ⟨[], ⟨none, 0, rfl, by decide, fun _ => rfl, fun h => absurd h (by decide)⟩⟩
  · simp [Value.cells] at hcs
    obtain ⟨rfl, rfl, rfl⟩ := hcs
    have hlm : len ≤ m := by rw [hmm]; split <;> omega
    obtain ⟨b, off, spot⟩ := x
    rcases Nat.eq_zero_or_pos len with h0 | h0
    · subst h0
      exact ⟨[], ⟨_, cap, rfl, ⟨hl, by unfold maxLen at hm; exact hm⟩, fun h => (by simp at h), fun h => absurd h (by decide)⟩⟩
    have hspot : spot = none := by
      obtain ⟨cs', h1, _⟩ := hx 0 (by omega)
      rw [ce] at h1
      obtain ⟨_, hlen, hcell⟩ := World.cells?_some h1
      have e := hcell 0 (by omega)
      rw [List.getElem?_eq_getElem (show 0 < cs'.length by omega)] at e
      have e' := World.cell?_spot e
      simpa [Addr.add] using e'
    subst hspot
    obtain ⟨L, hL, hLc⟩ := pop_list_of (α := PopV) (P := fun i x => PopAt W b (off + i * 4) x) len (fun i hi => by
      obtain ⟨cs', h1, h2⟩ := hx i (by omega)
      rw [ce, add_plain] at h1
      exact open_pop h1 h2)
    subst hL
    exact ⟨L, ⟨_, cap, rfl, ⟨hl, by unfold maxLen at hm; exact hm⟩, fun h => (by simp at h), fun _ => ⟨b, off, rfl, hLc⟩⟩⟩
end Go.Proofs.YtbpodmallknhfaaGreat
