/- Slices of a law's calls that come in: opened to what they tell. Conditions: none. -/
import Derived.Test.YthjciddhghfcbaaByte
import Derived.Test.YthjciddhghfcbaaInts
import Derived.Deep.SlicePairs
import Derived.Lib.SmallJoins
import Derived.ProofKit
import Derived.OpenShut
import Derived.SizedLaws
namespace Go.Proofs.Ythjciddhghfcbaa
open Go.ChangeShapes Go.WideShapes Go.ChangeAt Go.RowKit Go.Deep Go.Joins

/-- A call: its kind, its two numbers, is it short, its picks (as a value, and what they read as). -/
structure Opr where
  kind : Int
  at_ : Int
  fill : Int
  short : Bool
  pk : Value
  ps : List Nat
instance : Inhabited Opr := ⟨⟨0, 0, 0, false, .slice none 0 0, []⟩⟩

/-- The five cells of a call. -/
structure OpAt (W : World) (b o : Nat) (x : Opr) : Prop where
  c0 : W.cell? ⟨b, o, none⟩ = some (.int .i64 x.kind)
  c1 : W.cell? ⟨b, o + 1, none⟩ = some (.int .i64 x.at_)
  c2 : W.cell? ⟨b, o + 2, none⟩ = some (.int .i64 x.fill)
  c3 : W.cell? ⟨b, o + 3, none⟩ = some (.bool x.short)
  c4 : W.cell? ⟨b, o + 4, none⟩ = some x.pk
  k0 : Ints.Okk x.kind
  k1 : Ints.Okk x.at_
  k2 : Ints.Okk x.fill
  bts : x.ps.length ≤ 140737488355328 → Bts W x.pk x.ps

theorem list_of {α : Type} [Inhabited α] {P : Nat → α → Prop} : ∀ (n : Nat), (∀ i, i < n → ∃ x, P i x) → ∃ l : List α, l.length = n ∧ ∀ i, i < n → P i (l.getD i default)
  | 0, _ => ⟨[], rfl, fun i h => absurd h (Nat.not_lt_zero i)⟩
  | n + 1, h => by
    obtain ⟨l, h1, h2⟩ := list_of n fun i hi => h i (by omega)
    obtain ⟨x, hx⟩ := h n (Nat.lt_succ_self n)
    refine ⟨l ++ [x], by simp [h1], fun i hi => ?_⟩
    by_cases h3 : i < n
    · have := h2 i h3
      rw [List.getD_eq_getElem?_getD, List.getElem?_append_left (by omega), ← List.getD_eq_getElem?_getD]
      exact this
    · obtain rfl : i = n := by omega
      rw [List.getD_eq_getElem?_getD, List.getElem?_append_right (by omega)]
      simpa [h1] using hx

/-- What an element's datum says of its picks. -/
def OpD {H : Type} (d : DataW H) (x : Opr) : Prop := ∃ d0 d1 d2 d3 d4, d = .agg [d0, d1, d2, d3, d4] ∧ (x.ps = [] ∨ ∃ elems rest, d4 = .slice elems rest ∧ x.ps.length ≤ elems.length)

theorem open_op {H : Type} {enc : TypeId × Value → H} {W : World} {base n : Nat} {spare : Nat → Bool} {held : Bool} {b o : Nat} {cs : List Value} {y : DataW H × List MemPlace}
    (h1 : W.cells? base ⟨b, o, none⟩ 5 = some cs) (h2 : DataW.trod enc Try.prog W base spare held n 34 cs = some y) : ∃ x : Opr, OpAt W b o x ∧ OpD y.1 x := by
  obtain ⟨_, hlen, hcell⟩ := World.cells?_some h1
  obtain ⟨xs, k, hk, hxy, _, hxl, hf⟩ := DataW.trod_struct Try.underlying34 h2
  match xs, hxl, cs, hlen with
  | [y0, y1, y2, y3, y4], _, [v0, v1, v2, v3, v4], _ =>
    have g0 := hf 0 _ rfl
    have g1 := hf 1 _ rfl
    have g2 := hf 2 _ rfl
    have g3 := hf 3 _ rfl
    have g4 := hf 4 _ rfl
    have q1 : Try.prog.cellsOf 3 = 1 := by kernel_rfl
    have q2 : Try.prog.cellsOf 4 = 1 := by kernel_rfl
    have q3 : Try.prog.cellsOf 32 = 1 := by kernel_rfl
    simp [q1, q2, q3] at g0 g1 g2 g3 g4
    have e0 := hcell 0 (by omega)
    have e1 := hcell 1 (by omega)
    have e2 := hcell 2 (by omega)
    have e3 := hcell 3 (by omega)
    have e4 := hcell 4 (by omega)
    simp [add_plain] at e0 e1 e2 e3 e4
    obtain ⟨a0, f0, -, w0⟩ := DataW.trod_int (k := .i64) Try.underlying3 g0
    obtain ⟨a1, f1, -, w1⟩ := DataW.trod_int (k := .i64) Try.underlying3 g1
    obtain ⟨a2, f2, -, w2⟩ := DataW.trod_int (k := .i64) Try.underlying3 g2
    obtain ⟨a3, f3, -⟩ := DataW.trod_bool Try.underlying4 g3
    obtain ⟨a4, n4, k4, f4⟩ := slice_form Try.underlying32 g4
    simp only [List.cons.injEq, and_true] at f0 f1 f2 f3 f4
    subst f0 f1 f2 f3 f4
    have t4 : DataW.Trod enc Try.prog W base spare held 32 (.slice a4 n4 k4) y4.1 y4.2 := ⟨k, by simpa [Value.cells] using g4⟩
    obtain ⟨lm, wb, r4⟩ := open_bts t4
    refine ⟨⟨a0, a1, a2, a3, _, lm⟩, ⟨e0, e1, e2, e3, e4, w0, w1, w2, wb⟩, ?_⟩
    simp only [Prod.ext_iff] at hxy
    exact ⟨y0.1, y1.1, y2.1, y3.1, y4.1, by simpa using hxy.1, r4⟩

/-- A slice of calls. -/
structure OpsIn (W : World) (v : Value) (l : List Opr) : Prop where
  form : ∃ p cap, v = .slice p l.length cap ∧ (l.length ≤ cap ∧ cap ≤ 9223372036854775807) ∧ (p = none → cap = 0) ∧ (0 < l.length → ∃ b off, p = some ⟨b, off, none⟩ ∧ ∀ i, i < l.length → OpAt W b (off + i * 5) (l.getD i default))

set_option maxRecDepth 20000 in
theorem open_ops {H : Type} {enc : TypeId × Value → H} {W : World} {base : Nat} {spare : Nat → Bool} {held : Bool} {a : Option Addr} {len cap : Nat} {d : DataW H} {ps : List MemPlace}
    (h : DataW.Trod enc Try.prog W base spare held 22 (.slice a len cap) d ps) : ∃ l : List Opr, OpsIn W (.slice a len cap) l ∧ (l = [] ∨ ∃ elems rest, d = .slice elems rest ∧ l.length = elems.length ∧ ∀ i, i < l.length → OpD (elems.getD i .nil) (l.getD i default)) := by
  obtain ⟨fuel, hf⟩ := h
  have ce : Try.prog.cellsOf 34 = 5 := by kernel_rfl
  rcases open_slice Try.underlying22 hf with ⟨hcs, _⟩ | ⟨x, l, c, m, n, D, Pl, hcs, _, hl, hm, hmm, hd, hx⟩
  · simp [Value.cells] at hcs
    obtain ⟨rfl, rfl, rfl⟩ := hcs
    exact ⟨[], ⟨none, 0, rfl, by decide, fun _ => rfl, fun h => absurd h (by decide)⟩, Or.inl rfl⟩
  · simp [Value.cells] at hcs
    obtain ⟨rfl, rfl, rfl⟩ := hcs
    have hlm : len ≤ m := by rw [hmm]; split <;> omega
    obtain ⟨b, off, spot⟩ := x
    rcases Nat.eq_zero_or_pos len with h0 | h0
    · subst h0
      exact ⟨[], ⟨_, cap, rfl, ⟨hl, by unfold maxLen at hm; exact hm⟩, fun h => (by simp at h), fun h => absurd h (by decide)⟩, Or.inl rfl⟩
    have hspot : spot = none := by
      obtain ⟨cs', h1, _⟩ := hx 0 (by omega)
      rw [ce] at h1
      obtain ⟨_, hlen, hcell⟩ := World.cells?_some h1
      have e := hcell 0 (by omega)
      rw [List.getElem?_eq_getElem (show 0 < cs'.length by omega)] at e
      have e' := World.cell?_spot e
      simpa [Addr.add] using e'
    subst hspot
    obtain ⟨L, hL, hLc⟩ := list_of (α := Opr) (P := fun i x => OpAt W b (off + i * 5) x ∧ OpD (D i) x) len (fun i hi => by
      obtain ⟨cs', h1, h2⟩ := hx i (by omega)
      rw [ce, add_plain] at h1
      obtain ⟨x, hx1, hx2⟩ := open_op h1 h2
      exact ⟨x, hx1, hx2⟩)
    subst hL
    refine ⟨L, ⟨_, cap, rfl, ⟨hl, by unfold maxLen at hm; exact hm⟩, fun h => (by simp at h), fun _ => ⟨b, off, rfl, fun i hi => (hLc i hi).1⟩⟩, Or.inr ⟨_, _, (congrArg Prod.fst hd), by simp, fun i hi => ?_⟩⟩
    have := (hLc i hi).2
    rw [List.getD_eq_getElem?_getD, List.getElem?_map, List.getElem?_range hi]
    exact this

theorem weightsAll_mem {H : Type} {P : Program} {e : TypeId} : ∀ {l : List (DataW H)} {i : Nat}, i < l.length → ∀ n ∈ (l.getD i .nil).weights P e, n ∈ DataW.weightsAll P e l
  | [], _, h, _, _ => absurd h (Nat.not_lt_zero _)
  | d :: r, 0, _, n, hn => by
    simp only [DataW.weightsAll, List.mem_append]
    exact Or.inl (by simpa using hn)
  | d :: r, i + 1, h, n, hn => by
    simp only [DataW.weightsAll, List.mem_append]
    exact Or.inr (weightsAll_mem (i := i) (by simpa using h) n (by simpa using hn))

/-- What came in is within reach: so are the picks. -/
theorem reach_ops {H : Type} {P : Program} (hP : P = Try.prog) {ts : List TypeId} {ds : List (DataW H)} (hsz : (DataW.weightsEach P ts ds).all (· ≤ reachBytes) = true) {j : Nat} {d : DataW H} {l : List Opr}
    (ht : ts[j]? = some 22) (hd : ds[j]? = some d) (h : l = [] ∨ ∃ elems rest, d = .slice elems rest ∧ l.length = elems.length ∧ ∀ i, i < l.length → OpD (elems.getD i .nil) (l.getD i default)) :
    l.length ≤ 140737488351232 ∧ ∀ i, i < l.length → (l.getD i default).ps.length ≤ 140737488351232 := by
  subst hP
  have hr : reachBytes = 140737488351232 := rfl
  rcases h with rfl | ⟨elems, rest, rfl, hl, ho⟩
  · exact ⟨by decide, fun i hi => absurd hi (Nat.not_lt_zero _)⟩
  · refine ⟨?_, fun i hi => ?_⟩
    · have h1 := sized_slice hsz ht hd Try.underlying22
      have hb : 1 ≤ Try.prog.bytesOf 34 := by decide +kernel
      have h2 : (elems.length + rest.length) * 1 ≤ (elems.length + rest.length) * Try.prog.bytesOf 34 := Nat.mul_le_mul_left _ hb
      omega
    · obtain ⟨d0, d1, d2, d3, d4, he, hp⟩ := ho i hi
      have hall : ∀ n ∈ (elems.getD i .nil).weights Try.prog 34, n ≤ reachBytes := fun n hn => by
        have h1 := weightsAll_mem (P := Try.prog) (e := 34) (show i < elems.length by omega) n hn
        have h2 := List.all_eq_true.1 hsz n (DataW.weights_mem_each ht hd n (by simp only [DataW.weights, Try.underlying22]; simp [h1]))
        simpa using h2
      rw [he] at hall
      have h3 : (DataW.weightsEach Try.prog [3, 3, 3, 4, 32] [d0, d1, d2, d3, d4]).all (· ≤ reachBytes) = true := by
        refine List.all_eq_true.2 fun n hn => ?_
        have := hall n (by simp only [DataW.weights, Try.underlying34]; exact hn)
        simpa using this
      exact reach_bts rfl h3 (j := 4) rfl rfl hp
end Go.Proofs.Ythjciddhghfcbaa
