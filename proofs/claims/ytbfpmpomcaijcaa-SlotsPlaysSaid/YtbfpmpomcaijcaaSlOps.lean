/- Slices of changes that come in: opened to what they tell. Conditions: none. -/
import Derived.Test.YtbfpmpomcaijcaaSlOpen
namespace Go.Proofs.Ytbfpmpomcaijcaa
open Go.ChangeShapes Go.WideShapes Go.ChangeAt Go.RowKit Go.Deep Go.Joins

/-- A change: its kind, its slot, its bytes (as a value, and what they read as). -/
structure SOp where
  kind : Int
  at_ : Int
  bv : Value
  bs : List Nat
instance : Inhabited SOp := ⟨⟨0, 0, .slice none 0 0, []⟩⟩
def OkI (x : Int) : Prop := (Lit.int .i64 x).wf = true

/-- The three cells of a change. -/
structure SOpAt (W : World) (b o : Nat) (x : SOp) : Prop where
  c0 : W.cell? ⟨b, o, none⟩ = some (.int .i64 x.kind)
  c1 : W.cell? ⟨b, o + 1, none⟩ = some (.int .i64 x.at_)
  c2 : W.cell? ⟨b, o + 2, none⟩ = some x.bv
  k0 : OkI x.kind
  k1 : OkI x.at_
  bts : x.bs.length ≤ 140737488355328 → Bts W x.bv x.bs

/-- What an element's datum says of its bytes. -/
def SOpD {H : Type} (d : DataW H) (x : SOp) : Prop := ∃ d0 d1 d2, d = .agg [d0, d1, d2] ∧ LenD d2 x.bs

theorem open_sop {H : Type} {enc : TypeId × Value → H} {W : World} {base n : Nat} {spare : Nat → Bool} {held : Bool} {b o : Nat} {cs : List Value} {y : DataW H × List MemPlace}
    (h1 : W.cells? base ⟨b, o, none⟩ 3 = some cs) (h2 : DataW.trod enc Try.prog W base spare held n 42 cs = some y) : ∃ x : SOp, SOpAt W b o x ∧ SOpD y.1 x := by
  obtain ⟨_, hlen, hcell⟩ := World.cells?_some h1
  obtain ⟨xs, k, hk, hxy, _, hxl, hf⟩ := DataW.trod_struct Try.underlying42 h2
  match xs, hxl, cs, hlen with
  | [y0, y1, y2], _, [v0, v1, v2], _ =>
    have g0 := hf 0 _ rfl
    have g1 := hf 1 _ rfl
    have g2 := hf 2 _ rfl
    have q1 : Try.prog.cellsOf 3 = 1 := by kernel_rfl
    have q3 : Try.prog.cellsOf 30 = 1 := by kernel_rfl
    simp [q1, q3] at g0 g1 g2
    have e0 := hcell 0 (by omega)
    have e1 := hcell 1 (by omega)
    have e2 := hcell 2 (by omega)
    simp [add_plain] at e0 e1 e2
    obtain ⟨a0, f0, -, w0⟩ := DataW.trod_int (k := .i64) Try.underlying3 g0
    obtain ⟨a1, f1, -, w1⟩ := DataW.trod_int (k := .i64) Try.underlying3 g1
    obtain ⟨a2, n2, k2, f2⟩ := slice_form Try.underlying30 g2
    simp only [List.cons.injEq, and_true] at f0 f1 f2
    subst f0 f1 f2
    have t2 : DataW.Trod enc Try.prog W base spare held 30 (.slice a2 n2 k2) y2.1 y2.2 := ⟨k, by simpa [Value.cells] using g2⟩
    obtain ⟨lm, wb, r2⟩ := open_bts t2
    refine ⟨⟨a0, a1, _, lm⟩, ⟨e0, e1, e2, w0, w1, wb⟩, ?_⟩
    simp only [Prod.ext_iff] at hxy
    exact ⟨y0.1, y1.1, y2.1, by simpa using hxy.1, r2⟩

/-- A slice of changes. -/
structure SOpsIn (W : World) (v : Value) (l : List SOp) : Prop where
  form : ∃ p cap, v = .slice p l.length cap ∧ (l.length ≤ cap ∧ cap ≤ 9223372036854775807) ∧ (p = none → cap = 0) ∧ (0 < l.length → ∃ b off, p = some ⟨b, off, none⟩ ∧ ∀ i, i < l.length → SOpAt W b (off + i * 3) (l.getD i default))

set_option maxRecDepth 20000 in
theorem open_sops {H : Type} {enc : TypeId × Value → H} {W : World} {base : Nat} {spare : Nat → Bool} {held : Bool} {a : Option Addr} {len cap : Nat} {d : DataW H} {ps : List MemPlace}
    (h : DataW.Trod enc Try.prog W base spare held 40 (.slice a len cap) d ps) : ∃ l : List SOp, SOpsIn W (.slice a len cap) l ∧ (l = [] ∨ ∃ elems rest, d = .slice elems rest ∧ l.length = elems.length ∧ ∀ i, i < l.length → SOpD (elems.getD i .nil) (l.getD i default)) := by
  obtain ⟨fuel, hf⟩ := h
  have ce : Try.prog.cellsOf 42 = 3 := by kernel_rfl
  rcases open_slice Try.underlying40 hf with ⟨hcs, _⟩ | ⟨x, l, c, m, n, D, Pl, hcs, _, hl, hm, hmm, hd, hx⟩
  · simp [Value.cells] at hcs
    obtain ⟨rfl, rfl, rfl⟩ := hcs
    exact ⟨[], ⟨none, 0, rfl, by decide, fun _ => rfl, fun h => absurd h (by decide)⟩, Or.inl rfl⟩
  · simp [Value.cells] at hcs
    obtain ⟨rfl, rfl, rfl⟩ := hcs
    have hlm : len ≤ m := by rw [hmm]; split <;> omega
    obtain ⟨b, off, spot⟩ := x
    rcases Nat.eq_zero_or_pos len with h0 | h0
    · subst h0
      exact ⟨[], ⟨_, cap, rfl, ⟨hl, by unfold maxLen at hm; exact hm⟩, fun h => (by simp at h), fun h => absurd h (by decide)⟩, Or.inl rfl⟩
    have hspot : spot = none := by
      obtain ⟨cs', h1, _⟩ := hx 0 (by omega)
      rw [ce] at h1
      obtain ⟨_, hlen, hcell⟩ := World.cells?_some h1
      have e := hcell 0 (by omega)
      rw [List.getElem?_eq_getElem (show 0 < cs'.length by omega)] at e
      have e' := World.cell?_spot e
      simpa [Addr.add] using e'
    subst hspot
    obtain ⟨L, hL, hLc⟩ := Sl.list_of (α := SOp) (P := fun i x => SOpAt W b (off + i * 3) x ∧ SOpD (D i) x) len (fun i hi => by
      obtain ⟨cs', h1, h2⟩ := hx i (by omega)
      rw [ce, add_plain] at h1
      obtain ⟨x, hx1, hx2⟩ := open_sop h1 h2
      exact ⟨x, hx1, hx2⟩)
    subst hL
    refine ⟨L, ⟨_, cap, rfl, ⟨hl, by unfold maxLen at hm; exact hm⟩, fun h => (by simp at h), fun _ => ⟨b, off, rfl, fun i hi => (hLc i hi).1⟩⟩, Or.inr ⟨_, _, (congrArg Prod.fst hd), by simp, fun i hi => ?_⟩⟩
    have := (hLc i hi).2
    rw [List.getD_eq_getElem?_getD, List.getElem?_map, List.getElem?_range hi]
    exact this

/-- What came in is within reach: so are the bytes of each. -/
theorem reach_sops {H : Type} {P : Program} (hP : P = Try.prog) {ts : List TypeId} {ds : List (DataW H)} (hsz : (DataW.weightsEach P ts ds).all (· ≤ reachBytes) = true) {j : Nat} {d : DataW H} {l : List SOp}
    (ht : ts[j]? = some 40) (hd : ds[j]? = some d) (h : l = [] ∨ ∃ elems rest, d = .slice elems rest ∧ l.length = elems.length ∧ ∀ i, i < l.length → SOpD (elems.getD i .nil) (l.getD i default)) :
    l.length ≤ 140737488351232 ∧ ∀ i, i < l.length → (l.getD i default).bs.length ≤ 140737488351232 := by
  subst hP
  have hr : reachBytes = 140737488351232 := rfl
  rcases h with rfl | ⟨elems, rest, rfl, hl, ho⟩
  · exact ⟨by decide, fun i hi => absurd hi (Nat.not_lt_zero _)⟩
  · refine ⟨?_, fun i hi => ?_⟩
    · have h1 := sized_slice hsz ht hd Try.underlying40
      have hb : 1 ≤ Try.prog.bytesOf 42 := by decide +kernel
      have h2 : (elems.length + rest.length) * 1 ≤ (elems.length + rest.length) * Try.prog.bytesOf 42 := Nat.mul_le_mul_left _ hb
      omega
    · obtain ⟨d0, d1, d2, he, hp⟩ := ho i hi
      have hall : ∀ n ∈ (elems.getD i .nil).weights Try.prog 42, n ≤ reachBytes := fun n hn => by
        have h1 := Sl.weightsAll_mem (P := Try.prog) (e := 42) (show i < elems.length by omega) n hn
        have h2 := List.all_eq_true.1 hsz n (DataW.weights_mem_each ht hd n (by simp only [DataW.weights, Try.underlying40]; simp [h1]))
        simpa using h2
      rw [he] at hall
      have h3 : (DataW.weightsEach Try.prog [3, 3, 30] [d0, d1, d2]).all (· ≤ reachBytes) = true := by
        refine List.all_eq_true.2 fun n hn => ?_
        have := hall n (by simp only [DataW.weights, Try.underlying42]; exact hn)
        simpa using this
      exact reach_bts rfl h3 (j := 2) rfl rfl hp
end Go.Proofs.Ytbfpmpomcaijcaa
