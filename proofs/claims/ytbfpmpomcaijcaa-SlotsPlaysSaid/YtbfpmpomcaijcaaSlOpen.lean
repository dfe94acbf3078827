/- Slotted bodies that come in: opened to what they hold. Conditions: none. -/
import Derived.Test.YtbfpmpomcaijcaaSlVal
import Derived.Deep.SlicePairs
import Derived.Lib.SmallJoins
import Derived.ProofKit
import Derived.OpenShut
import Derived.SizedLaws
namespace Go.Proofs.Ytbfpmpomcaijcaa
open Go.ChangeShapes Go.WideShapes Go.ChangeAt Go.RowKit Go.Deep Go.Joins

namespace Sl
theorem list_of {α : Type} [Inhabited α] {P : Nat → α → Prop} : ∀ (n : Nat), (∀ i, i < n → ∃ x, P i x) → ∃ l : List α, l.length = n ∧ ∀ i, i < n → P i (l.getD i default)
  | 0, _ => ⟨[], rfl, fun i h => absurd h (Nat.not_lt_zero i)⟩
  | n + 1, h => by
    obtain ⟨l, h1, h2⟩ := list_of n fun i hi => h i (by omega)
    obtain ⟨x, hx⟩ := h n (Nat.lt_succ_self n)
    refine ⟨l ++ [x], by simp [h1], fun i hi => ?_⟩
    by_cases h3 : i < n
    · have := h2 i h3
      rw [List.getD_eq_getElem?_getD, List.getElem?_append_left (by omega), ← List.getD_eq_getElem?_getD]
      exact this
    · obtain rfl : i = n := by omega
      rw [List.getD_eq_getElem?_getD, List.getElem?_append_right (by omega)]
      simpa [h1] using hx
end Sl

theorem bo_ok (l : List Bool) : ∀ x ∈ FB l, Bo.Okk x := by
  intro x hx
  unfold FB at hx
  obtain ⟨b, -, rfl⟩ := List.mem_map.1 hx
  rfl

theorem open_bools {H : Type} {enc : TypeId × Value → H} {W : World} {base : Nat} {spare : Nat → Bool} {held : Bool} {a : Option Addr} {len cap : Nat} {d : DataW H} {ps : List MemPlace}
    (h : DataW.Trod enc Try.prog W base spare held 23 (.slice a len cap) d ps) : ∃ l : List Bool, (l.length ≤ 140737488355328 → Bo.Bts W (.slice a len cap) (FB l)) ∧ (l = [] ∨ ∃ elems rest, d = .slice elems rest ∧ l.length = elems.length) := by
  obtain ⟨fuel, hf⟩ := h
  have ce : Try.prog.cellsOf 4 = 1 := by kernel_rfl
  rcases open_slice Try.underlying23 hf with ⟨hcs, _⟩ | ⟨x, l, c, m, n, D, Pl, hcs, _, hl, hm, hmm, hd, hx⟩
  · simp [Value.cells] at hcs
    obtain ⟨rfl, rfl, rfl⟩ := hcs
    exact ⟨[], fun _ => ⟨⟨none, 0, rfl, by decide, fun _ => rfl, fun h => absurd h (by decide)⟩, bo_ok _, by decide⟩, Or.inl rfl⟩
  · simp [Value.cells] at hcs
    obtain ⟨rfl, rfl, rfl⟩ := hcs
    have hlm : len ≤ m := by rw [hmm]; split <;> omega
    obtain ⟨b, off, spot⟩ := x
    rcases Nat.eq_zero_or_pos len with h0 | h0
    · subst h0
      exact ⟨[], fun _ => ⟨⟨_, cap, rfl, ⟨hl, by unfold maxLen at hm; exact hm⟩, fun h => (by simp at h), fun h => absurd h (by decide)⟩, bo_ok _, by decide⟩, Or.inl rfl⟩
    have hspot : spot = none := by
      obtain ⟨cs', h1, _⟩ := hx 0 (by omega)
      rw [ce] at h1
      obtain ⟨_, hlen, hcell⟩ := World.cells?_some h1
      have e := hcell 0 (by omega)
      rw [List.getElem?_eq_getElem (show 0 < cs'.length by omega)] at e
      have e' := World.cell?_spot e
      simpa [Addr.add] using e'
    subst hspot
    obtain ⟨L, hL, hLc⟩ := Sl.list_of (α := Bool) (P := fun i x => W.cell? ⟨b, off + i, none⟩ = some (.bool x)) len (fun i hi => by
      obtain ⟨cs', h1, h2⟩ := hx i (by omega)
      rw [ce, Nat.mul_one, add_plain] at h1
      obtain ⟨_, hlen, hcell⟩ := World.cells?_some h1
      obtain ⟨a0, f0, -⟩ := DataW.trod_bool Try.underlying4 h2
      subst f0
      have e0 := hcell 0 (by omega)
      exact ⟨a0, by simpa [add_plain] using e0⟩)
    subst hL
    refine ⟨L, fun hb => ⟨⟨_, cap, by rw [fb_length], ⟨by rw [fb_length]; exact hl, by unfold maxLen at hm; exact hm⟩, fun h => (by simp at h), fun _ => ⟨b, off, rfl, fun i hi => ?_⟩⟩, bo_ok _, by rw [fb_length]; exact hb⟩, Or.inr ⟨_, _, (congrArg Prod.fst hd), by simp⟩⟩
    rw [fb_length] at hi
    rw [fb_getD]
    exact hLc i hi

/-- What a datum says of a text's length. -/
def LenD {H : Type} (d : DataW H) (l : List Nat) : Prop := l = [] ∨ ∃ elems rest, d = .slice elems rest ∧ l.length ≤ elems.length

set_option maxRecDepth 20000 in
theorem open_texts {H : Type} {enc : TypeId × Value → H} {W : World} {base : Nat} {spare : Nat → Bool} {held : Bool} {a : Option Addr} {len cap : Nat} {d : DataW H} {ps : List MemPlace}
    (h : DataW.Trod enc Try.prog W base spare held 24 (.slice a len cap) d ps) : ∃ ls : List (List Nat), (ls.length ≤ 5864062014805 → (∀ i, i < ls.length → (ls.getD i []).length ≤ 140737488355328) → DAt W (.slice a len cap) ls) ∧ (ls = [] ∨ ∃ elems rest, d = .slice elems rest ∧ ls.length = elems.length ∧ ∀ i, i < ls.length → LenD (elems.getD i .nil) (ls.getD i [])) := by
  obtain ⟨fuel, hf⟩ := h
  have ce : Try.prog.cellsOf 30 = 1 := by kernel_rfl
  rcases open_slice Try.underlying24 hf with ⟨hcs, _⟩ | ⟨x, l, c, m, n, D, Pl, hcs, _, hl, hm, hmm, hd, hx⟩
  · simp [Value.cells] at hcs
    obtain ⟨rfl, rfl, rfl⟩ := hcs
    exact ⟨[], fun _ _ => ⟨[], ⟨⟨none, 0, rfl, by decide, fun _ => rfl, fun h => absurd h (by decide)⟩, by simp, by decide⟩, rfl, fun i hi => absurd hi (Nat.not_lt_zero _)⟩, Or.inl rfl⟩
  · simp [Value.cells] at hcs
    obtain ⟨rfl, rfl, rfl⟩ := hcs
    have hlm : len ≤ m := by rw [hmm]; split <;> omega
    obtain ⟨b, off, spot⟩ := x
    rcases Nat.eq_zero_or_pos len with h0 | h0
    · subst h0
      exact ⟨[], fun _ _ => ⟨[], ⟨⟨_, cap, rfl, ⟨hl, by unfold maxLen at hm; exact hm⟩, fun h => (by simp at h), fun h => absurd h (by decide)⟩, by simp, by decide⟩, rfl, fun i hi => absurd hi (Nat.not_lt_zero _)⟩, Or.inl rfl⟩
    have hspot : spot = none := by
      obtain ⟨cs', h1, _⟩ := hx 0 (by omega)
      rw [ce] at h1
      obtain ⟨_, hlen, hcell⟩ := World.cells?_some h1
      have e := hcell 0 (by omega)
      rw [List.getElem?_eq_getElem (show 0 < cs'.length by omega)] at e
      have e' := World.cell?_spot e
      simpa [Addr.add] using e'
    subst hspot
    obtain ⟨L, hL, hLc⟩ := Sl.list_of (α := Value × List Nat) (P := fun i x => W.cell? ⟨b, off + i, none⟩ = some x.1 ∧ (∃ a1 n1 c1, x.1 = .slice a1 n1 c1) ∧ (x.2.length ≤ 140737488355328 → Bts W x.1 x.2) ∧ LenD (D i) x.2) len (fun i hi => by
      obtain ⟨cs', h1, h2⟩ := hx i (by omega)
      rw [ce, Nat.mul_one, add_plain] at h1
      obtain ⟨_, hlen, hcell⟩ := World.cells?_some h1
      obtain ⟨a1, n1, c1, f1⟩ := slice_form Try.underlying30 h2
      subst f1
      have e0 := hcell 0 (by omega)
      have t1 : DataW.Trod enc Try.prog W base spare held 30 (.slice a1 n1 c1) (D i) (Pl i) := ⟨n, by simpa [Value.cells] using h2⟩
      obtain ⟨lm, wb, r1⟩ := open_bts t1
      exact ⟨(.slice a1 n1 c1, lm), by simpa [add_plain] using e0, ⟨_, _, _, rfl⟩, wb, r1⟩)
    subst hL
    have gl : ∀ i, i < L.length → (L.map Prod.fst).getD i nilS = (L.getD i default).1 ∧ (L.map Prod.snd).getD i [] = (L.getD i default).2 := fun i hi => by
      simp [List.getD_eq_getElem?_getD, hi]
    refine ⟨L.map Prod.snd, fun hb hb2 => ⟨L.map Prod.fst, ⟨⟨_, cap, by simp, ⟨by simpa using hl, by unfold maxLen at hm; exact hm⟩, fun h => (by simp at h), fun _ => ⟨b, off, rfl, fun i hi => ?_⟩⟩, ?_, by simpa using hb⟩, by simp, fun i hi => ?_⟩, Or.inr ⟨_, _, (congrArg Prod.fst hd), by simp, fun i hi => ?_⟩⟩
    · rw [List.length_map] at hi
      rw [(gl i hi).1]
      exact (hLc i hi).1
    · intro x hx
      obtain ⟨y, hy, rfl⟩ := List.mem_map.1 hx
      obtain ⟨i, hi, rfl⟩ := List.getElem_of_mem hy
      obtain ⟨a1, n1, c1, e1⟩ := (hLc i hi).2.1
      have e2 : L.getD i default = L[i] := by simp [List.getD_eq_getElem?_getD, hi]
      rw [e2] at e1
      rw [e1]; rfl
    · rw [List.length_map] at hi
      have h3 := hb2 i (by simpa using hi)
      rw [(gl i hi).2] at h3
      rw [(gl i hi).1, (gl i hi).2]
      exact (hLc i hi).2.2.1 h3
    · rw [List.length_map] at hi
      rw [(gl i hi).2]
      have := (hLc i hi).2.2.2
      rw [List.getD_eq_getElem?_getD, List.getElem?_map, List.getElem?_range hi]
      exact this

theorem open_slots {H : Type} {enc : TypeId × Value → H} {W : World} {base b0 : Nat} {spare : Nat → Bool} {held : Bool} {r : Reach} {v : Value} {d : DataW H} {ps : List MemPlace}
    (hv : Value.okWide Try.prog W r b0 26 v) (h : DataW.Trod enc Try.prog W base spare held 26 v d ps) :
    ∃ (k n : Nat) (vf vd : Value) (d0 d1 d2 d3 : DataW H) (lf : List Bool) (ls : List (List Nat)), k < 256 ∧ n < 4294967296 ∧ v = SlV k n vf vd ∧ d = .agg [d0, d1, d2, d3] ∧
      (lf.length ≤ 140737488355328 → Bo.Bts W vf (FB lf)) ∧ (lf = [] ∨ ∃ elems rest, d2 = .slice elems rest ∧ lf.length = elems.length) ∧
      (ls.length ≤ 5864062014805 → (∀ i, i < ls.length → (ls.getD i []).length ≤ 140737488355328) → DAt W vd ls) ∧ (ls = [] ∨ ∃ elems rest, d3 = .slice elems rest ∧ ls.length = elems.length ∧ ∀ i, i < ls.length → LenD (elems.getD i .nil) (ls.getD i [])) := by
  obtain ⟨c0, c1, c2, c3, y0, y1, y2, y3, m, rfl, rfl, rfl, hy0, hy1, hy2, hy3⟩ := open_agg4 Try.underlying26 (by kernel_rfl) (by kernel_rfl) hv h
  obtain ⟨k, e0, -, wk⟩ := DataW.trod_int (k := .u8) Try.underlying5 hy0
  obtain ⟨n, e1, -, wn⟩ := DataW.trod_int (k := .u32) Try.underlying22 hy1
  obtain ⟨k, hk, rfl⟩ := nat_of_u8 wk
  obtain ⟨n, hn, rfl⟩ := nat_of_u32 wn
  simp only [List.cons.injEq, and_true] at e0 e1
  subst e0 e1
  obtain ⟨a2, n2, k2, e2⟩ := slice_form Try.underlying23 hy2
  obtain ⟨a3, n3, k3, e3⟩ := slice_form Try.underlying24 hy3
  simp only [List.cons.injEq, and_true] at e2 e3
  subst e2 e3
  have t2 : DataW.Trod enc Try.prog W base spare held 23 (.slice a2 n2 k2) y2.1 y2.2 := ⟨m, by simpa [Value.cells] using hy2⟩
  have t3 : DataW.Trod enc Try.prog W base spare held 24 (.slice a3 n3 k3) y3.1 y3.2 := ⟨m, by simpa [Value.cells] using hy3⟩
  obtain ⟨lf, w1, r1⟩ := open_bools t2
  obtain ⟨ls, w2, r2⟩ := open_texts t3
  exact ⟨k, n, _, _, _, _, _, _, lf, ls, hk, hn, rfl, rfl, w1, r1, w2, r2⟩

namespace Sl
theorem weightsAll_mem {H : Type} {P : Program} {e : TypeId} : ∀ {l : List (DataW H)} {i : Nat}, i < l.length → ∀ n ∈ (l.getD i .nil).weights P e, n ∈ DataW.weightsAll P e l
  | [], _, h, _, _ => absurd h (Nat.not_lt_zero _)
  | d :: r, 0, _, n, hn => by
    simp only [DataW.weightsAll, List.mem_append]
    exact Or.inl (by simpa using hn)
  | d :: r, i + 1, h, n, hn => by
    simp only [DataW.weightsAll, List.mem_append]
    exact Or.inr (weightsAll_mem (i := i) (by simpa using h) n (by simpa using hn))
end Sl

theorem reach_bools {H : Type} {P : Program} (hP : P = Try.prog) {ts : List TypeId} {ds : List (DataW H)} (hsz : (DataW.weightsEach P ts ds).all (· ≤ reachBytes) = true) {j : Nat} {d : DataW H} {l : List Bool}
    (ht : ts[j]? = some 23) (hd : ds[j]? = some d) (h : l = [] ∨ ∃ elems rest, d = .slice elems rest ∧ l.length = elems.length) : l.length ≤ 140737488351232 := by
  subst hP
  have hr : reachBytes = 140737488351232 := rfl
  rcases h with rfl | ⟨elems, rest, rfl, hl⟩
  · decide
  · have h1 := sized_slice hsz ht hd Try.underlying23
    have hb : 1 ≤ Try.prog.bytesOf 4 := by decide +kernel
    have h2 : (elems.length + rest.length) * 1 ≤ (elems.length + rest.length) * Try.prog.bytesOf 4 := Nat.mul_le_mul_left _ hb
    omega

theorem reach_texts {H : Type} {P : Program} (hP : P = Try.prog) {ts : List TypeId} {ds : List (DataW H)} (hsz : (DataW.weightsEach P ts ds).all (· ≤ reachBytes) = true) {j : Nat} {d : DataW H} {ls : List (List Nat)}
    (ht : ts[j]? = some 24) (hd : ds[j]? = some d) (h : ls = [] ∨ ∃ elems rest, d = .slice elems rest ∧ ls.length = elems.length ∧ ∀ i, i < ls.length → LenD (elems.getD i .nil) (ls.getD i [])) :
    ls.length ≤ 5864062014634 ∧ ∀ i, i < ls.length → (ls.getD i []).length ≤ 140737488351232 := by
  subst hP
  have hr : reachBytes = 140737488351232 := rfl
  rcases h with rfl | ⟨elems, rest, rfl, hl, ho⟩
  · exact ⟨by decide, fun i hi => absurd hi (Nat.not_lt_zero _)⟩
  · refine ⟨?_, fun i hi => ?_⟩
    · have h1 := sized_slice hsz ht hd Try.underlying24
      have hb : 24 ≤ Try.prog.bytesOf 30 := by decide +kernel
      have h2 : (elems.length + rest.length) * 24 ≤ (elems.length + rest.length) * Try.prog.bytesOf 30 := Nat.mul_le_mul_left _ hb
      omega
    · have hall : ∀ n ∈ (elems.getD i .nil).weights Try.prog 30, n ≤ reachBytes := fun n hn => by
        have h1 := Sl.weightsAll_mem (P := Try.prog) (e := 30) (show i < elems.length by omega) n hn
        have h2 := List.all_eq_true.1 hsz n (DataW.weights_mem_each ht hd n (by simp only [DataW.weights, Try.underlying24]; simp [h1]))
        simpa using h2
      have h3 : (DataW.weightsEach Try.prog [30] [elems.getD i .nil]).all (· ≤ reachBytes) = true := by
        refine List.all_eq_true.2 fun n hn => ?_
        have := hall n (by simpa [DataW.weightsEach] using hn)
        simpa using this
      exact reach_bts rfl h3 (j := 0) rfl rfl (ho i hi)

theorem slots_sized {H : Type} {ts : List TypeId} {ds : List (DataW H)} {d0 d1 d2 d3 : DataW H} (h : (DataW.weightsEach Try.prog ts ds).all (· ≤ reachBytes) = true) {j : Nat} (ht : ts[j]? = some 26) (hd : ds[j]? = some (.agg [d0, d1, d2, d3])) :
    (DataW.weightsEach Try.prog [5, 22, 23, 24] [d0, d1, d2, d3]).all (· ≤ reachBytes) = true := by
  refine List.all_eq_true.2 fun n hn => List.all_eq_true.1 h n (DataW.weights_mem_each ht hd n ?_)
  simp only [DataW.weights, Try.underlying26]
  exact hn
end Go.Proofs.Ytbfpmpomcaijcaa
