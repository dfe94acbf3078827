/- A crash, sector by sector of those that wait, plainly. Conditions: none. -/
import Derived.Test.YtkmkbjjpbodbfaaDkPD
namespace Go.Proofs.Ytkmkbjjpbodbfaa.Dk

theorem listL_length : ∀ (ws : List (Option (List Nat))) (i : Nat), (listL i ws).length = ws.countP Option.isSome
  | [], _ => rfl
  | none :: r, i => by rw [listL, listL_length r]; simp
  | some b :: r, i => by rw [listL, List.length_cons, listL_length r]; simp
theorem listL_get : ∀ (ws : List (Option (List Nat))) (i j : Nat), j < (listL i ws).length → ∃ m b, (listL i ws).getD j 0 = i + m ∧ m < ws.length ∧ ws.getD m none = some b ∧ (ws.take m).countP Option.isSome = j
  | [], _, _, h => by simp [listL] at h
  | none :: r, i, j, h => by
    obtain ⟨m, b, h1, h2, h3, h4⟩ := listL_get r (i + 1) j h
    refine ⟨m + 1, b, ?_, by simp; omega, by simpa using h3, by simpa using h4⟩
    show (listL (i + 1) r).getD j 0 = _
    omega
  | some c :: r, i, 0, _ => ⟨0, c, by simp [listL], by simp, by simp, by simp⟩
  | some c :: r, i, j + 1, h => by
    obtain ⟨m, b, h1, h2, h3, h4⟩ := listL_get r (i + 1) j (by simpa [listL] using h)
    refine ⟨m + 1, b, ?_, by simp; omega, by simpa using h3, by simpa using h4⟩
    have : (listL i (some c :: r)).getD (j + 1) 0 = (listL (i + 1) r).getD j 0 := by simp [listL]
    omega
theorem cnt_lt {d : Dev} {m n : Nat} (h : m < n) (hl : m < d.waits.length) (hs : (d.waits.getD m none).isSome = true) : cnt d m < (d.waits.take n).countP Option.isSome := by
  have h1 := cnt_next d m hl
  rw [if_pos hs] at h1
  have h2 : (d.waits.take (m + 1)).countP Option.isSome ≤ (d.waits.take n).countP Option.isSome := by
    have e : d.waits.take (m + 1) = (d.waits.take n).take (m + 1) := by rw [List.take_take]; congr 1; omega
    rw [e]
    exact (List.take_sublist _ _).countP_le
  unfold cnt at *
  omega
theorem cnt_inj {d : Dev} {m n : Nat} (h1 : m < d.waits.length) (h2 : n < d.waits.length) (s1 : (d.waits.getD m none).isSome = true) (s2 : (d.waits.getD n none).isSome = true) (h : cnt d m = cnt d n) : m = n := by
  rcases Nat.lt_trichotomy m n with hlt | he | hlt
  · have := cnt_lt hlt h1 s1
    unfold cnt at *; omega
  · exact he
  · have := cnt_lt hlt h2 s2
    unfold cnt at *; omega
theorem cnt_total {d : Dev} {m : Nat} (h1 : m < d.waits.length) (s1 : (d.waits.getD m none).isSome = true) : cnt d m < (list d).length := by
  have := cnt_lt h1 h1 s1
  rw [List.take_length] at this
  unfold list
  rw [listL_length]
  exact this

/-- What the map of lasting sectors tells when the first k of those that waited are done. -/
def crAt (d : Dev) (ps : List Nat) (k : Nat) : List (Option (List Nat)) :=
  (List.range (size d)).map fun i => if (d.waits.getD i none).isSome = true ∧ cnt d i < k then some ((crash d ps).lasts.getD i []) else (seenL d).getD i none
theorem crAt_length (d : Dev) (ps : List Nat) (k : Nat) : (crAt d ps k).length = size d := by simp [crAt]
theorem crAt_getD {d : Dev} {ps : List Nat} {k i : Nat} (hi : i < size d) : (crAt d ps k).getD i none = if (d.waits.getD i none).isSome = true ∧ cnt d i < k then some ((crash d ps).lasts.getD i []) else (seenL d).getD i none := by
  rw [crAt, List.getD_eq_getElem?_getD, List.getElem?_map, List.getElem?_range hi]; rfl
theorem crAt_zero {d : Dev} (h : Ok d) (ps : List Nat) : crAt d ps 0 = seenL d := by
  refine ext_getD none (by rw [crAt_length, seenL_length h]) fun i hi => ?_
  rw [crAt_length] at hi
  rw [crAt_getD hi, if_neg (by omega)]
theorem crAt_full {d : Dev} (h : Own d) (ps : List Nat) : crAt d ps (list d).length = seenL (crash d ps) := by
  have hk := ok_crash h.ok ps
  refine ext_getD none (by rw [crAt_length, seenL_length hk, crashed_size h.ok]) fun i hi => ?_
  rw [crAt_length] at hi
  rw [crAt_getD hi, seenL_getD hk (by rw [crashed_size h.ok]; exact hi)]
  show _ = if d.seen.getD i false then _ else _
  cases hw : d.waits.getD i none with
  | none =>
    rw [if_neg (by rintro ⟨h, _⟩; cases h), seenL_getD h.ok hi, crash_lasts h.ok ps hi, hw]
  | some b =>
    rw [if_pos ⟨rfl, cnt_total (by rw [h.ok.w]; exact hi) (by rw [hw]; rfl)⟩, h.wseen i b hw]; rfl
theorem crAt_next {d : Dev} (h : Own d) (ps : List Nat) {k i : Nat} {b : List Nat} (hi : i < size d) (hw : d.waits.getD i none = some b) (hc : cnt d i = k) :
    (crAt d ps k).set i (some (pick (ps.getD k 0) (d.lasts.getD i []) b)) = crAt d ps (k + 1) := by
  refine ext_getD none (by rw [List.length_set, crAt_length, crAt_length]) fun j hj => ?_
  rw [List.length_set, crAt_length] at hj
  by_cases e : i = j
  · subst e
    rw [getD_set_self (by rw [crAt_length]; exact hi), crAt_getD hi, if_pos ⟨by rw [hw]; rfl, by omega⟩, crash_lasts h.ok ps hi, hw]
    dsimp only
    rw [hc]
  · rw [getD_set_ne e, crAt_getD hj, crAt_getD hj]
    by_cases hs : (d.waits.getD j none).isSome = true
    · have hne : cnt d j ≠ k := fun hk => e (cnt_inj (by rw [h.ok.w]; exact hi) (by rw [h.ok.w]; exact hj) (by rw [hw]; rfl) hs (by omega))
      by_cases hk : cnt d j < k
      · rw [if_pos ⟨hs, hk⟩, if_pos ⟨hs, by omega⟩]
      · rw [if_neg (by rintro ⟨_, h⟩; exact hk h), if_neg (by rintro ⟨_, h⟩; omega)]
    · rw [if_neg (by rintro ⟨h, _⟩; exact hs h), if_neg (by rintro ⟨h, _⟩; exact hs h)]
/-- The k-th sector that waits. -/
theorem list_get {d : Dev} (h : Own d) (ps : List Nat) {k : Nat} (hk : k < (list d).length) :
    ∃ i b, (list d).getD k 0 = i ∧ i < size d ∧ d.waits.getD i none = some b ∧ cnt d i = k ∧ (crAt d ps k).getD i none = some (d.lasts.getD i []) := by
  obtain ⟨m, b, h1, h2, h3, h4⟩ := listL_get d.waits 0 k hk
  rw [h.ok.w] at h2
  refine ⟨m, b, by unfold list; omega, h2, h3, h4, ?_⟩
  rw [crAt_getD h2, if_neg (by unfold cnt; omega), seenL_getD h.ok h2, if_pos (h.wseen m b h3)]
end Go.Proofs.Ytkmkbjjpbodbfaa.Dk
