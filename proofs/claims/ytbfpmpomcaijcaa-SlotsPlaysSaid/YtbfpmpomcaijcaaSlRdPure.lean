/- What 500 bytes tell as a slotted body, plainly. Conditions: none. -/
import Derived.Test.YtbfpmpomcaijcaaSlApi
namespace Go.Proofs.Ytbfpmpomcaijcaa.Sl
open Go.Proofs.Ytbfpmpomcaijcaa.Cod

def kd (b : List Nat) : Nat := num (b.take 1)
def nx (b : List Nat) : Nat := num ((b.drop 1).take 4)
def cn (b : List Nat) : Nat := num ((b.drop 5).take 1)
def mkk (b : List Nat) (i : Nat) : Nat := num ((b.drop (6 + 2 * i)).take 2)
def szz (b : List Nat) (i : Nat) : Nat := mkk b i - 1
def off (b : List Nat) : Nat → Nat
  | 0 => 0
  | k + 1 => off b k + szz b k
def rs (b : List Nat) : List Nat := b.drop (6 + 2 * cn b)
def tx (b : List Nat) (i : Nat) : List Nat := ((rs b).drop (off b i)).take (szz b i)
def fl (b : List Nat) (k : Nat) : List Bool := (List.range k).map fun i => decide (0 < mkk b i)
def dt (b : List Nat) (k : Nat) : List (List Nat) := (List.range k).map fun i => tx b i
def sof (b : List Nat) : S := ⟨kd b, nx b, fl b (cn b), dt b (cn b)⟩
structure Good (b : List Nat) : Prop where
  len : b.length = 500
  most : cn b ≤ 247
  fit : off b (cn b) ≤ (rs b).length
  trim : trimN (fl b (cn b)) (cn b) = cn b
  rest : ((rs b).drop (off b (cn b))).all (· == 0) = true

theorem fl_succ (b : List Nat) (k : Nat) : fl b (k + 1) = fl b k ++ [decide (0 < mkk b k)] := by unfold fl; rw [List.range_succ, List.map_append]; rfl
theorem dt_succ (b : List Nat) (k : Nat) : dt b (k + 1) = dt b k ++ [tx b k] := by unfold dt; rw [List.range_succ, List.map_append]; rfl
theorem fl_length (b : List Nat) (k : Nat) : (fl b k).length = k := by simp [fl]
theorem dt_length (b : List Nat) (k : Nat) : (dt b k).length = k := by simp [dt]
theorem fl_getD {b : List Nat} {k i : Nat} (h : i < k) : (fl b k).getD i false = decide (0 < mkk b i) := by
  unfold fl; simp [List.getD_eq_getElem?_getD, h]
theorem dt_getD {b : List Nat} {k i : Nat} (h : i < k) : (dt b k).getD i [] = tx b i := by
  unfold dt; simp [List.getD_eq_getElem?_getD, h]
theorem off_mono (b : List Nat) {i k : Nat} (h : i ≤ k) : off b i ≤ off b k := by
  induction k with
  | zero => rw [Nat.le_zero.1 h]; exact Nat.le_refl _
  | succ k ih =>
    by_cases e : i = k + 1
    · rw [e]; exact Nat.le_refl _
    · exact Nat.le_trans (ih (by omega)) (Nat.le_add_right _ _)
theorem off_succ (b : List Nat) (k : Nat) : off b (k + 1) = off b k + szz b k := rfl
theorem tx_length {b : List Nat} {k i : Nat} (hi : i < k) (h : off b k ≤ (rs b).length) : (tx b i).length = szz b i := by
  have := off_mono b (show i + 1 ≤ k from hi)
  rw [off_succ] at this
  unfold tx
  rw [List.length_take, List.length_drop]
  omega
theorem dt_flat (b : List Nat) : ∀ k, (dt b k).flatten = (rs b).take (off b k)
  | 0 => rfl
  | k + 1 => by
    rw [dt_succ, List.flatten_append, dt_flat b k]
    show _ ++ [tx b k].flatten = (rs b).take (off b k + szz b k)
    rw [List.take_add]
    simp [tx]
theorem eq_zeros : ∀ {l : List Nat}, l.all (· == 0) = true → l = List.replicate l.length 0
  | [], _ => rfl
  | x :: r, h => by
    simp only [List.all_cons, Bool.and_eq_true, beq_iff_eq] at h
    rw [List.length_cons, List.replicate_succ, ← eq_zeros h.2, h.1]
theorem zeros_rep (n : Nat) : (List.replicate n 0).all (· == 0) = true := by simp
theorem take1_num {l : List Nat} (h : 1 ≤ l.length) (hs : ∀ x ∈ l, x < 256) : l.take 1 = [num (l.take 1)] ∧ num (l.take 1) < 256 := by
  cases l with
  | nil => simp at h
  | cons x r =>
    have e : (x :: r).take 1 = [x] := rfl
    rw [e]
    exact ⟨by simp [num], by simpa [num] using hs x (by simp)⟩

/-- What passes all tests is a form. -/
theorem is_of_good {b : List Nat} (h : Good b) (hs : ∀ x ∈ b, x < 256) : Is b (sof b) := by
  have hlen := h.len
  have hsd : ∀ n, ∀ x ∈ b.drop n, x < 256 := fun n x hx => hs x (List.mem_of_mem_drop hx)
  have htk : ∀ n k, n + k ≤ 500 → le k (num ((b.drop n).take k)) = (b.drop n).take k := fun n k hk => by
    have h1 := le_num ((b.drop n).take k) (fun x hx => hsd n x (List.mem_of_mem_take hx))
    have h2 : ((b.drop n).take k).length = k := by rw [List.length_take, List.length_drop]; omega
    rw [h2] at h1; exact h1
  have htot : tot (dt b (cn b)) = off b (cn b) := by
    unfold tot
    rw [dt_flat, List.length_take]
    have := h.fit
    omega
  have hrl : (rs b).length = 494 - 2 * cn b := by unfold rs; rw [List.length_drop, hlen]; omega
  have hfit := h.fit
  have hmost := h.most
  have htook : took (sof b) = 6 + 2 * cn b + off b (cn b) := by
    show 6 + 2 * (dt b (cn b)).length + tot (dt b (cn b)) = _
    rw [dt_length, htot]
  have hmay : May (sof b) := by
    refine ⟨by show (fl b (cn b)).length = (dt b (cn b)).length; rw [fl_length, dt_length], by show (fl b (cn b)).length ≤ 247; rw [fl_length]; exact hmost, fun h0 => ?_, fun i hi hf => ?_, by rw [htook]; omega⟩
    · have h1 : trimN (fl b (cn b)) (fl b (cn b)).length = (fl b (cn b)).length := by rw [fl_length]; exact h.trim
      have h0' : 0 < (fl b (cn b)).length := h0
      obtain ⟨m, hm⟩ : ∃ m, (fl b (cn b)).length = m + 1 := ⟨(fl b (cn b)).length - 1, by omega⟩
      show (fl b (cn b)).getD ((fl b (cn b)).length - 1) false = true
      rw [hm] at h1 ⊢
      rw [Nat.add_sub_cancel]
      unfold trimN at h1
      cases hq : (fl b (cn b)).getD m false with
      | true => rfl
      | false =>
        rw [hq, if_neg (by decide)] at h1
        have := trimN_le (fl b (cn b)) m
        omega
    · have hi' : i < cn b := by have : i < (fl b (cn b)).length := hi; rwa [fl_length] at this
      have hf' : (fl b (cn b)).getD i false = false := hf
      rw [fl_getD hi'] at hf'
      show (dt b (cn b)).getD i [] = []
      rw [dt_getD hi']
      have hz : szz b i = 0 := by unfold szz; have := of_decide_eq_false hf'; omega
      unfold tx
      rw [hz]; rfl
  have hsz : ∀ i, i < cn b → sz (sof b) i = mkk b i := fun i hi => by
    unfold sz
    have e1 : fa (sof b) i = decide (0 < mkk b i) := fl_getD hi
    have e2 : da (sof b) i = tx b i := dt_getD hi
    rw [e1, e2, tx_length hi hfit]
    unfold szz
    by_cases hp : 0 < mkk b i
    · rw [decide_eq_true hp, if_pos rfl]; omega
    · rw [decide_eq_false hp, if_neg (by decide)]; omega
  have hsizes : ∀ k, k ≤ cn b → sizes (sof b) k = (b.drop 6).take (2 * k) := by
    intro k
    induction k with
    | zero => intro _; rfl
    | succ k ih =>
      intro hk
      rw [sizes_succ, ih (by omega), hsz k (by omega)]
      unfold mkk
      rw [htk _ _ (by omega), show 2 * (k + 1) = 2 * k + 2 by omega, List.take_add, List.drop_drop]
  have hb1 : b.take 1 = [kd b] := (take1_num (by omega) hs).1
  have hb5 : (b.drop 5).take 1 = [cn b] := (take1_num (by rw [List.length_drop]; omega) (hsd 5)).1
  have hkd : kd b < 256 := (take1_num (by omega) hs).2
  have hnx : nx b < 4294967296 := by
    have := num_lt ((b.drop 1).take 4) (fun x hx => hsd 1 x (List.mem_of_mem_take hx))
    have h2 : ((b.drop 1).take 4).length = 4 := by rw [List.length_take, List.length_drop]; omega
    rw [h2] at this
    exact this
  refine ⟨hmay, hkd, hnx, ?_⟩
  have hhead : head (sof b) = b.take 6 := by
    show kd b :: le 4 (nx b) ++ [(dt b (cn b)).length] = _
    rw [dt_length]
    have e : le 4 (nx b) = (b.drop 1).take 4 := htk 1 4 (by decide)
    rw [e, show (6 : Nat) = 1 + (4 + 1) from rfl, List.take_add, List.take_add, List.drop_drop, hb1, hb5]
    simp
  unfold form
  have e1 : (sof b).data.length = cn b := dt_length _ _
  have e2 : (sof b).data.flatten = (rs b).take (off b (cn b)) := dt_flat _ _
  have e3 : List.replicate (500 - took (sof b)) 0 = (rs b).drop (off b (cn b)) := by
    rw [eq_zeros h.rest, List.length_drop, hrl, htook]
    congr 1
    omega
  rw [hhead, e1, hsizes _ (Nat.le_refl _), e2, e3, List.take_append_drop]
  unfold rs
  rw [show b.drop (6 + 2 * cn b) = (b.drop 6).drop (2 * cn b) by rw [List.drop_drop], List.take_append_drop, List.take_append_drop]

theorem sizes_at {s : S} {i : Nat} (r : List Nat) : ∀ n, i < n → ((sizes s n ++ r).drop (2 * i)).take 2 = le 2 (sz s i)
  | 0, h => absurd h (Nat.not_lt_zero _)
  | n + 1, h => by
    rw [sizes_succ, List.append_assoc]
    by_cases e : i = n
    · subst e
      rw [List.drop_left' (sizes_length s i), List.take_left' (le_length 2 _)]
    · exact sizes_at (s := s) (le 2 (sz s n) ++ r) n (by omega)

/-- A form passes all tests, and tells its body. -/
theorem good_of_is {b : List Nat} {s : S} (h : Is b s) : Good b ∧ sof b = s := by
  obtain ⟨hm, hk, hn, hf⟩ := h
  have hlen : b.length = 500 := by rw [← hf]; exact form_length hm.fit
  have hdl : s.data.length ≤ 247 := by rw [← hm.len]; exact hm.most
  have hh : head s = s.kind :: (le 4 s.next ++ [s.data.length]) := by unfold head; simp
  have e1 : b.take 1 = [s.kind] := by rw [← hf]; unfold form; rw [hh]; rfl
  have hd1 : b.drop 1 = le 4 s.next ++ ([s.data.length] ++ (sizes s s.data.length ++ (s.data.flatten ++ List.replicate (500 - took s) 0))) := by
    rw [← hf]; unfold form; rw [hh]; simp
  have e2 : (b.drop 1).take 4 = le 4 s.next := by rw [hd1]; exact List.take_left' (le_length 4 _)
  have hd5 : b.drop 5 = [s.data.length] ++ (sizes s s.data.length ++ (s.data.flatten ++ List.replicate (500 - took s) 0)) := by
    rw [show (5 : Nat) = 1 + 4 from rfl, ← List.drop_drop, hd1]; exact List.drop_left' (le_length 4 _)
  have e3 : (b.drop 5).take 1 = [s.data.length] := by rw [hd5]; rfl
  have hd6 : b.drop 6 = sizes s s.data.length ++ (s.data.flatten ++ List.replicate (500 - took s) 0) := by
    rw [show (6 : Nat) = 5 + 1 from rfl, ← List.drop_drop, hd5]; rfl
  have ekd : kd b = s.kind := by unfold kd; rw [e1]; simp [num]
  have enx : nx b = s.next := by unfold nx; rw [e2, num_le]; exact Nat.mod_eq_of_lt hn
  have ecn : cn b = s.data.length := by unfold cn; rw [e3]; simp [num]
  have emk : ∀ i, i < s.data.length → mkk b i = sz s i := fun i hi => by
    unfold mkk
    rw [← List.drop_drop, hd6, sizes_at _ _ hi, num_le]
    have := sz_le hm (i := i) (by rw [hm.len]; exact hi)
    exact Nat.mod_eq_of_lt (Nat.lt_of_le_of_lt this (by decide))
  have esz : ∀ i, i < s.data.length → szz b i = (s.data.getD i []).length := fun i hi => by
    unfold szz
    rw [emk i hi]
    unfold sz
    cases hfa : fa s i with
    | true => rw [if_pos rfl]; rfl
    | false =>
      rw [if_neg (by decide)]
      have : s.data.getD i [] = [] := hm.none i (by rw [hm.len]; exact hi) hfa
      rw [this]; rfl
  have eoff : ∀ k, k ≤ s.data.length → off b k = tot (s.data.take k) := by
    intro k
    induction k with
    | zero => intro _; rfl
    | succ k ih =>
      intro hk
      rw [off_succ, ih (by omega), esz k (by omega), tot_take_succ (by omega)]
  have ers : rs b = s.data.flatten ++ List.replicate (500 - took s) 0 := by
    unfold rs
    rw [ecn, ← List.drop_drop, hd6]
    exact List.drop_left' (sizes_length s _)
  have eo : off b (cn b) = s.data.flatten.length := by rw [ecn, eoff _ (Nat.le_refl _), List.take_length]; rfl
  have efl : fl b (cn b) = s.full := by
    refine ext_getD false (by rw [fl_length, ecn, hm.len]) fun i hi => ?_
    rw [fl_length] at hi
    have hi2 : i < s.data.length := by rw [← ecn]; exact hi
    rw [fl_getD hi, emk i hi2]
    unfold sz
    have hx : s.full.getD i false = fa s i := rfl
    rw [hx]
    cases hfa : fa s i with
    | true => rw [if_pos rfl]; exact decide_eq_true (by omega)
    | false => rw [if_neg (by decide)]; rfl
  have hgood : Good b := by
    refine ⟨hlen, by rw [ecn]; exact hdl, by rw [eo, ers, List.length_append]; omega, ?_, ?_⟩
    · rw [efl, ecn, ← hm.len]; exact trimN_last hm.last
    · rw [eo, ers, List.drop_left]; exact zeros_rep _
  refine ⟨hgood, ?_⟩
  have hsm : ∀ x ∈ ([] : List Nat), x < 256 := fun x hx => by cases hx
  have edt : dt b (cn b) = s.data := by
    have h1 := dt_flat b (cn b)
    rw [ers, eo, List.take_left] at h1
    refine flat_inj (x := []) (y := []) (by rw [dt_length, ecn]) (fun i hi => ?_) (by rw [h1])
    rw [dt_length] at hi
    rw [dt_getD hi, tx_length hi hgood.fit, esz i (by rw [← ecn]; exact hi)]
  unfold sof
  rw [ekd, enx, efl, edt]

theorem readR_good {b : List Nat} (h : Good b) (hs : ∀ x ∈ b, x < 256) : readR b = (sof b, 0) := readR_of (is_of_good h hs)
theorem readR_bad {b : List Nat} (h : ¬ Good b) : readR b = (none_, 4) := readR_none fun _ hs => h (good_of_is hs).1
/-- What a reader stands before, behind k marks. -/
def ste (k : Nat) : Nat := if k ≤ 247 then 0 else 4
theorem rd_mark {b : List Nat} (h : b.length = 500) (k : Nat) : rdNum 2 (b.drop (6 + 2 * k)) (ste k) = (mkk b k, b.drop (6 + 2 * (k + 1)), ste (k + 1)) := by
  unfold rdNum ste mkk
  have hl : (b.drop (6 + 2 * k)).length = 494 - 2 * k := by rw [List.length_drop]; omega
  by_cases h1 : k ≤ 247
  · rw [if_pos h1, if_neg (by decide)]
    by_cases h2 : k ≤ 246
    · rw [if_neg (by omega), if_pos (by omega), List.drop_drop]; rfl
    · obtain rfl : k = 247 := by omega
      rw [if_pos (by omega), if_neg (by decide)]
      have e : b.drop 500 = [] := List.drop_of_length_le (by omega)
      have e2 : b.drop (6 + 2 * (247 + 1)) = [] := List.drop_of_length_le (by omega)
      rw [show 6 + 2 * 247 = 500 from rfl, e, e2]; rfl
  · rw [if_neg h1, if_pos (by decide), if_neg (by omega)]
    have e : b.drop (6 + 2 * k) = [] := List.drop_of_length_le (by omega)
    have e2 : b.drop (6 + 2 * (k + 1)) = [] := List.drop_of_length_le (by omega)
    rw [e, e2]; rfl
theorem mkk_lt {b : List Nat} (hs : ∀ x ∈ b, x < 256) (i : Nat) : mkk b i < 65536 := by
  have h1 := num_lt ((b.drop (6 + 2 * i)).take 2) (fun x hx => hs x (List.mem_of_mem_drop (List.mem_of_mem_take hx)))
  have h2 : ((b.drop (6 + 2 * i)).take 2).length ≤ 2 := by rw [List.length_take]; omega
  exact Nat.lt_of_lt_of_le h1 (Nat.pow_le_pow_right (by decide) h2)
theorem cn_lt {b : List Nat} (hs : ∀ x ∈ b, x < 256) : cn b < 256 := by
  have h1 := num_lt ((b.drop 5).take 1) (fun x hx => hs x (List.mem_of_mem_drop (List.mem_of_mem_take hx)))
  have h2 : ((b.drop 5).take 1).length ≤ 1 := by rw [List.length_take]; omega
  exact Nat.lt_of_lt_of_le h1 (Nat.pow_le_pow_right (j := 1) (by decide) h2)
theorem kd_lt {b : List Nat} (hs : ∀ x ∈ b, x < 256) : kd b < 256 := by
  have h1 := num_lt (b.take 1) (fun x hx => hs x (List.mem_of_mem_take hx))
  have h2 : (b.take 1).length ≤ 1 := by rw [List.length_take]; omega
  exact Nat.lt_of_lt_of_le h1 (Nat.pow_le_pow_right (j := 1) (by decide) h2)
theorem nx_lt {b : List Nat} (hs : ∀ x ∈ b, x < 256) : nx b < 4294967296 := by
  have h1 := num_lt ((b.drop 1).take 4) (fun x hx => hs x (List.mem_of_mem_drop (List.mem_of_mem_take hx)))
  have h2 : ((b.drop 1).take 4).length ≤ 4 := by rw [List.length_take]; omega
  exact Nat.lt_of_lt_of_le h1 (Nat.pow_le_pow_right (j := 4) (by decide) h2)
theorem rd_kind {b : List Nat} (h : b.length = 500) : rdNum 1 b 0 = (kd b, b.drop 1, 0) := by unfold rdNum; rw [if_neg (by decide), if_neg (by omega)]; rfl
theorem rd_next {b : List Nat} (h : b.length = 500) : rdNum 4 (b.drop 1) 0 = (nx b, b.drop 5, 0) := by unfold rdNum; rw [if_neg (by decide), if_neg (by rw [List.length_drop]; omega), List.drop_drop]; rfl
theorem rd_count {b : List Nat} (h : b.length = 500) : rdNum 1 (b.drop 5) 0 = (cn b, b.drop 6, 0) := by unfold rdNum; rw [if_neg (by decide), if_neg (by rw [List.length_drop]; omega), List.drop_drop]; rfl
end Go.Proofs.Ytbfpmpomcaijcaa.Sl
