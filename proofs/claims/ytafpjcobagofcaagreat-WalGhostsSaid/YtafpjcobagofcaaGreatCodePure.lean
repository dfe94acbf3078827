/- Numbers and texts as bytes, plainly: fixed numbers, counts, and how they are read again. Conditions: none. -/

namespace Go.Proofs.YtafpjcobagofcaaGreat.Cod

/-- So many bytes of a number, the lowest first. -/
def le : Nat → Nat → List Nat
  | 0, _ => []
  | k + 1, n => n % 256 :: le k (n / 256)

theorem le_length : ∀ (k n : Nat), (le k n).length = k
  | 0, _ => rfl
  | k + 1, n => by simp [le, le_length k]

theorem le_lt : ∀ (k n : Nat), ∀ x ∈ le k n, x < 256
  | 0, _, x, h => by simp [le] at h
  | k + 1, n, x, h => by
    simp only [le, List.mem_cons] at h
    rcases h with rfl | h
    · omega
    · exact le_lt k _ x h

theorem le_snoc : ∀ (k n : Nat), le (k + 1) n = le k n ++ [n / 256 ^ k % 256]
  | 0, n => by simp [le]
  | k + 1, n => by
    rw [show le (k + 1 + 1) n = n % 256 :: le (k + 1) (n / 256) from rfl, le_snoc k (n / 256)]
    rw [show le (k + 1) n = n % 256 :: le k (n / 256) from rfl, Nat.pow_succ, Nat.mul_comm (256 ^ k) 256, ← Nat.div_div_eq_div_mul]
    rfl

/-- The number that bytes tell, the lowest first. -/
def num : List Nat → Nat
  | [] => 0
  | x :: r => x + 256 * num r

theorem num_snoc : ∀ (l : List Nat) (x : Nat), num (l ++ [x]) = num l + x * 256 ^ l.length
  | [], x => by simp [num]
  | y :: r, x => by
    rw [List.cons_append, num, num, num_snoc r x, List.length_cons, Nat.pow_succ, Nat.mul_add, Nat.add_assoc]
    congr 2
    rw [Nat.mul_comm (256 ^ r.length) 256, ← Nat.mul_assoc, ← Nat.mul_assoc, Nat.mul_comm 256 x]

theorem num_lt : ∀ (l : List Nat), (∀ x ∈ l, x < 256) → num l < 256 ^ l.length
  | [], _ => by simp [num]
  | y :: r, h => by
    have h1 := num_lt r (fun x hx => h x (List.mem_cons_of_mem _ hx))
    have h2 := h y (List.mem_cons_self ..)
    rw [num, List.length_cons, Nat.pow_succ]
    omega

theorem num_le : ∀ (k n : Nat), num (le k n) = n % 256 ^ k
  | 0, n => by simp [le, num, Nat.mod_one]
  | k + 1, n => by
    rw [le, num, num_le k, Nat.pow_succ, Nat.mul_comm (256 ^ k) 256, Nat.mod_mul]

theorem le_num : ∀ (l : List Nat), (∀ x ∈ l, x < 256) → le l.length (num l) = l
  | [], _ => rfl
  | y :: r, h => by
    have h1 := le_num r (fun x hx => h x (List.mem_cons_of_mem _ hx))
    have h2 := h y (List.mem_cons_self ..)
    rw [List.length_cons, le, num]
    rw [show (y + 256 * num r) % 256 = y by omega, show (y + 256 * num r) / 256 = num r by omega, h1]

/-- A count's bytes. -/
def uv (n : Nat) : List Nat := if n < 128 then [n] else (n % 128 + 128) :: uv (n / 128)
termination_by n
decreasing_by omega

theorem uv_small {n : Nat} (h : n < 128) : uv n = [n] := by rw [uv, if_pos h]
theorem uv_big {n : Nat} (h : ¬ n < 128) : uv n = (n % 128 + 128) :: uv (n / 128) := by rw [uv, if_neg h]

theorem uv_lt (n : Nat) : ∀ x ∈ uv n, x < 256 := by
  induction n using Nat.strongRecOn with
  | _ n ih =>
    intro x hx
    by_cases h : n < 128
    · rw [uv_small h] at hx; simp at hx; omega
    · rw [uv_big h] at hx
      rcases List.mem_cons.1 hx with rfl | hx
      · omega
      · exact ih (n / 128) (by omega) x hx

theorem uv_length : ∀ (k n : Nat), n < 128 ^ (k + 1) → (uv n).length ≤ k + 1
  | 0, n, h => by rw [uv_small (by simpa using h)]; simp
  | k + 1, n, h => by
    by_cases h1 : n < 128
    · rw [uv_small h1]; simp
    · rw [uv_big h1, List.length_cons]
      have : n / 128 < 128 ^ (k + 1) := by
        rw [Nat.div_lt_iff_lt_mul (by decide)]; rw [Nat.pow_succ] at h; exact h
      have := uv_length k (n / 128) this
      omega

theorem uv_ten {n : Nat} (h : n < 18446744073709551616) : (uv n).length ≤ 10 := uv_length 9 n (Nat.lt_trans h (by decide))
theorem uv_pos (n : Nat) : 0 < (uv n).length := by
  by_cases h : n < 128
  · rw [uv_small h]; simp
  · rw [uv_big h]; simp

/-- The count at the beginning, i bytes of it being read already: its number and how many bytes it has; none: no byte. -/
def cnt : Nat → List Nat → Nat × Nat
  | _, [] => (0, 0)
  | i, x :: r => if 10 ≤ i then (0, 0) else if i = 9 ∧ 1 < x then (0, 0) else
      if x < 128 then (if x = 0 ∧ 0 < i then (0, 0) else (x, 1)) else
        if (cnt (i + 1) r).2 = 0 then (0, 0) else (x % 128 + 128 * (cnt (i + 1) r).1, (cnt (i + 1) r).2 + 1)

/-- What i bytes told, and what is told behind them. -/
def fin (acc i : Nat) (p : Nat × Nat) : Nat × Nat := if p.2 = 0 then (0, 0) else (acc + p.1 * 128 ^ i, i + p.2)

theorem fin_start (p : Nat × Nat) (h : p.2 = 0 → p.1 = 0) : fin 0 0 p = p := by
  unfold fin
  split
  · next h0 => exact Prod.ext (h h0).symm h0.symm
  · simp

theorem cnt_none : ∀ (l : List Nat) (i : Nat), (cnt i l).2 = 0 → (cnt i l).1 = 0
  | [], _, _ => rfl
  | x :: r, i, h => by
    rw [cnt] at h ⊢
    repeat' split
    all_goals first | rfl | (exfalso; simp_all)

theorem fin_step (acc i x : Nat) (r : List Nat) (hi : i < 10) (h9 : ¬ (i = 9 ∧ 1 < x)) (hx : ¬ x < 128) :
    fin acc i (cnt i (x :: r)) = fin (acc + (x % 128) * 128 ^ i) (i + 1) (cnt (i + 1) r) := by
  rw [cnt, if_neg (by omega), if_neg h9, if_neg hx]
  unfold fin
  by_cases h : (cnt (i + 1) r).2 = 0
  · simp [h]
  · rw [if_neg h]
    simp only [Nat.succ_ne_zero, if_false, h]
    refine Prod.ext ?_ ?_
    · show acc + (x % 128 + 128 * (cnt (i + 1) r).1) * 128 ^ i = acc + x % 128 * 128 ^ i + (cnt (i + 1) r).1 * 128 ^ (i + 1)
      rw [Nat.add_mul, Nat.pow_succ, Nat.mul_comm 128, Nat.mul_assoc, Nat.mul_comm 128 (128 ^ i)]
      omega
    · show i + ((cnt (i + 1) r).2 + 1) = i + 1 + (cnt (i + 1) r).2
      omega

theorem fin_last (acc i x : Nat) (r : List Nat) (hi : i < 10) (h9 : ¬ (i = 9 ∧ 1 < x)) (hx : x < 128) (h0 : ¬ (x = 0 ∧ 0 < i)) :
    fin acc i (cnt i (x :: r)) = (acc + x * 128 ^ i, i + 1) := by
  rw [cnt, if_neg (by omega), if_neg h9, if_pos hx, if_neg h0]
  unfold fin; simp

theorem fin_zero (acc i : Nat) (r : List Nat) (hi : i < 10) (h0 : 0 < i) : fin acc i (cnt i (0 :: r)) = (0, 0) := by
  rw [cnt, if_neg (by omega), if_neg (by omega), if_pos (by omega), if_pos ⟨rfl, h0⟩]
  unfold fin; simp

theorem fin_over (acc i x : Nat) (r : List Nat) (h9 : i = 9 ∧ 1 < x) : fin acc i (cnt i (x :: r)) = (0, 0) := by
  rw [cnt, if_neg (by omega), if_pos h9]
  unfold fin; simp

theorem fin_end (acc i : Nat) : fin acc i (cnt i []) = (0, 0) := by unfold fin cnt; simp
theorem fin_ten (acc i : Nat) (l : List Nat) (h : 10 ≤ i) : fin acc i (cnt i l) = (0, 0) := by
  cases l with
  | nil => exact fin_end acc i
  | cons x r => rw [cnt, if_pos h]; unfold fin; simp

/-- What a count may hold that has 10 - i bytes left. -/
theorem cnt_lt : ∀ (l : List Nat) (i : Nat), i ≤ 9 → (cnt i l).1 < 2 ^ (64 - 7 * i)
  | [], i, hi => by rw [cnt]; exact Nat.pow_pos (by decide)
  | x :: r, i, hi => by
    have hp : 0 < 2 ^ (64 - 7 * i) := Nat.pow_pos (by decide)
    rw [cnt]
    split
    · exact hp
    split
    · exact hp
    next h9 =>
    split
    · next hx =>
      split
      · exact hp
      · show x < _
        by_cases h : i = 9
        · subst h
          show x < 2
          omega
        · have : 2 ^ 7 ≤ 2 ^ (64 - 7 * i) := Nat.pow_le_pow_right (by decide) (by omega)
          omega
    · next hx =>
      split
      · exact hp
      · show x % 128 + 128 * (cnt (i + 1) r).1 < _
        have hi9 : i < 9 := by omega
        have ih := cnt_lt r (i + 1) (by omega)
        have e : 2 ^ (64 - 7 * i) = 128 * 2 ^ (64 - 7 * (i + 1)) := by
          rw [show 64 - 7 * i = 7 + (64 - 7 * (i + 1)) by omega, Nat.pow_add]
        rw [e]
        omega

theorem cnt_lt64 (l : List Nat) : (cnt 0 l).1 < 18446744073709551616 := cnt_lt l 0 (by decide)

theorem cnt_len : ∀ (l : List Nat) (i : Nat), (cnt i l).2 ≤ l.length
  | [], i => by rw [cnt]; simp
  | x :: r, i => by
    have ih := cnt_len r (i + 1)
    rw [cnt]
    repeat' split
    all_goals simp only [List.length_cons]
    all_goals omega

theorem cnt_ten : ∀ (l : List Nat) (i : Nat), i ≤ 10 → (cnt i l).2 + i ≤ 10
  | [], i, _ => by rw [cnt]; simpa
  | x :: r, i, hi => by
    rw [cnt]
    by_cases h10 : 10 ≤ i
    · simp only [h10, if_true]; omega
    · have := cnt_ten r (i + 1) (by omega)
      repeat' split
      all_goals simp only []
      all_goals omega

/-- What was put is read again, whatever is behind it. -/
theorem cnt_uv : ∀ (i n : Nat) (r : List Nat), i ≤ 9 → n < 2 ^ (64 - 7 * i) → (i = 0 ∨ 0 < n) → cnt i (uv n ++ r) = (n, (uv n).length) := by
  intro i n
  induction n using Nat.strongRecOn generalizing i with
  | _ n ih =>
    intro r hi hn h0
    by_cases h : n < 128
    · rw [uv_small h, List.singleton_append, cnt, if_neg (by omega), if_neg, if_pos h, if_neg (by omega)]
      · rfl
      · rintro ⟨rfl, h1⟩
        have : n < 2 := hn
        omega
    · rw [uv_big h, List.cons_append]
      have hi9 : i < 9 := by
        rcases Nat.lt_or_ge i 9 with h9 | h9
        · exact h9
        · obtain rfl : i = 9 := by omega
          have : n < 2 := hn
          omega
      have e : 2 ^ (64 - 7 * i) = 128 * 2 ^ (64 - 7 * (i + 1)) := by
        rw [show 64 - 7 * i = 7 + (64 - 7 * (i + 1)) by omega, Nat.pow_add]
      rw [e] at hn
      have := ih (n / 128) (by omega) (i + 1) r (by omega) (by rw [Nat.div_lt_iff_lt_mul (by decide), Nat.mul_comm]; exact hn) (Or.inr (by omega))
      rw [cnt, if_neg (by omega), if_neg (by omega), if_neg (by omega), this]
      have hp := uv_pos (n / 128)
      rw [if_neg (by show ¬ (uv (n / 128)).length = 0; omega)]
      refine Prod.ext ?_ rfl
      show (n % 128 + 128) % 128 + 128 * (n / 128) = n
      omega

theorem cnt_of_uv {n : Nat} (r : List Nat) (h : n < 18446744073709551616) : cnt 0 (uv n ++ r) = (n, (uv n).length) := cnt_uv 0 n r (by decide) h (Or.inl rfl)

/-- What is read, put again, is what was read. -/
theorem uv_cnt : ∀ (l : List Nat) (i : Nat), (∀ x ∈ l, x < 256) → (cnt i l).2 ≠ 0 → uv (cnt i l).1 = l.take (cnt i l).2 ∧ (0 < i → 0 < (cnt i l).1)
  | [], i, _, h => absurd rfl h
  | x :: r, i, hs, h => by
    have h2 := hs x (List.mem_cons_self ..)
    rw [cnt] at h ⊢
    by_cases h10 : 10 ≤ i
    · simp [h10] at h
    rw [if_neg h10] at h ⊢
    by_cases h9 : i = 9 ∧ 1 < x
    · simp [h9] at h
    rw [if_neg h9] at h ⊢
    by_cases hx : x < 128
    · rw [if_pos hx] at h ⊢
      by_cases h0 : x = 0 ∧ 0 < i
      · simp [h0] at h
      rw [if_neg h0]
      exact ⟨by rw [uv_small hx]; rfl, fun hi => by show 0 < x; omega⟩
    · rw [if_neg hx] at h ⊢
      by_cases hc : (cnt (i + 1) r).2 = 0
      · simp [hc] at h
      rw [if_neg hc]
      obtain ⟨i1, i2⟩ := uv_cnt r (i + 1) (fun y hy => hs y (List.mem_cons_of_mem _ hy)) hc
      have i3 := i2 (by omega)
      refine ⟨?_, fun _ => by show 0 < x % 128 + 128 * _; omega⟩
      show uv (x % 128 + 128 * (cnt (i + 1) r).1) = (x :: r).take ((cnt (i + 1) r).2 + 1)
      rw [uv_big (by omega), List.take_succ_cons, show (x % 128 + 128 * (cnt (i + 1) r).1) / 128 = (cnt (i + 1) r).1 by omega, i1]
      congr 1
      omega

/-- A count cut anywhere is none. -/
theorem cnt_cut : ∀ (n i k : Nat), k < (uv n).length → cnt i ((uv n).take k) = (0, 0) := by
  intro n
  induction n using Nat.strongRecOn with
  | _ n ih =>
    intro i k hk
    cases k with
    | zero => rw [List.take_zero, cnt]
    | succ k =>
      by_cases h : n < 128
      · rw [uv_small h] at hk; simp at hk
      · rw [uv_big h] at hk ⊢
        rw [List.take_succ_cons, cnt, ih (n / 128) (by omega) (i + 1) k (by simpa using hk)]
        repeat' split
        all_goals first | rfl | (exfalso; omega)

/-- How a reader goes on: what it stands before, and its error (0: none). -/
def rdNum (k : Nat) (l : List Nat) (e : Nat) : Nat × List Nat × Nat :=
  if e ≠ 0 then (0, l, e) else if l.length < k then (0, l, 4) else (num (l.take k), l.drop k, 0)
def rdUv (l : List Nat) (e : Nat) : Nat × List Nat × Nat :=
  if e ≠ 0 then (0, l, e) else if (cnt 0 l).2 = 0 then (0, l, 4) else ((cnt 0 l).1, l.drop (cnt 0 l).2, 0)
def rdText (most : Int) (l : List Nat) (e : Nat) : List Nat × List Nat × Nat :=
  if e ≠ 0 then ([], l, e) else if (cnt 0 l).2 = 0 then ([], l, 4) else if max most 0 < ((cnt 0 l).1 : Int) then ([], l, 3) else
    if l.length - (cnt 0 l).2 < (cnt 0 l).1 then ([], l, 4) else ((l.drop (cnt 0 l).2).take (cnt 0 l).1, (l.drop (cnt 0 l).2).drop (cnt 0 l).1, 0)

end Go.Proofs.YtafpjcobagofcaaGreat.Cod
