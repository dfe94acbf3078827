/- Parts of a proof. Conditions: as each row says. -/
namespace Go.Proofs.YtbpodmallknhfaaGreat.Cod
def le : Nat → Nat → List Nat
  | 0, _ => []
  | k + 1, n => n % 256 :: le k (n / 256)
theorem le_length : ∀ (k n : Nat), (le k n).length = k
  | 0, _ => rfl
  | k + 1, n => by simp [le, le_length k]
theorem le_lt : ∀ (k n : Nat), ∀ x ∈ le k n, x < 256
  | 0, _, x, h => by simp [le] at h
  | k + 1, n, x, h => by
    simp only [le, List.mem_cons] at h
    rcases h with rfl | h
    · omega
    · exact le_lt k _ x h
theorem le_snoc : ∀ (k n : Nat), le (k + 1) n = le k n ++ [n / 256 ^ k % 256]
  | 0, n => by simp [le]
  | k + 1, n => by
    rw [show le (k + 1 + 1) n = n % 256 :: le (k + 1) (n / 256) from rfl, le_snoc k (n / 256)]
    rw [show le (k + 1) n = n % 256 :: le k (n / 256) from rfl, Nat.pow_succ, Nat.mul_comm (256 ^ k) 256, ← Nat.div_div_eq_div_mul]
    rfl
def num : List Nat → Nat
  | [] => 0
  | x :: r => x + 256 * num r
theorem num_snoc : ∀ (l : List Nat) (x : Nat), num (l ++ [x]) = num l + x * 256 ^ l.length
  | [], x => by simp [num]
  | y :: r, x => by
    rw [List.cons_append, num, num, num_snoc r x, List.length_cons, Nat.pow_succ, Nat.mul_add, Nat.add_assoc]
    congr 2
    rw [Nat.mul_comm (256 ^ r.length) 256, ← Nat.mul_assoc, ← Nat.mul_assoc, Nat.mul_comm 256 x]
theorem num_lt : ∀ (l : List Nat), (∀ x ∈ l, x < 256) → num l < 256 ^ l.length
  | [], _ => by simp [num]
  | y :: r, h => by
    have h1 := num_lt r (fun x hx => h x (List.mem_cons_of_mem _ hx))
    have h2 := h y (List.mem_cons_self ..)
    rw [num, List.length_cons, Nat.pow_succ]
    omega
theorem num_le : ∀ (k n : Nat), num (le k n) = n % 256 ^ k
  | 0, n => by simp [le, num, Nat.mod_one]
  | k + 1, n => by
    rw [le, num, num_le k, Nat.pow_succ, Nat.mul_comm (256 ^ k) 256, Nat.mod_mul]
def uv (n : Nat) : List Nat := if n < 128 then [n] else (n % 128 + 128) :: uv (n / 128)
termination_by n
decreasing_by omega
theorem uv_small {n : Nat} (h : n < 128) : uv n = [n] := by rw [uv, if_pos h]
theorem uv_big {n : Nat} (h : ¬ n < 128) : uv n = (n % 128 + 128) :: uv (n / 128) := by rw [uv, if_neg h]
theorem uv_lt (n : Nat) : ∀ x ∈ uv n, x < 256 := by
  induction n using Nat.strongRecOn with
  | _ n ih =>
    intro x hx
    by_cases h : n < 128
    · rw [uv_small h] at hx; simp at hx; omega
    · rw [uv_big h] at hx
      rcases List.mem_cons.1 hx with rfl | hx
      · omega
      · exact ih (n / 128) (by omega) x hx
def cnt : Nat → List Nat → Nat × Nat
  | _, [] => (0, 0)
  | i, x :: r => if 10 ≤ i then (0, 0) else if i = 9 ∧ 1 < x then (0, 0) else
      if x < 128 then (if x = 0 ∧ 0 < i then (0, 0) else (x, 1)) else
        if (cnt (i + 1) r).2 = 0 then (0, 0) else (x % 128 + 128 * (cnt (i + 1) r).1, (cnt (i + 1) r).2 + 1)
def rdNum (k : Nat) (l : List Nat) (e : Nat) : Nat × List Nat × Nat :=
  if e ≠ 0 then (0, l, e) else if l.length < k then (0, l, 4) else (num (l.take k), l.drop k, 0)
end Go.Proofs.YtbpodmallknhfaaGreat.Cod
