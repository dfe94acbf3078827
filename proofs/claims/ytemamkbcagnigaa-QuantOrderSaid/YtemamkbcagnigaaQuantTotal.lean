/- The order of floats: what the program's Total and the document's answer. -/
import Derived.Test.YtemamkbcagnigaaQuantCode
namespace Go.Proofs.Ytemamkbcagnigaa
open Go.RowKit

theorem ret_int {k : IntKind} {a b : Int} (h : a = b) : Ending.returned (.int k a) = .returned (.int k b) := by rw [h]

namespace Qf
/-- The number by which a float stands in the order. -/
def rk (x : Nat) : Nat := if sgn x then 18446744073709551615 - x else x + 9223372036854775808
/-- The opposite float. -/
def flip (x : Nat) : Nat := if sgn x then x - 9223372036854775808 else x + 9223372036854775808
def cmp3 (a b : Nat) : Int := if a < b then -1 else if b < a then 1 else 0
def tot (a b : Nat) : Int := cmp3 (rk a) (rk b)

theorem sgn_true {x : Nat} (h : sgn x = true) : 9223372036854775808 ≤ x := by simpa [sgn] using h
theorem sgn_false {x : Nat} (h : sgn x = false) : x < 9223372036854775808 := by
  unfold sgn at h; rw [decide_eq_false_iff_not] at h; omega

theorem pow63 : (2 : Nat) ^ 63 = 9223372036854775808 := by decide

theorem and_sgn {x : Nat} (h : x < 18446744073709551616) : x &&& 9223372036854775808 = if sgn x then 9223372036854775808 else 0 := by
  have hb : x.testBit 63 = sgn x := by
    rw [Nat.testBit_eq_decide_div_mod_eq, pow63]
    cases hs : sgn x with
    | true => have := sgn_true hs; simp; omega
    | false => have := sgn_false hs; simp; omega
  have ht : ∀ i, Nat.testBit 9223372036854775808 i = decide (63 = i) := fun i => by rw [← pow63, Nat.testBit_two_pow]
  apply Nat.eq_of_testBit_eq
  intro i
  rw [Nat.testBit_and, ht]
  by_cases hi : 63 = i
  · subst hi
    rw [hb]
    cases sgn x with
    | true => rw [if_pos rfl, ht]; simp
    | false => simp
  · cases sgn x with
    | true => rw [if_pos rfl, ht]; simp [hi]
    | false => simp [hi]

theorem or_top {x : Nat} (h : x < 9223372036854775808) : x ||| 9223372036854775808 = x + 9223372036854775808 := by
  have := Nat.two_pow_add_eq_or_of_lt (i := 63) (b := x) (by rw [show (2 : Nat) ^ 63 = 9223372036854775808 by decide]; exact h) 1
  rw [show (2 : Nat) ^ 63 * 1 = 9223372036854775808 by decide] at this
  rw [Nat.or_comm, ← this, Nat.add_comm]

theorem xor_top_small {x : Nat} (h : x < 9223372036854775808) : x ^^^ 9223372036854775808 = x + 9223372036854775808 := by
  rw [← or_top h]
  apply Nat.eq_of_testBit_eq
  intro i
  rw [Nat.testBit_xor, Nat.testBit_or, show (9223372036854775808 : Nat) = 2 ^ 63 by decide, Nat.testBit_two_pow]
  by_cases hi : 63 = i
  · subst hi
    rw [Nat.testBit_lt_two_pow (by rw [show (2 : Nat) ^ 63 = 9223372036854775808 by decide]; exact h)]
    simp
  · simp [hi]

theorem xor_flip {x : Nat} (h : x < 18446744073709551616) : x ^^^ 9223372036854775808 = flip x := by
  unfold flip
  cases hs : sgn x with
  | false => exact xor_top_small (sgn_false hs)
  | true =>
    have h1 := sgn_true hs
    have h2 := xor_top_small (x := x - 9223372036854775808) (by omega)
    rw [Nat.sub_add_cancel h1] at h2
    simp only [if_true]
    conv => lhs; rw [← h2]
    rw [Nat.xor_assoc, Nat.xor_self, Nat.xor_zero]

theorem flip_lt {x : Nat} (h : x < 18446744073709551616) : flip x < 18446744073709551616 := by
  unfold flip
  cases hs : sgn x with
  | true => have := sgn_true hs; simp; omega
  | false => have := sgn_false hs; simp; omega

theorem rung_flip {x : Nat} (h : x < 18446744073709551616) : rung (flip x) = rung x := by
  unfold flip rung
  cases hs : sgn x with
  | true => have := sgn_true hs; simp; omega
  | false => have := sgn_false hs; simp

theorem sgn_flip {x : Nat} (h : x < 18446744073709551616) : sgn (flip x) = !sgn x := by
  unfold flip
  cases hs : sgn x with
  | true => have := sgn_true hs; simp [sgn]; omega
  | false => have := sgn_false hs; simp [sgn]

theorem rk_lt (x : Nat) (h : x < 18446744073709551616) : rk x < 18446744073709551616 := by
  unfold rk
  cases hs : sgn x with
  | true => have := sgn_true hs; simp; omega
  | false => have := sgn_false hs; simp; omega

theorem rk_inj {a b : Nat} (ha : a < 18446744073709551616) (hb : b < 18446744073709551616) (h : rk a = rk b) : a = b := by
  unfold rk at h
  cases hs : sgn a with
  | true =>
    have := sgn_true hs
    cases ht : sgn b with
    | true => have := sgn_true ht; rw [hs, ht] at h; simp at h; omega
    | false => have := sgn_false ht; rw [hs, ht] at h; simp at h; omega
  | false =>
    have := sgn_false hs
    cases ht : sgn b with
    | true => have := sgn_true ht; rw [hs, ht] at h; simp at h; omega
    | false => have := sgn_false ht; rw [hs, ht] at h; simp at h; omega

theorem tot_lt {a b : Nat} : tot a b < 0 ↔ rk a < rk b := by
  unfold tot cmp3
  split
  · omega
  · split <;> omega
theorem tot_gt {a b : Nat} : 0 < tot a b ↔ rk b < rk a := by
  unfold tot cmp3
  split
  · omega
  · split <;> omega
theorem tot_range (a b : Nat) : -1 ≤ tot a b ∧ tot a b ≤ 1 := by
  unfold tot cmp3
  split
  · omega
  · split <;> omega
theorem tot_swap (a b : Nat) : tot a b = -tot b a := by
  unfold tot cmp3
  split
  · split
    · omega
    · rfl
  · split <;> rfl
theorem tot_zero {a b : Nat} (ha : a < 18446744073709551616) (hb : b < 18446744073709551616) : tot a b = 0 ↔ a = b := by
  constructor
  · intro h
    apply rk_inj ha hb
    have h1 := @tot_lt a b
    have h2 := @tot_gt a b
    omega
  · rintro rfl
    unfold tot cmp3
    rw [if_neg (by omega), if_neg (by omega)]
end Qf

theorem u64_top (x : Nat) (hx : x < 18446744073709551616) : bits .and .u64 (x : Int) 9223372036854775808 = if Qf.sgn x then 9223372036854775808 else 0 := by
  rw [show (9223372036854775808 : Int) = ((9223372036854775808 : Nat) : Int) from rfl, u64_and_nat _ _ hx (by decide), Qf.and_sgn hx]
  split <;> rfl

theorem u64_flip (x : Nat) (hx : x < 18446744073709551616) : bits .xor .u64 (x : Int) 9223372036854775808 = ((Qf.flip x : Nat) : Int) := by
  rw [show (9223372036854775808 : Int) = ((9223372036854775808 : Nat) : Int) from rfl, u64_xor_nat _ _ hx (by decide), Qf.xor_flip hx]

theorem not_u64 (x : Nat) (hx : x < 18446744073709551616) : bits .xor .u64 IntKind.u64.max (x : Int) = ((18446744073709551615 - x : Nat) : Int) := by
  have h : bits .xor .u64 IntKind.u64.max (x : Int) = ((18446744073709551615 ^^^ x : Nat) : Int) := u64_xor_nat 18446744073709551615 x (by decide) hx
  rw [h]
  congr 1
  have hv := congrArg BitVec.toNat (BitVec.allOnes_xor (x := BitVec.ofNat 64 x))
  rw [BitVec.toNat_not, BitVec.toNat_xor, BitVec.toNat_ofNat, Nat.mod_eq_of_lt (by rw [show (2 : Nat) ^ 64 = 18446744073709551616 by decide]; exact hx)] at hv
  exact hv

theorem rank_any (x : Nat) (w : World) (hx : x < 18446744073709551616) : Calls Try.prog 34 #[.int .u64 (x : Int)] w fun e w' => e = .returned (.int .u64 (Qf.rk x : Nat)) ∧ w = w' := by
  cases hs : Qf.sgn x
  · have hb := u64_top x hx
    rw [hs] at hb
    simp only [Bool.false_eq_true, if_false] at hb
    have h1 := Qf.sgn_false hs
    have e : Qf.rk x = x + 9223372036854775808 := by unfold Qf.rk; rw [hs]; rfl
    have ho : bits .or .u64 (x : Int) 9223372036854775808 = ((x + 9223372036854775808 : Nat) : Int) := by
      rw [show (9223372036854775808 : Int) = ((9223372036854775808 : Nat) : Int) from rfl, u64_or_nat _ _ hx (by decide), Qf.or_top h1]
    rw [e]
    have HO := Lib.hid ho
    clear e hs ho
    go_enter Try.func34, Try.ntmps34
    go_wp2
    go_ret
    exact ⟨ret_int HO.out, rfl⟩
  · have hb := u64_top x hx
    rw [hs] at hb
    simp only [if_true] at hb
    have h1 := Qf.sgn_true hs
    have e : Qf.rk x = 18446744073709551615 - x := by unfold Qf.rk; rw [hs]; rfl
    rw [e]
    have HO := Lib.hid (not_u64 x hx)
    clear e hs
    go_enter Try.func34, Try.ntmps34
    go_wp2
    go_ret
    exact ⟨ret_int HO.out, rfl⟩

theorem cmpNaN_any (x : Nat) (w : World) : Calls Try.prog 40 #[.int .u64 (x : Int)] w fun e w' => e = .returned (.bool false) ∧ w = w' := by
  go_enter Try.func40, Try.ntmps40
  go_wp2
  go_ret
  exact ⟨ret_bool (by simp), rfl⟩

theorem compare_any (a b : Nat) (w : World) : Calls Try.prog 33 #[.int .u64 (a : Int), .int .u64 (b : Int)] w fun e w' => e = .returned (.int .i64 (Qf.cmp3 a b)) ∧ w = w' := by
  by_cases h1 : a < b
  · rw [show Qf.cmp3 a b = -1 from if_pos h1]
    go_enter Try.func33, Try.ntmps33
    go_wp2_with ((with_reducible refine (cmpNaN_any _ _).mono ?_); rintro e w' ⟨rfl, rfl⟩)
    go_ret
    exact ⟨rfl, rfl⟩
  · have h0 : Qf.cmp3 a b = if b < a then 1 else 0 := if_neg h1
    by_cases h2 : b < a
    · rw [h0, if_pos h2]
      clear h0
      go_enter Try.func33, Try.ntmps33
      go_wp2_with ((with_reducible refine (cmpNaN_any _ _).mono ?_); rintro e w' ⟨rfl, rfl⟩)
      go_ret
      exact ⟨rfl, rfl⟩
    · rw [h0, if_neg h2]
      clear h0
      go_enter Try.func33, Try.ntmps33
      go_wp2_with ((with_reducible refine (cmpNaN_any _ _).mono ?_); rintro e w' ⟨rfl, rfl⟩)
      go_ret
      exact ⟨rfl, rfl⟩

theorem total_any (a b : Nat) (w : World) (ha : a < 18446744073709551616) (hb : b < 18446744073709551616) :
    Calls Try.prog 20 #[.int .u64 (a : Int), .int .u64 (b : Int)] w fun e w' => e = .returned (.int .i64 (Qf.tot a b)) ∧ w = w' := by
  go_enter Try.func20, Try.ntmps20
  go_wp2_with fail
  refine (rank_any _ _ ha).mono ?_
  rintro e w' ⟨rfl, rfl⟩
  go_wp2_with fail
  refine (rank_any _ _ hb).mono ?_
  rintro e w' ⟨rfl, rfl⟩
  go_wp2_with fail
  refine (compare_any _ _ _).mono ?_
  rintro e w' ⟨rfl, rfl⟩
  go_wp2_with fail
  go_ret
  exact ⟨rfl, rfl⟩

theorem u64_low (x : Nat) (hx : x < 18446744073709551616) : bits .and .u64 (x : Int) 9223372036854775807 = ((Qf.rung x : Nat) : Int) := by
  rw [show (9223372036854775807 : Int) = ((9223372036854775807 : Nat) : Int) from rfl, u64_and_nat _ _ hx (by decide)]
  congr 1
  have := Nat.and_two_pow_sub_one_eq_mod x 63
  rw [show (2 : Nat) ^ 63 - 1 = 9223372036854775807 by decide, show (2 : Nat) ^ 63 = 9223372036854775808 by decide] at this
  exact this

end Go.Proofs.Ytemamkbcagnigaa
