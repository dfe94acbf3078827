/- What the program's mayScale, Quant, KindOf, Back answer, and the law's known. -/
import Derived.Test.YtemamkbcagnigaaQuantWhole
namespace Go.Proofs.Ytemamkbcagnigaa
open Go.RowKit

namespace Qf
def okS (n : Int) : Bool := decide (-64 ≤ n) && decide (n ≤ 64)
def isN (x : Nat) : Bool := decide (9218868437227405312 < rung x)
def qv (x : Nat) (n : Int) : Int := if okS n && !isN x then wv x n else 0
def qm (x : Nat) (n : Int) : Int := if okS n && !isN x then wm x n else 0
def qe (x : Nat) (n : Int) : Int := if okS n then (if isN x then 10 else 0) else 2
def kd (x : Nat) : Int := if rung x = 0 then 1 else if rung x < 4503599627370496 then 2 else if rung x < 9218868437227405312 then 3 else if rung x = 9218868437227405312 then 4 else 5

theorem okS_true {n : Int} (h : okS n = true) : -64 ≤ n ∧ n ≤ 64 := by simpa [okS] using h
theorem okS_false {n : Int} (h : okS n = false) : n < -64 ∨ (-64 ≤ n ∧ 64 < n) := by
  simp [okS] at h; omega
theorem isN_false {x : Nat} (h : isN x = false) : rung x ≤ 9218868437227405312 := by simpa [isN] using h
end Qf

theorem ret_bool {a b : Bool} (h : a = b) : Ending.returned (.bool a) = .returned (.bool b) := by rw [h]

theorem mayScale_yes (n : Int) (w : World) (h : Qf.okS n = true) : Calls Try.prog 24 #[.int .i64 n] w fun e w' => e = .returned (.bool true) ∧ w = w' := by
  obtain ⟨h1, h2⟩ := Qf.okS_true h
  clear h
  go_enter Try.func24, Try.ntmps24
  go_wp2
  all_goals first | (exfalso; omega) | (go_ret; exact ⟨ret_bool (by simp <;> omega), rfl⟩)

theorem mayScale_no (n : Int) (w : World) (h : Qf.okS n = false) : Calls Try.prog 24 #[.int .i64 n] w fun e w' => e = .returned (.bool false) ∧ w = w' := by
  have h := Qf.okS_false h
  rcases h with h | ⟨h1, h2⟩
  · have : ¬ (-64 ≤ n) := by omega
    go_enter Try.func24, Try.ntmps24
    go_wp2
    all_goals first | (exfalso; omega) | (go_ret; exact ⟨ret_bool (by simp <;> omega), rfl⟩)
  · have : ¬ (n ≤ 64) := by omega
    go_enter Try.func24, Try.ntmps24
    go_wp2
    all_goals first | (exfalso; omega) | (go_ret; exact ⟨ret_bool (by simp <;> omega), rfl⟩)

theorem isNaN_is (x : Nat) (w : World) (hx : x < 18446744073709551616) (b : Bool) (hb : Qf.isN x = b) : Calls Try.prog 26 #[.float .f64 x] w fun e w' => e = .returned (.bool b) ∧ w = w' := by
  subst hb
  exact isNaN_any x w hx

/-- Quant, whatever the float and the scale. -/
theorem quant_any (x : Nat) (n : Int) (w : World) (hx : x < 18446744073709551616) :
    Calls Try.prog 9 #[.int .u64 (x : Int), .int .i64 n] w fun e w' => e = .returned (.tuple #[.int .i32 (Qf.qv x n), .int .i64 (Qf.qm x n), .int .i64 (Qf.qe x n)]) ∧ w = w' := by
  cases hs : Qf.okS n
  · have e1 : Qf.qv x n = 0 := by unfold Qf.qv; rw [hs]; rfl
    have e2 : Qf.qm x n = 0 := by unfold Qf.qm; rw [hs]; rfl
    have e3 : Qf.qe x n = 2 := by unfold Qf.qe; rw [hs]; rfl
    rw [e1, e2, e3]
    clear e1 e2 e3
    have HS := Lib.hid hs
    clear hs
    go_enter Try.func9, Try.ntmps9
    go_wp2_with fail
    refine (mayScale_no _ _ HS.out).mono ?_
    rintro e w' ⟨rfl, rfl⟩
    go_wp2_with fail
    go_ret3
    exact ⟨rfl, rfl⟩
  · obtain ⟨h1, h2⟩ := Qf.okS_true hs
    cases hn : Qf.isN x
    · have e1 : Qf.qv x n = Qf.wv x n := by unfold Qf.qv; rw [hs, hn]; rfl
      have e2 : Qf.qm x n = Qf.wm x n := by unfold Qf.qm; rw [hs, hn]; rfl
      have e3 : Qf.qe x n = 0 := by unfold Qf.qe; rw [hs, hn]; rfl
      rw [e1, e2, e3]
      clear e1 e2 e3
      have HS := Lib.hid hs
      have HN := Lib.hid hn
      clear hs hn
      go_enter Try.func9, Try.ntmps9
      go_wp2_with fail
      refine (mayScale_yes _ _ HS.out).mono ?_
      rintro e w' ⟨rfl, rfl⟩
      go_wp2_with fail
      refine (isNaN_is _ _ hx _ HN.out).mono ?_
      rintro e w' ⟨rfl, rfl⟩
      go_wp2_with fail
      refine (whole_any _ _ _ hx (Qf.isN_false HN.out) h1 h2).mono ?_
      rintro e w' ⟨rfl, rfl⟩
      go_wp2_with fail
      go_ret3
      exact ⟨rfl, rfl⟩
    · have e1 : Qf.qv x n = 0 := by unfold Qf.qv; rw [hs, hn]; rfl
      have e2 : Qf.qm x n = 0 := by unfold Qf.qm; rw [hs, hn]; rfl
      have e3 : Qf.qe x n = 10 := by unfold Qf.qe; rw [hs, hn]; rfl
      rw [e1, e2, e3]
      clear e1 e2 e3
      have HS := Lib.hid hs
      have HN := Lib.hid hn
      clear hs hn
      go_enter Try.func9, Try.ntmps9
      go_wp2_with fail
      refine (mayScale_yes _ _ HS.out).mono ?_
      rintro e w' ⟨rfl, rfl⟩
      go_wp2_with fail
      refine (isNaN_is _ _ hx _ HN.out).mono ?_
      rintro e w' ⟨rfl, rfl⟩
      go_wp2_with fail
      go_ret3
      exact ⟨rfl, rfl⟩
namespace Qf
theorem un_mono {a b : Nat} (h : rung a ≤ rung b) : un a ≤ un b := by
  have key : ∀ f t g u : Nat, t < 4503599627370496 → f < g → (4503599627370496 + t) * 2 ^ f ≤ (4503599627370496 + u) * 2 ^ g := by
    intro f t g u ht hfg
    have h1 : (4503599627370496 + t) * 2 ^ f ≤ 9007199254740992 * 2 ^ f := Nat.mul_le_mul_right _ (by omega)
    have h2 : 9007199254740992 * 2 ^ f = 4503599627370496 * 2 ^ (f + 1) := by rw [Nat.pow_succ, Nat.mul_comm (2 ^ f) 2, ← Nat.mul_assoc]
    have h3 : 4503599627370496 * 2 ^ (f + 1) ≤ 4503599627370496 * 2 ^ g := Nat.mul_le_mul_left _ (Nat.pow_le_pow_right (by decide) hfg)
    have h4 : 4503599627370496 * 2 ^ g ≤ (4503599627370496 + u) * 2 ^ g := Nat.mul_le_mul_right _ (by omega)
    exact Nat.le_trans h1 (h2 ▸ Nat.le_trans h3 h4)
  unfold un mant noughts
  by_cases ha : rung a < 4503599627370496
  · rw [if_pos ha, if_pos ha, Nat.pow_zero, Nat.mul_one]
    by_cases hb : rung b < 4503599627370496
    · rw [if_pos hb, if_pos hb, Nat.pow_zero, Nat.mul_one]; exact h
    · rw [if_neg hb, if_neg hb]
      have := Nat.le_mul_of_pos_right (4503599627370496 + rung b % 4503599627370496) (two_pow_pos (rung b / 4503599627370496 - 1))
      omega
  · have hb : ¬ rung b < 4503599627370496 := by omega
    rw [if_neg ha, if_neg ha, if_neg hb, if_neg hb]
    have hd : rung a / 4503599627370496 ≤ rung b / 4503599627370496 := Nat.div_le_div_right h
    by_cases he : rung a / 4503599627370496 = rung b / 4503599627370496
    · rw [he]
      exact Nat.mul_le_mul_right _ (by omega)
    · exact key _ _ _ _ (Nat.mod_lt _ (by decide)) (by omega)

theorem un_small {a : Nat} (h : rung a < 4503599627370496) : un a = rung a := by
  unfold un mant noughts
  rw [if_pos h, if_pos h, Nat.pow_zero, Nat.mul_one]

theorem un_large {a : Nat} (h : 4503599627370496 ≤ rung a) : 4503599627370496 ≤ un a := by
  have : un 4503599627370496 = 4503599627370496 := by decide
  have := un_mono (a := 4503599627370496) (b := a) (by rw [show rung 4503599627370496 = 4503599627370496 by decide]; exact h)
  omega

theorem rung_rung (x : Nat) : rung (rung x) = rung x := Nat.mod_mod _ _
theorem rung_lt (x : Nat) : rung x < 9223372036854775808 := Nat.mod_lt _ (by decide)
theorem sgn_rung (x : Nat) : sgn (rung x) = false := by
  have := rung_lt x
  unfold sgn
  simp; omega

theorem fin_rung {x : Nat} (h : rung x < 9218868437227405312) : Fin (rung x) false (un x) := by
  have := fin_of (x := rung x) (by have := rung_lt x; omega) (by rw [rung_rung]; exact h)
  rw [sgn_rung] at this
  have e : un (rung x) = un x := by unfold un mant noughts; rw [rung_rung]
  rw [e] at this
  exact this

theorem fin_small : Fin 4503599627370496 false 4503599627370496 := by
  have := fin_rung (x := 4503599627370496) (by decide)
  rw [show rung 4503599627370496 = 4503599627370496 by decide, show un 4503599627370496 = 4503599627370496 by decide] at this
  exact this

theorem fin_most : Fin 9218868437227405311 false (un 9218868437227405311) := by
  have := fin_rung (x := 9218868437227405311) (by decide)
  rw [show rung 9218868437227405311 = 9218868437227405311 by decide] at this
  exact this

theorem cmp_nat (a b : Nat) : compare (sg false a) (sg false b) = if a < b then .lt else if a = b then .eq else .gt := by
  rw [cmp_eq, sg_false, sg_false]
  have h1 : (a : Int) < (b : Int) ↔ a < b := by omega
  have h2 : (a : Int) = (b : Int) ↔ a = b := by omega
  simp only [h1, h2]

theorem k_nought {x : Nat} (h : rung x ≤ 9218868437227405312) : (Ieee.double.order (rung x) 0 == some .eq) = decide (rung x = 0) := by
  by_cases hf : rung x < 9218868437227405312
  · rw [order_fin (fin_rung hf) fin_nought, cmp_nat]
    by_cases h0 : rung x = 0
    · have : un x = 0 := by rw [un_small (by omega)]; exact h0
      rw [this]; simp [h0]
    · have : 0 < un x := by
        by_cases hs : rung x < 4503599627370496
        · rw [un_small hs]; omega
        · have := un_large (a := x) (by omega); omega
      rw [if_neg (by omega), if_neg (by omega)]; simp [h0]
  · have hr := inf_of (x := rung x) (by have := rung_lt x; omega) (by rw [rung_rung]; omega)
    rw [order_inf_fin hr fin_nought, sgn_rung]
    have : ¬ rung x = 0 := by omega
    simp [this]

theorem k_sub {x : Nat} (h : rung x ≤ 9218868437227405312) : (Ieee.double.order (rung x) 4503599627370496 == some .lt) = decide (rung x < 4503599627370496) := by
  by_cases hf : rung x < 9218868437227405312
  · rw [order_fin (fin_rung hf) fin_small, cmp_nat]
    by_cases hs : rung x < 4503599627370496
    · rw [un_small hs, if_pos hs]; simp [hs]
    · have := un_large (a := x) (by omega)
      rw [if_neg (by omega)]
      split <;> simp [hs]
  · have hr := inf_of (x := rung x) (by have := rung_lt x; omega) (by rw [rung_rung]; omega)
    rw [order_inf_fin hr fin_small, sgn_rung]
    have : ¬ rung x < 4503599627370496 := by omega
    simp [this]

theorem k_most {x : Nat} (h : rung x ≤ 9218868437227405312) : (Ieee.double.order (rung x) 9218868437227405311 == some .lt || Ieee.double.order (rung x) 9218868437227405311 == some .eq) = decide (rung x < 9218868437227405312) := by
  by_cases hf : rung x < 9218868437227405312
  · rw [order_fin (fin_rung hf) fin_most, cmp_nat]
    have hle := un_mono (a := x) (b := 9218868437227405311) (by rw [show rung 9218868437227405311 = 9218868437227405311 by decide]; omega)
    by_cases hlt : un x < un 9218868437227405311
    · rw [if_pos hlt]; simp [hf]
    · rw [if_neg hlt, if_pos (by omega)]; simp [hf]
  · have hr := inf_of (x := rung x) (by have := rung_lt x; omega) (by rw [rung_rung]; omega)
    rw [order_inf_fin hr fin_most, sgn_rung]
    simp [hf]
end Qf

theorem kindOf_walk (x : Nat) (w : World) (hx : x < 18446744073709551616) (HN : Hid (Qf.isN (Qf.rung x) = false)) (b1 b2 b3 : Bool)
    (T1 : (FloatKind.f64.format.order (Qf.rung x) 0 == some Ordering.eq) = b1) (T2 : (FloatKind.f64.format.order (Qf.rung x) 4503599627370496 == some Ordering.lt) = b2)
    (T3 : (FloatKind.f64.format.order (Qf.rung x) 9218868437227405311 == some Ordering.lt || FloatKind.f64.format.order (Qf.rung x) 9218868437227405311 == some Ordering.eq) = b3) :
    Calls Try.prog 11 #[.int .u64 (x : Int)] w fun e w' => e = .returned (.int .i64 (if b1 then 1 else if b2 then 2 else if b3 then 3 else 4)) ∧ w = w' := by
  have hr := Qf.rung_lt x
  cases b1 <;> cases b2 <;> cases b3
  all_goals
    go_enter Try.func11, Try.ntmps11
    go_wp2_with fail
    refine (abs_any _ _ hx).mono ?_
    rintro e w' ⟨rfl, rfl⟩
    go_wp2_with fail
    refine (isNaN_is _ _ (by omega) _ HN.out).mono ?_
    rintro e w' ⟨rfl, rfl⟩
    go_wp2_with fail
    go_ret
    exact ⟨rfl, rfl⟩

theorem kindOf_any (x : Nat) (w : World) (hx : x < 18446744073709551616) :
    Calls Try.prog 11 #[.int .u64 (x : Int)] w fun e w' => e = .returned (.int .i64 (Qf.kd x)) ∧ w = w' := by
  cases hn : Qf.isN x
  · have hf := Qf.isN_false hn
    have hn' : Qf.isN (Qf.rung x) = false := by unfold Qf.isN at hn ⊢; rw [Qf.rung_rung]; exact hn
    refine (kindOf_walk x w hx (Lib.hid hn') _ _ _ (Qf.k_nought hf) (Qf.k_sub hf) (Qf.k_most hf)).mono ?_
    rintro e w' ⟨rfl, rfl⟩
    refine ⟨?_, rfl⟩
    congr 2
    unfold Qf.kd
    simp only [decide_eq_true_eq]
    repeat' split
    all_goals first | rfl | omega
  · have e : Qf.kd x = 5 := by
      have : 9218868437227405312 < Qf.rung x := by simpa [Qf.isN] using hn
      unfold Qf.kd
      rw [if_neg (by omega), if_neg (by omega), if_neg (by omega), if_neg (by omega)]
    rw [e]
    have hn' : Qf.isN (Qf.rung x) = true := by unfold Qf.isN at hn ⊢; rw [Qf.rung_rung]; exact hn
    have HN := Lib.hid hn'
    have hr := Qf.rung_lt x
    clear e hn hn'
    go_enter Try.func11, Try.ntmps11
    go_wp2_with fail
    refine (abs_any _ _ hx).mono ?_
    rintro e w' ⟨rfl, rfl⟩
    go_wp2_with fail
    refine (isNaN_is _ _ (by omega) _ HN.out).mono ?_
    rintro e w' ⟨rfl, rfl⟩
    go_wp2_with fail
    go_ret
    exact ⟨rfl, rfl⟩

theorem back_yes (v n : Int) (w : World) (hv1 : -2147483648 ≤ v) (hv2 : v ≤ 2147483647) (h : Qf.okS n = true) :
    Calls Try.prog 14 #[.int .i32 v, .int .i64 n] w fun e w' => e = .returned (.tuple #[.int .u64 (Qf.valw v n : Nat), .int .i64 0]) ∧ w = w' := by
  obtain ⟨h1, h2⟩ := Qf.okS_true h
  have HS := Lib.hid h
  clear h
  go_enter Try.func14, Try.ntmps14
  go_wp2_with fail
  refine (mayScale_yes _ _ HS.out).mono ?_
  rintro e w' ⟨rfl, rfl⟩
  go_wp2_with fail
  refine (value_any _ _ _ hv1 hv2 h1 h2).mono ?_
  rintro e w' ⟨rfl, rfl⟩
  go_wp2_with fail
  go_ret2
  exact ⟨rfl, rfl⟩

theorem back_no (v n : Int) (w : World) (h : Qf.okS n = false) :
    Calls Try.prog 14 #[.int .i32 v, .int .i64 n] w fun e w' => e = .returned (.tuple #[.int .u64 0, .int .i64 2]) ∧ w = w' := by
  have HS := Lib.hid h
  clear h
  go_enter Try.func14, Try.ntmps14
  go_wp2_with fail
  refine (mayScale_no _ _ HS.out).mono ?_
  rintro e w' ⟨rfl, rfl⟩
  go_wp2_with fail
  go_ret2
  exact ⟨rfl, rfl⟩

theorem quant_two (w : World) : Calls Try.prog 9 #[.int .u64 4612811918334230528, .int .i64 0] w fun e w' => e = .returned (.tuple #[.int .i32 2, .int .i64 1, .int .i64 0]) ∧ w = w' := by
  have h := quant_any 4612811918334230528 0 w (by decide)
  have e1 : Qf.qv 4612811918334230528 0 = 2 := by kernel_rfl
  have e2 : Qf.qm 4612811918334230528 0 = 1 := by kernel_rfl
  have e3 : Qf.qe 4612811918334230528 0 = 0 := by kernel_rfl
  rw [e1, e2, e3] at h
  exact h

theorem kindOf_one (w : World) : Calls Try.prog 11 #[.int .u64 1] w fun e w' => e = .returned (.int .i64 2) ∧ w = w' := by
  have h := kindOf_any 1 w (by decide)
  have e1 : Qf.kd 1 = 2 := by kernel_rfl
  rw [e1] at h
  exact h

theorem known_any (w : World) : Calls Try.prog 13 #[] w fun e w' => e = .returned (.bool true) ∧ w = w' := by
  go_enter Try.func13, Try.ntmps13
  go_wp2_with fail
  refine (quant_two _).mono ?_
  rintro e w' ⟨rfl, rfl⟩
  go_wp2_with fail
  refine (kindOf_one _).mono ?_
  rintro e w' ⟨rfl, rfl⟩
  go_wp2_with fail
  go_ret
  exact ⟨rfl, rfl⟩
end Go.Proofs.Ytemamkbcagnigaa
