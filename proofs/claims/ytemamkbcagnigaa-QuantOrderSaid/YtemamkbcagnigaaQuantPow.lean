/- The power of two of a scale, and what the program's value and whole answer. -/
import Derived.Test.YtemamkbcagnigaaQuantFl
import Derived.Outline
namespace Go.Proofs.Ytemamkbcagnigaa
open Go.RowKit

theorem ordN (x y : Nat) (o : Ordering) (b : Bool) (h : (Ieee.double.order x y == some o) = b) : (FloatKind.f64.format.order x y == some o) = b := h

theorem isInf_one (w : World) : Calls Try.prog 60 #[.float .f64 4607182418800017408, .int .i64 0] w fun e w' => e = .returned (.bool false) ∧ w = w' := by
  have H : (FloatKind.f64.format.order (Qf.rung 4607182418800017408) 9218868437227405311 == some Ordering.gt) = false := by kernel_rfl
  go_enter Try.func60, Try.ntmps60
  go_wp2_with (go_at_call 30; refine (abs_any _ _ (by decide)).mono ?_; rintro e w' ⟨rfl, rfl⟩)
  go_ret
  exact ⟨rfl, rfl⟩

theorem isNan_one (w : World) : Calls Try.prog 61 #[.float .f64 4607182418800017408] w fun e w' => e = .returned (.bool false) ∧ w = w' := by
  have H : (FloatKind.f64.format.order 4607182418800017408 4607182418800017408 != some Ordering.eq) = false := by kernel_rfl
  go_enter Try.func61, Try.ntmps61
  go_wp2
  go_ret
  exact ⟨rfl, rfl⟩

theorem normalize_one (w : World) : Calls Try.prog 62 #[.float .f64 4607182418800017408] w fun e w' => e = .returned (.tuple #[.float .f64 4607182418800017408, .int .i64 0]) ∧ w = w' := by
  have H : (FloatKind.f64.format.order (Qf.rung 4607182418800017408) 4503599627370496 == some Ordering.lt) = false := by kernel_rfl
  go_enter Try.func62, Try.ntmps62
  go_wp2_with (go_at_call 30; refine (abs_any _ _ (by decide)).mono ?_; rintro e w' ⟨rfl, rfl⟩)
  go_ret2
  exact ⟨rfl, rfl⟩

theorem word_false (r : Nat) : Qf.word false r = r := rfl

theorem one_pw (n : Int) (h1 : -64 ≤ n) (h2 : n ≤ 64) : floatBits .mul .f64 4607182418800017408 (Qf.pw n) = some (Qf.pw n) := by
  have hr := Qf.mul_pw (Qf.pw_read 0 (by decide) (by decide)) n h1 h2
  have hw := Qf.nearest_word false 1 104 n (0 - 52 + (n - 52)) (by omega) (by decide) (by decide) (by omega)
  have hl : Qf.last 1 n = n - 52 := by
    unfold Qf.last
    have : Nat.log2 1 = 0 := by decide
    omega
  rw [show 1 * 2 ^ 104 = 4503599627370496 * 2 ^ 52 by decide, hl] at hw
  have : floatBits .mul .f64 4607182418800017408 (Qf.pw n) = Ieee.double.mul (Qf.pw 0) (Qf.pw n) := by
    rw [show Qf.pw 0 = 4607182418800017408 by decide]; rfl
  rw [this, hr, hw, show (n - (n - 52)).toNat = 52 by omega]
  rw [Option.some.injEq]
  rw [word_false, show 1 * 2 ^ 52 = 4503599627370496 by decide]
  unfold Qf.pw
  omega

theorem or_pw (n : Int) (h1 : -64 ≤ n) (h2 : n ≤ 64) : bits BinOp.or IntKind.u64 0 ((n + 1023) * 4503599627370496) = ((Qf.pw n : Nat) : Int) := by
  rw [u64_or _ _ (by decide) (by decide) (by omega) (by omega)]
  congr 1
  have : ((0 : Int).toNat ||| ((n + 1023) * 4503599627370496).toNat) = ((n + 1023) * 4503599627370496).toNat := Nat.zero_or _
  rw [this]
  unfold Qf.pw
  omega

set_option maxHeartbeats 400000 in
theorem ldexp_any (n : Int) (w : World) (h1 : -64 ≤ n) (h2 : n ≤ 64) : Calls Try.prog 49 #[.float .f64 4607182418800017408, .int .i64 n] w fun e w' => e = .returned (.float .f64 (Qf.pw n)) ∧ w = w' := by
  have H0 : (FloatKind.f64.format.order 4607182418800017408 0 == some Ordering.eq) = false := by kernel_rfl
  have H1 : bits BinOp.and IntKind.i64 1023 2047 = 1023 := by kernel_rfl
  have H2 : bits BinOp.andNot IntKind.u64 4607182418800017408 9218868437227405312 = 0 := by kernel_rfl
  have H3 := or_pw n h1 h2
  have hm : ∀ t w, (binOp .mul t (.float .f64 4607182418800017408) (.float .f64 (Qf.pw n))).run Try.prog w = .ok (.float .f64 (Qf.pw n)) w := fun t w => run_float_arith w .mul t .f64 _ _ _ (one_pw n h1 h2)
  go_enter Try.func49, Try.ntmps49
  go_wp2_with (first | ((with_reducible refine (isInf_one _).mono ?_); rintro e w' ⟨rfl, rfl⟩) | ((with_reducible refine (isNan_one _).mono ?_); rintro e w' ⟨rfl, rfl⟩) | ((with_reducible refine (normalize_one _).mono ?_); rintro e w' ⟨rfl, rfl⟩))
  all_goals (go_ret; exact ⟨rfl, rfl⟩)

theorem power_any (n : Int) (w : World) (h1 : -64 ≤ n) (h2 : n ≤ 64) : Calls Try.prog 38 #[.int .i64 n] w fun e w' => e = .returned (.float .f64 (Qf.pw n)) ∧ w = w' := by
  go_enter Try.func38, Try.ntmps38
  go_wp2_with fail
  go_enter Try.func44, Try.ntmps44
  go_wp2_with fail
  refine (ldexp_any _ _ h1 h2).mono ?_
  rintro e w' ⟨rfl, rfl⟩
  go_wp2_with fail
  go_ret
  exact ⟨rfl, rfl⟩
end Go.Proofs.Ytemamkbcagnigaa
