/- Walks of the float functions that layer 3 leans on. -/
import Derived.Test.YtemamkbcagnigaaQuantNum
import Derived.Test.YtemamkbcagnigaaProg
import Derived.Test.YtemamkbcagnigaaChecked
import Derived.WalkKit
import Derived.WalkSpells
import Derived.WalkLawsBesides
import Derived.Lib.Hide
import Derived.Laws.BitsAllLaws
import Derived.Laws.FloatArith
import Derived.Laws.Externs
import Derived.ProofKit
import Derived.KernelRfl
namespace Go.Proofs.Ytemamkbcagnigaa
open Go.RowKit

@[go_sem] theorem call_from (n : Nat) (w : World) : (callFunc 25 #[.int .u64 (n : Int)]).run Try.prog w = .ok (.value (.float .f64 n)) w := by
  rw [run_callFunc_extern (e := Extern.MathFloatBits.float64frombits) Try.func25 (by kernel_rfl) (by kernel_rfl) (by kernel_rfl) (by kernel_rfl)]
  rfl

@[go_sem] theorem call_bits (n : Nat) (w : World) : (callFunc 31 #[.float .f64 n]).run Try.prog w = .ok (.value (.int .u64 (n : Int))) w := by
  rw [run_callFunc_extern (e := Extern.MathFloatBits.float64bits) Try.func31 (by kernel_rfl) (by kernel_rfl) (by kernel_rfl) (by kernel_rfl)]
  rfl

theorem call_even (y : Nat) (h : ∀ s t, Ieee.double.read y ≠ .nan s t) (w : World) : (callFunc 37 #[.float .f64 y]).run Try.prog w = .ok (.value (.float .f64 (Ieee.double.write ((Ieee.double.read y).integral .even)))) w := by
  rw [run_callFunc_extern (e := Extern.MathFloor.toIntegral "math.RoundToEven" .even) Try.func37 (by kernel_rfl) (by kernel_rfl) (by kernel_rfl) (by kernel_rfl)]
  have red : ∀ (A : Nat → Sem Value) (B : Array Value → Sem Value), Extern.MathFloor.toIntegral.match_2 (fun _ => Sem Value) #[Value.float .f64 y] A B = A y := fun _ _ => rfl
  have key : Extern.MathFloor.toIntegral "math.RoundToEven" .even #[.float .f64 y] = pure (.float .f64 (Ieee.double.write ((Ieee.double.read y).integral .even))) := by
    delta Extern.MathFloor.toIntegral
    rw [red]
    cases hd : Ieee.double.read y with
    | nan s t => exact absurd hd (h s t)
    | number s m i =>
      rw [show FloatKind.f64.decode y = .number s m i from hd]
      rfl
    | infinity s =>
      rw [show FloatKind.f64.decode y = .infinity s from hd]
      rfl
  rw [key]
  rfl

theorem abs_bits (x : Nat) (hx : x < 18446744073709551616) : bits .andNot .u64 (x : Int) 9223372036854775808 = ((Qf.rung x : Nat) : Int) := by
  rw [show (9223372036854775808 : Int) = ((9223372036854775808 : Nat) : Int) from rfl, u64_andNot_nat _ _ hx (by decide)]
  congr 1
  have := Nat.and_two_pow_sub_one_eq_mod x 63
  rw [show (2 : Nat) ^ 63 - 1 = 18446744073709551615 - 9223372036854775808 by decide, show (2 : Nat) ^ 63 = 9223372036854775808 by decide] at this
  exact this

theorem sgn_of (x : Nat) (hx : x < 18446744073709551616) : decide (wrap64 (x : Int) < 0) = Qf.sgn x := by
  unfold Qf.sgn wrap64
  by_cases h : 9223372036854775808 ≤ x
  · simp only [h, decide_true, decide_eq_true_eq]
    omega
  · simp only [h, decide_false, decide_eq_false_iff_not]
    omega

theorem abs_any (x : Nat) (w : World) (hx : x < 18446744073709551616) : Calls Try.prog 30 #[.float .f64 x] w fun e w' => e = .returned (.float .f64 (Qf.rung x)) ∧ w = w' := by
  have H := abs_bits x hx
  go_enter Try.func30, Try.ntmps30
  go_wp2
  go_ret
  exact ⟨rfl, rfl⟩

theorem signbit_any (x : Nat) (w : World) (hx : x < 18446744073709551616) : Calls Try.prog 39 #[.float .f64 x] w fun e w' => e = .returned (.bool (Qf.sgn x)) ∧ w = w' := by
  have H := Lib.hid (sgn_of x hx)
  go_enter Try.func39, Try.ntmps39
  go_wp2
  go_ret
  exact ⟨by rw [← H.out]; rfl, rfl⟩

theorem isNaN_any (x : Nat) (w : World) (hx : x < 18446744073709551616) : Calls Try.prog 26 #[.float .f64 x] w fun e w' => e = .returned (.bool (decide (9218868437227405312 < Qf.rung x))) ∧ w = w' := by
  have H := Lib.hid (Qf.neq_self hx)
  go_enter Try.func26, Try.ntmps26
  go_wp2
  go_ret
  exact ⟨by rw [← H.out]; rfl, rfl⟩
end Go.Proofs.Ytemamkbcagnigaa
