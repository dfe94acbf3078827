/- Numbers of layer 4: what size, Low and Apart answer, the program's and the document's; the order of two numbers. Conditions: the numbers are of 64 bits. -/
import Derived.Test.YtljichhmfbefaaaI32
import Derived.WalkSmall
import Derived.IntWalk
import Derived.BigQuiet
namespace Go.Proofs.Ytljichhmfbefaaa
open Go.RowKit

theorem ret_bool {a b : Bool} (h : a = b) : Ending.returned (.bool a) = .returned (.bool b) := by rw [h]
theorem ret_int {k : IntKind} {a b : Int} (h : a = b) : Ending.returned (.int k a) = .returned (.int k b) := by rw [h]
theorem below_drewN {B : Nat} {a b : World} (h : Below B a b) (n : Nat) : Below B a (b.drewN n) := h.trans ⟨rfl, rfl, rfl, Nat.le_refl _, fun _ _ => rfl⟩
theorem calls_below {f : FuncId} {args : Array Value} {W : World} {v : Ending} (h : Calls Try.prog f args W fun e w' => e = v ∧ W = w') : Calls Try.prog f args W fun e w' => e = v ∧ Below W.heap.size W w' :=
  h.mono fun _ _ ⟨h1, h2⟩ => ⟨h1, h2 ▸ Below.refl _ _⟩

theorem i64_of {n : Int} (h : (Lit.int .i64 n).wf = true) : -9223372036854775808 ≤ n ∧ n ≤ 9223372036854775807 := by
  have h1 : IntKind.i64.min = -9223372036854775808 := rfl
  have h2 : IntKind.i64.max = 9223372036854775807 := rfl
  simp only [Lit.wf, Bool.and_eq_true, decide_eq_true_eq] at h
  omega

namespace Vp
/-- A number without its sign. -/
def ab (n : Int) : Int := if n < 0 then -n else n
/-- What is left of far. -/
def low (a b : Int) : Int := if a < 0 ∨ b < 0 ∨ a < b then 0 else a - b
/-- How far two distances are apart. -/
def apart (a b : Int) : Int := if a < 0 ∨ b < 0 then 0 else ab (a - b)
def cmp3 (a b : Int) : Int := if a < b then -1 else if b < a then 1 else 0
end Vp

theorem size_any (n : Int) (w : World) (h1 : -9223372036854775807 ≤ n) (h2 : n ≤ 9223372036854775807) :
    Calls Try.prog 25 #[.int .i64 n] w fun e w' => e = .returned (.int .i64 (Vp.ab n)) ∧ w = w' := by
  have hw : IntKind.i64.wrap (-n) = -n := IntWalk.i64_in _ (by omega)
  have hm : max n (-n) = Vp.ab n := by unfold Vp.ab; split <;> omega
  have HM := Lib.hid hm
  clear hm
  go_enter Try.func25, Try.ntmps25
  go_wp2
  all_goals
    go_ret
    exact ⟨ret_int (by rw [← HM.out]; omega), rfl⟩

theorem low_any (a b : Int) (w : World) (ha1 : -9223372036854775808 ≤ a) (ha2 : a ≤ 9223372036854775807) (hb1 : -9223372036854775808 ≤ b) (hb2 : b ≤ 9223372036854775807) :
    Calls Try.prog 15 #[.int .i64 a, .int .i64 b] w fun e w' => e = .returned (.int .i64 (Vp.low a b)) ∧ w = w' := by
  by_cases h : a < 0
  · have hz : Vp.low a b = 0 := if_pos (by omega)
    have HZ := Lib.hid hz
    clear hz
    go_enter Try.func15, Try.ntmps15
    go_wp2
    go_ret
    exact ⟨ret_int (by rw [HZ.out]), rfl⟩
  · by_cases h2 : b < 0
    · have hz : Vp.low a b = 0 := if_pos (by omega)
      have HZ := Lib.hid hz
      clear hz
      go_enter Try.func15, Try.ntmps15
      go_wp2
      go_ret
      exact ⟨ret_int (by rw [HZ.out]), rfl⟩
    · have hw : IntKind.i64.wrap (a - b) = a - b := IntWalk.i64_in _ (by omega)
      have hz : Vp.low a b = max (a - b) 0 := by unfold Vp.low; split <;> omega
      have HZ := Lib.hid hz
      clear hz
      go_enter Try.func15, Try.ntmps15
      go_wp2
      all_goals
        go_ret
        exact ⟨ret_int (by rw [HZ.out]; omega), rfl⟩

theorem apart_any (a b : Int) (w : World) (ha1 : -9223372036854775808 ≤ a) (ha2 : a ≤ 9223372036854775807) (hb1 : -9223372036854775808 ≤ b) (hb2 : b ≤ 9223372036854775807) :
    Calls Try.prog 16 #[.int .i64 a, .int .i64 b] w fun e w' => e = .returned (.int .i64 (Vp.apart a b)) ∧ w = w' := by
  by_cases h : a < 0
  · have hz : Vp.apart a b = 0 := if_pos (by omega)
    have HZ := Lib.hid hz
    clear hz
    go_enter Try.func16, Try.ntmps16
    go_wp2
    go_ret
    exact ⟨ret_int (by rw [HZ.out]), rfl⟩
  · by_cases h2 : b < 0
    · have hz : Vp.apart a b = 0 := if_pos (by omega)
      have HZ := Lib.hid hz
      clear hz
      go_enter Try.func16, Try.ntmps16
      go_wp2
      go_ret
      exact ⟨ret_int (by rw [HZ.out]), rfl⟩
    · have hw : IntKind.i64.wrap (a - b) = a - b := IntWalk.i64_in _ (by omega)
      have hz : Vp.apart a b = Vp.ab (a - b) := if_neg (by omega)
      have HZ := Lib.hid hz
      clear hz
      go_enter Try.func16, Try.ntmps16
      go_wp2_with ((with_reducible refine (size_any _ _ (by omega) (by omega)).mono ?_); rintro e w' ⟨rfl, rfl⟩)
      go_ret
      exact ⟨ret_int (by rw [HZ.out]), rfl⟩

theorem refLow_any (a b : Int) (w : World) (ha1 : -9223372036854775808 ≤ a) (ha2 : a ≤ 9223372036854775807) (hb1 : -9223372036854775808 ≤ b) (hb2 : b ≤ 9223372036854775807) :
    Calls Try.prog 23 #[.int .i64 a, .int .i64 b] w fun e w' => e = .returned (.int .i64 (Vp.low a b)) ∧ w = w' := by
  by_cases h : a < 0
  · have hz : Vp.low a b = 0 := if_pos (by omega)
    have HZ := Lib.hid hz
    clear hz
    go_enter Try.func23, Try.ntmps23
    go_wp2
    go_ret
    exact ⟨ret_int (by rw [HZ.out]), rfl⟩
  · by_cases h2 : b < 0
    · have hz : Vp.low a b = 0 := if_pos (by omega)
      have HZ := Lib.hid hz
      clear hz
      go_enter Try.func23, Try.ntmps23
      go_wp2
      go_ret
      exact ⟨ret_int (by rw [HZ.out]), rfl⟩
    · by_cases h3 : a < b
      · have hz : Vp.low a b = 0 := if_pos (by omega)
        have HZ := Lib.hid hz
        clear hz
        go_enter Try.func23, Try.ntmps23
        go_wp2
        go_ret
        exact ⟨ret_int (by rw [HZ.out]), rfl⟩
      · have hw : IntKind.i64.wrap (a - b) = a - b := IntWalk.i64_in _ (by omega)
        have hz : Vp.low a b = a - b := if_neg (by omega)
        have HZ := Lib.hid hz
        clear hz
        go_enter Try.func23, Try.ntmps23
        go_wp2
        go_ret
        exact ⟨ret_int (by rw [HZ.out]), rfl⟩

theorem refApart_any (a b : Int) (w : World) (ha1 : -9223372036854775808 ≤ a) (ha2 : a ≤ 9223372036854775807) (hb1 : -9223372036854775808 ≤ b) (hb2 : b ≤ 9223372036854775807) :
    Calls Try.prog 24 #[.int .i64 a, .int .i64 b] w fun e w' => e = .returned (.int .i64 (Vp.apart a b)) ∧ w = w' := by
  by_cases h : a < 0
  · have hz : Vp.apart a b = 0 := if_pos (by omega)
    have HZ := Lib.hid hz
    clear hz
    go_enter Try.func24, Try.ntmps24
    go_wp2
    go_ret
    exact ⟨ret_int (by rw [HZ.out]), rfl⟩
  · by_cases h2 : b < 0
    · have hz : Vp.apart a b = 0 := if_pos (by omega)
      have HZ := Lib.hid hz
      clear hz
      go_enter Try.func24, Try.ntmps24
      go_wp2
      go_ret
      exact ⟨ret_int (by rw [HZ.out]), rfl⟩
    · have hw : IntKind.i64.wrap (max a b - min a b) = max a b - min a b := IntWalk.i64_in _ (by omega)
      have hz : Vp.apart a b = max a b - min a b := by unfold Vp.apart Vp.ab; rw [if_neg (by omega)]; split <;> omega
      have HZ := Lib.hid hz
      clear hz
      go_enter Try.func24, Try.ntmps24
      go_wp2
      all_goals
        go_ret
        exact ⟨ret_int (by rw [HZ.out]; omega), rfl⟩
end Go.Proofs.Ytljichhmfbefaaa
