/- What the program's value and whole answer, for every float and every scale. -/
import Derived.Test.YtemamkbcagnigaaQuantPow
import Derived.Deep.DeepFit
namespace Go.Proofs.Ytemamkbcagnigaa
open Go.RowKit

theorem value_any (v n : Int) (w : World) (hv1 : -2147483648 ≤ v) (hv2 : v ≤ 2147483647) (h1 : -64 ≤ n) (h2 : n ≤ 64) :
    Calls Try.prog 32 #[.int .i32 v, .int .i64 n] w fun e w' => e = .returned (.float .f64 (Qf.valw v n)) ∧ w = w' := by
  have hm : ∀ t w, (binOp .mul t (.float .f64 (floatOfInt .f64 v)) (.float .f64 (Qf.pw (-n)))).run Try.prog w = .ok (.float .f64 (Qf.valw v n)) w := fun t w => run_float_arith w .mul t .f64 _ _ _ (Qf.val_spec v n (by omega) h1 h2).1
  go_enter Try.func32, Try.ntmps32
  go_wp2_with fail
  refine (power_any _ _ (by omega) (by omega)).mono ?_
  rintro e w' ⟨rfl, rfl⟩
  go_wp2_with fail
  go_ret
  exact ⟨rfl, rfl⟩

namespace Qf
/-- Is it clipped? -/
def clip (x : Nat) (n : Int) : Bool := if sgn x then decide (2147483648 < big x n) else decide (2147483647 < big x n)
/-- The whole number, with its sign and the bounds. -/
def wv (x : Nat) (n : Int) : Int := if clip x n then (if sgn x then -2147483648 else 2147483647) else sg (sgn x) (big x n)
/-- The marks. -/
def wm (x : Nat) (n : Int) : Int := if clip x n then 2 else (if un x % gr n = 0 then 0 else 1) + (if big x n = 0 ∧ sgn x = true then 4 else 0)
end Qf

set_option maxHeartbeats 1600000 in
set_option maxRecDepth 20000 in
theorem whole_any (x : Nat) (n : Int) (w : World) (hx : x < 18446744073709551616) (hf : Qf.rung x ≤ 9218868437227405312) (h1 : -64 ≤ n) (h2 : n ≤ 64) :
    Calls Try.prog 27 #[.float .f64 x, .int .i64 n] w fun e w' => e = .returned (.tuple #[.int .i32 (Qf.wv x n), .int .i64 (Qf.wm x n)]) ∧ w = w' := by
  obtain ⟨y, hmul, hnan, hW⟩ := Qf.made_whole hx hf n h1 h2
  have hm : ∀ t w, (binOp .mul t (.float .f64 x) (.float .f64 (Qf.pw n))).run Try.prog w = .ok (.float .f64 y) w := fun t w => run_float_arith w .mul t .f64 _ _ _ hmul
  have he := call_even y hnan
  generalize Ieee.double.write ((Ieee.double.read y).integral .even) = r at hW he
  have R1 : (FloatKind.f64.format.order r 4746794007244308480 == some Ordering.gt) = (!Qf.sgn x && decide (2147483647 < Qf.big x n)) := Qf.gt_max hW
  have R2 : (FloatKind.f64.format.order r 13970166044103278592 == some Ordering.lt) = (Qf.sgn x && decide (2147483648 < Qf.big x n)) := Qf.lt_min hW
  clear hmul hnan
  by_cases hc : Qf.clip x n = true
  · have hv : Qf.wv x n = if Qf.sgn x then -2147483648 else 2147483647 := by unfold Qf.wv; rw [if_pos hc]
    have hk : Qf.wm x n = 2 := by unfold Qf.wm; rw [if_pos hc]
    unfold Qf.clip at hc
    cases hs : Qf.sgn x
    · rw [hs] at hc R1 hv
      have hb : 2147483647 < Qf.big x n := by simpa using hc
      have T1 : (FloatKind.f64.format.order r 4746794007244308480 == some Ordering.gt) = true := by rw [R1]; simp [hb]
      rw [hv, hk]
      clear hv hk hs hc hb R1 R2
      go_enter Try.func27, Try.ntmps27
      go_wp2_with fail
      refine (power_any _ _ (by omega) (by omega)).mono ?_
      rintro e w' ⟨rfl, rfl⟩
      go_wp2_with fail
      go_ret2
      exact ⟨rfl, rfl⟩
    · rw [hs] at hc R1 R2 hv
      have hb : 2147483648 < Qf.big x n := by simpa using hc
      have T1 : (FloatKind.f64.format.order r 4746794007244308480 == some Ordering.gt) = false := by rw [R1]; rfl
      have T2 : (FloatKind.f64.format.order r 13970166044103278592 == some Ordering.lt) = true := by rw [R2]; simp [hb]
      rw [hv, hk]
      clear hv hk hs hc hb R1 R2
      go_enter Try.func27, Try.ntmps27
      go_wp2_with fail
      refine (power_any _ _ (by omega) (by omega)).mono ?_
      rintro e w' ⟨rfl, rfl⟩
      go_wp2_with fail
      go_ret2
      exact ⟨rfl, rfl⟩
  · have hv : Qf.wv x n = Qf.sg (Qf.sgn x) (Qf.big x n) := by unfold Qf.wv; rw [if_neg hc]
    have hk : Qf.wm x n = (if Qf.un x % Qf.gr n = 0 then 0 else 1) + (if Qf.big x n = 0 ∧ Qf.sgn x = true then 4 else 0) := by unfold Qf.wm; rw [if_neg hc]
    have hb1 : Qf.sgn x = false → Qf.big x n ≤ 2147483647 := by intro hs; unfold Qf.clip at hc; rw [hs] at hc; simpa using hc
    have hb2 : Qf.sgn x = true → Qf.big x n ≤ 2147483648 := by intro hs; unfold Qf.clip at hc; rw [hs] at hc; simpa using hc
    have hb3 : Qf.big x n ≤ 2147483648 := by cases hs : Qf.sgn x with
      | false => have := hb1 hs; omega
      | true => exact hb2 hs
    have hlt : Qf.rung x < 9218868437227405312 := by
      rcases Nat.lt_or_ge (Qf.rung x) 9218868437227405312 with h | h
      · exact h
      · exfalso
        have : Qf.big x n = 2 ^ 100 := by unfold Qf.big; rw [if_neg (by omega)]
        rw [this, Qf.big100] at hb3
        omega
    have hbig : Qf.big x n = Qf.rhe (Qf.un x) (Qf.gr n) := by unfold Qf.big; rw [if_pos hlt]
    have hW' : Qf.Fin r (Qf.sgn x) (Qf.big x n * Qf.U) := by
      rcases hW with h | ⟨_, h⟩
      · exact h
      · rw [Qf.big100] at h; omega
    have T1 : (FloatKind.f64.format.order r 4746794007244308480 == some Ordering.gt) = false := by
      rw [R1]
      cases hs : Qf.sgn x with
      | true => rfl
      | false => have := hb1 hs; simp; omega
    have T2 : (FloatKind.f64.format.order r 13970166044103278592 == some Ordering.lt) = false := by
      rw [R2]
      cases hs : Qf.sgn x with
      | false => rfl
      | true => have := hb2 hs; simp; omega
    have hi := Qf.toI32 hW' hb1 hb2
    have hcv : ∀ w, (convert 48 21 (.float .f64 r)).run Try.prog w = .ok (.int .i32 (Qf.sg (Qf.sgn x) (Qf.big x n))) w := fun w => run_convert_float_int w 48 21 .f64 .i32 r _ (by rw [Try.underlying48]; rfl) Try.underlying21 hi
    have T3 := Qf.val_neq (Qf.fin_of hx hlt) n h1 h2 (by rw [← hbig]; exact hb3)
    rw [← hbig] at T3
    have hzb : -2147483648 ≤ Qf.sg (Qf.sgn x) (Qf.big x n) ∧ Qf.sg (Qf.sgn x) (Qf.big x n) ≤ 2147483647 := by
      unfold Qf.sg
      cases hs : Qf.sgn x with
      | false => have := hb1 hs; simp; omega
      | true => have := hb2 hs; simp; omega
    have hz0 : Qf.sg (Qf.sgn x) (Qf.big x n) = 0 ↔ Qf.big x n = 0 := by
      unfold Qf.sg
      cases Qf.sgn x <;> simp
    have HS := Lib.hid hk
    rw [hv]
    obtain ⟨hz1, hz2⟩ := hzb
    clear hW hc hv hk hb1 hb2 hb3 hlt hbig hW' hi R1 R2
    generalize Qf.sg (Qf.sgn x) (Qf.big x n) = z at *
    have HZ := Lib.hid hz0
    clear hz0
    have B1 : bits BinOp.or IntKind.i64 0 1 = 1 := by kernel_rfl
    have B2 : bits BinOp.or IntKind.i64 0 4 = 4 := by kernel_rfl
    have B3 : bits BinOp.or IntKind.i64 1 4 = 5 := by kernel_rfl
    by_cases hex : Qf.un x % Qf.gr n = 0
    all_goals
      have T3' : (FloatKind.f64.format.order (Qf.valw z n) x != some Ordering.eq) = _ := T3
      simp only [hex, ne_eq, not_true_eq_false, not_false_eq_true, decide_true, decide_false] at T3'
      clear T3
      have HX := Lib.hid hex
      clear hex
      by_cases hz : z = 0
      · subst hz
        cases hs : Qf.sgn x
        all_goals
          have HN := Lib.hid hs
          clear hs
          go_enter Try.func27, Try.ntmps27
          go_wp2_with fail
          refine (power_any _ _ (by omega) (by omega)).mono ?_
          rintro e w' ⟨rfl, rfl⟩
          go_wp2_with fail
          refine (value_any _ _ _ (by omega) (by omega) h1 h2).mono ?_
          rintro e w' ⟨rfl, rfl⟩
          go_wp2_with fail
          refine (signbit_any _ _ hx).mono ?_
          rintro e w' ⟨rfl, rfl⟩
          rw [HN.out]
          go_wp2_with fail
          go_ret2
          refine ⟨?_, rfl⟩
          rw [HS.out, HN.out]
          have := HZ.out.1 (by first | trivial | rfl)
          have hh := HX.out
          simp [this, hh]
      · go_enter Try.func27, Try.ntmps27
        go_wp2_with fail
        refine (power_any _ _ (by omega) (by omega)).mono ?_
        rintro e w' ⟨rfl, rfl⟩
        go_wp2_with fail
        refine (value_any _ _ _ (by omega) (by omega) h1 h2).mono ?_
        rintro e w' ⟨rfl, rfl⟩
        go_wp2_with fail
        go_ret2
        refine ⟨?_, rfl⟩
        rw [HS.out]
        have h0 : ¬ Qf.big x n = 0 := fun h => hz (HZ.out.2 h)
        have hh := HX.out
        simp [h0, hh]
end Go.Proofs.Ytemamkbcagnigaa
