/- The law QuantSteps where the second scale has fewer bits. Conditions: none but the arguments' own ranges. -/
import Derived.Test.YtemamkbcagnigaaQuantBack
namespace Go.Proofs.Ytemamkbcagnigaa
open Go.RowKit

/-- How the law's division, which cuts, stands to the one that goes down. -/
inductive Cut (v d q r : Int) : Prop
  | low : v.tdiv d = q + 1 → v.tmod d = r - d → r ≠ 0 → Cut v d q r
  | same : v.tdiv d = q → v.tmod d = r → Cut v d q r

theorem cut_of (v q r : Int) (d : Nat) (hd : 0 < d) (hq : v = q * d + r) (h0 : 0 ≤ r) (h1 : r < d) : Cut v d q r := by
  have hd' : (0 : Int) < d := by omega
  have hfd : v.tdiv d * d + v.tmod d = v := Int.tdiv_mul_add_tmod v d
  have hml := Int.tmod_lt_of_pos v hd'
  have hneg : -(d : Int) < v.tmod d := by
    have h3 : (v.tmod d).natAbs < d := by
      rw [Int.natAbs_tmod]
      exact Nat.mod_lt _ (by omega)
    omega
  obtain ⟨a, ha⟩ : ∃ a, v.tdiv d = a := ⟨_, rfl⟩
  obtain ⟨b, hb0⟩ : ∃ b, v.tmod d = b := ⟨_, rfl⟩
  rw [ha, hb0] at hfd
  rw [hb0] at hml hneg
  have hab : a * d + b = q * d + r := by omega
  rcases Int.lt_or_le b 0 with hb | hb
  · have e : (a - q - 1) * (d : Int) = r - b - d := by
      rw [Int.sub_mul, Int.sub_mul]; omega
    have h5 : a - q - 1 = 0 := by
      rcases Int.lt_trichotomy (a - q - 1) 0 with h | h | h
      · exfalso
        have := Int.mul_le_mul_of_nonneg_right (show a - q - 1 ≤ -1 by omega) (show (0 : Int) ≤ d by omega)
        omega
      · exact h
      · exfalso
        have := Int.mul_le_mul_of_nonneg_right (show 1 ≤ a - q - 1 by omega) (show (0 : Int) ≤ d by omega)
        omega
    rw [h5, Int.zero_mul] at e
    exact .low (by rw [ha]; omega) (by rw [hb0]; omega) (by omega)
  · have e : (a - q) * (d : Int) = r - b := by
      rw [Int.sub_mul]; omega
    have h5 : a - q = 0 := by
      rcases Int.lt_trichotomy (a - q) 0 with h | h | h
      · exfalso
        have := Int.mul_le_mul_of_nonneg_right (show a - q ≤ -1 by omega) (show (0 : Int) ≤ d by omega)
        omega
      · exact h
      · exfalso
        have := Int.mul_le_mul_of_nonneg_right (show 1 ≤ a - q by omega) (show (0 : Int) ≤ d by omega)
        omega
    rw [h5, Int.zero_mul] at e
    exact .same (by rw [ha]; omega) (by rw [hb0]; omega)

/-- Which way the half goes. -/
inductive Half (d q r u : Int) : Prop
  | over : d < 2 * r → u = q + 1 → Half d q r u
  | odd : 2 * r = d → (q.tmod 2 != 0) = true → u = q + 1 → Half d q r u
  | even : 2 * r = d → (q.tmod 2 != 0) = false → u = q → Half d q r u
  | under : 2 * r < d → u = q → Half d q r u

theorem half_of (d q r u : Int) (hu : u = (if d < 2 * r ∨ (2 * r = d ∧ q % 2 ≠ 0) then q + 1 else q)) : Half d q r u := by
  have ht : q.tmod 2 = 0 ↔ q % 2 = 0 := by
    rw [← Int.dvd_iff_tmod_eq_zero, Int.dvd_iff_emod_eq_zero]
  rcases Int.lt_trichotomy d (2 * r) with h | h | h
  · rw [if_pos (.inl h)] at hu
    exact .over h hu
  · by_cases hq : q % 2 = 0
    · rw [if_neg (by omega)] at hu
      exact .even h.symm (by rw [ht.2 hq]; rfl) hu
    · rw [if_pos (.inr ⟨h.symm, hq⟩)] at hu
      refine .odd h.symm ?_ hu
      have : ¬ q.tmod 2 = 0 := fun h => hq (ht.1 h)
      simp [this]
  · rw [if_neg (by omega)] at hu
    exact .under h hu

/-- The marks, as the law asks for them. -/
theorem marks_of (m r u v : Int) (hm : m = (if r = 0 then 0 else 1) + (if u = 0 ∧ v < 0 then 4 else 0)) :
    ∃ B1 B2 : Bool, (bits BinOp.and IntKind.i64 m 1 != 0) = B1 ∧ (r != 0) = B1 ∧ (bits BinOp.and IntKind.i64 m 4 != 0) = B2 ∧ ((u = 0 ∧ decide (v < 0) = B2) ∨ (¬ u = 0 ∧ B2 = false)) := by
  by_cases hr : r = 0
  · by_cases hz : u = 0 ∧ v < 0
    · rw [if_pos hr, if_pos hz] at hm
      subst hm hr
      exact ⟨false, true, by kernel_rfl, rfl, by kernel_rfl, .inl ⟨hz.1, by simp [hz.2]⟩⟩
    · rw [if_pos hr, if_neg hz] at hm
      subst hm hr
      refine ⟨false, false, by kernel_rfl, rfl, by kernel_rfl, ?_⟩
      by_cases hu : u = 0
      · exact .inl ⟨hu, by simp; omega⟩
      · exact .inr ⟨hu, rfl⟩
  · by_cases hz : u = 0 ∧ v < 0
    · rw [if_neg hr, if_pos hz] at hm
      subst hm
      exact ⟨true, true, by kernel_rfl, by simp [hr], by kernel_rfl, .inl ⟨hz.1, by simp [hz.2]⟩⟩
    · rw [if_neg hr, if_neg hz] at hm
      subst hm
      refine ⟨true, false, by kernel_rfl, by simp [hr], by kernel_rfl, ?_⟩
      by_cases hu : u = 0
      · exact .inl ⟨hu, by simp; omega⟩
      · exact .inr ⟨hu, rfl⟩

set_option maxHeartbeats 3200000 in
set_option maxRecDepth 100000 in
theorem stepsDown_any (v f t : Int) (w : World) (hv1 : -2147483648 ≤ v) (hv2 : v ≤ 2147483647) (hf : Qf.okS f = true) (ht : Qf.okS t = true) (hlt2 : t < f) (q r d : Int)
    (hd : (f - t ≤ 40 ∧ wrap64 (2 ^ (f - t).toNat) = d) ∨ (40 < f - t ∧ d = 1099511627776)) (h0 : 0 ≤ r) (h1 : r < d) (hd1 : 2 ≤ d) (hd2 : d ≤ 1099511627776) (hq1 : -2147483649 ≤ q) (hq2 : q ≤ 2147483649)
    (hcut : Cut v d q r) (u m : Int) (QA : Hid (∀ w, Calls Try.prog 9 #[.int .u64 (Qf.valw v f : Nat), .int .i64 t] w fun e' w' => e' = .returned (.tuple #[.int .i32 u, .int .i64 m, .int .i64 0]) ∧ w = w'))
    (hhalf : Half d q r u) (B1 B2 : Bool) (m1 : (bits BinOp.and IntKind.i64 m 1 != 0) = B1) (m2 : (r != 0) = B1) (m3 : (bits BinOp.and IntKind.i64 m 4 != 0) = B2) (m4 : (u = 0 ∧ decide (v < 0) = B2) ∨ (¬ u = 0 ∧ B2 = false)) :
    Calls Try.prog 8 #[.int .i32 v, .int .i64 f, .int .i64 t] w fun e w' => e = .returned (.bool true) ∧ w = w' := by
  obtain ⟨f1, f2⟩ := Qf.okS_true hf
  obtain ⟨t1, t2⟩ := Qf.okS_true ht
  have HF := Lib.hid hf
  clear hf ht
  rcases hcut with ⟨x1, x2, x3⟩ | ⟨x1, x2⟩
  all_goals rcases hhalf with ⟨y1, y2⟩ | ⟨y1, y3, y2⟩ | ⟨y1, y3, y2⟩ | ⟨y1, y2⟩
  all_goals rcases m4 with ⟨z1, z2⟩ | ⟨z1, z2⟩
  all_goals rcases hd with ⟨c1, c2⟩ | ⟨c1, c2⟩
  all_goals
    try (subst c2)
    go_enter Try.func8, Try.ntmps8
    go_wp2_with fail
    refine (back_yes _ _ _ hv1 hv2 HF.out).mono ?_
    rintro e w' ⟨rfl, rfl⟩
    go_wp2_with fail
    refine (QA.out _).mono ?_
    rintro e w' ⟨rfl, rfl⟩
    go_wp2_with fail
    go_loop [12, 13] (fun s r => s = .int .i64 v ∧ r = .int .i64 f) (fun _ _ => 0)
    case atStart => exact ⟨rfl, rfl⟩
    case round =>
      obtain ⟨rfl, rfl⟩ := hrel
      go_wp2_with fail
      refine (known_any _).mono ?_
      rintro e w' ⟨rfl, rfl⟩
      go_wp2_with fail
      go_ret
      exact ⟨rfl, rfl⟩
end Go.Proofs.Ytemamkbcagnigaa
