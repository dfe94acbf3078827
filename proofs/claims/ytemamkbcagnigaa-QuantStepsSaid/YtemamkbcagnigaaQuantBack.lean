/- What the document's Back answers, and the law QuantBack. -/
import Derived.Test.YtemamkbcagnigaaQuantRises
namespace Go.Proofs.Ytemamkbcagnigaa
open Go.RowKit

namespace Qf
/-- What stands at the loop's head of the document's Back. -/
def Grown (a k : Nat) (e : Int) : Prop := ∃ j : Nat, j ≤ 52 ∧ k = a * 2 ^ j ∧ e = 52 - (j : Int)

theorem Grown.next {a k : Nat} {e : Int} (ha : 0 < a) (h : Grown a k e) (hk : k < 4503599627370496) : Grown a (k * 2) (e - 1) := by
  obtain ⟨j, hj, rfl, rfl⟩ := h
  have hlt : j < 52 := by
    rcases Nat.lt_or_ge j 52 with h | h
    · exact h
    · exfalso
      have h2 : 2 ^ 52 ≤ 2 ^ j := Nat.pow_le_pow_right (by decide) h
      have h3 := Nat.le_mul_of_pos_left (2 ^ j) ha
      rw [pow52] at h2
      omega
  exact ⟨j + 1, by omega, by rw [Nat.pow_succ, Nat.mul_assoc], by omega⟩

theorem Grown.done {a k : Nat} {e : Int} (ha : 0 < a) (h : Grown a k e) (hk : 4503599627370496 ≤ k) (hk2 : k < 9007199254740992) : k = a * 2 ^ (52 - a.log2) ∧ e = (a.log2 : Int) := by
  obtain ⟨j, hj, rfl, rfl⟩ := h
  have h0 : a * 2 ^ j ≠ 0 := by omega
  have hl := log2_shift a j (by omega)
  have h52 : (a * 2 ^ j).log2 = 52 := by
    rw [Nat.log2_eq_iff h0, pow52, pow53]
    exact ⟨hk, hk2⟩
  have hj2 : j = 52 - a.log2 := by omega
  refine ⟨by rw [← hj2], by omega⟩

theorem or_low (p t : Nat) (h : t < 4503599627370496) : p * 4503599627370496 ||| t = p * 4503599627370496 + t := by
  have := Nat.two_pow_add_eq_or_of_lt (i := 52) (b := t) (by rw [pow52]; exact h) p
  rw [pow52, Nat.mul_comm] at this
  exact this.symm

theorem or_high (q : Nat) (h : q < 9223372036854775808) : 9223372036854775808 ||| q = 9223372036854775808 + q := by
  have := Nat.two_pow_add_eq_or_of_lt (i := 63) (b := q) (by rw [pow63]; exact h) 1
  rw [pow63, Nat.mul_one] at this
  exact this.symm

theorem and_low {k : Nat} (h1 : 4503599627370496 ≤ k) (h2 : k < 9007199254740992) : k &&& 4503599627370495 = k - 4503599627370496 := by
  have := Nat.and_two_pow_sub_one_eq_mod k 52
  rw [show (2 : Nat) ^ 52 - 1 = 4503599627370495 by decide, pow52] at this
  rw [this]
  omega

/-- The word, put together from its three fields. -/
theorem valw_fields (v n : Int) (hv : v ≠ 0) (h1 : -64 ≤ n) (h2 : n ≤ 64) (k : Nat) (e : Int) (h : k = v.natAbs * 2 ^ (52 - v.natAbs.log2) ∧ e = (v.natAbs.log2 : Int)) (hk : 4503599627370496 ≤ k) :
    valw v n = word (decide (v < 0)) ((e - n + 1023).toNat * 4503599627370496 + (k - 4503599627370496)) := by
  unfold valw
  rw [if_neg hv, ← h.1, ← h.2]
  have e1 : (e - n + 1022).toNat * 4503599627370496 + k = (e - n + 1023).toNat * 4503599627370496 + (k - 4503599627370496) := by omega
  rw [e1]
end Qf

theorem u64_fields (s : Bool) (T : Int) (k : Nat) (hT0 : 0 ≤ T) (hT : T < 2048) (hk : 4503599627370496 ≤ k) (hk2 : k < 9007199254740992) :
    bits .or .u64 (bits .or .u64 (if s then 9223372036854775808 else 0) (T * 4503599627370496)) (bits .and .u64 (k : Int) 4503599627370495) = ((Qf.word s (T.toNat * 4503599627370496 + (k - 4503599627370496)) : Nat) : Int) := by
  obtain ⟨t, rfl⟩ := Int.eq_ofNat_of_zero_le hT0
  have ha : bits .and .u64 (k : Int) 4503599627370495 = ((k - 4503599627370496 : Nat) : Int) := by
    have h := u64_and_nat k 4503599627370495 (by omega) (by decide)
    rw [Qf.and_low hk hk2] at h
    exact h
  have hm : ((t : Int) * 4503599627370496) = ((t * 4503599627370496 : Nat) : Int) := by omega
  rw [ha, hm, Int.toNat_natCast]
  cases s with
  | false =>
    have h0 : bits .or .u64 (if false = true then (9223372036854775808 : Int) else 0) ((t * 4503599627370496 : Nat) : Int) = ((t * 4503599627370496 : Nat) : Int) := by
      have h := u64_or_nat 0 (t * 4503599627370496) (by decide) (by omega)
      rw [Nat.zero_or] at h
      exact h
    rw [h0, u64_or_nat _ _ (by omega) (by omega), Qf.or_low _ _ (by omega)]
    rfl
  | true =>
    have h0 : bits .or .u64 (if true = true then (9223372036854775808 : Int) else 0) ((t * 4503599627370496 : Nat) : Int) = (((2048 + t) * 4503599627370496 : Nat) : Int) := by
      have h := u64_or_nat 9223372036854775808 (t * 4503599627370496) (by decide) (by omega)
      rw [Qf.or_high _ (by omega)] at h
      rw [show (2048 + t) * 4503599627370496 = 9223372036854775808 + t * 4503599627370496 by omega]
      exact h
    rw [h0, u64_or_nat _ _ (by omega) (by omega), Qf.or_low _ _ (by omega)]
    have e1 : (2048 + t) * 4503599627370496 + (k - 4503599627370496) = Qf.word true (t * 4503599627370496 + (k - 4503599627370496)) := by
      unfold Qf.word
      rw [if_pos rfl]
      omega
    rw [e1]
theorem ret_back {a b c : Int} (h : a = b) : Ending.returned (.tuple #[.int .u64 a, .int .i64 c]) = .returned (.tuple #[.int .u64 b, .int .i64 c]) := by rw [h]

set_option maxHeartbeats 3200000 in
set_option maxRecDepth 20000 in
theorem refBack_any (v n : Int) (w : World) (hv1 : -2147483648 ≤ v) (hv2 : v ≤ 2147483647) (hs : Qf.okS n = true) :
    Calls Try.prog 15 #[.int .i32 v, .int .i64 n] w fun e w' => e = .returned (.tuple #[.int .u64 (Qf.valw v n : Nat), .int .i64 0]) ∧ w = w' := by
  obtain ⟨h1, h2⟩ := Qf.okS_true hs
  clear hs
  by_cases h0 : v = 0
  · subst h0
    go_enter Try.func15, Try.ntmps15
    go_wp2
    go_ret2
    exact ⟨rfl, rfl⟩
  · obtain ⟨a, ha⟩ : ∃ a : Nat, a = v.natAbs := ⟨_, rfl⟩
    have ha1 : 0 < a := by omega
    have ha2 : a ≤ 2147483648 := by omega
    by_cases hneg : v < 0
    · have hva : -v = (a : Int) := by omega
      have HA := Lib.hid ha
      have HV := Lib.hid h0
      clear ha
      have d1 : decide (n < -64) = false := by simp; omega
      have d2 : decide (64 < n) = false := by simp; omega
      have d3 : (v == 0) = false := by simp; omega
      go_enter Try.func15, Try.ntmps15
      go_wp2
      go_loop [8, 9] (fun s t => ∃ (k : Nat) (e : Int), k < 9007199254740992 ∧ 0 < k ∧ s = .int .u64 k ∧ t = .int .i64 e ∧ 0 ≤ e ∧ e ≤ 52 ∧ Qf.Grown a k e) (fun _ t => (intOf t).toNat)
      case atStart => exact ⟨a, 52, by omega, ha1, rfl, rfl, by omega, by omega, 0, by omega, by simp, by simp⟩
      case round =>
        obtain ⟨k, e, hk, hk0, rfl, rfl, he0, he1, hg⟩ := hrel
        have HG := Lib.hid hg
        clear hg
        by_cases hlt : (k : Int) < 4503599627370496
        · have hx := HG.out.next ha1 (by omega)
          have he2 : 1 ≤ e := by obtain ⟨j, hj, _, hj2⟩ := hx; omega
          have HX := Lib.hid hx
          clear hx
          go_wp2
          go_round
          case rel => exact ⟨k * 2, e - 1, by omega, by omega, by go_num, rfl, by omega, by omega, HX.out⟩
          case measure => simp [intOf]; omega
        · have HF := Lib.hid (u64_fields true (e - n + 1023) k (by omega) (by omega) (by omega) hk)
          have HD := Lib.hid (HG.out.done ha1 (by omega) hk)
          go_wp2
          go_ret2
          refine ⟨?_, rfl⟩
          have hvw := Qf.valw_fields v n HV.out h1 h2 k e (by rw [← HA.out]; exact HD.out) (by omega)
          have hsg : decide (v < 0) = true := by simp; omega
          rw [hvw, hsg]
          have := HF.out
          simp only [if_true] at this
          exact ret_back this
    · have hva : v = (a : Int) := by omega
      subst hva
      have HA := Lib.hid ha
      have HV := Lib.hid h0
      clear ha
      have d1 : decide (n < -64) = false := by simp; omega
      have d2 : decide (64 < n) = false := by simp; omega
      have d3 : ((a : Int) == 0) = false := by simp; omega
      go_enter Try.func15, Try.ntmps15
      go_wp2
      go_loop [8, 9] (fun s t => ∃ (k : Nat) (e : Int), k < 9007199254740992 ∧ 0 < k ∧ s = .int .u64 k ∧ t = .int .i64 e ∧ 0 ≤ e ∧ e ≤ 52 ∧ Qf.Grown a k e) (fun _ t => (intOf t).toNat)
      case atStart => exact ⟨a, 52, by omega, ha1, rfl, rfl, by omega, by omega, 0, by omega, by simp, by simp⟩
      case round =>
        obtain ⟨k, e, hk, hk0, rfl, rfl, he0, he1, hg⟩ := hrel
        have HG := Lib.hid hg
        clear hg
        by_cases hlt : (k : Int) < 4503599627370496
        · have hx := HG.out.next ha1 (by omega)
          have he2 : 1 ≤ e := by obtain ⟨j, hj, _, hj2⟩ := hx; omega
          have HX := Lib.hid hx
          clear hx
          go_wp2
          go_round
          case rel => exact ⟨k * 2, e - 1, by omega, by omega, by go_num, rfl, by omega, by omega, HX.out⟩
          case measure => simp [intOf]; omega
        · have HF := Lib.hid (u64_fields false (e - n + 1023) k (by omega) (by omega) (by omega) hk)
          have HD := Lib.hid (HG.out.done ha1 (by omega) hk)
          go_wp2
          go_ret2
          refine ⟨?_, rfl⟩
          have hvw := Qf.valw_fields (a : Int) n HV.out h1 h2 k e (by rw [← HA.out]; exact HD.out) (by omega)
          have hsg : decide ((a : Int) < 0) = false := by simp
          rw [hvw, hsg]
          have := HF.out
          simp only [Bool.false_eq_true, if_false] at this
          exact ret_back this
theorem refBack_no (v n : Int) (w : World) (h : Qf.okS n = false) :
    Calls Try.prog 15 #[.int .i32 v, .int .i64 n] w fun e w' => e = .returned (.tuple #[.int .u64 0, .int .i64 2]) ∧ w = w' := by
  have ho := Qf.okS_false h
  clear h
  rcases ho with h | ⟨h1, h2⟩
  all_goals
    go_enter Try.func15, Try.ntmps15
    go_wp2
    go_ret2
    exact ⟨rfl, rfl⟩

namespace Qf
/-- A finite word has one reading alone. -/
theorem fin_parts {x : Nat} {s : Bool} {u : Nat} (hx : x < 18446744073709551616) (h : Fin x s u) : rung x < 9218868437227405312 ∧ sgn x = s ∧ un x = u := by
  obtain ⟨m, i, hr, hi, hu⟩ := h
  rcases Nat.lt_trichotomy (rung x) 9218868437227405312 with h1 | h1 | h1
  · rw [read_fin hx h1] at hr
    injection hr with e1 e2 e3
    refine ⟨h1, e1, ?_⟩
    rw [← hu, ← e2, ← e3]
    unfold un
    congr 2
    omega
  · rw [inf_of hx h1] at hr
    cases hr
  · rw [nan_of hx h1] at hr
    cases hr

theorem valw_lt (v n : Int) (hv1 : -2147483648 ≤ v) (hv2 : v ≤ 2147483647) (h1 : -64 ≤ n) (h2 : n ≤ 64) : valw v n < 18446744073709551616 := by
  have h := (val_spec v n (by omega) h1 h2).1
  have := Ieee.Format.mul_lt Ieee.double h
  rw [show (2 : Nat) ^ Ieee.double.width = 18446744073709551616 by decide] at this
  exact this

/-- What stands for v times two to the less n. -/
theorem valw_parts (v n : Int) (hv1 : -2147483648 ≤ v) (hv2 : v ≤ 2147483647) (h1 : -64 ≤ n) (h2 : n ≤ 64) :
    rung (valw v n) < 9218868437227405312 ∧ sgn (valw v n) = decide (v < 0) ∧ un (valw v n) = v.natAbs * gr n :=
  fin_parts (valw_lt v n hv1 hv2 h1 h2) (val_spec v n (by omega) h1 h2).2

theorem back_and (v n : Int) (hv1 : -2147483648 ≤ v) (hv2 : v ≤ 2147483647) (hs : okS n = true) :
    qv (valw v n) n = v ∧ qm (valw v n) n = 0 ∧ qe (valw v n) n = 0 := by
  obtain ⟨h1, h2⟩ := okS_true hs
  obtain ⟨a1, a2, a3⟩ := valw_parts v n hv1 hv2 h1 h2
  have hn : isN (valw v n) = false := by unfold isN; simp; omega
  obtain ⟨e1, e2, e3⟩ := quant_ok hs hn
  have hbig : big (valw v n) n = v.natAbs := by
    unfold big
    rw [if_pos a1, a3, rhe_exact _ _ (gr_pos n)]
  have hmod : un (valw v n) % gr n = 0 := by rw [a3, Nat.mul_mod_left]
  rw [e1, e2, e3]
  refine ⟨?_, ?_, rfl⟩
  · by_cases h : v < 0
    · rw [wv_neg n (by rw [a2]; simp [h]), hbig, if_neg (by omega)]
      omega
    · rw [wv_pos n (by rw [a2]; simp; omega), hbig, if_neg (by omega)]
      omega
  · unfold wm clip
    rw [hmod, hbig, a2]
    by_cases h : v < 0
    · have c1 : ¬ 2147483648 < v.natAbs := by omega
      have c2 : ¬ v.natAbs = 0 := by omega
      simp [h, c1]; omega
    · have c1 : ¬ 2147483647 < v.natAbs := by omega
      simp [h, c1]
end Qf

set_option maxHeartbeats 800000 in
set_option maxRecDepth 20000 in
theorem backLaw_any (v n : Int) (w : World) (hv1 : -2147483648 ≤ v) (hv2 : v ≤ 2147483647) :
    Calls Try.prog 4 #[.int .i32 v, .int .i64 n] w fun e w' => e = .returned (.bool true) ∧ w = w' := by
  cases hs : Qf.okS n
  · have HS := Lib.hid hs
    clear hs
    go_enter Try.func4, Try.ntmps4
    go_wp2_with fail
    refine (back_no _ _ _ HS.out).mono ?_
    rintro e w' ⟨rfl, rfl⟩
    go_wp2_with fail
    refine (refBack_no _ _ _ HS.out).mono ?_
    rintro e w' ⟨rfl, rfl⟩
    go_wp2_with fail
    refine (known_any _).mono ?_
    rintro e w' ⟨rfl, rfl⟩
    go_wp2_with fail
    go_ret
    exact ⟨rfl, rfl⟩
  · obtain ⟨h1, h2⟩ := Qf.okS_true hs
    obtain ⟨b1, b2, b3⟩ := Qf.back_and v n hv1 hv2 hs
    have hlt := Qf.valw_lt v n hv1 hv2 h1 h2
    have QB := Lib.hid (show ∀ w, Calls Try.prog _ _ w _ from fun w => quant_with (Qf.valw v n) n w hlt v 0 0 b1 b2 b3)
    have HS := Lib.hid hs
    clear hs b1 b2 b3 hlt
    go_enter Try.func4, Try.ntmps4
    go_wp2_with fail
    refine (back_yes _ _ _ hv1 hv2 HS.out).mono ?_
    rintro e w' ⟨rfl, rfl⟩
    go_wp2_with fail
    refine (refBack_any _ _ _ hv1 hv2 HS.out).mono ?_
    rintro e w' ⟨rfl, rfl⟩
    go_wp2_with fail
    refine (QB.out _).mono ?_
    rintro e w' ⟨rfl, rfl⟩
    go_wp2_with fail
    refine (known_any _).mono ?_
    rintro e w' ⟨rfl, rfl⟩
    go_wp2_with fail
    go_ret
    exact ⟨rfl, rfl⟩
end Go.Proofs.Ytemamkbcagnigaa
