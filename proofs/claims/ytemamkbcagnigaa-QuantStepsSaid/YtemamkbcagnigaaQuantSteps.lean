/- What the law QuantSteps answers, for every whole number of 32 bits and every two scales. Conditions: none but the arguments' own ranges. -/
import Derived.Test.YtemamkbcagnigaaQuantDown
namespace Go.Proofs.Ytemamkbcagnigaa
open Go.RowKit

namespace Qf
theorem isN_valw (v n : Int) (hv1 : -2147483648 ≤ v) (hv2 : v ≤ 2147483647) (h1 : -64 ≤ n) (h2 : n ≤ 64) : isN (valw v n) = false := by
  obtain ⟨a1, -, -⟩ := valw_parts v n hv1 hv2 h1 h2
  unfold isN; simp; omega

theorem ans_clip_pos' {x : Nat} {n : Int} (h : sgn x = false) (hb : 2147483647 < big x n) : wv x n = 2147483647 ∧ wm x n = 2 := by
  unfold wv wm clip
  rw [h]
  simp [hb]
theorem ans_clip_neg' {x : Nat} {n : Int} (h : sgn x = true) (hb : 2147483648 < big x n) : wv x n = -2147483648 ∧ wm x n = 2 := by
  unfold wv wm clip
  rw [h]
  simp [hb]
theorem ans_pos' {x : Nat} {n : Int} (h : sgn x = false) (hb : ¬ 2147483647 < big x n) : wv x n = big x n ∧ wm x n = if un x % gr n = 0 then 0 else 1 := by
  unfold wv wm clip sg
  rw [h]
  simp [hb]
theorem ans_neg' {x : Nat} {n : Int} (h : sgn x = true) (h0 : big x n ≠ 0) (hb : ¬ 2147483648 < big x n) : wv x n = -(big x n : Int) ∧ wm x n = if un x % gr n = 0 then 0 else 1 := by
  unfold wv wm clip sg
  rw [h]
  simp [hb, h0]

/-- More bits: the number times as many twos, or clipped. -/
theorem steps_up (v f t : Int) (hv1 : -2147483648 ≤ v) (hv2 : v ≤ 2147483647) (hf : okS f = true) (ht : okS t = true) (h : f ≤ t) :
    (v * 2 ^ (t - f).toNat < -2147483648 ∧ wv (valw v f) t = -2147483648 ∧ wm (valw v f) t = 2) ∨
    (2147483647 < v * 2 ^ (t - f).toNat ∧ wv (valw v f) t = 2147483647 ∧ wm (valw v f) t = 2) ∨
    (-2147483648 ≤ v * 2 ^ (t - f).toNat ∧ v * 2 ^ (t - f).toNat ≤ 2147483647 ∧ wv (valw v f) t = v * 2 ^ (t - f).toNat ∧ wm (valw v f) t = 0) := by
  obtain ⟨f1, f2⟩ := okS_true hf
  obtain ⟨t1, t2⟩ := okS_true ht
  obtain ⟨a1, a2, a3⟩ := valw_parts v f hv1 hv2 f1 f2
  have hg : gr f = 2 ^ (t - f).toNat * gr t := by
    unfold gr
    rw [← Nat.pow_add]
    congr 1
    omega
  have hbig : big (valw v f) t = v.natAbs * 2 ^ (t - f).toNat := by
    unfold big
    rw [if_pos a1, a3, hg, ← Nat.mul_assoc, rhe_exact _ _ (gr_pos t)]
  have hmod : un (valw v f) % gr t = 0 := by rw [a3, hg, ← Nat.mul_assoc, Nat.mul_mod_left]
  have hP : v * 2 ^ (t - f).toNat = if v < 0 then -((big (valw v f) t : Nat) : Int) else ((big (valw v f) t : Nat) : Int) := by
    rw [hbig, Int.natCast_mul]
    by_cases hv : v < 0
    · rw [if_pos hv, ← Int.neg_mul]
      congr 1
      omega
    · rw [if_neg hv]
      congr 1
      omega
  rw [hP]
  by_cases hv : v < 0
  · rw [if_pos hv]
    have hs : sgn (valw v f) = true := by rw [a2]; simp [hv]
    have hb0 : big (valw v f) t ≠ 0 := by
      rw [hbig]
      have := two_pow_pos (t - f).toNat
      intro h
      rcases Nat.mul_eq_zero.1 h with h | h <;> omega
    by_cases hc : 2147483648 < big (valw v f) t
    · obtain ⟨e1, e2⟩ := ans_clip_neg' hs hc
      exact .inl ⟨by omega, e1, e2⟩
    · obtain ⟨e1, e2⟩ := ans_neg' hs hb0 hc
      rw [hmod] at e2
      exact .inr (.inr ⟨by omega, by omega, e1, by rw [e2]; rfl⟩)
  · rw [if_neg hv]
    have hs : sgn (valw v f) = false := by rw [a2]; simp; omega
    by_cases hc : 2147483647 < big (valw v f) t
    · obtain ⟨e1, e2⟩ := ans_clip_pos' hs hc
      exact .inr (.inl ⟨by omega, e1, e2⟩)
    · obtain ⟨e1, e2⟩ := ans_pos' hs hc
      rw [hmod] at e2
      exact .inr (.inr ⟨by omega, by omega, e1, by rw [e2]; rfl⟩)

/-- Floored and truncated division, and half to even, of a number below nought. -/
theorem half_even (v : Int) (d : Nat) (hd : 0 < d) (q r : Int) (h : v = q * d + r) (h0 : 0 ≤ r) (h1 : r < d) :
    sg (decide (v < 0)) (rhe v.natAbs d) = (if (d : Int) < 2 * r ∨ (2 * r = d ∧ q % 2 ≠ 0) then q + 1 else q) ∧ (v.natAbs % d = 0 ↔ r = 0) := by
  obtain ⟨R, rfl⟩ := Int.eq_ofNat_of_zero_le h0
  by_cases hv : v < 0
  · have hq : q < 0 := by
      rcases Int.lt_or_le q 0 with h2 | h2
      · exact h2
      · have := Int.mul_nonneg h2 (show (0 : Int) ≤ d by omega)
        omega
    obtain ⟨Q, rfl⟩ : ∃ Q : Nat, q = -((Q : Int) + 1) := ⟨(-q - 1).toNat, by omega⟩
    have ha : (v.natAbs : Int) = ((Q + 1) * d : Nat) - (R : Int) := by
      rw [Int.natCast_mul, Int.natCast_add]
      rw [Int.neg_mul] at h
      have : ((Q : Int) + 1) * (d : Int) = ((Q : Int) + (1 : Nat)) * (d : Int) := by simp
      omega
    have hexp : (Q + 1) * d = Q * d + d := by rw [Nat.add_mul, Nat.one_mul]
    by_cases hR : R = 0
    · subst hR
      have hn : v.natAbs = (Q + 1) * d := by omega
      rw [hn, rhe_exact _ _ hd, Nat.mul_mod_left]
      refine ⟨?_, by simp⟩
      rw [if_neg (by omega)]
      unfold sg
      simp [hv]
    · have hn : v.natAbs = Q * d + (d - R) := by omega
      have hdiv : v.natAbs / d = Q := by
        rw [hn, Nat.add_comm, Nat.add_mul_div_right _ _ hd, Nat.div_eq_of_lt (by omega), Nat.zero_add]
      have hmod : v.natAbs % d = d - R := by
        rw [hn, Nat.add_comm, Nat.add_mul_mod_self_right, Nat.mod_eq_of_lt (by omega)]
      refine ⟨?_, by rw [hmod]; omega⟩
      unfold rhe sg
      rw [hdiv, hmod]
      simp only [hv, decide_true, if_true]
      by_cases c : d < 2 * (d - R) ∨ (d = 2 * (d - R) ∧ Q % 2 = 1)
      · rw [if_pos c, if_neg (by omega)]; omega
      · rw [if_neg c, if_pos (by omega)]; omega
  · obtain ⟨a, rfl⟩ := Int.eq_ofNat_of_zero_le (show 0 ≤ v by omega)
    have hq : 0 ≤ q := by
      rcases Int.lt_or_le q 0 with h2 | h2
      · exfalso
        have h3 : q * (d : Int) ≤ -1 * (d : Int) := Int.mul_le_mul_of_nonneg_right (by omega) (by omega)
        omega
      · exact h2
    obtain ⟨Q, rfl⟩ := Int.eq_ofNat_of_zero_le hq
    have hn : a = Q * d + R := by
      have : ((Q * d : Nat) : Int) = (Q : Int) * (d : Int) := Int.natCast_mul _ _
      omega
    have hdiv : a / d = Q := by
      rw [hn, Nat.add_comm, Nat.add_mul_div_right _ _ hd, Nat.div_eq_of_lt (by omega), Nat.zero_add]
    have hmod : a % d = R := by
      rw [hn, Nat.add_comm, Nat.add_mul_mod_self_right, Nat.mod_eq_of_lt (by omega)]
    rw [Int.natAbs_natCast]
    refine ⟨?_, by rw [hmod]; omega⟩
    unfold rhe sg
    rw [hdiv, hmod]
    have : decide ((a : Int) < 0) = false := by simp
    rw [this]
    simp only [Bool.false_eq_true, if_false]
    by_cases c : d < 2 * R ∨ (d = 2 * R ∧ Q % 2 = 1)
    · rw [if_pos c, if_pos (by omega)]; omega
    · rw [if_neg c, if_neg (by omega)]; omega

/-- Fewer bits: divided by as many twos, half to even. -/
theorem steps_down (v f t : Int) (hv1 : -2147483648 ≤ v) (hv2 : v ≤ 2147483647) (hf : okS f = true) (ht : okS t = true) (h : t < f) (d : Nat) (hd : d = 2 ^ (min (f - t) 40).toNat) (q r : Int) (hq : v = q * d + r) (h0 : 0 ≤ r) (h1 : r < d) :
    wv (valw v f) t = (if (d : Int) < 2 * r ∨ (2 * r = d ∧ q % 2 ≠ 0) then q + 1 else q) ∧
    wm (valw v f) t = (if r = 0 then 0 else 1) + (if wv (valw v f) t = 0 ∧ v < 0 then 4 else 0) := by
  obtain ⟨f1, f2⟩ := okS_true hf
  obtain ⟨t1, t2⟩ := okS_true ht
  obtain ⟨a1, a2, a3⟩ := valw_parts v f hv1 hv2 f1 f2
  have hdp : 0 < d := by rw [hd]; exact two_pow_pos _
  have hg : gr t = 2 ^ (f - t).toNat * gr f := by
    unfold gr
    rw [← Nat.pow_add]
    congr 1
    omega
  have hbig : big (valw v f) t = rhe v.natAbs (2 ^ (f - t).toNat) := by
    unfold big
    rw [if_pos a1, a3, hg, rhe_scale _ _ _ (gr_pos f)]
  have hmod : un (valw v f) % gr t = v.natAbs % 2 ^ (f - t).toNat * gr f := by rw [a3, hg, Nat.mul_mod_mul_right]
  have hfar : rhe v.natAbs (2 ^ (f - t).toNat) = rhe v.natAbs d ∧ v.natAbs % 2 ^ (f - t).toNat = v.natAbs % d := by
    rcases Int.le_total (f - t) 40 with hl | hl
    · rw [hd, show min (f - t) 40 = f - t by omega]
      exact ⟨rfl, rfl⟩
    · have e40 : d = 1099511627776 := by rw [hd, show min (f - t) 40 = 40 by omega]; decide
      have hp : 2 ^ 40 ≤ 2 ^ (f - t).toNat := Nat.pow_le_pow_right (by decide) (by omega)
      have h40 : (2 : Nat) ^ 40 = 1099511627776 := by decide
      rw [h40] at hp
      generalize 2 ^ (f - t).toNat = G at hp
      rw [rhe_small (by omega), rhe_small (by omega), Nat.mod_eq_of_lt (by omega), Nat.mod_eq_of_lt (by omega)]
      exact ⟨rfl, rfl⟩
  obtain ⟨k1, k2⟩ := half_even v d hdp q r hq h0 h1
  rw [hfar.1] at hbig
  rw [hfar.2] at hmod
  have h2d : 2 ≤ d := by
    rw [hd]
    have := Nat.pow_le_pow_right (n := 2) (by decide) (show 1 ≤ (min (f - t) 40).toNat by omega)
    simpa using this
  have hle : rhe v.natAbs d ≤ 1073741825 := by
    have h3 := @rhe_le v.natAbs d
    have h4 : v.natAbs / d ≤ v.natAbs / 2 := Nat.div_le_div_left h2d (by decide)
    omega
  have hz : un (valw v f) % gr t = 0 ↔ r = 0 := by
    rw [hmod, ← k2]
    constructor
    · intro h
      rcases Nat.mul_eq_zero.1 h with h | h
      · exact h
      · have := gr_pos f; omega
    · intro h; rw [h, Nat.zero_mul]
  have hclip : clip (valw v f) t = false := by
    unfold clip
    rw [hbig]
    split <;> (simp; omega)
  have hwv : wv (valw v f) t = sg (decide (v < 0)) (rhe v.natAbs d) := by
    unfold wv
    rw [hclip, hbig, a2]
    rfl
  refine ⟨by rw [hwv, k1], ?_⟩
  unfold wm
  rw [hclip, hwv, hbig, a2]
  simp only [Bool.false_eq_true, if_false, hz, decide_eq_true_eq]
  have hs0 : sg (decide (v < 0)) (rhe v.natAbs d) = 0 ↔ rhe v.natAbs d = 0 := by
    unfold sg
    cases decide (v < 0) <;> simp
  simp only [hs0]
theorem wrap64_in {x : Int} (h1 : -9223372036854775808 ≤ x) (h2 : x ≤ 9223372036854775807) : wrap64 x = x := by
  unfold wrap64; omega

theorem twos_bounds (k : Nat) (h1 : 1 ≤ k) (h2 : k ≤ 40) : 2 ≤ 2 ^ k ∧ 2 ^ k ≤ 1099511627776 := by
  have a1 := Nat.pow_le_pow_right (n := 2) (by decide) h1
  have a2 := Nat.pow_le_pow_right (n := 2) (by decide) h2
  rw [show (2 : Nat) ^ 40 = 1099511627776 by decide] at a2
  exact ⟨by simpa using a1, a2⟩

theorem quot_bounds (v q r : Int) (d : Nat) (hv1 : -2147483648 ≤ v) (hv2 : v ≤ 2147483647) (hd : 2 ≤ d) (h : v = q * d + r) (h0 : 0 ≤ r) (h1 : r < d) : -2147483649 ≤ q ∧ q ≤ 2147483649 := by
  constructor
  · rcases Int.lt_or_le q (-2147483649) with hq | hq
    · exfalso
      have := Int.mul_le_mul_of_nonneg_right (show q ≤ -2147483650 by omega) (show (0 : Int) ≤ d by omega)
      omega
    · exact hq
  · rcases Int.lt_or_le 2147483649 q with hq | hq
    · exfalso
      have := Int.mul_le_mul_of_nonneg_right (show 2147483650 ≤ q by omega) (show (0 : Int) ≤ d by omega)
      omega
    · exact hq

/-- The law's own shift, of at most 32 places. -/
theorem shifted (v f t : Int) (hv1 : -2147483648 ≤ v) (hv2 : v ≤ 2147483647) (hle : f ≤ t) :
    ∃ S : Int, (t - f ≤ 32 → wrap64 (v * 2 ^ (t - f).toNat) = S) ∧ (32 < t - f → v * 4294967296 = S ∧ wrap64 S = S) ∧
      (v * 2 ^ (t - f).toNat < -2147483648 → ¬ S = -2147483648) ∧ (2147483647 < v * 2 ^ (t - f).toNat → ¬ S = 2147483647) ∧
      (-2147483648 ≤ v * 2 ^ (t - f).toNat → v * 2 ^ (t - f).toNat ≤ 2147483647 → S = v * 2 ^ (t - f).toNat) := by
  rcases Int.lt_or_le 32 (t - f) with h | h
  · refine ⟨v * 4294967296, by omega, fun _ => ⟨rfl, wrap64_in (by omega) (by omega)⟩, by omega, by omega, ?_⟩
    intro p1 p2
    have hp : (4294967296 : Int) ≤ 2 ^ (t - f).toNat := by
      have h1 : 2 ^ 32 ≤ 2 ^ (t - f).toNat := Nat.pow_le_pow_right (by decide) (by omega)
      have h2 : (2 : Nat) ^ 32 = 4294967296 := by decide
      rw [h2] at h1
      have h3 : ((2 ^ (t - f).toNat : Nat) : Int) = 2 ^ (t - f).toNat := by simp
      omega
    generalize (2 : Int) ^ (t - f).toNat = G at *
    have hv0 : v = 0 := by
      rcases Int.lt_trichotomy v 0 with hv | hv | hv
      · exfalso
        have h4 : v * G ≤ -1 * G := Int.mul_le_mul_of_nonneg_right (by omega) (by omega)
        omega
      · exact hv
      · exfalso
        have h4 : 1 * G ≤ v * G := Int.mul_le_mul_of_nonneg_right (by omega) (by omega)
        omega
    subst hv0
    simp
  · have hp : (2 : Int) ^ (t - f).toNat ≤ 4294967296 ∧ 1 ≤ (2 : Int) ^ (t - f).toNat := by
      have h1 : 2 ^ (t - f).toNat ≤ 2 ^ 32 := Nat.pow_le_pow_right (by decide) (by omega)
      have h2 : (2 : Nat) ^ 32 = 4294967296 := by decide
      rw [h2] at h1
      have h3 : ((2 ^ (t - f).toNat : Nat) : Int) = 2 ^ (t - f).toNat := by simp
      have h4 := two_pow_pos (t - f).toNat
      omega
    generalize (2 : Int) ^ (t - f).toNat = G at *
    have hb : -9223372036854775808 ≤ v * G ∧ v * G ≤ 9223372036854775807 := by
      have h5 : -2147483648 * G ≤ v * G := Int.mul_le_mul_of_nonneg_right hv1 (by omega)
      have h6 : v * G ≤ 2147483647 * G := Int.mul_le_mul_of_nonneg_right hv2 (by omega)
      omega
    refine ⟨v * G, fun _ => wrap64_in hb.1 hb.2, by omega, by omega, by omega, fun _ _ => rfl⟩

/-- Where the law's loop is left early, the whole product is beyond the bounds. -/
theorem doubled (v f t : Int) (j : Nat) (k : Int) (hk : k = v * 2 ^ j) (h : f + (j : Int) < t) :
    (1099511627776 < k * 2 → 1099511627776 < v * 2 ^ (t - f).toNat) ∧ (k * 2 < -1099511627776 → v * 2 ^ (t - f).toNat < -1099511627776) := by
  have e : v * 2 ^ (t - f).toNat = k * 2 * 2 ^ ((t - f).toNat - j - 1) := by
    rw [hk, show (t - f).toNat = j + (1 + ((t - f).toNat - j - 1)) by omega, Int.pow_add, Int.pow_add, ← Int.mul_assoc, ← Int.mul_assoc]
    have : j + (1 + ((t - f).toNat - j - 1)) - j - 1 = (t - f).toNat - j - 1 := by omega
    rw [this]
    rfl
  have h1 : (1 : Int) ≤ 2 ^ ((t - f).toNat - j - 1) := by
    have h3 : ((2 ^ ((t - f).toNat - j - 1) : Nat) : Int) = 2 ^ ((t - f).toNat - j - 1) := by simp
    have h4 := two_pow_pos ((t - f).toNat - j - 1)
    omega
  rw [e]
  generalize (2 : Int) ^ ((t - f).toNat - j - 1) = G at *
  constructor
  · intro h2
    have := Int.mul_le_mul_of_nonneg_left h1 (show 0 ≤ k * 2 by omega)
    omega
  · intro h2
    have := Int.mul_le_mul_of_nonpos_left (a := k * 2) (by omega) h1
    omega
end Qf

set_option maxHeartbeats 3200000 in
set_option maxRecDepth 100000 in
theorem steps_any (v f t : Int) (w : World) (hv1 : -2147483648 ≤ v) (hv2 : v ≤ 2147483647) :
    Calls Try.prog 8 #[.int .i32 v, .int .i64 f, .int .i64 t] w fun e w' => e = .returned (.bool true) ∧ w = w' := by
  cases hf : Qf.okS f
  · obtain ⟨e1, h1⟩ : ∃ e, Qf.qe 0 t = e := ⟨_, rfl⟩
    have he : e1 = 0 ∨ e1 = 2 := by
      rw [← h1]
      unfold Qf.qe
      cases Qf.okS t
      · right; rfl
      · left; rfl
    have QA := Lib.hid (show ∀ w, Calls Try.prog _ _ w _ from fun w => quant_with 0 t w (by decide) _ _ _ rfl rfl h1)
    have HF := Lib.hid hf
    clear hf h1
    rcases he with rfl | rfl
    all_goals
      go_enter Try.func8, Try.ntmps8
      go_wp2_with fail
      refine (back_no _ _ _ HF.out).mono ?_
      rintro e w' ⟨rfl, rfl⟩
      go_wp2_with fail
      refine (QA.out _).mono ?_
      rintro e w' ⟨rfl, rfl⟩
      go_wp2_with fail
      refine (known_any _).mono ?_
      rintro e w' ⟨rfl, rfl⟩
      go_wp2_with fail
      go_ret
      exact ⟨rfl, rfl⟩
  · obtain ⟨f1, f2⟩ := Qf.okS_true hf
    have hlt := Qf.valw_lt v f hv1 hv2 f1 f2
    cases ht : Qf.okS t
    · have h1 : Qf.qe (Qf.valw v f) t = 2 := by unfold Qf.qe; rw [ht]; rfl
      have QA := Lib.hid (show ∀ w, Calls Try.prog _ _ w _ from fun w => quant_with (Qf.valw v f) t w hlt _ _ _ rfl rfl h1)
      have HF := Lib.hid hf
      clear hf h1 ht
      go_enter Try.func8, Try.ntmps8
      go_wp2_with fail
      refine (back_yes _ _ _ hv1 hv2 HF.out).mono ?_
      rintro e w' ⟨rfl, rfl⟩
      go_wp2_with fail
      refine (QA.out _).mono ?_
      rintro e w' ⟨rfl, rfl⟩
      go_wp2_with fail
      refine (known_any _).mono ?_
      rintro e w' ⟨rfl, rfl⟩
      go_wp2_with fail
      go_ret
      exact ⟨rfl, rfl⟩
    · obtain ⟨t1, t2⟩ := Qf.okS_true ht
      have hn := Qf.isN_valw v f hv1 hv2 f1 f2
      obtain ⟨k1, k2, k3⟩ := quant_ok ht hn
      rcases Int.lt_or_le t f with hlt2 | hle
      · obtain ⟨d, hd⟩ : ∃ d : Nat, d = 2 ^ (min (f - t) 40).toNat := ⟨_, rfl⟩
        obtain ⟨hd1, hd2⟩ := Qf.twos_bounds (min (f - t) 40).toNat (by omega) (by omega)
        rw [← hd] at hd1 hd2
        obtain ⟨q, hq⟩ : ∃ q : Int, q = v / (d : Int) := ⟨_, rfl⟩
        obtain ⟨r, hr⟩ : ∃ r : Int, r = v % (d : Int) := ⟨_, rfl⟩
        have hqr : v = q * d + r := by
          rw [hq, hr, Int.mul_comm]
          exact (Int.mul_ediv_add_emod v d).symm
        have h0 : 0 ≤ r := by rw [hr]; exact Int.emod_nonneg _ (by omega)
        have h1 : r < d := by rw [hr]; exact Int.emod_lt_of_pos _ (by omega)
        obtain ⟨w1, w2⟩ := Qf.steps_down v f t hv1 hv2 hf ht hlt2 d hd q r hqr h0 h1
        have hqb := Qf.quot_bounds v q r d hv1 hv2 hd1 hqr h0 h1
        obtain ⟨B1, B2, b1, b2, b3, b4⟩ := marks_of _ r _ v w2
        refine stepsDown_any v f t w hv1 hv2 hf ht hlt2 q r d ?_ h0 h1 (by omega) (by omega) hqb.1 hqb.2 (cut_of v q r d (by omega) hqr h0 h1) _ _ (Lib.hid (fun w => quant_with (Qf.valw v f) t w hlt _ _ _ k1 k2 k3)) (half_of _ _ _ _ w1) B1 B2 b1 b2 b3 b4
        rcases Int.lt_or_le 40 (f - t) with h | h
        · refine .inr ⟨h, ?_⟩
          rw [hd, show min (f - t) 40 = 40 by omega]
          rfl
        · refine .inl ⟨h, ?_⟩
          have e : (2 : Int) ^ (f - t).toNat = (d : Int) := by
            rw [hd, show min (f - t) 40 = f - t by omega]
            simp
          rw [e]
          exact Qf.wrap64_in (by omega) (by omega)
      · have hup := Qf.steps_up v f t hv1 hv2 hf ht hle
        have HF := Lib.hid hf
        clear hn ht hf
        obtain ⟨u, hu⟩ : ∃ u, Qf.wv (Qf.valw v f) t = u := ⟨_, rfl⟩
        obtain ⟨m, hm⟩ : ∃ m, Qf.wm (Qf.valw v f) t = m := ⟨_, rfl⟩
        rw [hu] at hup k1
        rw [hm] at hup k2
        have QA := Lib.hid (show ∀ w, Calls Try.prog _ _ w _ from fun w => quant_with (Qf.valw v f) t w hlt _ _ _ k1 k2 k3)
        clear k1 k2 k3 hu hm hlt
        have HU := Lib.hid hup
        clear hup
        go_enter Try.func8, Try.ntmps8
        go_wp2_with fail
        refine (back_yes _ _ _ hv1 hv2 HF.out).mono ?_
        rintro e w' ⟨rfl, rfl⟩
        go_wp2_with fail
        refine (QA.out _).mono ?_
        rintro e w' ⟨rfl, rfl⟩
        go_wp2_with fail
        obtain ⟨S, s1, s2, s3, s4, s5⟩ := Qf.shifted v f t hv1 hv2 hle
        have S3 := Lib.hid s3
        have S4 := Lib.hid s4
        have S5 := Lib.hid s5
        clear s3 s4 s5
        go_loop [12, 13] (fun s r => ∃ (j : Nat) (k : Int), s = .int .i64 k ∧ r = .int .i64 (f + (j : Int)) ∧ f + (j : Int) ≤ t ∧ k = v * 2 ^ j ∧ -1099511627776 ≤ k ∧ k ≤ 1099511627776) (fun _ r => (t - intOf r).toNat)
        case atStart => exact ⟨0, v, rfl, by simp, by omega, by simp, by omega, by omega⟩
        case round =>
          obtain ⟨j, k, rfl, rfl, hj, hk, hk1, hk2⟩ := hrel
          have HK := Lib.hid hk
          clear hk
          have hS : (t - f ≤ 32 ∧ wrap64 (v * 2 ^ (t - f).toNat) = S) ∨ (32 < t - f ∧ v * 4294967296 = S ∧ wrap64 S = S) := by
            rcases Int.lt_or_le 32 (t - f) with h | h
            · exact .inr ⟨h, s2 h⟩
            · exact .inl ⟨h, s1 h⟩
          clear s1 s2
          rcases hS with ⟨g1, g2⟩ | ⟨g1, g2⟩
          all_goals
            by_cases hjt : f + (j : Int) < t
            · obtain ⟨p1, p2⟩ := Qf.doubled v f t j k HK.out hjt
              by_cases b1 : 1099511627776 < k * 2
              · have hp := p1 b1
                rcases HU.out with ⟨c1, c2, c3⟩ | ⟨c1, c2, c3⟩ | ⟨c1, c4, c2, c3⟩
                · exfalso; omega
                · have s6 := S4.out c1
                  subst c2 c3
                  clear p1 p2 hp c1
                  go_wp2_with fail
                  refine (known_any _).mono ?_
                  rintro e w' ⟨rfl, rfl⟩
                  go_wp2_with fail
                  go_ret
                  exact ⟨rfl, rfl⟩
                · exfalso; omega
              · by_cases b2 : k * 2 < -1099511627776
                · have hp := p2 b2
                  rcases HU.out with ⟨c1, c2, c3⟩ | ⟨c1, c2, c3⟩ | ⟨c1, c4, c2, c3⟩
                  · have s6 := S3.out c1
                    subst c2 c3
                    clear p1 p2 hp c1
                    go_wp2_with fail
                    refine (known_any _).mono ?_
                    rintro e w' ⟨rfl, rfl⟩
                    go_wp2_with fail
                    go_ret
                    first | exact ⟨rfl, rfl⟩ | exact ⟨ret_bool (by simpa using s6), rfl⟩
                  · exfalso; omega
                  · exfalso; omega
                · clear p1 p2 g2
                  go_wp2_with fail
                  go_round
                  case rel => exact ⟨j + 1, k * 2, rfl, by go_num, by omega, by rw [HK.out, Int.pow_succ, Int.mul_assoc], by omega, by omega⟩
                  case measure => simp [intOf]; omega
            · have hN : v * 2 ^ (t - f).toNat = k := by rw [HK.out]; congr 2; omega
              have HU2 := HU.out
              rw [hN] at HU2 
              have S3' := S3.out
              have S4' := S4.out
              have S5' := S5.out
              rw [hN] at S3' S4' S5'
              have g3 := g2
              try rw [hN] at g3
              clear hN
              rcases HU2 with ⟨c1, c2, c3⟩ | ⟨c1, c2, c3⟩ | ⟨c1, c4, c2, c3⟩
              · have s6 := S3' c1
                subst c2 c3
                clear S3' S4' S5' g3
                go_wp2_with fail
                refine (known_any _).mono ?_
                rintro e w' ⟨rfl, rfl⟩
                go_wp2_with fail
                go_ret
                first | exact ⟨rfl, rfl⟩ | exact ⟨ret_bool (by simpa using s6), rfl⟩
              · have s6 := S4' c1
                subst c2 c3
                clear S3' S4' S5' g3
                go_wp2_with fail
                refine (known_any _).mono ?_
                rintro e w' ⟨rfl, rfl⟩
                go_wp2_with fail
                go_ret
                exact ⟨rfl, rfl⟩
              · have s6 := S5' c1 c4
                clear S3' S4' S5' HU HK S3 S4 S5
                subst c2 c3
                rw [s6] at g2
                try rw [s6] at g3
                clear s6
                by_cases z1 : u = 2147483647
                · subst z1
                  go_wp2_with fail
                  refine (known_any _).mono ?_
                  rintro e w' ⟨rfl, rfl⟩
                  go_wp2_with fail
                  go_ret
                  exact ⟨rfl, rfl⟩
                · by_cases z2 : u = -2147483648
                  · subst z2
                    go_wp2_with fail
                    refine (known_any _).mono ?_
                    rintro e w' ⟨rfl, rfl⟩
                    go_wp2_with fail
                    go_ret
                    exact ⟨rfl, rfl⟩
                  · have z3 : -2147483648 < u := by omega
                    have z4 : u < 2147483647 := by omega
                    clear c1 c4 z1 z2
                    go_wp2_with fail
                    refine (known_any _).mono ?_
                    rintro e w' ⟨rfl, rfl⟩
                    go_wp2_with fail
                    go_ret
                    exact ⟨rfl, rfl⟩
end Go.Proofs.Ytemamkbcagnigaa
