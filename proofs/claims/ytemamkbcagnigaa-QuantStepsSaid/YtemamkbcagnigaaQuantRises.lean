/- What the law QuantRises answers, for every two floats and every scale. Conditions: none but the arguments' own ranges. -/
import Derived.Test.YtemamkbcagnigaaQuantTotal
import Derived.Lib.Hide
namespace Go.Proofs.Ytemamkbcagnigaa
open Go.RowKit

namespace Qf
theorem okS_iff (n : Int) : okS n = true ↔ -64 ≤ n ∧ n ≤ 64 := by simp [okS]

theorem big_same {a b : Nat} (h : rung a = rung b) (n : Int) : big a n = big b n ∧ un a = un b := by
  unfold big un mant noughts
  rw [h]
  exact ⟨rfl, rfl⟩

theorem wv_bounds (x : Nat) (n : Int) : -2147483648 ≤ wv x n ∧ wv x n ≤ 2147483647 := by
  unfold wv clip sg
  cases hs : sgn x with
  | true =>
    simp only [if_true]
    by_cases h : 2147483648 < big x n
    · simp [h]
    · simp [h]; omega
  | false =>
    simp only [Bool.false_eq_true, if_false]
    by_cases h : 2147483647 < big x n
    · simp [h]
    · simp [h]; omega

theorem wv_pos {x : Nat} (n : Int) (h : sgn x = false) : wv x n = if 2147483647 < big x n then 2147483647 else (big x n : Int) := by
  unfold wv clip sg
  rw [h]
  simp

theorem wv_neg {x : Nat} (n : Int) (h : sgn x = true) : wv x n = if 2147483648 < big x n then -2147483648 else -(big x n : Int) := by
  unfold wv clip sg
  rw [h]
  simp

/-- The size never falls, but where both are far too great. -/
theorem big_mono {a b : Nat} (n : Int) (h : rung a ≤ rung b) : big a n ≤ big b n ∨ (2147483648 < big a n ∧ 2147483648 < big b n) := by
  have h100 := big100
  unfold big
  by_cases hb : rung b < 9218868437227405312
  · rw [if_pos hb, if_pos (by omega)]
    exact .inl (rhe_mono (un_mono h))
  · rw [if_neg hb]
    by_cases ha : rung a < 9218868437227405312
    · rw [if_pos ha, h100]
      by_cases hl : 2147483648 < rhe (un a) (gr n)
      · exact .inr ⟨hl, by omega⟩
      · exact .inl (by omega)
    · rw [if_neg ha]
      exact .inl (Nat.le_refl _)

theorem rises {a b : Nat} (n : Int) (ha : a < 18446744073709551616) (hb : b < 18446744073709551616) (h : rk a < rk b) : wv a n ≤ wv b n := by
  unfold rk at h
  cases hs : sgn a with
  | true =>
    have h1 := sgn_true hs
    cases ht : sgn b with
    | true =>
      have h2 := sgn_true ht
      rw [hs, ht] at h
      simp only [if_true] at h
      have hr : rung b ≤ rung a := by unfold rung; omega
      rw [wv_neg n hs, wv_neg n ht]
      rcases big_mono n hr with hm | hm
      · repeat' split
        all_goals omega
      · rw [if_pos hm.2, if_pos hm.1]; omega
    | false =>
      rw [wv_neg n hs, wv_pos n ht]
      repeat' split
      all_goals omega
  | false =>
    have h1 := sgn_false hs
    cases ht : sgn b with
    | true =>
      have h2 := sgn_true ht
      rw [hs, ht] at h
      simp at h
      omega
    | false =>
      have h2 := sgn_false ht
      rw [hs, ht] at h
      simp only [Bool.false_eq_true, if_false] at h
      have hr : rung a ≤ rung b := by unfold rung; omega
      rw [wv_pos n hs, wv_pos n ht]
      rcases big_mono n hr with hm | hm
      · repeat' split
        all_goals omega
      · rw [if_pos (by omega), if_pos (by omega)]; omega

/-- The marks of a float and of its opposite. -/
inductive Marks (m k : Int) (same : Prop) : Prop
  | clipped : bits .and .i64 (bits .or .i64 m k) 2 = 2 → Marks m k same
  | both (r : Int) : bits .and .i64 (bits .or .i64 m k) 2 = 0 → bits .and .i64 (bits .or .i64 m k) 1 = r → bits .and .i64 (bits .and .i64 m k) 1 = r → same → Marks m k same

theorem wm_cases (x : Nat) (n : Int) : wm x n = 0 ∨ wm x n = 1 ∨ wm x n = 2 ∨ wm x n = 4 ∨ wm x n = 5 := by
  unfold wm
  repeat' split
  all_goals simp

set_option maxRecDepth 20000 in
theorem opposite {x : Nat} (n : Int) (hx : x < 18446744073709551616) : Marks (wm x n) (wm (flip x) n) (wv (flip x) n = -wv x n) := by
  obtain ⟨hb, hu⟩ := big_same (rung_flip hx) n
  have hs := sgn_flip hx
  by_cases hc : clip x n = true ∨ clip (flip x) n = true
  · rcases hc with hc | hc
    · have h2 : wm x n = 2 := by unfold wm; rw [if_pos hc]
      rw [h2]
      rcases wm_cases (flip x) n with h | h | h | h | h <;> (rw [h]; exact .clipped (by kernel_rfl))
    · have h2 : wm (flip x) n = 2 := by unfold wm; rw [if_pos hc]
      rw [h2]
      rcases wm_cases x n with h | h | h | h | h <;> (rw [h]; exact .clipped (by kernel_rfl))
  · have hc1 : clip x n = false := by cases h : clip x n with
      | true => exact absurd (.inl h) hc
      | false => rfl
    have hc2 : clip (flip x) n = false := by cases h : clip (flip x) n with
      | true => exact absurd (.inr h) hc
      | false => rfl
    have hv : wv (flip x) n = -wv x n := by
      unfold wv sg
      rw [hc1, hc2, hb, hs]
      cases sgn x <;> simp
    have e1 : wm x n = (if un x % gr n = 0 then 0 else 1) + (if big x n = 0 ∧ sgn x = true then 4 else 0) := by unfold wm; rw [if_neg (by rw [hc1]; decide)]
    have e2 : wm (flip x) n = (if un x % gr n = 0 then 0 else 1) + (if big x n = 0 ∧ (!sgn x) = true then 4 else 0) := by
      unfold wm; rw [if_neg (by rw [hc2]; decide), hb, hu, hs]
    rw [e1, e2]
    by_cases hz : big x n = 0
    · cases hsx : sgn x
      · by_cases hr : un x % gr n = 0
        · simp only [hr, hz, if_true, Bool.not_false, and_true, Bool.false_eq_true, and_false, if_false]
          exact .both 0 (by kernel_rfl) (by kernel_rfl) (by kernel_rfl) hv
        · simp only [hr, hz, if_true, Bool.not_false, and_true, Bool.false_eq_true, and_false, if_false]
          exact .both 1 (by kernel_rfl) (by kernel_rfl) (by kernel_rfl) hv
      · by_cases hr : un x % gr n = 0
        · simp only [hr, hz, if_true, Bool.not_true, and_true, Bool.false_eq_true, and_false, if_false]
          exact .both 0 (by kernel_rfl) (by kernel_rfl) (by kernel_rfl) hv
        · simp only [hr, hz, if_true, Bool.not_true, and_true, Bool.false_eq_true, and_false, if_false]
          exact .both 1 (by kernel_rfl) (by kernel_rfl) (by kernel_rfl) hv
    · by_cases hr : un x % gr n = 0
      · simp only [hr, hz, if_true, false_and, if_false]
        exact .both 0 (by kernel_rfl) (by kernel_rfl) (by kernel_rfl) hv
      · simp only [hr, hz, false_and, if_false]
        exact .both 1 (by kernel_rfl) (by kernel_rfl) (by kernel_rfl) hv
end Qf

theorem quant_with (x : Nat) (n : Int) (w : World) (hx : x < 18446744073709551616) (v m e : Int) (hv : Qf.qv x n = v) (hm : Qf.qm x n = m) (he : Qf.qe x n = e) :
    Calls Try.prog 9 #[.int .u64 (x : Int), .int .i64 n] w fun e' w' => e' = .returned (.tuple #[.int .i32 v, .int .i64 m, .int .i64 e]) ∧ w = w' := by
  subst hv hm he
  exact quant_any x n w hx

theorem quant_ok {x : Nat} {n : Int} (hs : Qf.okS n = true) (hn : Qf.isN x = false) : Qf.qv x n = Qf.wv x n ∧ Qf.qm x n = Qf.wm x n ∧ Qf.qe x n = 0 := by
  unfold Qf.qv Qf.qm Qf.qe
  rw [hs, hn]
  exact ⟨rfl, rfl, rfl⟩

set_option maxHeartbeats 3200000 in
set_option maxRecDepth 20000 in
theorem rises_any (a b : Nat) (n : Int) (w : World) (ha : a < 18446744073709551616) (hb : b < 18446744073709551616) :
    Calls Try.prog 7 #[.int .u64 (a : Int), .int .u64 (b : Int), .int .i64 n] w fun e w' => e = .returned (.bool true) ∧ w = w' := by
  have hflip := u64_flip a ha
  have hfl := Qf.flip_lt ha
  by_cases hall : Qf.qe a n = 0 ∧ Qf.qe b n = 0 ∧ Qf.qe (Qf.flip a) n = 0
  · obtain ⟨h1, h2, h3⟩ := hall
    have hs : Qf.okS n = true := by
      cases h : Qf.okS n with
      | true => rfl
      | false => unfold Qf.qe at h1; rw [h] at h1; simp at h1
    have hna : Qf.isN a = false := by
      cases h : Qf.isN a with
      | false => rfl
      | true => unfold Qf.qe at h1; rw [hs, h] at h1; simp at h1
    have hnb : Qf.isN b = false := by
      cases h : Qf.isN b with
      | false => rfl
      | true => unfold Qf.qe at h2; rw [hs, h] at h2; simp at h2
    have hnf : Qf.isN (Qf.flip a) = false := by unfold Qf.isN at hna ⊢; rw [Qf.rung_flip ha]; exact hna
    obtain ⟨va, ma, -⟩ := quant_ok hs hna
    obtain ⟨vb, mb, -⟩ := quant_ok hs hnb
    obtain ⟨vf, mf, -⟩ := quant_ok hs hnf
    have hop := Qf.opposite n ha
    have hri : Qf.tot a b < 0 → Qf.wv a n ≤ Qf.wv b n := fun h => Qf.rises n ha hb (Qf.tot_lt.1 h)
    obtain ⟨ba1, ba2⟩ := Qf.wv_bounds a n
    obtain ⟨bb1, bb2⟩ := Qf.wv_bounds b n
    obtain ⟨bf1, bf2⟩ := Qf.wv_bounds (Qf.flip a) n
    generalize Qf.wv a n = v at *
    generalize Qf.wv b n = u at *
    generalize Qf.wv (Qf.flip a) n = o at *
    generalize Qf.wm a n = m at *
    generalize Qf.wm b n = mm at *
    generalize Qf.wm (Qf.flip a) n = k at *
    have QA := Lib.hid (show ∀ w, Calls Try.prog _ _ w _ from fun w => quant_with a n w ha v m 0 va ma h1)
    have QB := Lib.hid (show ∀ w, Calls Try.prog _ _ w _ from fun w => quant_with b n w hb u mm 0 vb mb h2)
    have QF := Lib.hid (show ∀ w, Calls Try.prog _ _ w _ from fun w => quant_with (Qf.flip a) n w hfl o k 0 vf mf h3)
    clear va ma vb mb vf mf h1 h2 h3 hs hna hnb hnf
    obtain ⟨t, ht⟩ : ∃ t, t = Qf.tot a b := ⟨_, rfl⟩
    have HT := Lib.hid ht
    rw [← ht] at hri
    clear ht
    have htot : ∀ w, Calls Try.prog 20 #[.int .u64 (a : Int), .int .u64 (b : Int)] w fun e w' => e = .returned (.int .i64 t) ∧ w = w' := by
      intro w; rw [HT.out]; exact total_any a b w ha hb
    have QT := Lib.hid htot
    clear htot
    have hcase : ∀ P : Prop, (t < 0 → v ≤ u → P) → (0 ≤ t → P) → P := by
      intro P p q
      rcases Int.lt_or_le t 0 with h | h
      · exact p h (hri h)
      · exact q h
    refine hcase _ ?_ ?_
    all_goals
      intros
      clear hcase hri
      rcases hop with hc | ⟨r, c1, c2, c3, hv⟩
    all_goals
      try (subst hv)
      go_enter Try.func7, Try.ntmps7
      go_wp2_with fail
      refine (QA.out _).mono ?_
      rintro e w' ⟨rfl, rfl⟩
      go_wp2_with fail
      refine (QB.out _).mono ?_
      rintro e w' ⟨rfl, rfl⟩
      go_wp2_with fail
      refine (QF.out _).mono ?_
      rintro e w' ⟨rfl, rfl⟩
      go_wp2_with fail
      refine (QT.out _).mono ?_
      rintro e w' ⟨rfl, rfl⟩
      go_wp2_with fail
      refine (known_any _).mono ?_
      rintro e w' ⟨rfl, rfl⟩
      go_wp2_with fail
      go_ret
      exact ⟨rfl, rfl⟩
  · obtain ⟨e1, h1⟩ : ∃ e, Qf.qe a n = e := ⟨_, rfl⟩
    obtain ⟨e2, h2⟩ : ∃ e, Qf.qe b n = e := ⟨_, rfl⟩
    obtain ⟨e3, h3⟩ : ∃ e, Qf.qe (Qf.flip a) n = e := ⟨_, rfl⟩
    obtain ⟨v1, k1⟩ : ∃ e, Qf.qv a n = e := ⟨_, rfl⟩
    obtain ⟨v2, k2⟩ : ∃ e, Qf.qv b n = e := ⟨_, rfl⟩
    obtain ⟨v3, k3⟩ : ∃ e, Qf.qv (Qf.flip a) n = e := ⟨_, rfl⟩
    obtain ⟨m1, l1⟩ : ∃ e, Qf.qm a n = e := ⟨_, rfl⟩
    obtain ⟨m2, l2⟩ : ∃ e, Qf.qm b n = e := ⟨_, rfl⟩
    obtain ⟨m3, l3⟩ : ∃ e, Qf.qm (Qf.flip a) n = e := ⟨_, rfl⟩
    rw [h1, h2, h3] at hall
    have QA := Lib.hid (show ∀ w, Calls Try.prog _ _ w _ from fun w => quant_with a n w ha v1 m1 e1 k1 l1 h1)
    have QB := Lib.hid (show ∀ w, Calls Try.prog _ _ w _ from fun w => quant_with b n w hb v2 m2 e2 k2 l2 h2)
    have QF := Lib.hid (show ∀ w, Calls Try.prog _ _ w _ from fun w => quant_with (Qf.flip a) n w hfl v3 m3 e3 k3 l3 h3)
    clear h1 h2 h3 k1 k2 k3 l1 l2 l3
    by_cases g1 : e1 = 0
    · subst g1
      by_cases g2 : e2 = 0
      · subst g2
        have g3 : ¬ e3 = 0 := fun h => hall ⟨rfl, rfl, h⟩
        clear hall
        go_enter Try.func7, Try.ntmps7
        go_wp2_with fail
        refine (QA.out _).mono ?_
        rintro e w' ⟨rfl, rfl⟩
        go_wp2_with fail
        refine (QB.out _).mono ?_
        rintro e w' ⟨rfl, rfl⟩
        go_wp2_with fail
        refine (QF.out _).mono ?_
        rintro e w' ⟨rfl, rfl⟩
        go_wp2_with fail
        refine (known_any _).mono ?_
        rintro e w' ⟨rfl, rfl⟩
        go_wp2_with fail
        go_ret
        exact ⟨rfl, rfl⟩
      · clear hall
        go_enter Try.func7, Try.ntmps7
        go_wp2_with fail
        refine (QA.out _).mono ?_
        rintro e w' ⟨rfl, rfl⟩
        go_wp2_with fail
        refine (QB.out _).mono ?_
        rintro e w' ⟨rfl, rfl⟩
        go_wp2_with fail
        refine (QF.out _).mono ?_
        rintro e w' ⟨rfl, rfl⟩
        go_wp2_with fail
        refine (known_any _).mono ?_
        rintro e w' ⟨rfl, rfl⟩
        go_wp2_with fail
        go_ret
        exact ⟨rfl, rfl⟩
    · clear hall
      go_enter Try.func7, Try.ntmps7
      go_wp2_with fail
      refine (QA.out _).mono ?_
      rintro e w' ⟨rfl, rfl⟩
      go_wp2_with fail
      refine (QB.out _).mono ?_
      rintro e w' ⟨rfl, rfl⟩
      go_wp2_with fail
      refine (QF.out _).mono ?_
      rintro e w' ⟨rfl, rfl⟩
      go_wp2_with fail
      refine (known_any _).mono ?_
      rintro e w' ⟨rfl, rfl⟩
      go_wp2_with fail
      go_ret
      exact ⟨rfl, rfl⟩
end Go.Proofs.Ytemamkbcagnigaa
