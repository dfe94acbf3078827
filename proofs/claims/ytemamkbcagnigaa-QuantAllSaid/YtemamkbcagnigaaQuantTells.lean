/- What the document's Quant answers: the same as the program's. -/
import Derived.Test.YtemamkbcagnigaaQuantRef
namespace Go.Proofs.Ytemamkbcagnigaa
open Go.RowKit

namespace Qf
theorem kd_five (x : Nat) : kd x = 5 ↔ isN x = true := by
  unfold kd isN
  simp only [decide_eq_true_eq]
  repeat' split
  all_goals first | (constructor <;> intro h <;> omega)
theorem kd_four (x : Nat) : kd x = 4 ↔ rung x = 9218868437227405312 := by
  unfold kd
  repeat' split
  all_goals first | (constructor <;> intro h <;> omega)

theorem rnd_big {x : Nat} (n : Int) (h1 : -64 ≤ n) (h2 : n ≤ 64) (hf : rung x < 9218868437227405312) :
    rnd (mant x) (-1074 + (noughts x : Int) + n) = big x n ∧ exact (mant x) (-1074 + (noughts x : Int) + n) = decide (un x % gr n = 0) := by
  unfold big rnd exact
  rw [if_pos hf]
  unfold un gr
  by_cases h : 0 ≤ -1074 + (noughts x : Int) + n
  · rw [if_pos h]
    have e : 2 ^ noughts x = 2 ^ (-1074 + (noughts x : Int) + n).toNat * 2 ^ (1074 - n).toNat := by
      rw [← Nat.pow_add]; congr 1; omega
    rw [e, ← Nat.mul_assoc, rhe_exact _ _ (two_pow_pos _), Nat.mul_mod_left]
    simp [h]
  · rw [if_neg h]
    have e : 2 ^ (1074 - n).toNat = 2 ^ (-(-1074 + (noughts x : Int) + n)).toNat * 2 ^ noughts x := by
      rw [← Nat.pow_add]; congr 1; omega
    rw [e, rhe_scale _ _ _ (two_pow_pos _), Nat.mul_mod_mul_right]
    refine ⟨rfl, ?_⟩
    have hz : mant x % 2 ^ (-(-1074 + (noughts x : Int) + n)).toNat * 2 ^ noughts x = 0 ↔ mant x % 2 ^ (-(-1074 + (noughts x : Int) + n)).toNat = 0 := by
      constructor
      · intro h
        rcases Nat.mul_eq_zero.1 h with h | h
        · exact h
        · have := two_pow_pos (noughts x); omega
      · intro h; rw [h, Nat.zero_mul]
    simp only [h, decide_false, Bool.false_or, hz]

theorem ans_clip_pos {x : Nat} {n : Int} (h : sgn x = false) (hb : 2147483647 < big x n) : wv x n = 2147483647 ∧ wm x n = 2 := by
  unfold wv wm clip
  rw [h]
  simp [hb]
theorem ans_clip_neg {x : Nat} {n : Int} (h : sgn x = true) (hb : 2147483648 < big x n) : wv x n = -2147483648 ∧ wm x n = 2 := by
  unfold wv wm clip
  rw [h]
  simp [hb]
theorem ans_pos {x : Nat} {n : Int} (h : sgn x = false) (hb : ¬ 2147483647 < big x n) : wv x n = big x n ∧ wm x n = if un x % gr n = 0 then 0 else 1 := by
  unfold wv wm clip sg
  rw [h]
  simp [hb]
theorem ans_nought {x : Nat} {n : Int} (h : sgn x = true) (hb : big x n = 0) : wv x n = 0 ∧ wm x n = (if un x % gr n = 0 then 0 else 1) + 4 := by
  unfold wv wm clip sg
  rw [h, hb]
  simp
theorem ans_neg {x : Nat} {n : Int} (h : sgn x = true) (h0 : big x n ≠ 0) (hb : ¬ 2147483648 < big x n) : wv x n = -(big x n : Int) ∧ wm x n = if un x % gr n = 0 then 0 else 1 := by
  unfold wv wm clip sg
  rw [h]
  simp [hb, h0]

theorem noughts_le {x : Nat} : noughts x ≤ 2047 := by
  have := rung_lt x
  unfold noughts
  split <;> omega
end Qf

set_option maxHeartbeats 3200000 in
set_option maxRecDepth 20000 in
theorem refQuant_any (x : Nat) (n : Int) (w : World) (hx : x < 18446744073709551616) :
    Calls Try.prog 10 #[.int .u64 (x : Int), .int .i64 n] w fun e w' => e = .returned (.tuple #[.int .i32 (Qf.qv x n), .int .i64 (Qf.qm x n), .int .i64 (Qf.qe x n)]) ∧ w = w' := by
  have hb := u64_top x hx
  have B2 : bits BinOp.or IntKind.i64 0 4 = 4 := by kernel_rfl
  have B3 : bits BinOp.or IntKind.i64 1 4 = 5 := by kernel_rfl
  cases hs : Qf.okS n
  · have e1 : Qf.qv x n = 0 := by unfold Qf.qv; rw [hs]; rfl
    have e2 : Qf.qm x n = 0 := by unfold Qf.qm; rw [hs]; rfl
    have e3 : Qf.qe x n = 2 := by unfold Qf.qe; rw [hs]; rfl
    rw [e1, e2, e3]
    have ho := Qf.okS_false hs
    clear e1 e2 e3 hs
    cases hg : Qf.sgn x
    all_goals
      rw [hg] at hb
      simp only [Bool.false_eq_true, if_false, if_true] at hb
      rcases ho with ho | ⟨h1, h2⟩
    all_goals
      clear hg
      go_enter Try.func10, Try.ntmps10
      go_wp2_with fail
      refine (refKind_any _ _ hx).mono ?_
      rintro e w' ⟨rfl, rfl⟩
      go_wp2_with fail
      go_ret3
      exact ⟨rfl, rfl⟩
  · obtain ⟨h1, h2⟩ := Qf.okS_true hs
    have HS := Lib.hid hs
    clear hs
    cases hn : Qf.isN x
    · have e1 : Qf.qv x n = Qf.wv x n := by unfold Qf.qv; rw [HS.out, hn]; rfl
      have e2 : Qf.qm x n = Qf.wm x n := by unfold Qf.qm; rw [HS.out, hn]; rfl
      have e3 : Qf.qe x n = 0 := by unfold Qf.qe; rw [HS.out, hn]; rfl
      rw [e1, e2, e3]
      have hr := Qf.isN_false hn
      have hk5 : ¬ Qf.kd x = 5 := by rw [Qf.kd_five, hn]; decide
      clear e1 e2 e3 hn
      by_cases hi : Qf.rung x = 9218868437227405312
      · have hk := (Qf.kd_four x).2 hi
        have hbg : 2147483648 < Qf.big x n := by
          have : Qf.big x n = 2 ^ 100 := by unfold Qf.big; rw [if_neg (by omega)]
          rw [this, Qf.big100]
          decide
        clear hk5 hi hr
        cases hg : Qf.sgn x
        all_goals
          rw [hg] at hb
          simp only [Bool.false_eq_true, if_false, if_true] at hb
        · obtain ⟨a1, a2⟩ := Qf.ans_clip_pos hg (n := n) (by omega)
          rw [a1, a2]
          clear a1 a2 hg hbg
          go_enter Try.func10, Try.ntmps10
          go_wp2_with fail
          refine (refKind_any _ _ hx).mono ?_
          rintro e w' ⟨rfl, rfl⟩
          go_wp2_with fail
          go_ret3
          exact ⟨rfl, rfl⟩
        · obtain ⟨a1, a2⟩ := Qf.ans_clip_neg hg hbg
          rw [a1, a2]
          clear a1 a2 hg hbg
          go_enter Try.func10, Try.ntmps10
          go_wp2_with fail
          refine (refKind_any _ _ hx).mono ?_
          rintro e w' ⟨rfl, rfl⟩
          go_wp2_with fail
          go_ret3
          exact ⟨rfl, rfl⟩
      · have hk4 : ¬ Qf.kd x = 4 := fun h => hi ((Qf.kd_four x).1 h)
        have hlt : Qf.rung x < 9218868437227405312 := by omega
        obtain ⟨r1, r2⟩ := Qf.rnd_big n h1 h2 hlt
        have hnl := Qf.noughts_le (x := x)
        have hml := Qf.mant_lt x
        clear hi hr
        have R1 := Lib.hid r1
        clear r1
        have hnear : ∀ b : Bool, decide (Qf.un x % Qf.gr n = 0) = b → ∀ w : World, Calls Try.prog 29 #[.int .u64 (Qf.mant x : Nat), .int .i64 (-1074 + (Qf.noughts x : Int) + n)] w fun r w' => ∃ N : Nat, N < 18446744073709551616 ∧ (N = Qf.big x n ∨ (1099511627776 ≤ N ∧ 1099511627776 ≤ Qf.big x n)) ∧ r = .returned (.tuple #[.int .u64 (N : Nat), .bool b]) ∧ w = w' := by
          intro b hbb w
          subst hbb
          rw [← R1.out, ← r2]
          exact near_any _ _ _ hml (by omega) (by omega)
        have NE := Lib.hid hnear
        clear hnear r2
        cases hg : Qf.sgn x
        all_goals
          rw [hg] at hb
          simp only [Bool.false_eq_true, if_false, if_true] at hb
          by_cases hex : Qf.un x % Qf.gr n = 0
        · have HE := Lib.hid hex
          have HG := Lib.hid hg
          clear hex hg
          go_enter Try.func10, Try.ntmps10
          go_wp2_with fail
          refine (refKind_any _ _ hx).mono ?_
          rintro e w' ⟨rfl, rfl⟩
          go_wp2_with fail
          refine (parts_any _ _ hx).mono ?_
          rintro e w' ⟨rfl, rfl⟩
          go_wp2_with fail
          refine (NE.out true (by simp [HE.out]) _).mono ?_
          rintro r w' ⟨N, hN64, hrel, rfl, rfl⟩
          have HR := Lib.hid hrel
          clear hrel
          by_cases c : (2147483647 : Int) < (N : Int)
          · have HA := Lib.hid (Qf.ans_clip_pos HG.out (n := n) (by have := HR.out; omega))
            go_wp2_with fail
            go_ret3
            refine ⟨?_, rfl⟩
            rw [HA.out.1, HA.out.2]
            first | rfl | (rw [if_pos HE.out]; try rfl) | (rw [if_neg HE.out]; try rfl)
          · obtain rfl : N = Qf.big x n := by have := HR.out; omega
            have HA := Lib.hid (Qf.ans_pos HG.out (n := n) (by omega))
            go_wp2_with fail
            go_ret3
            refine ⟨?_, rfl⟩
            rw [HA.out.1, HA.out.2]
            first | rfl | (rw [if_pos HE.out]; try rfl) | (rw [if_neg HE.out]; try rfl)
        · have HE := Lib.hid hex
          have HG := Lib.hid hg
          clear hex hg
          go_enter Try.func10, Try.ntmps10
          go_wp2_with fail
          refine (refKind_any _ _ hx).mono ?_
          rintro e w' ⟨rfl, rfl⟩
          go_wp2_with fail
          refine (parts_any _ _ hx).mono ?_
          rintro e w' ⟨rfl, rfl⟩
          go_wp2_with fail
          refine (NE.out false (by simp [HE.out]) _).mono ?_
          rintro r w' ⟨N, hN64, hrel, rfl, rfl⟩
          have HR := Lib.hid hrel
          clear hrel
          by_cases c : (2147483647 : Int) < (N : Int)
          · have HA := Lib.hid (Qf.ans_clip_pos HG.out (n := n) (by have := HR.out; omega))
            go_wp2_with fail
            go_ret3
            refine ⟨?_, rfl⟩
            rw [HA.out.1, HA.out.2]
            first | rfl | (rw [if_pos HE.out]; try rfl) | (rw [if_neg HE.out]; try rfl)
          · obtain rfl : N = Qf.big x n := by have := HR.out; omega
            have HA := Lib.hid (Qf.ans_pos HG.out (n := n) (by omega))
            go_wp2_with fail
            go_ret3
            refine ⟨?_, rfl⟩
            rw [HA.out.1, HA.out.2]
            first | rfl | (rw [if_pos HE.out]; try rfl) | (rw [if_neg HE.out]; try rfl)
        · have HE := Lib.hid hex
          have HG := Lib.hid hg
          clear hex hg
          go_enter Try.func10, Try.ntmps10
          go_wp2_with fail
          refine (refKind_any _ _ hx).mono ?_
          rintro e w' ⟨rfl, rfl⟩
          go_wp2_with fail
          refine (parts_any _ _ hx).mono ?_
          rintro e w' ⟨rfl, rfl⟩
          go_wp2_with fail
          refine (NE.out true (by simp [HE.out]) _).mono ?_
          rintro r w' ⟨N, hN64, hrel, rfl, rfl⟩
          have HR := Lib.hid hrel
          clear hrel
          by_cases c : (2147483648 : Int) < (N : Int)
          · have HA := Lib.hid (Qf.ans_clip_neg HG.out (n := n) (by have := HR.out; omega))
            go_wp2_with fail
            go_ret3
            refine ⟨?_, rfl⟩
            rw [HA.out.1, HA.out.2]
            first | rfl | (rw [if_pos HE.out]; try rfl) | (rw [if_neg HE.out]; try rfl)
          · obtain rfl : N = Qf.big x n := by have := HR.out; omega
            by_cases c0 : Qf.big x n = 0
            · have HA := Lib.hid (Qf.ans_nought HG.out c0)
              have HC := Lib.hid c0
              rw [c0]
              clear c0 c
              go_wp2_with fail
              go_ret3
              refine ⟨?_, rfl⟩
              rw [HA.out.1, HA.out.2]
              first | rfl | (rw [if_pos HE.out]; try rfl) | (rw [if_neg HE.out]; try rfl)
            · have HA := Lib.hid (Qf.ans_neg HG.out c0 (n := n) (by omega))
              go_wp2_with fail
              go_ret3
              refine ⟨?_, rfl⟩
              rw [HA.out.1, HA.out.2]
              first | rfl | (rw [if_pos HE.out]; try rfl) | (rw [if_neg HE.out]; try rfl)
        · have HE := Lib.hid hex
          have HG := Lib.hid hg
          clear hex hg
          go_enter Try.func10, Try.ntmps10
          go_wp2_with fail
          refine (refKind_any _ _ hx).mono ?_
          rintro e w' ⟨rfl, rfl⟩
          go_wp2_with fail
          refine (parts_any _ _ hx).mono ?_
          rintro e w' ⟨rfl, rfl⟩
          go_wp2_with fail
          refine (NE.out false (by simp [HE.out]) _).mono ?_
          rintro r w' ⟨N, hN64, hrel, rfl, rfl⟩
          have HR := Lib.hid hrel
          clear hrel
          by_cases c : (2147483648 : Int) < (N : Int)
          · have HA := Lib.hid (Qf.ans_clip_neg HG.out (n := n) (by have := HR.out; omega))
            go_wp2_with fail
            go_ret3
            refine ⟨?_, rfl⟩
            rw [HA.out.1, HA.out.2]
            first | rfl | (rw [if_pos HE.out]; try rfl) | (rw [if_neg HE.out]; try rfl)
          · obtain rfl : N = Qf.big x n := by have := HR.out; omega
            by_cases c0 : Qf.big x n = 0
            · have HA := Lib.hid (Qf.ans_nought HG.out c0)
              have HC := Lib.hid c0
              rw [c0]
              clear c0 c
              go_wp2_with fail
              go_ret3
              refine ⟨?_, rfl⟩
              rw [HA.out.1, HA.out.2]
              first | rfl | (rw [if_pos HE.out]; try rfl) | (rw [if_neg HE.out]; try rfl)
            · have HA := Lib.hid (Qf.ans_neg HG.out c0 (n := n) (by omega))
              go_wp2_with fail
              go_ret3
              refine ⟨?_, rfl⟩
              rw [HA.out.1, HA.out.2]
              first | rfl | (rw [if_pos HE.out]; try rfl) | (rw [if_neg HE.out]; try rfl)
    · have e1 : Qf.qv x n = 0 := by unfold Qf.qv; rw [HS.out, hn]; rfl
      have e2 : Qf.qm x n = 0 := by unfold Qf.qm; rw [HS.out, hn]; rfl
      have e3 : Qf.qe x n = 10 := by unfold Qf.qe; rw [HS.out, hn]; rfl
      rw [e1, e2, e3]
      have hk := (Qf.kd_five x).2 hn
      clear e1 e2 e3 hn
      cases hg : Qf.sgn x
      all_goals
        rw [hg] at hb
        simp only [Bool.false_eq_true, if_false, if_true] at hb
        clear hg
        go_enter Try.func10, Try.ntmps10
        go_wp2_with fail
        refine (refKind_any _ _ hx).mono ?_
        rintro e w' ⟨rfl, rfl⟩
        go_wp2_with fail
        go_ret3
        exact ⟨rfl, rfl⟩
end Go.Proofs.Ytemamkbcagnigaa
