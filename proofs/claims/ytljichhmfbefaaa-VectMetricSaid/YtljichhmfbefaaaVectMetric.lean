/- What the law VectMetric answers, for every three lists of numbers. Conditions: the slices' cells hold the numbers. -/
import Derived.Test.YtljichhmfbefaaaVectKnown
namespace Go.Proofs.Ytljichhmfbefaaa
open Go.RowKit

theorem I32.Bts.drewN {w : World} {v : Value} {l : List Int} (h : I32.Bts w v l) (n : Nat) : I32.Bts (w.drewN n) v l := h.below (below_drewN (Below.refl _ _) n)

theorem I32.Bts.cut {w : World} {p : Option Addr} {cap : Nat} {l : List Int} (h : I32.Bts w (.slice p l.length cap) l) (n : Nat) (hn : n ≤ l.length) (m : Nat) : ∃ L : List Int, L.length = n ∧ I32.Bts (w.drewN m) (.slice p L.length cap) L := by
  have hl : (l.take n).length = n := by simp; omega
  exact ⟨l.take n, hl, by rw [hl]; exact (h.take n hn).drewN m⟩

theorem far_facts (a b : List Int) (n : Nat) (la : a.length = n) (lb : b.length = n) : (¬ (1 ≤ n ∧ n ≤ 4096) → Vp.far a b = 0 ∧ Vp.ferr a b = 9) ∧ (1 ≤ n ∧ n ≤ 4096 → Vp.far a b = Vp.dsum a b ∧ Vp.ferr a b = 0) := by
  constructor
  · intro h
    have hm : ¬ Vp.may a b := by unfold Vp.may; omega
    exact ⟨if_neg hm, if_neg hm⟩
  · intro h
    have hm : Vp.may a b := by unfold Vp.may; omega
    exact ⟨if_pos hm, if_pos hm⟩

set_option maxHeartbeats 1600000 in
set_option maxRecDepth 20000 in
theorem vectMetric_any (va vb vc : Value) (a0 b0 c0 : List Int) (w0 : World) (hA0 : I32.Bts w0 va a0) (hB0 : I32.Bts w0 vb b0) (hC0 : I32.Bts w0 vc c0) :
    Calls Try.prog 4 #[va, vb, vc] w0 fun e w' => e = .returned (.bool true) ∧ Below w0.heap.size w0 w' := by
  obtain ⟨pa, ca, rfl, -, -, -⟩ := hA0.form
  obtain ⟨pb, cb, rfl, -, -, -⟩ := hB0.form
  obtain ⟨pc, cc, rfl, -, -, -⟩ := hC0.form
  have HA := Lib.hid hA0
  have HB := Lib.hid hB0
  have HC := Lib.hid hC0
  clear hA0 hB0 hC0
  go_enter Try.func4, Try.ntmps4
  go_wp2_with fail
  refine (cut_any _ _ _ _ _ _ _ _ _ _ HA.out HB.out HC.out).mono ?_
  rintro e w ⟨n, m, rfl, rfl, h1, h2, h3, h4⟩
  obtain ⟨a, la, hA⟩ := HA.out.cut n h1 m
  obtain ⟨b, lb, hB⟩ := HB.out.cut n h2 m
  obtain ⟨c, lc, hC⟩ := HC.out.cut n h3 m
  rw [la] at hA
  rw [lb] at hB
  rw [lc] at hC
  have HAB := Lib.hid (dist_any _ _ _ _ _ hA hB)
  have HBA := Lib.hid (dist_any _ _ _ _ _ hB hA)
  have HBC := Lib.hid (dist_any _ _ _ _ _ hB hC)
  have HAC := Lib.hid (dist_any _ _ _ _ _ hA hC)
  have HS := Lib.hid (same_any _ _ _ _ _ hA hB)
  have lea := Vp.dsum_le a b hA.small hB.small
  have leb := Vp.dsum_le b c hB.small hC.small
  have lec := Vp.dsum_le a c hA.small hC.small
  have gea := Vp.dsum_nonneg a b
  have geb := Vp.dsum_nonneg b c
  have gec := Vp.dsum_nonneg a c
  have tri := Vp.dsum_tri a b c (by omega) (by omega)
  have tri2 := Vp.dsum_tri a c b (by omega) (by omega)
  have tri3 := Vp.dsum_tri b a c (by omega) (by omega)
  have cm := Vp.dsum_comm b a
  have cm2 := Vp.dsum_comm c b
  have hz := Vp.dsum_zero a b (by omega)
  have ⟨fab1, fab2⟩ := far_facts a b n la lb
  have ⟨fba1, fba2⟩ := far_facts b a n lb la
  have ⟨fbc1, fbc2⟩ := far_facts b c n lb lc
  have ⟨fac1, fac2⟩ := far_facts a c n la lc
  unfold DistAns at HAB HBA HBC HAC
  clear hA hB hC HA HB HC
  rw [la] at lea lec
  rw [lb] at leb
  by_cases hm : 1 ≤ n ∧ n ≤ 4096
  · rw [(fab2 hm).1, (fab2 hm).2] at HAB
    rw [(fba2 hm).1, (fba2 hm).2] at HBA
    rw [(fbc2 hm).1, (fbc2 hm).2] at HBC
    rw [(fac2 hm).1, (fac2 hm).2] at HAC
    rw [cm] at HBA tri3
    rw [cm2] at tri2
    clear fab1 fab2 fba1 fba2 fbc1 fbc2 fac1 fac2 cm cm2
    obtain ⟨r, hr⟩ : ∃ r, decide (a = b) = r := ⟨_, rfl⟩
    rw [hr] at HS
    have hr2 : decide (Vp.dsum a b = 0) = r := by rw [← hr, decide_eq_decide]; exact hz
    clear hz hr
    generalize Vp.dsum a b = ab at *
    generalize Vp.dsum b c = bc at *
    generalize Vp.dsum a c = ac at *
    have b1 : ab ≤ 17592186040320 := by omega
    have b2 : bc ≤ 17592186040320 := by omega
    have b3 : ac ≤ 17592186040320 := by omega
    have hl1 : Vp.low ab bc ≤ ac := by unfold Vp.low; split <;> omega
    have hp : Vp.apart ab bc ≤ ac := by unfold Vp.apart Vp.ab; split <;> (try split) <;> omega
    have hpm : Vp.apart ab bc = if Vp.low ab bc < Vp.low bc ab then Vp.low bc ab else Vp.low ab bc := by
      unfold Vp.apart Vp.ab Vp.low
      split <;> split <;> split <;> (try split) <;> (try split) <;> omega
    have H1 := Lib.hid (fun w => low_any ab bc w (by omega) (by omega) (by omega) (by omega))
    have H2 := Lib.hid (fun w => low_any bc ab w (by omega) (by omega) (by omega) (by omega))
    have H3 := Lib.hid (fun w => apart_any ab bc w (by omega) (by omega) (by omega) (by omega))
    have hw : IntKind.i64.wrap (ab + bc) = ab + bc := IntWalk.i64_in _ (by omega)
    clear lea leb lec tri2 tri3 gec geb b1 b2 b3
    generalize Vp.low ab bc = l1 at *
    generalize Vp.low bc ab = l2 at *
    generalize Vp.apart ab bc = p at *
    have hab : 0 ≤ ab := by omega
    obtain ⟨q, hq⟩ : ∃ q, q = l1 ∧ l2 ≤ l1 ∨ q = l2 ∧ l1 < l2 := by
      rcases Int.lt_or_le l1 l2 with h | h
      · exact ⟨l2, .inr ⟨rfl, h⟩⟩
      · exact ⟨l1, .inl ⟨rfl, h⟩⟩
    have hpq : p = q := by rw [hpm]; split <;> omega
    subst hpq
    clear hpm
    by_cases hz : ab = 0
    · obtain rfl : r = true := by rw [← hr2]; exact decide_eq_true hz
      subst hz
      rw [Int.zero_add] at hw tri
      clear hr2
      go_wp2_with fail
      refine HAB.out.mono ?_
      rintro e w' ⟨rfl, rfl⟩
      go_wp2_with fail
      refine HBA.out.mono ?_
      rintro e w' ⟨rfl, rfl⟩
      go_wp2_with fail
      refine HBC.out.mono ?_
      rintro e w' ⟨rfl, rfl⟩
      go_wp2_with fail
      refine HAC.out.mono ?_
      rintro e w' ⟨rfl, rfl⟩
      go_wp2_with fail
      refine HS.out.mono ?_
      rintro e w' ⟨rfl, q, rfl⟩
      go_wp2_with fail
      refine (H1.out _).mono ?_
      rintro e w' ⟨rfl, rfl⟩
      go_wp2_with fail
      refine (H3.out _).mono ?_
      rintro e w' ⟨rfl, rfl⟩
      go_wp2_with fail
      refine (H3.out _).mono ?_
      rintro e w' ⟨rfl, rfl⟩
      go_wp2_with fail
      refine (H1.out _).mono ?_
      rintro e w' ⟨rfl, rfl⟩
      go_wp2_with fail
      refine (H2.out _).mono ?_
      rintro e w' ⟨rfl, rfl⟩
      rcases hq with ⟨rfl, hq⟩ | ⟨rfl, hq⟩
      all_goals
        go_wp2_with fail
        refine (known_any _).mono ?_
        rintro e w' ⟨rfl, hb⟩
        have HK := Lib.hid ((below_drewN (Below.refl _ _) (m + q)).trans hb)
        clear hb
        go_wp2_with fail
        go_ret
        exact ⟨rfl, HK.out⟩
    · obtain rfl : r = false := by rw [← hr2]; exact decide_eq_false hz
      have hab2 : 0 < ab := by omega
      have hr3 : (ab == 0) = false := beq_eq_false_iff_ne.2 hz
      go_wp2_with fail
      refine HAB.out.mono ?_
      rintro e w' ⟨rfl, rfl⟩
      go_wp2_with fail
      refine HBA.out.mono ?_
      rintro e w' ⟨rfl, rfl⟩
      go_wp2_with fail
      refine HBC.out.mono ?_
      rintro e w' ⟨rfl, rfl⟩
      go_wp2_with fail
      refine HAC.out.mono ?_
      rintro e w' ⟨rfl, rfl⟩
      go_wp2_with fail
      refine HS.out.mono ?_
      rintro e w' ⟨rfl, q, rfl⟩
      go_wp2_with fail
      refine (H1.out _).mono ?_
      rintro e w' ⟨rfl, rfl⟩
      go_wp2_with fail
      refine (H3.out _).mono ?_
      rintro e w' ⟨rfl, rfl⟩
      go_wp2_with fail
      refine (H3.out _).mono ?_
      rintro e w' ⟨rfl, rfl⟩
      go_wp2_with fail
      refine (H1.out _).mono ?_
      rintro e w' ⟨rfl, rfl⟩
      go_wp2_with fail
      refine (H2.out _).mono ?_
      rintro e w' ⟨rfl, rfl⟩
      rcases hq with ⟨rfl, hq⟩ | ⟨rfl, hq⟩
      all_goals
        go_wp2_with fail
        refine (known_any _).mono ?_
        rintro e w' ⟨rfl, hb⟩
        have HK := Lib.hid ((below_drewN (Below.refl _ _) (m + q)).trans hb)
        clear hb
        go_wp2_with fail
        go_ret
        exact ⟨rfl, HK.out⟩
  · have hf : (n : Int) < 1 ∨ 4096 < (n : Int) := by omega
    rw [(fab1 hm).1, (fab1 hm).2] at HAB
    rw [(fba1 hm).1, (fba1 hm).2] at HBA
    rw [(fbc1 hm).1, (fbc1 hm).2] at HBC
    rw [(fac1 hm).1, (fac1 hm).2] at HAC
    clear fab1 fab2 fba1 fba2 fbc1 fbc2 fac1 fac2 cm cm2 hz lea leb lec gea geb gec tri tri2 tri3 HS hm
    go_wp2_with fail
    refine HAB.out.mono ?_
    rintro e w' ⟨rfl, rfl⟩
    go_wp2_with fail
    refine HBA.out.mono ?_
    rintro e w' ⟨rfl, rfl⟩
    go_wp2_with fail
    refine HBC.out.mono ?_
    rintro e w' ⟨rfl, rfl⟩
    go_wp2_with fail
    refine HAC.out.mono ?_
    rintro e w' ⟨rfl, rfl⟩
    rcases Nat.eq_zero_or_pos n with h0 | h0
    · subst h0
      go_wp2_with fail
      refine (known_any _).mono ?_
      rintro e w' ⟨rfl, hb⟩
      have HB := Lib.hid ((below_drewN (Below.refl _ _) m).trans hb)
      clear hb
      go_wp2_with fail
      go_ret
      exact ⟨rfl, HB.out⟩
    · have h5 : 4096 < n := by omega
      have h6 : ¬ n = 0 := by omega
      go_wp2_with fail
      refine (known_any _).mono ?_
      rintro e w' ⟨rfl, hb⟩
      have HB := Lib.hid ((below_drewN (Below.refl _ _) m).trans hb)
      clear hb
      go_wp2_with fail
      go_ret
      exact ⟨rfl, HB.out⟩
end Go.Proofs.Ytljichhmfbefaaa
