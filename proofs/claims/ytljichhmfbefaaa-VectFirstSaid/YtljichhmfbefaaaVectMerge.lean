/- What the law VectMerge answers, for every two lists of hits and every number. Conditions: the slices' cells hold the hits. -/
import Derived.Test.YtljichhmfbefaaaHitRef
namespace Go.Proofs.Ytljichhmfbefaaa
open Go.RowKit Go.Sort

theorem hsame_self (va vb : Value) (a b : List Hit) (w : World) (hA : HBts w va a) (hB : HBts w vb b) (la : a.length ≤ 1000000) (e : a = b) :
    Calls Try.prog 20 #[va, vb] w fun e w' => e = .returned (.bool true) ∧ ∃ n, w' = w.drewN n := by
  have h := hsame_any va vb a b w hA hB la
  rw [decide_eq_true e] at h
  exact h

theorem HNew.split {l : List Hit} {w : World} {e : Ending} {w' : World} (h : HNew l w e w') : ∃ (L : List Hit) (p : Option Addr) (c : Nat), Hid (L = l) ∧ e = .returned (.slice p L.length c) ∧ HOwn w.heap.size w' (.slice p L.length c) L ∧ Below w.heap.size w w' := by
  obtain ⟨v, rfl, h1, h2⟩ := h
  obtain ⟨p, c, rfl, -, -, -⟩ := h1.bts.form
  exact ⟨l, p, c, Lib.hid rfl, rfl, h1, h2⟩

theorem take_most (l : List Hit) (n : Nat) : (l.take n).length ≤ l.length := by rw [List.length_take]; omega

set_option maxHeartbeats 1600000 in
set_option maxRecDepth 20000 in
theorem vectMerge_any (va vb : Value) (a b : List Hit) (k : Int) (w : World) (hA : HBts w va a) (hB : HBts w vb b) :
    Calls Try.prog 6 #[va, vb, .int .i64 k] w fun e w' => e = .returned (.bool true) ∧ Below w.heap.size w w' := by
  have HA := Lib.hid hA
  have HB := Lib.hid hB
  obtain ⟨pa, ca, rfl, -, -, -⟩ := hA.form
  obtain ⟨pb, cb, rfl, -, -, -⟩ := hB.form
  clear hA hB
  by_cases hlen : a.length ≤ 700 ∧ b.length ≤ 700
  · obtain ⟨la, lb⟩ := hlen
    have HM := Lib.hid (merge_any _ _ a b k w HA.out HB.out (by omega) (by omega))
    go_enter Try.func6, Try.ntmps6
    go_wp2_with fail
    refine HM.out.mono ?_
    rintro e w1 hn
    obtain ⟨L1, p1, c1, e1, rfl, h1, hb1⟩ := hn.split
    have HM1 := Lib.hid h1
    have HB1 := Lib.hid hb1
    have HF1 := Lib.hid (first_any _ a k w1 (HA.out.below hb1) (by omega))
    clear h1 hb1 hn HM
    go_wp2_with fail
    refine HF1.out.mono ?_
    rintro e w2 hn
    obtain ⟨L2, p2, c2, e2, rfl, h2, hb2⟩ := hn.split
    have HM2 := Lib.hid (HM1.out.below hb2)
    have HA2 := Lib.hid h2
    have HB2 := Lib.hid (HB1.out.trans (hb2.mono HB1.out.size))
    have HF2 := Lib.hid (first_any _ b k w2 (HB.out.below HB2.out) (by omega))
    clear h2 hb2 hn HF1 HM1 HB1
    go_wp2_with fail
    refine HF2.out.mono ?_
    rintro e w3 hn
    obtain ⟨L3, p3, c3, e3, rfl, h3, hb3⟩ := hn.split
    have HM3 := Lib.hid (HM2.out.below hb3)
    have HA3 := Lib.hid (HA2.out.below hb3)
    have HB3 := Lib.hid (HB2.out.trans (hb3.mono HB2.out.size))
    have HN := Lib.hid (merge_any _ _ _ _ k w3 HA3.out.bts h3.bts (by rw [e2.out]; have := take_most (Hp.srt a) k.toNat; rw [Hp.srt_length] at this; omega) (by rw [e3.out]; have := take_most (Hp.srt b) k.toNat; rw [Hp.srt_length] at this; omega))
    clear h3 hb3 hn HF2 HM2 HB2 HA2
    go_wp2_with fail
    refine HN.out.mono ?_
    rintro e w4 hn
    rw [e2.out, e3.out, Hp.merge_first] at hn
    obtain ⟨L4, p4, c4, e4, rfl, h4, hb4⟩ := hn.split
    have HM4 := Lib.hid (HM3.out.below hb4)
    have HN4 := Lib.hid h4
    have HB4 := Lib.hid (HB3.out.trans (hb4.mono HB3.out.size))
    have HAA := Lib.hid (HA.out.below HB4.out)
    have HBB := Lib.hid (HB.out.below HB4.out)
    have lm : L1.length ≤ 1000000 := by rw [e1.out]; have := take_most (Hp.srt (a ++ b)) k.toNat; rw [Hp.srt_length, List.length_append] at this; omega
    have HO := Lib.hid (hown_empty w4 w4.heap.size (Nat.le_refl _))
    have hb0 : Below w4.heap.size w4 (w4.alloc (.cells #[] 35)) := (Below.refl _ _).alloc (Nat.le_refl _) _
    have HW0 := Lib.hid hb0
    clear h4 hb4 hn HN HM3 HB3 HA3 hb0
    go_upto_region 5 with (fail)
    go_step
    go_step
    go_step
    go_step
    go_step
    go_step
    go_step
    go_step
    go_step
    go_step
    refine wpList_append_HOwn rfl (.tmp 31) (.tmp 32) rfl w4.heap.size _ [] rfl HO.out _ a rfl (HAA.out.below HW0.out) (by simp; omega) HW0.out.size ?_
    intro v5 w5 hown5 hb5 _
    rw [List.nil_append] at hown5
    have H5 := Lib.hid hown5
    have HW5 := Lib.hid (HW0.out.trans hb5)
    clear hown5 hb5 HO HW0
    go_step
    go_step
    go_step
    refine wpList_append_HOwn rfl (.tmp 33) (.tmp 34) rfl w4.heap.size _ a rfl H5.out _ b rfl (HBB.out.below HW5.out) (by omega) HW5.out.size ?_
    intro v6 w6 hown6 hb6 _
    have H6 := Lib.hid hown6
    have hw6 := HW5.out.trans hb6
    have HM6 := Lib.hid (HM4.out.below hw6)
    have HN6 := Lib.hid (HN4.out.below hw6)
    have HB6 := Lib.hid (HB4.out.trans (hw6.mono HB4.out.size))
    have HF6 := Lib.hid (refFirst_any v6 (a ++ b) k w6 hown6.bts (by simp; omega))
    clear hown6 hb6 hw6 H5 HW5 HM4 HN4 HB4 HAA HBB HA HB
    go_wp2_with fail
    refine HF6.out.mono ?_
    rintro e w7 hn
    obtain ⟨L7, p7, c7, e7, rfl, h7, hb7⟩ := hn.split
    have HS7 := Lib.hid (hsame_self _ _ _ _ w7 (HM6.out.below hb7).bts h7.bts lm (e1.out.trans e7.out.symm))
    have HS8 := Lib.hid (fun n => hsame_self _ _ _ _ (w7.drewN n) ((HM6.out.below hb7).below (below_drewN (Below.refl _ _) n)).bts ((HN6.out.below hb7).below (below_drewN (Below.refl _ _) n)).bts lm (e1.out.trans e4.out.symm))
    have HB7 := Lib.hid (HB6.out.trans (hb7.mono HB6.out.size))
    clear h7 hb7 hn HF6 HM6 HN6 HB6
    go_wp2_with fail
    refine HS7.out.mono ?_
    rintro e w' ⟨rfl, n, rfl⟩
    go_wp2_with fail
    refine (HS8.out n).mono ?_
    rintro e w' ⟨rfl, m, rfl⟩
    rw [World.drewN_drewN]
    go_wp2_with fail
    refine (known_any _).mono ?_
    rintro e w' ⟨rfl, hb⟩
    have HK := Lib.hid ((below_drewN HB7.out (n + m)).trans (hb.mono (by have := HB7.out.size; simp; omega)))
    clear hb
    go_wp2_with fail
    go_ret
    exact ⟨rfl, HK.out⟩
  · have hlen2 : 700 < a.length ∨ a.length ≤ 700 ∧ 700 < b.length := by omega
    rcases hlen2 with h1 | ⟨h1, h2⟩
    all_goals
      go_enter Try.func6, Try.ntmps6
      go_wp2_with fail
      refine (known_any _).mono ?_
      rintro e w' ⟨rfl, hb⟩
      have HK := Lib.hid hb
      clear hb
      go_wp2_with fail
      go_ret
      exact ⟨rfl, HK.out⟩
end Go.Proofs.Ytljichhmfbefaaa
