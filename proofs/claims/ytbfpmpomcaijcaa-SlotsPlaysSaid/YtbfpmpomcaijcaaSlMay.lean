/- Whether a slotted body may be, by the document's own reckoning. Conditions: the values read as a body. -/
import Derived.Test.YtbfpmpomcaijcaaSlRoom
namespace Go.Proofs.Ytbfpmpomcaijcaa
open Go.RowKit

set_option maxHeartbeats 1600000 in
set_option maxRecDepth 20000 in
theorem refMay_any (fv dv : Value) (s : Sl.S) (w : World) (h : SlAt w fv dv s) (hm : Sl.took s ≤ 1000000) (hf : s.full.length ≤ 1000000) :
    Calls Try.prog 14 #[SlV s.kind s.next fv dv] w fun e w' => e = .returned (.bool (Sl.may s)) ∧ Below w.heap.size w w' := by
  obtain ⟨W, hW⟩ : ∃ W, W = w.alloc (sobj s.kind s.next fv dv) := ⟨_, rfl⟩
  have hb0 : Below w.heap.size w W := by rw [hW]; exact (Below.refl _ _).alloc (Nat.le_refl _) _
  have hrow := sblk w s.kind s.next fv dv
  rw [← hW] at hrow
  have hA := h.below hb0
  obtain ⟨p1, c1, p2, c2, rfl, rfl⟩ := slv_slices hA
  obtain ⟨q0, q1, q2, q3⟩ := four_cell hrow
  unfold sobj at hW
  have HB0 := Lib.hid hb0
  have HRM := Lib.hid (refRoom_any _ _ s W hA hm)
  have hlen : s.data.length ≤ 1000000 := by unfold Sl.took at hm; omega
  obtain ⟨p, cap, hpc, hcap, -, hform⟩ := hA.data.form2
  simp only [Value.slice.injEq] at hpc
  obtain ⟨rfl, -, rfl⟩ := hpc
  have HF := Lib.hid hform
  obtain ⟨p, cap, hpc, hcap1, -, hform1⟩ := FAt.form hA.full
  simp only [Value.slice.injEq] at hpc
  obtain ⟨rfl, -, rfl⟩ := hpc
  have HF1 := Lib.hid hform1
  clear hb0 hrow hA h hm hform hcap hform1 hcap1
  go_enter Try.func14, Try.ntmps14
  go_upto_region 1 with (fail)
  rw [← hW]
  clear hW
  by_cases h1 : s.full.length = s.data.length
  · have hi1 : ((s.full.length : Int) != (s.data.length : Int)) = false := by simp; omega
    have hi1' : (s.full.length : Int) = (s.data.length : Int) := by omega
    by_cases h2 : s.full.length ≤ 247
    · have hi2 : ¬ (247 : Int) < (s.full.length : Int) := by omega
      have H1 := Lib.hid h1
      have H2 := Lib.hid h2
      have H1I := Lib.hid hi1'
      by_cases h3 : 0 < s.full.length
      · have hi3 : (0 : Int) < (s.full.length : Int) := by omega
        have H3 := Lib.hid h3
        obtain ⟨b, off, rfl, hc⟩ := HF1.out h3
        have hcl := hc (s.full.length - 1) (by omega)
        have hw3 := IntWalk.i64_in ((s.full.length : Int) - 1) (by omega)
        have hz1 : (0 : Int) ≤ (s.full.length : Int) - 1 := by omega
        have hz2 : (s.full.length : Int) - 1 < (s.full.length : Int) := by omega
        cases h4 : Sl.fa s (s.full.length - 1) with
        | false =>
          have HMY := Lib.hid (Sl.may_false (fun hh => by rw [hh.last h3] at h4; cases h4))
          rw [h4] at hcl
          clear h1 hi1' hc h3 h2
          generalize s.full.length = n at *
          generalize s.data.length = m at *
          go_wp2_with fail
          go_ret
          exact ⟨by rw [HMY.out]; rfl, HB0.out⟩
        | true =>
          have HL : Hid (0 < s.full.length → Sl.fa s (s.full.length - 1) = true) := fun _ => h4
          rw [h4] at hcl
          clear h1 hi1' hc h3 h2 h4
          go_wp2_with fail
          go_loopw [4] (fun i wr => ∃ k : Nat, k ≤ s.full.length ∧ i = .int .i64 k ∧ (∀ j, j < k → Sl.fa s j = false → Sl.da s j = []) ∧ W = wr) (fun i _ => s.full.length - (intOf i).toNat)
          case atStart => exact ⟨0, Nat.zero_le _, rfl, fun j hj => absurd hj (Nat.not_lt_zero _), rfl⟩
          case round =>
            obtain ⟨k, hk, rfl, hn, rfl⟩ := hrel
            have HN := Lib.hid hn
            clear hn
            by_cases hlt : k < s.full.length
            · obtain ⟨bd, od, rfl, hcd⟩ := HF.out (by have := H1.out; omega)
              obtain ⟨bf, of, hpf, hcf⟩ := HF1.out (by omega)
              obtain ⟨qd, cd, hud, -⟩ := hcd k (by have := H1.out; omega)
              have huf := hcf k hlt
              have hi5 : (k : Int) < (s.full.length : Int) := by omega
              have hi6 : (k : Int) < (s.data.length : Int) := by have := H1.out; omega
              have hw5 := IntWalk.i64_in ((k : Int) + 1) (by omega)
              have HLT2 := Lib.hid hlt
              obtain ⟨rfl, rfl⟩ : b = bf ∧ off = of := by simpa using hpf
              cases h6 : Sl.fa s k with
              | true =>
                rw [h6] at huf
                have HN2 : Hid (∀ j, j < k + 1 → Sl.fa s j = false → Sl.da s j = []) := fun j hj hf' => by
                  by_cases e : j = k
                  · rw [e, h6] at hf'; cases hf'
                  · exact HN.out j (by omega) hf'
                clear h6 hcd hcf hlt
                go_wp2_with fail
                go_roundw
                case rel => exact ⟨k + 1, by have := HLT2.out; omega, by go_num, HN2.out, by first | rfl | trivial⟩
                case measure => have := HLT2.out; simp [intOf]; omega
              | false =>
                rw [h6] at huf
                have H6 := Lib.hid h6
                by_cases h7 : 0 < (s.data.getD k []).length
                · have HMY := Lib.hid (Sl.may_false (s := s) (fun hh => by
                    have h8 : s.data.getD k [] = [] := hh.none k hlt h6
                    rw [h8] at h7
                    exact absurd h7 (Nat.lt_irrefl _)))
                  have hi7 : (0 : Int) < ((s.data.getD k []).length : Int) := by omega
                  clear h6 h7 hcd hcf hlt
                  generalize (s.data.getD k []).length = mm at *
                  go_wp2_with fail
                  go_ret
                  exact ⟨by rw [HMY.out]; rfl, HB0.out⟩
                · have h8 : s.data.getD k [] = [] := List.eq_nil_of_length_eq_zero (by omega)
                  have hi7 : ¬ (0 : Int) < ((s.data.getD k []).length : Int) := by omega
                  have HN2 : Hid (∀ j, j < k + 1 → Sl.fa s j = false → Sl.da s j = []) := fun j hj hf' => by
                    by_cases e : j = k
                    · rw [e]; exact h8
                    · exact HN.out j (by omega) hf'
                  clear h6 h7 h8 hcd hcf hlt
                  generalize (s.data.getD k []).length = mm at *
                  go_wp2_with fail
                  go_roundw
                  case rel => exact ⟨k + 1, by have := HLT2.out; omega, by go_num, HN2.out, by first | rfl | trivial⟩
                  case measure => have := HLT2.out; simp [intOf]; omega
            · obtain rfl : k = s.full.length := by omega
              have HN3 := Lib.hid HN.out
              clear hlt hk
              go_wp2_with fail
              refine HRM.out.mono ?_
              rintro e w2 ⟨rfl, hb2⟩
              have HB2 := Lib.hid (HB0.out.trans (hb2.mono HB0.out.size))
              have HMY : Hid (Sl.may s = decide ((Sl.took s : Int) ≤ 500)) := by
                show _ = _
                by_cases h9 : Sl.took s ≤ 500
                · rw [decide_eq_true (by omega)]; exact Sl.may_true ⟨H1.out, H2.out, HL.out, fun i hi hf' => HN3.out i hi hf', h9⟩
                · rw [decide_eq_false (by omega)]; exact Sl.may_false (fun hh => h9 hh.fit)
              clear hb2
              generalize Sl.took s = tk at *
              go_wp2_with fail
              go_ret
              exact ⟨by rw [HMY.out]; rfl, HB2.out⟩
      · have hi3 : ¬ (0 : Int) < (s.full.length : Int) := by omega
        have HL : Hid (0 < s.full.length → Sl.fa s (s.full.length - 1) = true) := fun h => absurd h h3
        have H3 := Lib.hid h3
        clear h1 hi1' h3 h2
        go_wp2_with fail
        go_loopw [4] (fun i wr => ∃ k : Nat, k ≤ s.full.length ∧ i = .int .i64 k ∧ (∀ j, j < k → Sl.fa s j = false → Sl.da s j = []) ∧ W = wr) (fun i _ => s.full.length - (intOf i).toNat)
        case atStart => exact ⟨0, Nat.zero_le _, rfl, fun j hj => absurd hj (Nat.not_lt_zero _), rfl⟩
        case round =>
          obtain ⟨k, hk, rfl, hn, rfl⟩ := hrel
          have HN := Lib.hid hn
          clear hn
          by_cases hlt : k < s.full.length
          · exact absurd (Nat.lt_of_le_of_lt (Nat.zero_le _) hlt) H3.out
          · obtain rfl : k = s.full.length := by omega
            have HN3 := Lib.hid HN.out
            clear hlt hk
            go_wp2_with fail
            refine HRM.out.mono ?_
            rintro e w2 ⟨rfl, hb2⟩
            have HB2 := Lib.hid (HB0.out.trans (hb2.mono HB0.out.size))
            have HMY : Hid (Sl.may s = decide ((Sl.took s : Int) ≤ 500)) := by
              show _ = _
              by_cases h9 : Sl.took s ≤ 500
              · rw [decide_eq_true (by omega)]; exact Sl.may_true ⟨H1.out, H2.out, HL.out, fun i hi hf' => HN3.out i hi hf', h9⟩
              · rw [decide_eq_false (by omega)]; exact Sl.may_false (fun hh => h9 hh.fit)
            clear hb2
            generalize Sl.took s = tk at *
            go_wp2_with fail
            go_ret
            exact ⟨by rw [HMY.out]; rfl, HB2.out⟩
    · have HMY := Lib.hid (Sl.may_false (fun hh => h2 hh.most))
      have hi2 : (247 : Int) < (s.full.length : Int) := by omega
      clear h1 hi1'
      generalize s.full.length = n at *
      generalize s.data.length = m at *
      go_wp2_with fail
      go_ret
      exact ⟨by rw [HMY.out]; rfl, HB0.out⟩
  · have HMY := Lib.hid (Sl.may_false (fun hh => h1 hh.len))
    have hi1 : ¬ (s.full.length : Int) = (s.data.length : Int) := by omega
    have hi2 : ((s.full.length : Int) != (s.data.length : Int)) = true := by simp; omega
    clear h1
    generalize s.full.length = n at *
    generalize s.data.length = m at *
    go_wp2_with fail
    go_ret
    exact ⟨by rw [HMY.out]; rfl, HB0.out⟩
end Go.Proofs.Ytbfpmpomcaijcaa
