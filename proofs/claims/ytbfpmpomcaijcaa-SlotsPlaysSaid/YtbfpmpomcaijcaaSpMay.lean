/- Whether a slotted body may be, as the program reckons it. Conditions: the values read as a body; few slots and bytes. -/
import Derived.Test.YtbfpmpomcaijcaaSpSmall
import Derived.Test.YtbfpmpomcaijcaaCodeRd
namespace Go.Proofs.Ytbfpmpomcaijcaa
open Go.RowKit

namespace Sl
theorem may_last {s : S} (h : May s) : trimN s.full s.full.length = s.full.length := trimN_last h.last
theorem trimN_full {l : List Bool} (h : trimN l l.length = l.length) (h0 : 0 < l.length) : l.getD (l.length - 1) false = true := by
  obtain ⟨m, hm⟩ : ∃ m, l.length = m + 1 := ⟨l.length - 1, by omega⟩
  rw [hm] at h ⊢
  unfold trimN at h
  cases hf : l.getD m false with
  | true => exact hf
  | false =>
    rw [hf, if_neg (by decide)] at h
    have := trimN_le l m
    omega
end Sl
theorem SlAt.drewN {w : World} {fv dv : Value} {s : Sl.S} (h : SlAt w fv dv s) (n : Nat) : SlAt (w.drewN n) fv dv s := h.below (below_drewN _ _ n)

set_option maxHeartbeats 3200000 in
set_option maxRecDepth 20000 in
theorem pMay_any (fv dv : Value) (s : Sl.S) (w : World) (h : SlAt w fv dv s) (hs : Sl.Small s) :
    Calls Try.prog 13 #[SlV s.kind s.next fv dv] w fun e w' => e = .returned (.bool (Sl.may s)) ∧ Below w.heap.size w w' := by
  obtain ⟨W, hW⟩ : ∃ W, W = w.alloc (sobj s.kind s.next fv dv) := ⟨_, rfl⟩
  have hb0 : Below w.heap.size w W := by rw [hW]; exact (Below.refl _ _).alloc (Nat.le_refl _) _
  have hrow := sblk w s.kind s.next fv dv
  rw [← hW] at hrow
  have hA := h.below hb0
  obtain ⟨p1, c1, p2, c2, rfl, rfl⟩ := slv_slices hA
  obtain ⟨q0, q1, q2, q3⟩ := four_cell hrow
  unfold sobj at hW
  have HBN : Hid (∀ n, Below w.heap.size w (W.drewN n)) := fun n => hb0.trans (below_drewN _ _ n)
  have HSP := Lib.hid (fun n => calls_quiet (spare_any _ _ (W.drewN n) (hA.drewN n).data (by have := hs.d; omega) (by have := hs.t; omega)))
  have HTR := Lib.hid (fun n => calls_quiet (trimmed_any _ _ (W.drewN n) (hA.drewN n).full))
  have hl1 : s.full.length ≤ 4000 := hs.f
  have hl2 : s.data.length ≤ 4000 := hs.d
  obtain ⟨p, cap, hpc, hcap, -, hform⟩ := hA.data.form2
  simp only [Value.slice.injEq] at hpc
  obtain ⟨rfl, -, rfl⟩ := hpc
  have HF := Lib.hid hform
  obtain ⟨p, cap, hpc, hcap1, -, hform1⟩ := FAt.form hA.full
  simp only [Value.slice.injEq] at hpc
  obtain ⟨rfl, -, rfl⟩ := hpc
  have HF1 := Lib.hid hform1
  clear hb0 hrow hA h hs hform hcap hform1 hcap1
  go_enter Try.func13, Try.ntmps13
  go_upto_region 1 with (fail)
  rw [← hW]
  clear hW
  by_cases h1 : s.full.length = s.data.length
  · have hi1 : ((s.full.length : Int) != (s.data.length : Int)) = false := by simp; omega
    by_cases h2 : Sl.took s ≤ 500
    · have hi2 : ¬ Sl.spare s.data < 0 := by rw [Sl.spare_ge h2]; omega
      by_cases h3 : Sl.trimN s.full s.full.length = s.full.length
      · have hi3 : ((Sl.trimN s.full s.full.length : Int) != (s.full.length : Int)) = false := by rw [h3]; simp
        have H1 := Lib.hid h1
        have H2 := Lib.hid h2
        have H3 := Lib.hid (Sl.trimN_full h3)
        clear h1 h2 h3
        generalize Sl.trimN s.full s.full.length = tr at *
        generalize Sl.spare s.data = sp at *
        go_quiet ((with_reducible first | (go_at_call 30; exact HSP.out _) | (go_at_call 31; exact HTR.out _)))
        go_wp2_with fail
        go_loopw [30] (fun i wr => ∃ k m : Nat, k ≤ s.full.length ∧ i = .int .i64 k ∧ (∀ j, j < k → Sl.fa s j = false → Sl.da s j = []) ∧ wr = W.drewN m) (fun i _ => s.full.length - (intOf i).toNat)
        case atStart => exact ⟨0, _, Nat.zero_le _, rfl, fun j hj => absurd hj (Nat.not_lt_zero _), rfl⟩
        case round =>
          obtain ⟨k, m, hk, rfl, hn, rfl⟩ := hrel
          have HN := Lib.hid hn
          clear hn
          by_cases hlt : k < s.full.length
          · obtain ⟨bd, od, rfl, hcd⟩ := HF.out (by have := H1.out; omega)
            obtain ⟨bf, of, rfl, hcf⟩ := HF1.out (by omega)
            obtain ⟨qd, cd, hud, -⟩ := hcd k (by have := H1.out; omega)
            have huf := hcf k hlt
            have hi5 : (k : Int) < (s.full.length : Int) := by omega
            have hi6 : (k : Int) < (s.data.length : Int) := by have := H1.out; omega
            have hw5 := IntWalk.i64_in ((k : Int) + 1) (by omega)
            have HLT2 := Lib.hid hlt
            cases h6 : Sl.fa s k with
            | true =>
              rw [h6] at huf
              have HN2 : Hid (∀ j, j < k + 1 → Sl.fa s j = false → Sl.da s j = []) := fun j hj hf' => by
                by_cases e : j = k
                · rw [e, h6] at hf'; cases hf'
                · exact HN.out j (by omega) hf'
              clear h6 hcd hcf hlt
              go_wp2_with fail
              go_roundw
              case rel => exact ⟨k + 1, _, by have := HLT2.out; omega, by go_num, HN2.out, by first | rfl | trivial⟩
              case measure => have := HLT2.out; simp [intOf]; omega
            | false =>
              rw [h6] at huf
              have H6 := Lib.hid h6
              by_cases h7 : 0 < (s.data.getD k []).length
              · have HMY := Lib.hid (Sl.may_false (s := s) (fun hh => by
                  have h8 : s.data.getD k [] = [] := hh.none k hlt h6
                  rw [h8] at h7
                  exact absurd h7 (Nat.lt_irrefl _)))
                have hi7 : (0 : Int) < ((s.data.getD k []).length : Int) := by omega
                clear h6 h7 hcd hcf hlt
                generalize (s.data.getD k []).length = mm at *
                go_wp2_with fail
                go_ret
                exact ⟨by rw [HMY.out]; rfl, HBN.out _⟩
              · have h8 : s.data.getD k [] = [] := List.eq_nil_of_length_eq_zero (by omega)
                have hi7 : ¬ (0 : Int) < ((s.data.getD k []).length : Int) := by omega
                have HN2 : Hid (∀ j, j < k + 1 → Sl.fa s j = false → Sl.da s j = []) := fun j hj hf' => by
                  by_cases e : j = k
                  · rw [e]; exact h8
                  · exact HN.out j (by omega) hf'
                clear h6 h7 h8 hcd hcf hlt
                generalize (s.data.getD k []).length = mm at *
                go_wp2_with fail
                go_roundw
                case rel => exact ⟨k + 1, _, by have := HLT2.out; omega, by go_num, HN2.out, by first | rfl | trivial⟩
                case measure => have := HLT2.out; simp [intOf]; omega
          · obtain rfl : k = s.full.length := by omega
            have HMY : Hid (Sl.may s = true) := Sl.may_true ⟨H1.out, by have h1 := H1.out; have h2 := H2.out; unfold Sl.took at h2; omega, H3.out, HN.out, H2.out⟩
            go_wp2_with fail
            go_ret
            exact ⟨by rw [HMY.out]; rfl, HBN.out _⟩
      · have hi3 : ((Sl.trimN s.full s.full.length : Int) != (s.full.length : Int)) = true := by simp; omega
        have HMY := Lib.hid (Sl.may_false (s := s) (fun hh => h3 (Sl.may_last hh)))
        clear h1 h2 h3
        generalize Sl.trimN s.full s.full.length = tr at *
        generalize Sl.spare s.data = sp at *
        go_quiet ((with_reducible first | (go_at_call 30; exact HSP.out _) | (go_at_call 31; exact HTR.out _)))
        go_wp2_with fail
        go_ret
        exact ⟨by rw [HMY.out]; rfl, HBN.out _⟩
    · have hi2 : Sl.spare s.data < 0 := Sl.spare_lt (by omega)
      have HMY := Lib.hid (Sl.may_false (s := s) (fun hh => h2 hh.fit))
      clear h1 h2
      generalize Sl.trimN s.full s.full.length = tr at *
      generalize Sl.spare s.data = sp at *
      go_quiet ((with_reducible first | (go_at_call 30; exact HSP.out _) | (go_at_call 31; exact HTR.out _)))
      go_wp2_with fail
      go_ret
      exact ⟨by rw [HMY.out]; rfl, HBN.out _⟩
  · have hi1 : ((s.full.length : Int) != (s.data.length : Int)) = true := by simp; omega
    have HMY := Lib.hid (Sl.may_false (s := s) (fun hh => h1 hh.len))
    clear h1
    generalize Sl.trimN s.full s.full.length = tr at *
    generalize Sl.spare s.data = sp at *
    go_quiet ((with_reducible first | (go_at_call 30; exact HSP.out _) | (go_at_call 31; exact HTR.out _)))
    go_wp2_with fail
    go_ret
    exact ⟨by rw [HMY.out]; rfl, HBN.out _⟩
end Go.Proofs.Ytbfpmpomcaijcaa
