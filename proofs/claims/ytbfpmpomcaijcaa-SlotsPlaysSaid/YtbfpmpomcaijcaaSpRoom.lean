/- The program's Room and Get of slots, and whether something stands in a slot. Conditions: the values read as a body; few slots and bytes. -/
import Derived.Test.YtbfpmpomcaijcaaSpMay
import Derived.Test.YtbfpmpomcaijcaaSlSt
namespace Go.Proofs.Ytbfpmpomcaijcaa
open Go.RowKit

set_option maxHeartbeats 1600000 in
set_option maxRecDepth 20000 in
theorem pRoom_any (fv dv : Value) (s : Sl.S) (w : World) (h : SlAt w fv dv s) (hs : Sl.Small s) :
    Calls Try.prog 12 #[SlV s.kind s.next fv dv] w fun e w' => e = .returned (.int .i64 ((Sl.ifP (Sl.May s) (500 - Sl.took s) 0 : Nat) : Int)) ∧ Below w.heap.size w w' := by
  obtain ⟨W, hW⟩ : ∃ W, W = w.alloc (sobj s.kind s.next fv dv) := ⟨_, rfl⟩
  have hb0 : Below w.heap.size w W := by rw [hW]; exact below_new _ _
  have hrow := sblk w s.kind s.next fv dv
  rw [← hW] at hrow
  have hA := h.below hb0
  obtain ⟨p1, c1, p2, c2, rfl, rfl⟩ := slv_slices hA
  obtain ⟨q0, q1, q2, q3⟩ := four_cell hrow
  unfold sobj at hW
  have HB0 := Lib.hid hb0
  have HM := Lib.hid (pMay_any _ _ s W hA hs)
  have HSP := Lib.hid (fun W' (hb : Below W.heap.size W W') => spare_any _ _ W' (hA.below hb).data (by have := hs.d; omega) (by have := hs.t; omega))
  have HPL : Hid (w.heap.size < W.heap.size) := lt_of_block hrow
  clear hb0 hrow hA h hs
  obtain ⟨rr, hrr⟩ : ∃ rr, rr = Sl.ifP (Sl.May s) (500 - Sl.took s) 0 := ⟨_, rfl⟩
  rw [← hrr]
  have HRR := Lib.hid hrr
  clear hrr
  go_enter Try.func12, Try.ntmps12
  go_upto_region 1 with (fail)
  rw [← hW]
  clear hW
  by_cases hmy : Sl.May s
  · have HMY := Lib.hid hmy
    rw [Sl.may_true hmy] at HM
    clear hmy
    go_wp2_with fail
    refine HM.out.mono ?_
    rintro e w2 ⟨rfl, hb2⟩
    have HB2 := Lib.hid hb2
    have c3' := hb2.cell (p := ⟨w.heap.size, 3, none⟩) HPL.out
    rw [q3] at c3'
    clear hb2 q0 q1 q2 q3
    go_wp2_with fail
    refine (HSP.out w2 HB2.out).mono ?_
    rintro e w3 ⟨rfl, rfl⟩
    go_wp2_with fail
    go_ret
    refine ⟨?_, HB0.out.trans (HB2.out.mono HB0.out.size)⟩
    show Ending.returned (.int .i64 (Sl.spare s.data)) = _
    rw [HRR.out, Sl.ifP_pos HMY.out, Sl.spare_ge HMY.out.fit]
    have := HMY.out.fit
    rw [show ((500 - Sl.took s : Nat) : Int) = 500 - (Sl.took s : Int) by omega]
  · have HR : Hid (rr = 0) := by rw [HRR.out]; exact Sl.ifP_neg hmy _ _
    rw [Sl.may_false hmy] at HM
    clear hmy
    go_wp2_with fail
    refine HM.out.mono ?_
    rintro e w2 ⟨rfl, hb2⟩
    have HB2 := Lib.hid (HB0.out.trans (hb2.mono HB0.out.size))
    clear hb2
    go_wp2_with fail
    go_ret
    exact ⟨by rw [HR.out]; rfl, HB2.out⟩

/-- Why nothing may be done with a slot. -/
noncomputable def Sl.standN (s : S) (a : Int) : Nat := ifP (May s) (ifP (has s a) 0 7) 2

set_option maxHeartbeats 1600000 in
set_option maxRecDepth 20000 in
theorem stands_any (fv dv : Value) (s : Sl.S) (a : Int) (w : World) (h : SlAt w fv dv s) (hs : Sl.Small s) :
    Calls Try.prog 45 #[SlV s.kind s.next fv dv, .int .i64 a] w fun e w' => e = .returned (.int .i64 (Sl.standN s a : Nat)) ∧ Below w.heap.size w w' := by
  obtain ⟨W, hW⟩ : ∃ W, W = w.alloc (sobj s.kind s.next fv dv) := ⟨_, rfl⟩
  have hb0 : Below w.heap.size w W := by rw [hW]; exact below_new _ _
  have hrow := sblk w s.kind s.next fv dv
  rw [← hW] at hrow
  have hA := h.below hb0
  obtain ⟨p1, c1, p2, c2, rfl, rfl⟩ := slv_slices hA
  obtain ⟨q0, q1, q2, q3⟩ := four_cell hrow
  unfold sobj at hW
  have HB0 := Lib.hid hb0
  have HM := Lib.hid (pMay_any _ _ s W hA hs)
  have HPL : Hid (w.heap.size < W.heap.size) := lt_of_block hrow
  obtain ⟨p, cap, hpc, -, -, hform⟩ := FAt.form hA.full
  simp only [Value.slice.injEq] at hpc
  obtain ⟨rfl, -, rfl⟩ := hpc
  have HF := Lib.hid hform
  have HFL := Lib.hid hs.f
  clear hb0 hrow hA h hform hs
  obtain ⟨rr, hrr⟩ : ∃ rr, rr = Sl.standN s a := ⟨_, rfl⟩
  rw [← hrr]
  have HRR := Lib.hid hrr
  clear hrr
  go_enter Try.func45, Try.ntmps45
  go_upto_region 1 with (fail)
  rw [← hW]
  clear hW
  by_cases hmy : Sl.May s
  · have HMY := Lib.hid hmy
    rw [Sl.may_true hmy] at HM
    clear hmy
    go_wp2_with fail
    refine HM.out.mono ?_
    rintro e w2 ⟨rfl, hb2⟩
    have HB2 := Lib.hid (HB0.out.trans (hb2.mono HB0.out.size))
    have c2' := hb2.cell (p := ⟨w.heap.size, 2, none⟩) HPL.out
    rw [q2] at c2'
    have HBB := Lib.hid hb2
    clear hb2 q0 q1 q2 q3
    by_cases h1 : a < 0
    · have HR : Hid (rr = 7) := by show rr = _; rw [HRR.out]; unfold Sl.standN; rw [Sl.ifP_pos HMY.out, Sl.ifP_neg (fun hh => by have := hh.1; omega)]
      go_wp2_with fail
      go_ret
      exact ⟨by rw [HR.out]; rfl, HB2.out⟩
    · by_cases h2 : (s.full.length : Int) ≤ a
      · have HR : Hid (rr = 7) := by show rr = _; rw [HRR.out]; unfold Sl.standN; rw [Sl.ifP_pos HMY.out, Sl.ifP_neg (fun hh => by have := hh.2.1; omega)]
        go_wp2_with fail
        go_ret
        exact ⟨by rw [HR.out]; rfl, HB2.out⟩
      · obtain ⟨b, off, rfl, hc⟩ := HF.out (by omega)
        have hcl := hc a.toNat (by omega)
        have hcl2 := HBB.out.cell (p := ⟨b, off + a.toNat, none⟩) (block_lt_of_cell hcl)
        rw [hcl] at hcl2
        have h3 : (0 : Int) ≤ a := by omega
        have h4 : a < (s.full.length : Int) := by omega
        clear hc hcl
        cases hf : Sl.fa s a.toNat with
        | true =>
          have HR : Hid (rr = 0) := by show rr = _; rw [HRR.out]; unfold Sl.standN; rw [Sl.ifP_pos HMY.out, Sl.ifP_pos ⟨h3, h4, hf⟩]
          rw [hf] at hcl2
          clear hf
          go_wp2_with fail
          go_ret
          exact ⟨by rw [HR.out]; rfl, HB2.out⟩
        | false =>
          have HR : Hid (rr = 7) := by show rr = _; rw [HRR.out]; unfold Sl.standN; rw [Sl.ifP_pos HMY.out, Sl.ifP_neg (fun hh => by have h5 := hh.2.2; rw [hf] at h5; cases h5)]
          rw [hf] at hcl2
          clear hf
          go_wp2_with fail
          go_ret
          exact ⟨by rw [HR.out]; rfl, HB2.out⟩
  · have HR : Hid (rr = 2) := by rw [HRR.out]; exact Sl.ifP_neg hmy _ _
    rw [Sl.may_false hmy] at HM
    clear hmy
    go_wp2_with fail
    refine HM.out.mono ?_
    rintro e w2 ⟨rfl, hb2⟩
    have HB2 := Lib.hid (HB0.out.trans (hb2.mono HB0.out.size))
    clear hb2
    go_wp2_with fail
    go_ret
    exact ⟨by rw [HR.out]; rfl, HB2.out⟩

theorem Sl.stand_ok {s : S} {a : Int} (h : May s) (h2 : has s a) : standN s a = 0 := by unfold standN; rw [ifP_pos h, ifP_pos h2]
theorem Sl.stand_none {s : S} {a : Int} (h : May s) (h2 : ¬ has s a) : standN s a = 7 := by unfold standN; rw [ifP_pos h, ifP_neg h2]
theorem Sl.stand_arg {s : S} {a : Int} (h : ¬ May s) : standN s a = 2 := by unfold standN; rw [ifP_neg h]
theorem Sl.has_in {s : S} {a : Int} (h : May s) (h2 : has s a) : a.toNat < s.data.length ∧ (0 : Int) ≤ a ∧ a < (s.data.length : Int) ∧ a < (s.full.length : Int) := by
  have h1 := h.len
  obtain ⟨h3, h4, -⟩ := h2
  exact ⟨by omega, h3, by omega, h4⟩

set_option maxHeartbeats 1600000 in
set_option maxRecDepth 20000 in
theorem pGet_any (fv dv : Value) (s : Sl.S) (a : Int) (w : World) (h : SlAt w fv dv s) (hs : Sl.Small s) :
    Calls Try.prog 25 #[SlV s.kind s.next fv dv, .int .i64 a] w fun e w' => ∃ u, e = .returned (.tuple #[u, .int .i64 ((Sl.getR s a).2 : Int)]) ∧ Own w.heap.size w' u (Sl.getR s a).1 ∧ Below w.heap.size w w' := by
  obtain ⟨W, hW⟩ : ∃ W, W = w.alloc (sobj s.kind s.next fv dv) := ⟨_, rfl⟩
  have hb0 : Below w.heap.size w W := by rw [hW]; exact below_new _ _
  have hrow := sblk w s.kind s.next fv dv
  rw [← hW] at hrow
  have hA := h.below hb0
  obtain ⟨p1, c1, p2, c2, rfl, rfl⟩ := slv_slices hA
  obtain ⟨q0, q1, q2, q3⟩ := four_cell hrow
  unfold sobj at hW
  have HB0 := Lib.hid hb0
  have HA := Lib.hid hA
  have HM := Lib.hid (stands_any _ _ s a W hA hs)
  have HPL : Hid (w.heap.size < W.heap.size) := lt_of_block hrow
  clear hb0 hrow hA h hs
  obtain ⟨rr, hrr⟩ : ∃ rr, rr = Sl.getR s a := ⟨_, rfl⟩
  rw [← hrr]
  have HRR := Lib.hid hrr
  clear hrr
  go_enter Try.func25, Try.ntmps25
  go_upto_region 1 with (fail)
  rw [← hW]
  clear hW
  by_cases hok : Sl.May s ∧ Sl.has s a
  · obtain ⟨hmy, hh⟩ := hok
    obtain ⟨hlt, h0, hi, -⟩ := Sl.has_in hmy hh
    rw [Sl.stand_ok hmy hh] at HM
    have HR : Hid (rr = (Sl.da s a.toNat, 0)) := by
      show _ = _
      rw [HRR.out]
      unfold Sl.getR
      rw [Sl.ifP_pos hmy, Sl.ifP_pos hh]
    clear hmy hh
    go_wp2_with fail
    refine HM.out.mono ?_
    rintro e w2 ⟨rfl, hb2⟩
    have c3' := hb2.cell (p := ⟨w.heap.size, 3, none⟩) HPL.out
    rw [q3] at c3'
    obtain ⟨p, cap, hpc, -, -, hform⟩ := HA.out.data.form2
    simp only [Value.slice.injEq] at hpc
    obtain ⟨rfl, -, rfl⟩ := hpc
    obtain ⟨bd, od, rfl, hc⟩ := hform (by omega)
    obtain ⟨q, c, hu, hbt⟩ := hc a.toNat hlt
    have d4 := hb2.cell (p := ⟨bd, od + a.toNat, none⟩) (block_lt_of_cell hu)
    rw [hu] at d4
    have HCL := Lib.hid (clone_any _ _ _ (hbt.below hb2))
    have HB2 := Lib.hid (HB0.out.trans (hb2.mono HB0.out.size))
    have hz : Sl.da s a.toNat = s.data.getD a.toNat [] := rfl
    rw [hz] at HR
    clear hform hc hu hbt hz hb2 q0 q1 q2 q3
    obtain ⟨d, hdd⟩ : ∃ d, d = s.data.getD a.toNat [] := ⟨_, rfl⟩
    rw [← hdd] at d4 HCL HR
    clear hdd
    go_wp2_with fail
    refine HCL.out.mono ?_
    rintro e w3 ⟨u, rfl, hO3, hb3⟩
    have HO3 := Lib.hid (hO3.from HB2.out.size)
    have HB3 := Lib.hid (HB2.out.trans (hb3.mono HB2.out.size))
    clear hO3 hb3
    go_wp2_with fail
    go_ret2
    exact ⟨_, by rw [HR.out]; rfl, by rw [HR.out]; exact HO3.out, HB3.out⟩
  · obtain ⟨er, her, hrr⟩ : ∃ er : Nat, Sl.standN s a = er ∧ rr = ([], er) ∧ er ≠ 0 := by
      rw [HRR.out]
      by_cases hmy : Sl.May s
      · have hh : ¬ Sl.has s a := fun hh => hok ⟨hmy, hh⟩
        refine ⟨7, Sl.stand_none hmy hh, ?_, by decide⟩
        unfold Sl.getR
        rw [Sl.ifP_pos hmy, Sl.ifP_neg hh]
      · refine ⟨2, Sl.stand_arg hmy, ?_, by decide⟩
        unfold Sl.getR
        rw [Sl.ifP_neg hmy]
    obtain ⟨hr1, hr2⟩ := hrr
    have HR := Lib.hid hr1
    have hx : ((er : Int) != 0) = true := by simp; omega
    rw [her] at HM
    clear her hok hr1 hr2
    go_wp2_with fail
    refine HM.out.mono ?_
    rintro e w2 ⟨rfl, hb2⟩
    have HB2 := Lib.hid (HB0.out.trans (hb2.mono HB0.out.size))
    clear hb2
    go_wp2_with fail
    go_ret2
    exact ⟨_, by rw [HR.out]; rfl, by rw [HR.out]; exact own_nil _ _, HB2.out⟩
end Go.Proofs.Ytbfpmpomcaijcaa
