/- Has a slot something, and what, by the document's own reckoning. Conditions: the values read as a body. -/
import Derived.Test.YtbfpmpomcaijcaaSlApi
namespace Go.Proofs.Ytbfpmpomcaijcaa
open Go.RowKit

set_option maxHeartbeats 1600000 in
set_option maxRecDepth 20000 in
theorem refHas_any (fv dv : Value) (s : Sl.S) (a : Int) (w : World) (h : SlAt w fv dv s) :
    Calls Try.prog 46 #[SlV s.kind s.next fv dv, .int .i64 a] w fun e w' => e = .returned (.bool (decide (Sl.has s a))) ∧ Below w.heap.size w w' := by
  obtain ⟨W, hW⟩ : ∃ W, W = w.alloc (sobj s.kind s.next fv dv) := ⟨_, rfl⟩
  have hb0 : Below w.heap.size w W := by rw [hW]; exact below_new _ _
  have hrow := sblk w s.kind s.next fv dv
  rw [← hW] at hrow
  have hA := h.below hb0
  obtain ⟨p1, c1, p2, c2, rfl, rfl⟩ := slv_slices hA
  obtain ⟨q0, q1, q2, q3⟩ := four_cell hrow
  unfold sobj at hW
  have HB0 := Lib.hid hb0
  obtain ⟨p, cap, hpc, -, -, hform⟩ := FAt.form hA.full
  simp only [Value.slice.injEq] at hpc
  obtain ⟨rfl, -, rfl⟩ := hpc
  have HF := Lib.hid hform
  clear hb0 hrow hA h hform
  go_enter Try.func46, Try.ntmps46
  go_upto_region 1 with (fail)
  rw [← hW]
  clear hW
  by_cases h1 : 0 ≤ a
  · by_cases h2 : a < (s.full.length : Int)
    · obtain ⟨b, off, rfl, hc⟩ := HF.out (by omega)
      have hcl := hc a.toNat (by omega)
      have hd : Hid (decide (Sl.has s a) = Sl.fa s a.toNat) := by
        show _ = _
        cases hx : Sl.fa s a.toNat with
        | true => exact decide_eq_true ⟨h1, h2, hx⟩
        | false => exact decide_eq_false (fun hh => by have h3 := hh.2.2; rw [hx] at h3; cases h3)
      clear hc
      cases hx : Sl.fa s a.toNat
      all_goals
        rw [hx] at hcl hd
        go_wp2_with fail
        go_ret
        exact ⟨by rw [hd.out]; rfl, HB0.out⟩
    · have hd : Hid (decide (Sl.has s a) = false) := decide_eq_false (fun hh => h2 hh.2.1)
      go_wp2_with fail
      go_ret
      exact ⟨by rw [hd.out]; rfl, HB0.out⟩
  · have hd : Hid (decide (Sl.has s a) = false) := decide_eq_false (fun hh => h1 hh.1)
    go_wp2_with fail
    go_ret
    exact ⟨by rw [hd.out]; rfl, HB0.out⟩

set_option maxHeartbeats 1600000 in
set_option maxRecDepth 20000 in
theorem refGet_any (fv dv : Value) (s : Sl.S) (a : Int) (w : World) (h : SlAt w fv dv s) (hs : Sl.Small s) :
    Calls Try.prog 26 #[SlV s.kind s.next fv dv, .int .i64 a] w fun e w' => ∃ u, e = .returned (.tuple #[u, .int .i64 ((Sl.getR s a).2 : Int)]) ∧ Bts w' u (Sl.getR s a).1 ∧ Below w.heap.size w w' := by
  obtain ⟨W, hW⟩ : ∃ W, W = w.alloc (sobj s.kind s.next fv dv) := ⟨_, rfl⟩
  have hb0 : Below w.heap.size w W := by rw [hW]; exact below_new _ _
  have hrow := sblk w s.kind s.next fv dv
  rw [← hW] at hrow
  have hA := h.below hb0
  obtain ⟨p1, c1, p2, c2, rfl, rfl⟩ := slv_slices hA
  obtain ⟨q0, q1, q2, q3⟩ := four_cell hrow
  unfold sobj at hW
  have HB0 := Lib.hid hb0
  have HA := Lib.hid hA
  have HROW := Lib.hid hrow
  have HM := Lib.hid (refMay_any _ _ s W hA hs.took hs.full)
  have HH := Lib.hid (fun W' (hb : Below W.heap.size W W') => refHas_any _ _ s a W' (hA.below hb))
  have HPL : Hid (w.heap.size < W.heap.size) := lt_of_block hrow
  clear hb0 hrow hA h hs
  go_enter Try.func26, Try.ntmps26
  go_upto_region 1 with (fail)
  rw [← hW]
  clear hW
  by_cases hmy : Sl.May s
  · have HMY := Lib.hid hmy
    rw [Sl.may_true hmy] at HM
    clear hmy
    go_wp2_with fail
    refine HM.out.mono ?_
    rintro e w2 ⟨rfl, hb2⟩
    have HB2 := Lib.hid hb2
    have c0 := hb2.cell (p := ⟨w.heap.size, 0, none⟩) HPL.out
    have c1' := hb2.cell (p := ⟨w.heap.size, 1, none⟩) HPL.out
    have c2' := hb2.cell (p := ⟨w.heap.size, 2, none⟩) HPL.out
    have c3' := hb2.cell (p := ⟨w.heap.size, 3, none⟩) HPL.out
    rw [q0] at c0
    rw [q1] at c1'
    rw [q2] at c2'
    rw [q3] at c3'
    clear hb2 q0 q1 q2 q3
    go_wp2_with fail
    refine (HH.out w2 HB2.out).mono ?_
    rintro e w3 ⟨rfl, hb3⟩
    have HB3 := Lib.hid (HB2.out.trans (hb3.mono HB2.out.size))
    clear hb3 c0 c1' c2' c3'
    by_cases hhs : Sl.has s a
    · have HR : Hid (Sl.getR s a = (Sl.da s a.toNat, 0)) := by
        show _ = _
        unfold Sl.getR
        rw [Sl.ifP_pos HMY.out, Sl.ifP_pos hhs]
      have hlt : a.toNat < s.data.length := by rw [← HMY.out.len]; have h1 := hhs.1; have h2 := hhs.2.1; omega
      have hi : a < (s.data.length : Int) := by have h1 := hhs.1; omega
      have h0 : 0 ≤ a := hhs.1
      rw [decide_eq_true hhs]
      obtain ⟨p, cap, hpc, -, -, hform⟩ := HA.out.data.form2
      simp only [Value.slice.injEq] at hpc
      obtain ⟨rfl, -, rfl⟩ := hpc
      obtain ⟨bd, od, rfl, hc⟩ := hform (by omega)
      obtain ⟨q, c, hu, hbt⟩ := hc a.toNat hlt
      have d3 := HB3.out.cell (p := ⟨w.heap.size, 3, none⟩) HPL.out
      rw [(four_cell HROW.out).2.2.2] at d3
      have d4 := HB3.out.cell (p := ⟨bd, od + a.toNat, none⟩) (block_lt_of_cell hu)
      rw [hu] at d4
      have HBT := Lib.hid (hbt.below HB3.out)
      have hz : Sl.da s a.toNat = s.data.getD a.toNat [] := rfl
      rw [hz] at HR
      clear hform hc hu hbt hhs hz
      generalize (s.data.getD a.toNat []).length = z at *
      go_wp2_with fail
      go_ret2
      exact ⟨_, by rw [HR.out]; rfl, by rw [HR.out]; exact HBT.out, HB0.out.trans (HB3.out.mono HB0.out.size)⟩
    · have HR : Hid (Sl.getR s a = ([], 7)) := by
        show _ = _
        unfold Sl.getR
        rw [Sl.ifP_pos HMY.out, Sl.ifP_neg hhs]
      rw [decide_eq_false hhs]
      clear hhs
      go_wp2_with fail
      go_ret2
      exact ⟨_, by rw [HR.out]; rfl, by rw [HR.out]; exact (own_nil 0 _).bts, HB0.out.trans (HB3.out.mono HB0.out.size)⟩
  · have HR : Hid (Sl.getR s a = ([], 2)) := Sl.ifP_neg hmy _ _
    rw [Sl.may_false hmy] at HM
    clear hmy
    go_wp2_with fail
    refine HM.out.mono ?_
    rintro e w2 ⟨rfl, hb2⟩
    have HB2 := Lib.hid (HB0.out.trans (hb2.mono HB0.out.size))
    clear hb2
    go_wp2_with fail
    go_ret2
    exact ⟨_, by rw [HR.out]; rfl, by rw [HR.out]; exact (own_nil 0 _).bts, HB2.out⟩
end Go.Proofs.Ytbfpmpomcaijcaa
