/- Which slotted bodies a law calls large. Conditions: the values read as a body. -/
import Derived.Test.YtbfpmpomcaijcaaSlKnown
namespace Go.Proofs.Ytbfpmpomcaijcaa
open Go.RowKit

/-- What large answers. -/
def LargeR (s : Sl.S) (w : World) (e : Ending) (w' : World) : Prop := ∃ r, e = .returned (.bool r) ∧ (r = false → Sl.Small s) ∧ Below w.heap.size w w'

set_option maxHeartbeats 1600000 in
set_option maxRecDepth 20000 in
theorem large_any (fv dv : Value) (s : Sl.S) (w : World) (h : SlAt w fv dv s) :
    Calls Try.prog 8 #[SlV s.kind s.next fv dv] w (LargeR s w) := by
  obtain ⟨W, hW⟩ : ∃ W, W = w.alloc (sobj s.kind s.next fv dv) := ⟨_, rfl⟩
  have hb0 : Below w.heap.size w W := by rw [hW]; exact below_new _ _
  have hrow := sblk w s.kind s.next fv dv
  rw [← hW] at hrow
  have hA := h.below hb0
  obtain ⟨p1, c1, p2, c2, rfl, rfl⟩ := slv_slices hA
  obtain ⟨-, -, q2, q3⟩ := four_cell hrow
  unfold sobj at hW
  have HB0 := Lib.hid hb0
  have hl1 : s.full.length ≤ 140737488355328 := by have := hA.full.len; rwa [fb_length] at this
  have hl2 : s.data.length ≤ 5864062014805 := hA.data.len
  obtain ⟨p, cap, hpc, hcap, -, hform⟩ := hA.data.form2
  simp only [Value.slice.injEq] at hpc
  obtain ⟨rfl, -, rfl⟩ := hpc
  have HF := Lib.hid hform
  have hw1 := IntWalk.i64_in ((s.full.length : Int) + (s.data.length : Int)) (by omega)
  clear hb0 hrow hA h hform hcap
  go_enter Try.func8, Try.ntmps8
  go_upto_region 1 with (fail)
  rw [← hW]
  clear hW
  go_wp2_with fail
  clear hw1
  go_loopw [3, 4] (fun n i wr => ∃ k t : Nat, k ≤ s.data.length ∧ i = .int .i64 k ∧ n = .int .i64 (t : Int) ∧ t = s.full.length + s.data.length + Sl.tot (s.data.take k) ∧ t ≤ 281474976710656 ∧ W = wr) (fun _ i _ => s.data.length - (intOf i).toNat)
  case atStart => exact ⟨0, s.full.length + s.data.length, Nat.zero_le _, rfl, by simp, by simp [Sl.tot], by omega, rfl⟩
  case round =>
    obtain ⟨k, t, hk, rfl, rfl, ht, htb, rfl⟩ := hrel
    have HTE := Lib.hid ht
    by_cases hlt : k < s.data.length
    · by_cases h3 : t ≤ 3000
      · have hs := Sl.tot_take_succ hlt
        obtain ⟨b, off, rfl, hc⟩ := HF.out (by omega)
        obtain ⟨q, c, hu, hbt⟩ := hc k hlt
        have hml := hbt.len
        have hi1 : (k : Int) < (s.data.length : Int) := by omega
        have hi3 : (t : Int) ≤ 3000 := by omega
        obtain ⟨t2, ht2⟩ : ∃ t2, t2 = t + (s.data.getD k []).length := ⟨_, rfl⟩
        have HT2 : Hid (t2 = s.full.length + s.data.length + Sl.tot (s.data.take (k + 1)) ∧ t2 ≤ 281474976710656) := ⟨by omega, by omega⟩
        have hcast : (t : Int) + ((s.data.getD k []).length : Int) = (t2 : Int) := by omega
        have HCA := Lib.hid hcast
        have hw1 := IntWalk.i64_in ((t : Int) + ((s.data.getD k []).length : Int)) (by omega)
        have hw2 := IntWalk.i64_in ((k : Int) + 1) (by omega)
        clear hs hc hbt ht ht2 hcast hml htb
        generalize (s.data.getD k []).length = m at *
        generalize s.data.length = n at *
        go_wp2_with fail
        go_roundw
        case rel => exact ⟨k + 1, t2, by omega, by go_num, by rw [← HCA.out], HT2.out.1, HT2.out.2, by first | rfl | trivial⟩
        case measure => simp [intOf]; omega
      · have hi1 : (k : Int) < (s.data.length : Int) := by omega
        have hi3 : ¬ (t : Int) ≤ 3000 := by omega
        have hi4 : (3000 : Int) < (t : Int) := by omega
        clear ht
        generalize s.data.length = n at *
        go_wp2_with fail
        go_ret
        exact ⟨true, rfl, fun h => (by cases h), HB0.out⟩
    · obtain rfl : k = s.data.length := by omega
      have HTL : Hid (t = s.full.length + s.data.length + Sl.tot s.data) := by show _ = _; rw [ht, List.take_length]
      by_cases h3 : t ≤ 3000
      · have hi4 : ¬ (3000 : Int) < (t : Int) := by omega
        have HS : Hid (Sl.Small s) := ⟨by have := HTL.out; omega, by have := HTL.out; omega, by have := HTL.out; omega⟩
        clear ht
        go_wp2_with fail
        go_ret
        exact ⟨false, rfl, fun _ => HS.out, HB0.out⟩
      · have hi4 : (3000 : Int) < (t : Int) := by omega
        clear ht
        go_wp2_with fail
        go_ret
        exact ⟨true, rfl, fun h => (by cases h), HB0.out⟩
end Go.Proofs.Ytbfpmpomcaijcaa
