/- How many bytes a slotted body takes, by the document's own reckoning. Conditions: the values read as a body. -/
import Derived.Test.YtbfpmpomcaijcaaSlVal
import Derived.BigQuiet
import Derived.StillTailTactics
namespace Go.Proofs.Ytbfpmpomcaijcaa
open Go.RowKit

set_option maxHeartbeats 1600000 in
set_option maxRecDepth 20000 in
theorem refRoom_any (fv dv : Value) (s : Sl.S) (w : World) (h : SlAt w fv dv s) (hm : Sl.took s ≤ 1000000) :
    Calls Try.prog 32 #[SlV s.kind s.next fv dv] w fun e w' => e = .returned (.int .i64 (Sl.took s : Nat)) ∧ Below w.heap.size w w' := by
  obtain ⟨W, hW⟩ : ∃ W, W = w.alloc (sobj s.kind s.next fv dv) := ⟨_, rfl⟩
  have hb0 : Below w.heap.size w W := by rw [hW]; exact (Below.refl _ _).alloc (Nat.le_refl _) _
  have hrow := sblk w s.kind s.next fv dv
  rw [← hW] at hrow
  have hA := h.below hb0
  obtain ⟨p1, c1, p2, c2, rfl, rfl⟩ := slv_slices hA
  obtain ⟨-, -, -, q3⟩ := four_cell hrow
  unfold sobj at hW
  have HB0 := Lib.hid hb0
  have hlen : s.data.length ≤ 1000000 := by unfold Sl.took at hm; omega
  have HM := Lib.hid hm
  obtain ⟨p, cap, hpc, hcap, -, hform⟩ := hA.data.form2
  simp only [Value.slice.injEq] at hpc
  obtain ⟨rfl, -, rfl⟩ := hpc
  have HF := Lib.hid hform
  have hw1 := IntWalk.i64_in (2 * (s.data.length : Int)) (by omega)
  have hw2 := IntWalk.i64_in (6 + 2 * (s.data.length : Int)) (by omega)
  clear hb0 hrow hA h hm hform hcap
  go_enter Try.func32, Try.ntmps32
  go_upto_region 1 with (fail)
  rw [← hW]
  clear hW
  go_wp2_with fail
  clear hw1 hw2
  go_loopw [3, 4] (fun n i wr => ∃ k : Nat, k ≤ s.data.length ∧ i = .int .i64 k ∧ n = .int .i64 ((6 + 2 * s.data.length + Sl.tot (s.data.take k) : Nat) : Int) ∧ W = wr) (fun _ i _ => s.data.length - (intOf i).toNat)
  case atStart => exact ⟨0, Nat.zero_le _, rfl, rfl, rfl⟩
  case round =>
    obtain ⟨k, hk, rfl, rfl, rfl⟩ := hrel
    by_cases hlt : k < s.data.length
    · have hs := Sl.tot_take_succ hlt
      have hle := Sl.tot_take_le s.data (k + 1)
      have htk : Sl.took s = 6 + 2 * s.data.length + Sl.tot s.data := rfl
      have hmm := HM.out
      obtain ⟨b, off, rfl, hc⟩ := HF.out (by omega)
      obtain ⟨q, c, hu, -⟩ := hc k hlt
      have HS := Lib.hid hs
      have hsum : Sl.tot (s.data.take k) + (s.data.getD k []).length ≤ 1000000 := by omega
      clear hs hc hle htk hmm
      generalize (s.data.getD k []).length = m at *
      generalize Sl.tot (s.data.take k) = t at *
      generalize s.data.length = n at *
      have hw1 := IntWalk.i64_in (((6 + 2 * n + t : Nat) : Int) + (m : Int)) (by omega)
      have hw2 := IntWalk.i64_in ((k : Int) + 1) (by omega)
      go_wp2_with fail
      go_roundw
      case rel => exact ⟨k + 1, by omega, by go_num, by rw [HS.out]; go_num, by first | rfl | trivial⟩
      case measure => simp [intOf]; omega
    · obtain rfl : k = s.data.length := by omega
      rw [List.take_length]
      have htk : Hid (Sl.took s = 6 + 2 * s.data.length + Sl.tot s.data) := rfl
      go_wp2_with fail
      go_ret
      exact ⟨by rw [htk.out]; rfl, HB0.out⟩
end Go.Proofs.Ytbfpmpomcaijcaa
