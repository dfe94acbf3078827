/- The sum of any bytes is the document's, so is that of bytes behind others, and what is handed in stays: for every two slices of bytes. Conditions: none beyond the row's own. -/
import Derived.Test.YtcklncnelpclpaaCrcLent
import Derived.ProofKit
namespace Go.Proofs.Ytcklncnelpclpaa
open Go.RowKit

set_option maxHeartbeats 1600000 in
theorem tells_any (v1 v2 : Value) (a b : List Nat) (w : World) (hA : Bts w v1 a) (hB : Bts w v2 b) (ha : a.length + 2 ≤ 140737488355328) (hb : b.length + 2 ≤ 140737488355328) :
    Calls Try.prog 3 #[v1, v2] w fun e w' => e = .returned (.bool true) ∧ Below w.heap.size w w' := by
  have HA := Lib.hid hA
  have HB := Lib.hid hB
  clear hA hB
  go_enter Try.func3, Try.ntmps3
  go_wp2_with fail
  refine (lent_any _ a _ HA.out ha).mono ?_
  rintro e w1 ⟨g1, c1, rfl, hL1⟩
  have L1 := Lib.hid hL1
  clear hL1
  go_wp2_with fail
  refine (lent_any _ b _ (HB.out.below L1.out.below) hb).mono ?_
  rintro e w2 ⟨g2, c2, rfl, hL2⟩
  have L2 := Lib.hid hL2
  have L12 := Lib.hid (L1.out.later hL2.below)
  clear hL2
  go_wp2_with fail
  refine (sum_any _ a _ (L12.out.bts HA.out.small HA.out.len)).mono ?_
  rintro e w3 ⟨rfl, h3⟩
  have H3 := Lib.hid h3
  have L13 := Lib.hid (L12.out.later h3)
  have L23 := Lib.hid (L2.out.later h3)
  clear h3
  have hs1 : Crc.more 0 a < 4294967296 := Crc.more_lt (by decide) HA.out.small
  go_wp2_with fail
  refine (more_any _ _ b _ hs1 (L23.out.bts HB.out.small HB.out.len)).mono ?_
  rintro e w4 ⟨rfl, h4⟩
  have L14 := Lib.hid (L13.out.later h4)
  have L24 := Lib.hid (L23.out.later h4)
  have A4 := Lib.hid (HA.out.below L14.out.below)
  have B4 := Lib.hid (HB.out.below L14.out.below)
  clear h4
  go_wp2_with fail
  refine (refSum_any _ a _ A4.out).mono ?_
  rintro e w' ⟨rfl, rfl⟩
  go_wp2_with fail
  refine (refSum_any _ a _ A4.out).mono ?_
  rintro e w' ⟨rfl, rfl⟩
  go_wp2_with fail
  refine (refMore_any _ _ b _ hs1 B4.out).mono ?_
  rintro e w' ⟨rfl, rfl⟩
  go_wp2_with fail
  refine (kept_any _ a g1 c1 _ _ L14.out A4.out ha).mono ?_
  rintro e w' ⟨rfl, rfl⟩
  go_wp2_with fail
  refine (kept_any _ b g2 c2 _ _ L24.out B4.out hb).mono ?_
  rintro e w' ⟨rfl, rfl⟩
  go_wp2_with fail
  refine (known_any _).mono ?_
  rintro e w5 ⟨rfl, h5⟩
  have H5 := Lib.hid (L14.out.below.trans (h5.mono L14.out.below.size))
  clear h5
  go_wp2
  go_ret
  exact ⟨rfl, H5.out⟩
end Go.Proofs.Ytcklncnelpclpaa
