/- What the law VectLow answers, for every two numbers of 64 bits. -/
import Derived.Test.YtljichhmfbefaaaVectKnown
namespace Go.Proofs.Ytljichhmfbefaaa
open Go.RowKit

set_option maxHeartbeats 400000 in
theorem vectLow_any (a b : Int) (w : World) (ha1 : -9223372036854775808 ≤ a) (ha2 : a ≤ 9223372036854775807) (hb1 : -9223372036854775808 ≤ b) (hb2 : b ≤ 9223372036854775807) :
    Calls Try.prog 7 #[.int .i64 a, .int .i64 b] w fun e w' => e = .returned (.bool true) ∧ Below w.heap.size w w' := by
  have H1 := Lib.hid (fun w => low_any a b w ha1 ha2 hb1 hb2)
  have H2 := Lib.hid (fun w => refLow_any a b w ha1 ha2 hb1 hb2)
  have H3 := Lib.hid (fun w => apart_any a b w ha1 ha2 hb1 hb2)
  have H4 := Lib.hid (fun w => refApart_any a b w ha1 ha2 hb1 hb2)
  clear ha1 ha2 hb1 hb2
  generalize Vp.low a b = l at *
  generalize Vp.apart a b = m at *
  go_enter Try.func7, Try.ntmps7
  go_wp2_with fail
  refine (H1.out _).mono ?_
  rintro e w' ⟨rfl, rfl⟩
  go_wp2_with fail
  refine (H2.out _).mono ?_
  rintro e w' ⟨rfl, rfl⟩
  go_wp2_with fail
  refine (H3.out _).mono ?_
  rintro e w' ⟨rfl, rfl⟩
  go_wp2_with fail
  refine (H4.out _).mono ?_
  rintro e w' ⟨rfl, rfl⟩
  go_wp2_with fail
  refine (known_any _).mono ?_
  rintro e w' ⟨rfl, hb⟩
  have HB := Lib.hid hb
  clear hb
  go_wp2_with fail
  go_ret
  exact ⟨rfl, HB.out⟩
end Go.Proofs.Ytljichhmfbefaaa
