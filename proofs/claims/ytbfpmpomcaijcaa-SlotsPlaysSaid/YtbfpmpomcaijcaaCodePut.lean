/- What the program's puts, and the document's, answer, over any world. Conditions: numbers are below 2^64; the slices' cells hold the bytes; the room. -/
import Derived.Test.YtbfpmpomcaijcaaByte
import Derived.Test.YtbfpmpomcaijcaaCodePure
import Derived.Test.YtbfpmpomcaijcaaCodeLen
namespace Go.Proofs.Ytbfpmpomcaijcaa
open Go.RowKit

set_option maxHeartbeats 400000 in
theorem width8 (w : World) : Calls Try.prog 55 #[] w fun e w' => e = .returned (.int .i64 1) ∧ w = w' := by
  go_enter Try.func55, Try.ntmps55
  go_wp2_with (go_at_call 56; refine (len64_8 _ _ (by decide) (by decide)).mono ?_; rintro e w' ⟨rfl, rfl⟩)
  go_ret
  exact ⟨rfl, rfl⟩

set_option maxHeartbeats 400000 in
theorem width16 (w : World) : Calls Try.prog 54 #[] w fun e w' => e = .returned (.int .i64 2) ∧ w = w' := by
  go_enter Try.func54, Try.ntmps54
  go_wp2_with (go_at_call 56; refine (len64_16 _ _ (by decide) (by decide)).mono ?_; rintro e w' ⟨rfl, rfl⟩)
  go_ret
  exact ⟨rfl, rfl⟩

set_option maxHeartbeats 400000 in
theorem width32 (w : World) : Calls Try.prog 53 #[] w fun e w' => e = .returned (.int .i64 4) ∧ w = w' := by
  go_enter Try.func53, Try.ntmps53
  go_wp2_with (go_at_call 56; refine (len64_32 _ _ (by decide) (by decide)).mono ?_; rintro e w' ⟨rfl, rfl⟩)
  go_ret
  exact ⟨rfl, rfl⟩


set_option maxHeartbeats 400000 in
theorem withRoom_any (v : Value) (l : List Nat) (n : Nat) (w : World) (hB : Bts w v l) (hn : l.length + n ≤ 140737488355328) :
    Calls Try.prog 52 #[v, .int .i64 (n : Int)] w fun e w' => ∃ v', e = .returned v' ∧ Own w.heap.size w' v' l ∧ Below w.heap.size w w' := by
  have HB := Lib.hid hB
  obtain ⟨p, cap, rfl, -, -, -⟩ := hB.form
  clear hB
  go_enter Try.func52, Try.ntmps52
  go_upto_region 1 with (fail)
  iterate 13 go_step
  refine wpList_make_Own rfl (.const (.int .i64 0)) (.tmp 8) rfl w.heap.size .i64 .i64 _ (l.length + n) rfl rfl (by simp) hn (Nat.le_refl _) ?_
  intro v1 w1 hown1 hb1
  have HO1 := Lib.hid hown1
  have HB1 := Lib.hid (HB.out.below hb1)
  have HW1 := Lib.hid hb1
  clear hown1 hb1
  iterate 3 go_step
  refine wpList_append_Own rfl (.tmp 9) (.tmp 10) rfl w.heap.size _ [] rfl HO1.out _ l rfl HB1.out (by simp; omega) HW1.out.size ?_
  intro v2 w2 hown2 hb2 _
  rw [List.nil_append] at hown2
  have HO2 := Lib.hid hown2
  have HW2 := Lib.hid (HW1.out.trans hb2)
  clear hown2 hb2
  go_wp2
  go_ret
  exact ⟨_, rfl, HO2.out, HW2.out⟩

set_option maxRecDepth 100000 in
theorem or128 (n : Nat) : bits .or .u8 ((n : Int) % 256) 128 = ((n % 128 + 128 : Nat) : Int) := by
  have h : ∀ m, m < 256 → m ||| 128 = m % 128 + 128 := by decide
  rw [show ((n : Int) % 256) = ((n % 256 : Nat) : Int) by omega, show (128 : Int) = ((128 : Nat) : Int) from rfl, u8_or_nat _ _ (by omega) (by decide), h _ (by omega)]
  congr 2
  omega

end Go.Proofs.Ytbfpmpomcaijcaa
