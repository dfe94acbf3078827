/- What the law ItemOnce answers, for every bytes. Conditions: the slice's cells hold the bytes. -/
import Derived.Test.YtpliogkcfhcfpaaItemRead
import Derived.Test.YtpliogkcfhcfpaaItemKnown
namespace Go.Proofs.Ytpliogkcfhcfpaa
open Go.RowKit

theorem item_nil (w : World) : ItemAt w 0 (.slice none 0 0) (.slice none 0 0) [] [] := ⟨by decide, (I32.own_nil 0 w).bts, (own_nil 0 w).bts⟩

set_option maxHeartbeats 3200000 in
set_option maxRecDepth 20000 in
theorem itemOnce_any (s : Value) (l : List Nat) (w : World) (hB : Bts w s l) :
    Calls Try.prog 7 #[s] w fun e w' => e = .returned (.bool true) ∧ Below w.heap.size w w' := by
  have HB := Lib.hid hB
  obtain ⟨p, cap, rfl, -, -, -⟩ := hB.form
  have hlen := hB.len
  clear hB
  by_cases hlg : 25000 < l.length
  · go_enter Try.func7, Try.ntmps7
    go_wp2_with fail
    refine (known_any _).mono ?_
    rintro e w2 ⟨rfl, hb2⟩
    have HW2 := Lib.hid hb2
    clear hb2
    go_wp2_with fail
    go_ret
    exact ⟨rfl, HW2.out⟩
  · go_enter Try.func7, Try.ntmps7
    go_wp2_with fail
    refine (read_any _ l _ HB.out).mono ?_
    rintro e w1 ⟨hb1, hgood, hnone⟩
    have HW1 := Lib.hid hb1
    have HB1 := Lib.hid (HB.out.below hb1)
    by_cases hg : Itm.Good l
    · obtain ⟨vv, vm, rfl, hV, hM⟩ := hgood hg
      obtain ⟨hform, hk, hc, n1, n2, n3⟩ := Itm.form_of_good HB.out.small hg
      generalize (Itm.parts l).1 = k at *
      generalize (Itm.parts l).2.1 = v at *
      generalize (Itm.parts l).2.2.1 = m at *
      have HF := Lib.hid hform
      have HI1 : Hid (ItemAt w1 k vv vm v m) := ⟨hk, hV.bts, hM.bts⟩
      obtain ⟨p1, c1, rfl⟩ := i32own_sl hV
      obtain ⟨p2, c2, rfl⟩ := own_sl hM
      have HM := Lib.hid (Itm.may_of n1 n2 n3)
      have HBX := Lib.hid ((Below.refl w1.heap.size w1).alloc (Nat.le_refl _) (.cells #[.int .u64 (k : Int), .slice p1 v.length c1, .slice p2 m.length c2] 26))
      clear hb1 hgood hnone hg hform hk hc n1 n2 n3 hV hM
      go_wp2_with fail
      refine (bytes_any _ _ _ _ _ _ (HI1.out.below HBX.out)).mono ?_
      rintro e w2 ⟨u, rfl, hO, hb2⟩
      rw [HM.out, if_pos rfl, ← HF.out] at hO
      rw [HM.out]
      obtain ⟨p3, c3, rfl⟩ := own_sl hO
      have HB2 := Lib.hid ((HB1.out.below HBX.out).below hb2)
      have HW2 := Lib.hid ((HW1.out.trans (HBX.out.mono HW1.out.size)).trans (hb2.mono (Nat.le_trans HW1.out.size HBX.out.size)))
      have cv1 := strOf_conv hO.bts
      have cv2 := strOf_conv HB2.out
      generalize strOfNums (l.map fun x : Nat => (x : Int)) = S at *
      clear hO hb2
      go_wp2_with fail
      refine (known_any _).mono ?_
      rintro e w3 ⟨rfl, hb3⟩
      have HW3 := Lib.hid (HW2.out.trans (hb3.mono HW2.out.size))
      clear hb3
      go_wp2_with fail
      go_ret
      exact ⟨rfl, HW3.out⟩
    · obtain rfl := hnone hg
      have HBX := Lib.hid ((Below.refl w1.heap.size w1).alloc (Nat.le_refl _) (.cells #[.int .u64 0, .slice none 0 0, .slice none 0 0] 26))
      clear hb1 hgood hnone hg
      go_wp2_with fail
      refine (same_any 0 0 _ _ _ _ [] [] [] [] _ (item_nil _) (item_nil _)).mono ?_
      rintro e w2 ⟨rfl, hb2⟩
      rw [Itm.same_self]
      have HW2 := Lib.hid ((HW1.out.trans (HBX.out.mono HW1.out.size)).trans (hb2.mono (Nat.le_trans HW1.out.size HBX.out.size)))
      clear hb2
      go_wp2_with fail
      refine (known_any _).mono ?_
      rintro e w3 ⟨rfl, hb3⟩
      have HW3 := Lib.hid (HW2.out.trans (hb3.mono HW2.out.size))
      clear hb3
      go_wp2_with fail
      go_ret
      exact ⟨rfl, HW3.out⟩
end Go.Proofs.Ytpliogkcfhcfpaa
