/- Two sums joined are the document's, and the sum of both texts. Conditions: the slices' cells hold the bytes, together at most 2^47; the library's table stands in its variable. -/
import Derived.Test.YtcklncnelpclpaaDoorCrcFar
import Derived.Test.YtcklncnelpclpaaDoorCrcAppend
namespace Go.Proofs.YtcklncnelpclpaaDoor
open Go.RowKit

set_option maxHeartbeats 800000 in
theorem joins_any (v1 v2 : Value) (a b : List Nat) (s t : Nat) (n : Int) (w : World) (hA : Bts w v1 a) (hB : Bts w v2 b) (hs : s < 4294967296) (ht : t < 4294967296) (hn : n ≤ 9223372036854775807) (hl : a.length + b.length ≤ 140737488355328) (hT : Tz w) :
    Calls Tryd.prog 3 #[v1, v2, .int .u32 (s : Int), .int .u32 (t : Int), .int .i64 n] w fun e w' => e = .returned (.bool true) ∧ Below w.heap.size w w' := by
  have HA := Lib.hid hA
  have HB := Lib.hid hB
  have HT := Lib.hid hT
  obtain ⟨p1, cap1, rfl, hr1, -, -⟩ := hA.form
  obtain ⟨p2, cap2, rfl, hr2, -, -⟩ := hB.form
  clear hA hB hT
  go_enter Tryd.func3, Tryd.ntmps3
  have m1 : Crc.more 0 a < 4294967296 := Crc.more_lt (by decide) HA.out.small
  have m2 : Crc.more 0 b < 4294967296 := Crc.more_lt (by decide) HB.out.small
  have hbl : (b.length : Int) ≤ 9223372036854775807 := by omega
  go_upto_region 1 with (fail)
  by_cases h5 : n ≤ 5000
  · go_wp2_with fail
    refine (join_any s t n _ hs ht hn HT.out).mono ?_
    rintro e w1 ⟨rfl, h1⟩
    have HW := Lib.hid h1
    clear h1
    go_wp2_with fail
    refine (refJoin_any s t n _ hs ht hn).mono ?_
    rintro e w' ⟨rfl, rfl⟩
    generalize Crc.Hn (8 * n.toNat) s ^^^ t = q
    go_wp2_with fail
    refine (sum_any _ a _ (HA.out.below HW.out)).mono ?_
    rintro e w2 ⟨rfl, h2⟩
    have H2 := Lib.hid (HW.out.trans (h2.mono HW.out.size))
    clear h2
    go_wp2_with fail
    refine (sum_any _ b _ (HB.out.below H2.out)).mono ?_
    rintro e w3 ⟨rfl, h3⟩
    have H3 := Lib.hid (H2.out.trans (h3.mono H2.out.size))
    clear h3
    go_wp2_with fail
    refine (join_any _ _ _ _ m1 m2 (by omega) (HT.out.below H3.out)).mono ?_
    rintro e w4 ⟨rfl, h4⟩
    rw [Int.toNat_natCast, Crc.join]
    have H4 := Lib.hid (H3.out.trans (h4.mono H3.out.size))
    clear h4
    have HO := Lib.hid (show (w4.alloc (.cells #[] 5)).ownsRow w4.heap.size 5 1 (.slice (some ⟨w4.heap.size, 0, none⟩) 0 0) 0 [] from ⟨rfl, Or.inr ⟨w4.heap.size, 0, #[], rfl, Nat.le_refl _, heap_alloc_last _ _, Nat.le_refl _, Nat.zero_le _, rfl, rfl⟩⟩)
    have H5 := Lib.hid (H4.out.alloc H4.out.size (.cells #[] 5))
    dsimp only
    go_at_K
    go_step
    go_step
    go_step
    go_step
    go_step
    go_step
    go_step
    refine wpList_append_bts rfl (.tmp 31) (.tmp 32) rfl w4.heap.size _ 0 [] rfl HO.out _ a rfl (HA.out.below H5.out) (by omega) (by simp) ?_
    intro v1 w5 hown1 hb1
    have H6 := Lib.hid (H5.out.trans (hb1.mono H4.out.size))
    have HO1 := Lib.hid hown1
    have HS := Lib.hid (show w4.heap.size ≤ w5.heap.size by have := hb1.size; simp at this; omega)
    clear hown1 hb1
    go_step
    go_step
    go_step
    refine wpList_append_bts rfl (.tmp 33) (.tmp 34) rfl w4.heap.size _ (0 + a.length) _ rfl HO1.out _ b rfl (HB.out.below H6.out) (by omega) HS.out ?_
    intro v2 w6 hown2 hb2
    have H7 := Lib.hid (H6.out.trans (hb2.mono H4.out.size))
    have HAB := Lib.hid (bts_owned (l := a ++ b) (by rw [show bytesV (a ++ b) = [] ++ bytesV a ++ bytesV b by simp [bytesV], List.length_append, ← Nat.zero_add a.length]; exact hown2) (fun x hx => (List.mem_append.1 hx).elim (HA.out.small x) (HB.out.small x)) (by rw [List.length_append]; exact hl))
    clear hown2 hb2 HO1 HS HO
    go_wp2_with fail
    refine (sum_any _ (a ++ b) _ HAB.out).mono ?_
    rintro e w7 ⟨rfl, h7⟩
    have H8 := Lib.hid (H7.out.trans (h7.mono H7.out.size))
    clear h7
    go_wp2_with fail
    refine (known_any _).mono ?_
    rintro e w8 ⟨rfl, h8⟩
    have H9 := Lib.hid (H8.out.trans (h8.mono H8.out.size))
    clear h8
    go_wp2
    go_ret
    exact ⟨rfl, H9.out⟩
  · have HW := Lib.hid (Below.refl w.heap.size w)
    have h6 : 5000 < n := by omega
    clear h5
    go_wp2_with fail
    refine (sum_any _ a _ (HA.out.below HW.out)).mono ?_
    rintro e w2 ⟨rfl, h2⟩
    have H2 := Lib.hid (HW.out.trans (h2.mono HW.out.size))
    clear h2
    go_wp2_with fail
    refine (sum_any _ b _ (HB.out.below H2.out)).mono ?_
    rintro e w3 ⟨rfl, h3⟩
    have H3 := Lib.hid (H2.out.trans (h3.mono H2.out.size))
    clear h3
    go_wp2_with fail
    refine (join_any _ _ _ _ m1 m2 (by omega) (HT.out.below H3.out)).mono ?_
    rintro e w4 ⟨rfl, h4⟩
    rw [Int.toNat_natCast, Crc.join]
    have H4 := Lib.hid (H3.out.trans (h4.mono H3.out.size))
    clear h4
    have HO := Lib.hid (show (w4.alloc (.cells #[] 5)).ownsRow w4.heap.size 5 1 (.slice (some ⟨w4.heap.size, 0, none⟩) 0 0) 0 [] from ⟨rfl, Or.inr ⟨w4.heap.size, 0, #[], rfl, Nat.le_refl _, heap_alloc_last _ _, Nat.le_refl _, Nat.zero_le _, rfl, rfl⟩⟩)
    have H5 := Lib.hid (H4.out.alloc H4.out.size (.cells #[] 5))
    dsimp only
    go_at_K
    go_step
    go_step
    go_step
    go_step
    go_step
    go_step
    go_step
    refine wpList_append_bts rfl (.tmp 31) (.tmp 32) rfl w4.heap.size _ 0 [] rfl HO.out _ a rfl (HA.out.below H5.out) (by omega) (by simp) ?_
    intro v1 w5 hown1 hb1
    have H6 := Lib.hid (H5.out.trans (hb1.mono H4.out.size))
    have HO1 := Lib.hid hown1
    have HS := Lib.hid (show w4.heap.size ≤ w5.heap.size by have := hb1.size; simp at this; omega)
    clear hown1 hb1
    go_step
    go_step
    go_step
    refine wpList_append_bts rfl (.tmp 33) (.tmp 34) rfl w4.heap.size _ (0 + a.length) _ rfl HO1.out _ b rfl (HB.out.below H6.out) (by omega) HS.out ?_
    intro v2 w6 hown2 hb2
    have H7 := Lib.hid (H6.out.trans (hb2.mono H4.out.size))
    have HAB := Lib.hid (bts_owned (l := a ++ b) (by rw [show bytesV (a ++ b) = [] ++ bytesV a ++ bytesV b by simp [bytesV], List.length_append, ← Nat.zero_add a.length]; exact hown2) (fun x hx => (List.mem_append.1 hx).elim (HA.out.small x) (HB.out.small x)) (by rw [List.length_append]; exact hl))
    clear hown2 hb2 HO1 HS HO
    go_wp2_with fail
    refine (sum_any _ (a ++ b) _ HAB.out).mono ?_
    rintro e w7 ⟨rfl, h7⟩
    have H8 := Lib.hid (H7.out.trans (h7.mono H7.out.size))
    clear h7
    go_wp2_with fail
    refine (known_any _).mono ?_
    rintro e w8 ⟨rfl, h8⟩
    have H9 := Lib.hid (H8.out.trans (h8.mono H8.out.size))
    clear h8
    go_wp2
    go_ret
    exact ⟨rfl, H9.out⟩
end Go.Proofs.YtcklncnelpclpaaDoor
