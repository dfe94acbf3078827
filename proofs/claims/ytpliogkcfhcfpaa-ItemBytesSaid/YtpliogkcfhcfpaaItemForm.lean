/- What the document's Form answers: a record's form, in new memory. Conditions: the slices' cells hold what they tell; the room. -/
import Derived.Test.YtpliogkcfhcfpaaItemKept
import Derived.Test.YtpliogkcfhcfpaaCodeRef
import Derived.Test.YtpliogkcfhcfpaaItemSize
namespace Go.Proofs.Ytpliogkcfhcfpaa
open Go.RowKit

theorem comps_take_succ (v : List Int) (k : Nat) (h : k < v.length) : Itm.comps (v.take (k + 1)) = Itm.comps (v.take k) ++ Cod.le 4 (Itm.u32 (v.getD k 0)) := by
  rw [List.take_succ_eq_append_getElem h, Itm.comps_append, Itm.comps_one, List.getD_eq_getElem?_getD, List.getElem?_eq_getElem h]; rfl

set_option maxHeartbeats 3200000 in
set_option maxRecDepth 20000 in
theorem form_any (k : Nat) (vv vm : Value) (v : List Int) (m : List Nat) (w : World) (hI : ItemAt w k vv vm v m) (hv : v.length ≤ 1000000) (hm : m.length ≤ 1000000) :
    Calls Try.prog 16 #[ItemV k vv vm] w fun e w' => ∃ u, e = .returned u ∧ Own w.heap.size w' u (Itm.form k v m) ∧ Below w.heap.size w w' := by
  have HI := Lib.hid hI
  obtain ⟨p1, c1, rfl, -, -, hp1⟩ := hI.vec.form
  obtain ⟨p2, c2, rfl, -, -, -⟩ := hI.bytes.form
  have HP := Lib.hid hp1
  have HU := Lib.hid (Cod.uv_ten (n := v.length) (by omega))
  have HL8 := Lib.hid (Cod.le_length 8 k)
  have HL4 : Hid (∀ n, (Cod.le 4 n).length = 4) := fun n => Cod.le_length 4 n
  have HWR := Lib.hid (wrap_u64_nat v.length (by omega))
  clear hI hp1
  go_enter Try.func16, Try.ntmps16
  obtain ⟨W, hW⟩ : ∃ W, W = w.alloc (.cells #[.int .u64 (k : Int), .slice p1 v.length c1, .slice p2 m.length c2] 26) := ⟨_, rfl⟩
  have hr : W.heap[w.heap.size]? = some (.cells #[.int .u64 (k : Int), .slice p1 v.length c1, .slice p2 m.length c2] 26 (0, 0)) := by rw [hW]; exact heap_alloc_last _ _
  have hb0 : Below w.heap.size w W := by rw [hW]; exact (Below.refl _ _).alloc (Nat.le_refl _) _
  have HR := Lib.hid hr
  have HB0 := Lib.hid hb0
  have HI0 := Lib.hid (HI.out.below hb0)
  have HWW := Lib.hid hW
  clear hr hb0 hW
  have hwr := HWR.out
  go_wp2_with fail
  rw [← HWW.out]
  refine (refFixed_any k 8 _ (by decide)).mono ?_
  rintro e w1 ⟨x1, rfl, hO1, hb1⟩
  have HO1 := Lib.hid hO1
  have HW1 := Lib.hid hb1
  have HR1 := Lib.hid (row3_below HR.out hb1)
  clear hO1 hb1
  have hc1 := cell3_1 HR1.out
  go_wp2_with fail
  refine (refUv_any v.length _ (by omega)).mono ?_
  rintro e w2 ⟨x2, rfl, hO2, hb2⟩
  have HO1b := Lib.hid (HO1.out.below hb2)
  have HO2 := Lib.hid hO2
  have HW2 := Lib.hid (HW1.out.trans (hb2.mono HW1.out.size))
  clear hO2 hb2 hc1 hwr
  dsimp only
  go_at_K
  go_step
  refine wpList_append_Own rfl (.tmp 8) (.tmp 13) rfl W.heap.size _ _ rfl HO1b.out _ _ rfl HO2.out.bts (by have := HU.out; rw [HL8.out]; omega) HW2.out.size ?_
  intro x3 w3 hO3 hb3 _
  have HO3 := Lib.hid hO3
  have HW3 := Lib.hid (HW2.out.trans hb3)
  have HBL : Hid (w.heap.size < W.heap.size) := lt_of_block HR.out
  clear hO3 hb3 HR1
  go_wp2_with fail
  go_loopw [3, 4] (fun s i wr => ∃ kk : Nat, kk ≤ v.length ∧ i = .int .i64 kk ∧ Own W.heap.size wr s (Cod.le 8 k ++ Cod.uv v.length ++ Itm.comps (v.take kk)) ∧ Below W.heap.size W wr) (fun _ i _ => v.length - (intOf i).toNat)
  case atStart => exact ⟨0, by omega, rfl, by simpa [Itm.comps] using HO3.out, HW3.out⟩
  case round =>
    obtain ⟨kk, hk, rfl, hO, hb⟩ := hrel
    have HO := Lib.hid hO
    have HW := Lib.hid hb
    have hrow := HR.out
    have hcc1 := (hb.cell (p := ⟨w.heap.size, 1, none⟩) HBL.out).trans (cell3_1 hrow)
    have hcc2 := (hb.cell (p := ⟨w.heap.size, 2, none⟩) HBL.out).trans (cell3_2 hrow)
    clear hO hb hrow
    by_cases hlt : kk < v.length
    · obtain ⟨b, off, rfl, hc⟩ := HP.out (by omega)
      have hck := hc kk hlt
      have hck0 := HB0.out.cell (p := ⟨b, off + kk, none⟩) (block_lt_of_cell hck)
      have hck1 := HW.out.cell (p := ⟨b, off + kk, none⟩) (Nat.lt_trans (show b < w.heap.size from block_lt_of_cell hck) HBL.out)
      have hck2 := hck1.trans (hck0.trans hck)
      have HS := Lib.hid (comps_take_succ v kk hlt)
      have HUC := Lib.hid (u32_cast (v.getD kk 0))
      have HTL : Hid ((Cod.le 8 k ++ Cod.uv v.length ++ Itm.comps (v.take kk)).length ≤ 4000100) := by
        show _ ≤ _
        have h1 := HU.out
        have h2 := HL8.out
        rw [List.length_append, List.length_append, Itm.comps_length, List.length_take]
        omega
      clear hc hck hck0 hck1
      generalize v.getD kk 0 = x at *
      have hu := HUC.out
      generalize Itm.u32 x = c at *
      go_wp2_with fail
      refine (refFixed_any c 4 _ (by decide)).mono ?_
      rintro e w4 ⟨x4, rfl, hO4, hb4⟩
      have HO4 := Lib.hid hO4
      have HOb := Lib.hid (HO.out.below hb4)
      have HW4 := Lib.hid (HW.out.trans (hb4.mono HW.out.size))
      clear hO4 hb4 hu hck2 hcc1 hcc2
      dsimp only
      go_at_K
      go_step
      refine wpList_append_Own rfl (.tmp 22) (.tmp 30) rfl W.heap.size _ _ rfl HOb.out _ _ rfl HO4.out.bts (by have := HTL.out; have := HL4.out c; omega) HW4.out.size ?_
      intro x5 w5 hO5 hb5 _
      rw [List.append_assoc, ← HS.out] at hO5
      have HO5 := Lib.hid hO5
      have HW5 := Lib.hid (HW4.out.trans hb5)
      clear hO5 hb5
      go_wp2
      go_roundw
      case rel => exact ⟨kk + 1, by omega, by go_num, HO5.out, HW5.out⟩
      case measure => simp [intOf]; omega
    · obtain rfl : kk = v.length := by omega
      rw [List.take_length] at HO
      have HTL : Hid ((Cod.le 8 k ++ Cod.uv v.length ++ Itm.comps v).length ≤ 4000100) := by
        show _ ≤ _
        have h1 := HU.out
        have h2 := HL8.out
        rw [List.length_append, List.length_append, Itm.comps_length]
        omega
      have HMB := Lib.hid ((HI0.out.bytes.below (HW.out)))
      have HU2 := Lib.hid (Cod.uv_ten (n := m.length) (by omega))
      go_wp2_with fail
      refine (refText_any _ m _ HMB.out (by omega)).mono ?_
      rintro e w4 ⟨x4, rfl, hO4, hb4⟩
      have HO4 := Lib.hid hO4
      have HOb := Lib.hid (HO.out.below hb4)
      have HW4 := Lib.hid (HW.out.trans (hb4.mono HW.out.size))
      clear hO4 hb4 hcc1 hcc2
      dsimp only
      go_at_K
      go_step
      refine wpList_append_Own rfl (.tmp 32) (.tmp 35) rfl W.heap.size _ _ rfl HOb.out _ _ rfl HO4.out.bts (by have := HTL.out; have := HU2.out; have e : (Cod.uv m.length ++ m).length = (Cod.uv m.length).length + m.length := List.length_append; omega) HW4.out.size ?_
      intro x5 w5 hO5 hb5 _
      have HO5 := Lib.hid hO5
      have HW5 := Lib.hid (HW4.out.trans hb5)
      clear hO5 hb5
      go_wp2
      go_ret
      exact ⟨_, rfl, HO5.out.from (Nat.le_of_lt HBL.out), HB0.out.trans (HW5.out.mono (Nat.le_of_lt HBL.out))⟩
end Go.Proofs.Ytpliogkcfhcfpaa
