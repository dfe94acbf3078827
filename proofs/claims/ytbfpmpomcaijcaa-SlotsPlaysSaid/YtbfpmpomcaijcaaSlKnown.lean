/- What is known of slots, and which bodies are large. Conditions: the program's contracts. -/
import Derived.Test.YtbfpmpomcaijcaaSlPutR
namespace Go.Proofs.Ytbfpmpomcaijcaa
open Go.RowKit

theorem Sl.may_one (b : List Nat) (hb : b.length ≤ 492) : Sl.May ⟨0, 0, [true], [b]⟩ :=
  ⟨rfl, (by show 1 ≤ 247; decide), fun _ => rfl, (fun i hi hf => by
    have : i = 0 := by simpa using hi
    subst this; cases hf), (by show 6 + 2 * 1 + Sl.tot [b] ≤ 500; rw [Sl.tot_one]; omega)⟩
theorem Sl.may_none : Sl.May Sl.none_ := ⟨rfl, (by decide), fun h => absurd h (by decide), fun _ hi => absurd hi (Nat.not_lt_zero _), (by decide)⟩
theorem Sl.ins_none (b : List Nat) (hb : b.length ≤ 492) : Sl.insR Sl.none_ b = (⟨0, 0, [true], [b]⟩, 0, 0) := by
  unfold Sl.insR
  rw [Sl.ifP_pos Sl.may_none, show Sl.ins Sl.none_ b = ⟨0, 0, [true], [b]⟩ from rfl, Sl.ifP_pos (Sl.may_one b hb)]
  rfl
theorem Sl.may_two : Sl.May ⟨0, 0, [true, true], [[97, 98], [99]]⟩ :=
  ⟨rfl, (by show 2 ≤ 247; decide), fun _ => rfl, (fun i hi hf => by
    have h2 : i < 2 := hi
    have : i = 0 ∨ i = 1 := by omega
    rcases this with rfl | rfl <;> cases hf), (by decide)⟩
theorem Sl.ins_one : Sl.insR ⟨0, 0, [true], [[97, 98]]⟩ [99] = (⟨0, 0, [true, true], [[97, 98], [99]]⟩, 1, 0) := by
  unfold Sl.insR
  rw [Sl.ifP_pos (Sl.may_one _ (by decide)), show Sl.ins ⟨0, 0, [true], [[97, 98]]⟩ [99] = ⟨0, 0, [true, true], [[97, 98], [99]]⟩ from rfl, Sl.ifP_pos Sl.may_two]
  rfl
theorem Sl.get_two : Sl.getR ⟨0, 0, [true, true], [[97, 98], [99]]⟩ 0 = ([97, 98], 0) := by
  unfold Sl.getR
  rw [Sl.ifP_pos Sl.may_two, Sl.ifP_pos (by decide)]
  rfl
theorem Sl.small_two : Sl.Small ⟨0, 0, [true, true], [[97, 98], [99]]⟩ := Sl.may_two.small

set_option maxHeartbeats 1600000 in
set_option maxRecDepth 20000 in
theorem conv_bytes (w : World) (l : List Nat) (n : Nat) : (convert 30 30 (.slice (some ⟨w.heap.size, 0, none⟩) n n)).run Try.prog (w.alloc (.cells (bytesV l).toArray 5)) = .ok (.slice (some ⟨w.heap.size, 0, none⟩) n n) ((w.alloc (.cells (bytesV l).toArray 5)).freeze ⟨w.heap.size, l.length, none⟩ 1) := by
  have hsh : (w.alloc (.cells (bytesV l).toArray 5)).shape? w.heap.size = some (5, l.length) := by
    simp [World.shape?, World.alloc, -World.alloc_eq, bytesV]
  simp [convert, go_sem, markStringish, hsh, -World.alloc_eq]
/-- Bytes of a constant: they read so, and nothing else was written. -/
theorem const_bytes (w : World) (l : List Nat) (hs : ∀ x ∈ l, x < 256) (hl : l.length ≤ 1000) :
    Bts ((w.alloc (.cells (bytesV l).toArray 5)).freeze ⟨w.heap.size, l.length, none⟩ 1) (.slice (some ⟨w.heap.size, 0, none⟩) l.length l.length) l ∧ Below w.heap.size w ((w.alloc (.cells (bytesV l).toArray 5)).freeze ⟨w.heap.size, l.length, none⟩ 1) := by
  have hb := below_new w (.cells (bytesV l).toArray 5)
  have hr := heap_alloc_last w (.cells (bytesV l).toArray 5)
  obtain ⟨W, hW⟩ : ∃ W, W = w.alloc (.cells (bytesV l).toArray 5) := ⟨_, rfl⟩
  rw [← hW] at hb hr ⊢
  have hlt := lt_of_block hr
  have h' : W.heap[w.heap.size] = .cells (bytesV l).toArray 5 (0, 0) := by simpa [Array.getElem?_eq_getElem hlt] using hr
  have hrow : ∃ fr, (W.freeze ⟨w.heap.size, l.length, none⟩ 1).heap[w.heap.size]? = some (.cells (bytesV l).toArray 5 fr) := by
    refine ⟨(l.length, l.length + 1), ?_⟩
    show (W.heap.modify w.heap.size _)[w.heap.size]? = _
    rw [Array.getElem?_eq_getElem (by simpa using hlt), Array.getElem_modify_self, h']
    rfl
  obtain ⟨fr, hrow⟩ := hrow
  refine ⟨⟨⟨_, _, rfl, ⟨Nat.le_refl _, by omega⟩, fun h => (by cases h), fun _ => ⟨w.heap.size, 0, rfl, fun i hi => ?_⟩⟩, hs, by omega⟩, ⟨hb.os, hb.tape, hb.output, ?_, fun k hk => ?_⟩⟩
  · rw [cell_of_row _ w.heap.size (0 + i) _ 5 fr hrow]
    simp [bytesV, List.getElem?_eq_getElem hi]
  · show w.heap.size ≤ (W.heap.modify w.heap.size _).size
    rw [Array.size_modify]; exact hb.size
  · show (W.heap.modify w.heap.size _)[k]? = _
    rw [Array.getElem?_modify, if_neg (by omega)]
    exact hb.block k hk

set_option maxHeartbeats 1600000 in
set_option maxRecDepth 20000 in
theorem known_any (A : SlApi) (w : World) : Calls Try.prog 9 #[] w fun e w' => e = .returned (.bool true) ∧ Below w.heap.size w w' := by
  have HA := Lib.hid A
  have hc1 : ∀ w : World, (convert 30 30 (.slice (some ⟨w.heap.size, 0, none⟩) 2 2)).run Try.prog (w.alloc (.cells #[.int .u8 97, .int .u8 98] 5)) = .ok (.slice (some ⟨w.heap.size, 0, none⟩) 2 2) ((w.alloc (.cells #[.int .u8 97, .int .u8 98] 5)).freeze ⟨w.heap.size, 2, none⟩ 1) := fun w => conv_bytes w [97, 98] 2
  have hc2 : ∀ w : World, (convert 30 30 (.slice (some ⟨w.heap.size, 0, none⟩) 1 1)).run Try.prog (w.alloc (.cells #[.int .u8 99] 5)) = .ok (.slice (some ⟨w.heap.size, 0, none⟩) 1 1) ((w.alloc (.cells #[.int .u8 99] 5)).freeze ⟨w.heap.size, 1, none⟩ 1) := fun w => conv_bytes w [99] 1
  have HK1 := Lib.hid (fun w : World => const_bytes w [97, 98] (by decide) (by decide))
  have HK2 := Lib.hid (fun w : World => const_bytes w [99] (by decide) (by decide))
  go_enter Try.func9, Try.ntmps9
  go_wp2_with fail
  obtain ⟨hb1, hbe1⟩ := HK1.out w
  obtain ⟨W1, hW1⟩ : ∃ W1, W1 = (w.alloc (.cells #[.int .u8 97, .int .u8 98] 5)).freeze ⟨w.heap.size, 2, none⟩ 1 := ⟨_, rfl⟩
  have HBE1 : Hid (Below w.heap.size w W1) := by rw [hW1]; exact hbe1
  have hb1 : Bts W1 (.slice (some ⟨w.heap.size, 0, none⟩) 2 2) [97, 98] := by rw [hW1]; exact hb1
  rw [← hW1]
  have hin := HA.out.insert (slat_none W1) Sl.small_none hb1 (by decide)
  rw [Sl.ins_none _ (by decide)] at hin
  clear hbe1 hW1 hb1
  refine hin.mono ?_
  rintro e w2 ⟨f2, d2, rfl, hs2, hb2⟩
  obtain ⟨p1, c1, p2, c2, rfl, rfl⟩ := slv_slices hs2
  have HS2 := Lib.hid hs2
  have HB2 := Lib.hid (HBE1.out.trans (hb2.mono HBE1.out.size))
  obtain ⟨wS, hwS⟩ : ∃ wS, wS = w2.alloc (.cells #[.int .u8 0, .int .u32 0, .slice p1 1 c1, .slice p2 1 c2] 26) := ⟨_, rfl⟩
  have hsz : wS.heap.size = w2.heap.size + 1 := by rw [hwS]; simp
  have hbS : Below w2.heap.size w2 wS := by rw [hwS]; exact below_new _ _
  have hxS : wS.heap[w2.heap.size]? = some (.cells #[.int .u8 0, .int .u32 0, .slice p1 1 c1, .slice p2 1 c2] 26 (0, 0)) := by rw [hwS]; exact heap_alloc_last _ _
  have hc3 := hc2 wS
  rw [hsz, hwS] at hc3
  clear hin hs2 hb2 hc1 hc2
  go_wp2_with fail
  rw [← hwS]
  obtain ⟨hb3, hbe3⟩ := HK2.out wS
  rw [hsz] at hb3 hbe3
  obtain ⟨W3, hW3⟩ : ∃ W3, W3 = (wS.alloc (.cells #[.int .u8 99] 5)).freeze ⟨w2.heap.size + 1, 1, none⟩ 1 := ⟨_, rfl⟩
  have hbe3 : Below wS.heap.size wS W3 := by rw [hW3, hsz]; exact hbe3
  have hb3 : Bts W3 (.slice (some ⟨w2.heap.size + 1, 0, none⟩) 1 1) [99] := by rw [hW3]; exact hb3
  rw [← hW3]
  have hbe3 : Below w2.heap.size w2 W3 := hbS.trans (hbe3.mono hbS.size)
  have hin := HA.out.insert (HS2.out.below hbe3) (Sl.may_one [97, 98] (by decide)).small hb3 (by decide)
  rw [Sl.ins_one] at hin
  have HBE3 := Lib.hid (HB2.out.trans (hbe3.mono HB2.out.size))
  clear hbe3 hW3 hb3 hb1 hc3 hwS hbS hxS hsz
  refine hin.mono ?_
  rintro e w4 ⟨f4, d4, rfl, hs4, hb4⟩
  obtain ⟨p3, c3, p4, c4, rfl, rfl⟩ := slv_slices hs4
  have HS4 := Lib.hid hs4
  have HB4 := Lib.hid (HBE3.out.trans (hb4.mono HBE3.out.size))
  obtain ⟨wT, hwT⟩ : ∃ wT, wT = w4.alloc (.cells #[.int .u8 0, .int .u32 0, .slice p3 2 c3, .slice p4 2 c4] 26) := ⟨_, rfl⟩
  have hbT : Below w4.heap.size w4 wT := by rw [hwT]; exact below_new _ _
  have hxT : wT.heap[w4.heap.size]? = some (.cells #[.int .u8 0, .int .u32 0, .slice p3 2 c3, .slice p4 2 c4] 26 (0, 0)) := by rw [hwT]; exact heap_alloc_last _ _
  have HBT := Lib.hid hbT
  have HXT := Lib.hid hxT
  clear hin hs4 hb4 hbT hxT
  go_wp2_with fail
  rw [← hwT]
  clear hwT
  have hge := HA.out.get 0 (HS4.out.below HBT.out) Sl.small_two
  rw [Sl.get_two] at hge
  refine hge.mono ?_
  rintro e w5 ⟨u5, rfl, hO5, hb5⟩
  obtain ⟨p5, c5, e5⟩ := own_slv hO5
  subst e5
  have HO5 := Lib.hid hO5
  have HB5 := Lib.hid ((HB4.out.trans (HBT.out.mono HB4.out.size)).trans (hb5.mono (Nat.le_trans HB4.out.size HBT.out.size)))
  have HS5 := Lib.hid ((HS4.out.below HBT.out).below hb5)
  have hx5 := hb5.block w4.heap.size (lt_of_block HXT.out)
  rw [HXT.out] at hx5
  obtain ⟨t0, t1, t2, t3⟩ := four_cell hx5
  obtain ⟨S, hS⟩ : ∃ S, S = strOfNums (([97, 98] : List Nat).map fun x : Nat => (x : Int)) := ⟨_, rfl⟩
  have hcv : (convert 30 9 (.slice p5 2 c5)).run Try.prog w5 = .ok (.string S) w5 := by rw [hS]; exact strOf_conv HO5.out.bts
  have hcmp : S.toList = [97, 98] := by rw [hS]; decide +kernel
  have hro := HA.out.room HS5.out Sl.small_two
  rw [Sl.ifP_pos Sl.may_two] at hro
  have HRO := Lib.hid hro
  clear hge hO5 hb5 hx5 hro hS
  go_wp2_with fail
  refine HRO.out.mono ?_
  rintro e w6 ⟨rfl, hb6⟩
  have HB6 := Lib.hid (HB5.out.trans (hb6.mono HB5.out.size))
  clear hb6 HRO
  go_wp2_with fail
  go_ret
  exact ⟨rfl, HB6.out⟩
end Go.Proofs.Ytbfpmpomcaijcaa
