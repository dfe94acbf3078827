/- What the statements' helpers of layer 2 answer: bytes with marked room behind them, and that a count of two bytes is written and read. Conditions: the slices' cells hold the bytes. -/
import Derived.Test.YtpakohlniaiclaaCodeRRd
import Derived.Test.YtpakohlniaiclaaCodeRef
namespace Go.Proofs.Ytpakohlniaiclaa
open Go.RowKit

set_option maxHeartbeats 800000 in
theorem lent_any (v : Value) (l : List Nat) (w : World) (hB : Bts w v l) (hl : l.length + 2 ≤ 140737488355328) :
    Calls Try.prog 8 #[v] w fun e w' => Lent w w' l e := by
  have HB := Lib.hid hB
  have HSM : Hid (∀ x ∈ l ++ [77, 78], x < 256) := by
    intro x hx
    rcases List.mem_append.1 hx with h | h
    · exact hB.small x h
    · simp at h; omega
  obtain ⟨p, cap, rfl, hr, hn, hp⟩ := hB.form
  clear hr hn hp hB
  have hown0 : (w.alloc (.cells #[] 5)).ownsRow w.heap.size 5 1 (.slice (some ⟨w.heap.size, 0, none⟩) 0 0) 0 [] := ⟨rfl, Or.inr ⟨w.heap.size, 0, #[], rfl, Nat.le_refl _, heap_alloc_last _ _, Nat.le_refl _, Nat.zero_le _, rfl, rfl⟩⟩
  have HO := Lib.hid hown0
  have hb0 : Below w.heap.size w (w.alloc (.cells #[] 5)) := (Below.refl _ _).alloc (Nat.le_refl _) _
  have HW0 := Lib.hid hb0
  clear hown0 hb0
  go_enter Try.func8, Try.ntmps8
  go_upto_region 1 with (fail)
  go_step
  go_step
  go_step
  go_step
  go_step
  go_step
  go_step
  refine wpList_append_bts rfl (.tmp 3) (.tmp 4) rfl w.heap.size _ 0 [] rfl HO.out _ l rfl (HB.out.below HW0.out) (by omega) HW0.out.size ?_
  intro v1 w1 hown1 hb1
  have hbw1 := HW0.out.trans hb1
  have HO1 := Lib.hid (hown1.alloc (.cells #[.int .u8 77, .int .u8 78] 5))
  have HB1 := Lib.hid (bts_alloc w1 [77, 78] 2 (by decide) 5 (0, 0) (by decide) (by decide))
  have HW1 := Lib.hid (hbw1.alloc hbw1.size (.cells #[.int .u8 77, .int .u8 78] 5))
  clear hown1 hb1 hbw1
  go_step
  go_step
  go_step
  refine wpList_append_bts rfl (.tmp 5) (.tmp 6) rfl w.heap.size _ (0 + l.length) _ rfl HO1.out _ [77, 78] rfl HB1.out (by simp; omega) HW1.out.size ?_
  intro v2 w2 hown2 hb2
  have hbw2 := HW1.out.trans hb2
  rw [show ([] ++ bytesV l ++ bytesV [77, 78]) = bytesV (l ++ [77, 78]) by simp [bytesV], show 0 + l.length + [77, 78].length = l.length + 2 by simp] at hown2
  obtain ⟨g, c2, rfl⟩ : ∃ g c2, v2 = .slice (some ⟨g, 0, none⟩) (l.length + 2) c2 := by
    rcases hown2.2 with ⟨_, h0⟩ | ⟨g, c, cur, hv, _⟩
    · omega
    · exact ⟨g, c, hv⟩
  obtain ⟨h1, h2, h3, h4, h5⟩ := owns_cells hown2
  have HL : LentAt w w2 l g c2 := ⟨h2, h3, h1, fun i hi => h5 i (by simpa using hi), hbw2, row_owned hown2 HSM.out⟩
  have HL2 := Lib.hid HL
  have hm : c2 ≤ 9223372036854775807 := h3
  clear HL hown2 hb2 hbw2 h1 h3 h4 h5
  go_wp2
  go_ret
  exact ⟨g, c2, rfl, HL2.out⟩

set_option maxHeartbeats 800000 in
theorem kept_any (v : Value) (l : List Nat) (g cap : Nat) (w0 w : World) (hL : LentAt w0 w l g cap) (hB : Bts w v l) (hl : l.length + 2 ≤ 140737488355328) :
    Calls Try.prog 17 #[.slice (some ⟨g, 0, none⟩) l.length cap, v] w fun e w' => e = .returned (.bool true) ∧ w = w' := by
  have hroom := hL.room
  have hmost := hL.most
  unfold maxLen at hmost
  have h77 : w.cell? ⟨g, l.length, none⟩ = some (.int .u8 77) := by
    rw [hL.cells _ (by omega)]; simp
  have h78 : w.cell? ⟨g, l.length + 1, none⟩ = some (.int .u8 78) := by
    rw [hL.cells _ (by omega)]; simp
  have hc1 := strOf_conv (hL.bts hB.small hB.len)
  have hc2 := strOf_conv hB
  obtain ⟨p, cap2, rfl, -, -, -⟩ := hB.form
  clear hB hL
  generalize strOfNums (l.map fun x : Nat => (x : Int)) = S at hc1 hc2
  generalize l.length = n at *
  go_enter Try.func17, Try.ntmps17
  go_wp2
  go_ret
  exact ⟨rfl, rfl⟩

theorem uv300 : Cod.uv 300 = [172, 2] := by
  rw [Cod.uv_big (by decide), Cod.uv_small (by decide)]

set_option maxHeartbeats 800000 in
set_option maxRecDepth 20000 in
theorem known_any (w : World) :
    Calls Try.prog 18 #[] w fun e w' => e = .returned (.bool true) ∧ Below w.heap.size w w' := by
  have HU := Lib.hid uv300
  have HB0 := Lib.hid (own_nil w.heap.size w).bts
  have hu := Cod.cnt_of_uv (n := 300) [] (by decide)
  rw [uv300, List.append_nil] at hu
  have HC := Lib.hid hu
  clear hu
  go_enter Try.func18, Try.ntmps18
  go_wp2_with fail
  refine (PutUv_any _ [] 300 _ HB0.out (by decide) (by decide)).mono ?_
  rintro e w1 ⟨v1, rfl, hO1, hb1⟩
  rw [List.nil_append, HU.out] at hO1
  have HO1 := Lib.hid hO1
  have HW1 := Lib.hid hb1
  clear hO1 hb1
  go_wp2_with fail
  refine (newReader_any _ _ _ HO1.out.bts).mono ?_
  rintro e w2 ⟨B, rfl, hR2, hB2, hb2⟩
  have HR2 := Lib.hid hR2
  have HW2 := Lib.hid (HW1.out.trans (hb2.mono HW1.out.size))
  have HO2 := Lib.hid (HO1.out.below hb2)
  have hB1 : w.heap.size ≤ B := Nat.le_trans HW1.out.size hB2
  clear hB2
  have HB1 := Lib.hid hB1
  clear hR2 hb2 hB1
  obtain ⟨p, cap, rfl, -, -, -⟩ := HO2.out.bts.form
  have hconv : (convert 22 9 (.slice p 2 cap)).run Try.prog w2 = .ok (.string { data := #[172, 2] }) w2 := strOf_conv HO2.out.bts
  go_wp2_with fail
  refine (Uv_any _ _ _ _ _ HR2.out).mono ?_
  rintro e w3 ⟨rfl, hR3, hg3⟩
  have hrd : Cod.rdUv [172, 2] 0 = (300, [], 0) := by
    unfold Cod.rdUv
    rw [HC.out]
    rfl
  rw [hrd] at hR3 ⊢
  have HR3 := Lib.hid hR3
  have HW3 := Lib.hid (below_grown HW2.out hg3 HW2.out.size HB1.out)
  clear hR3 hg3 hrd hconv
  go_wp2_with fail
  refine (err_any _ _ _ _ _ HR3.out).mono ?_
  rintro e w' ⟨rfl, rfl⟩
  go_wp2_with fail
  refine (left_any _ _ _ _ _ HR3.out).mono ?_
  rintro e w' ⟨rfl, rfl⟩
  go_wp2_with fail
  go_ret
  exact ⟨rfl, HW3.out⟩
end Go.Proofs.Ytpakohlniaiclaa
