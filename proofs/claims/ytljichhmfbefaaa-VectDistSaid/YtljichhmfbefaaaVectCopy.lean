/- What the law VectDist answers, for every two lists of numbers. Conditions: the slices' cells hold the numbers; the room for one more. -/
import Derived.Test.YtljichhmfbefaaaVectKnown
namespace Go.Proofs.Ytljichhmfbefaaa
open Go.RowKit
open Go.ChangeShapes Go.WideShapes Go.ChangeAt

/-- The reach of the row leaves room for more than one number. -/
theorem I32.reach_less {H : Type} {P : Program} (hP : P = Try.prog) {ts : List TypeId} {ds : List (DataW H)} (hsz : (DataW.weightsEach P ts ds).all (· ≤ reachBytes) = true) {j : Nat} {d : DataW H} {l : List Int}
    (ht : ts[j]? = some 22) (hd : ds[j]? = some d) (h : l = [] ∨ ∃ elems rest, d = .slice elems rest ∧ l.length ≤ elems.length) : l.length ≤ 35184372087808 := by
  subst hP
  rcases h with rfl | ⟨elems, rest, rfl, hl⟩
  · decide
  · have := sized_slice hsz ht hd Try.underlying22
    rw [I32.bytes5] at this
    have hr : reachBytes = 140737488351232 := rfl
    omega

/-- A copy of the numbers in new memory, with a marked one behind it. -/
structure CopyAt (w0 w : World) (l : List Int) (m : Int) (g cap : Nat) : Prop where
  room : l.length + 1 ≤ cap
  most : cap ≤ maxLen
  new : w0.heap.size ≤ g
  cells : ∀ i, i < l.length + 1 → w.cell? ⟨g, i, none⟩ = some (.int .i32 ((l ++ [m]).getD i 0))

theorem CopyAt.bts {w0 w : World} {l : List Int} {m : Int} {g cap : Nat} (h : CopyAt w0 w l m g cap) (hs : ∀ x ∈ l, I32.Okk x) (hl : l.length ≤ 35184372088832) : I32.Bts w (.slice (some ⟨g, 0, none⟩) l.length cap) l := by
  refine ⟨⟨_, cap, rfl, ⟨by have := h.room; omega, h.most⟩, fun h => by simp at h, fun _ => ⟨g, 0, rfl, fun i hi => ?_⟩⟩, hs, hl⟩
  rw [Nat.zero_add, h.cells i (by omega)]
  simp [List.getElem?_append_left hi]

theorem CopyAt.later {w0 w w' : World} {l : List Int} {m : Int} {g cap : Nat} (h : CopyAt w0 w l m g cap) (hb : Below w.heap.size w w') : CopyAt w0 w' l m g cap := by
  refine ⟨h.room, h.most, h.new, fun i hi => ?_⟩
  have hc := h.cells i hi
  rw [hb.cell (p := ⟨g, i, none⟩) (block_lt_of_cell hc)]
  exact hc

theorem CopyAt.mark {w0 w : World} {l : List Int} {m : Int} {g cap : Nat} (h : CopyAt w0 w l m g cap) : w.cell? ⟨g, l.length, none⟩ = some (.int .i32 m) := by
  rw [h.cells _ (by omega)]; simp

theorem copy_owned {w0 w : World} {l : List Int} {m : Int} {v : Value} (hown : w.ownsRow w0.heap.size 21 1 v (0 + l.length + 1) ([] ++ I32.bytesV l ++ I32.bytesV [m])) :
    ∃ g c, v = .slice (some ⟨g, 0, none⟩) (l.length + 1) c ∧ CopyAt w0 w l m g c := by
  rw [show ([] ++ I32.bytesV l ++ I32.bytesV [m]) = I32.bytesV (l ++ [m]) by simp [I32.bytesV], Nat.zero_add] at hown
  obtain ⟨g, c, rfl⟩ : ∃ g c, v = .slice (some ⟨g, 0, none⟩) (l.length + 1) c := by
    rcases hown.2 with ⟨_, h0⟩ | ⟨g, c, cur, hv, _⟩
    · omega
    · exact ⟨g, c, hv⟩
  obtain ⟨h1, h2, h3, h4, h5⟩ := I32.owns_cells hown
  exact ⟨g, c, rfl, h2, h3, h1, fun i hi => h5 i (by simpa using hi)⟩

theorem same_self (va vb : Value) (a : List Int) (w : World) (hA : I32.Bts w va a) (hB : I32.Bts w vb a) :
    Calls Try.prog 12 #[va, vb] w fun e w' => e = .returned (.bool true) ∧ ∃ n, w' = w.drewN n := by
  have h := same_any va vb a a w hA hB
  rw [decide_eq_true (show a = a from rfl)] at h
  exact h

set_option maxHeartbeats 1600000 in
set_option maxRecDepth 20000 in
theorem vectDist_any (va vb : Value) (a b : List Int) (w : World) (hA : I32.Bts w va a) (hB : I32.Bts w vb b) (la : a.length ≤ 35184372087808) (lb : b.length ≤ 35184372087808) :
    Calls Try.prog 3 #[va, vb] w fun e w' => e = .returned (.bool true) ∧ Below w.heap.size w w' := by
  have HA := Lib.hid hA
  have HB := Lib.hid hB
  obtain ⟨pa, ca, rfl, -, -, -⟩ := hA.form
  obtain ⟨pb, cb, rfl, -, -, -⟩ := hB.form
  have hown0 : (w.alloc (.cells #[] 21)).ownsRow w.heap.size 21 1 (.slice (some ⟨w.heap.size, 0, none⟩) 0 0) 0 [] := ⟨rfl, Or.inr ⟨w.heap.size, 0, #[], rfl, Nat.le_refl _, heap_alloc_last _ _, Nat.le_refl _, Nat.zero_le _, rfl, rfl⟩⟩
  have HO := Lib.hid hown0
  have hb0 : Below w.heap.size w (w.alloc (.cells #[] 21)) := (Below.refl _ _).alloc (Nat.le_refl _) _
  have HW0 := Lib.hid hb0
  clear hown0 hb0 hA hB
  go_enter Try.func3, Try.ntmps3
  go_upto_region 1 with (fail)
  go_step
  go_step
  go_step
  go_step
  go_step
  go_step
  go_step
  refine I32.wpList_append_bts rfl (.tmp 11) (.tmp 12) rfl w.heap.size _ 0 [] rfl HO.out _ a rfl (HA.out.below HW0.out) (by omega) HW0.out.size ?_
  intro v1 w1 hown1 hb1
  have hbw1 := HW0.out.trans hb1
  have HO1 := Lib.hid (hown1.alloc (.cells #[.int .i32 77] 21))
  have HB1 := Lib.hid (I32.bts_alloc w1 [77] 1 (by decide) 21 (0, 0) (by intro x hx; simp at hx; subst hx; exact okk_of (by decide) (by decide)) (by decide))
  have HW1 := Lib.hid (hbw1.alloc hbw1.size (.cells #[.int .i32 77] 21))
  clear hown1 hb1 hbw1
  go_step
  go_step
  go_step
  refine I32.wpList_append_bts rfl (.tmp 13) (.tmp 14) rfl w.heap.size _ (0 + a.length) _ rfl HO1.out _ [77] rfl HB1.out (by simp; omega) HW1.out.size ?_
  intro v2 w2 hown2 hb2
  have hbw2 := HW1.out.trans hb2
  obtain ⟨g, c2, rfl, hc2⟩ := copy_owned hown2
  have HX := Lib.hid hc2
  have HWX := Lib.hid hbw2
  have hroom := hc2.room
  have hmost := hc2.most
  unfold maxLen at hmost
  clear hown2 hb2 hbw2 hc2 HO HO1 HB1 HW1 HW0
  go_upto_region 2 with (fail)
  have hown0 : (w2.alloc (.cells #[] 21)).ownsRow w2.heap.size 21 1 (.slice (some ⟨w2.heap.size, 0, none⟩) 0 0) 0 [] := ⟨rfl, Or.inr ⟨w2.heap.size, 0, #[], rfl, Nat.le_refl _, heap_alloc_last _ _, Nat.le_refl _, Nat.zero_le _, rfl, rfl⟩⟩
  have HO := Lib.hid hown0
  have hb0 : Below w2.heap.size w2 (w2.alloc (.cells #[] 21)) := (Below.refl _ _).alloc (Nat.le_refl _) _
  have HW0 := Lib.hid hb0
  have HBX := Lib.hid ((HB.out.below HWX.out).below hb0)
  clear hown0 hb0
  go_step
  go_step
  go_step
  go_step
  go_step
  go_step
  go_step
  refine I32.wpList_append_bts rfl (.tmp 19) (.tmp 20) rfl w2.heap.size _ 0 [] rfl HO.out _ b rfl HBX.out (by omega) HW0.out.size ?_
  intro v3 w3 hown3 hb3
  have hbw3 := HW0.out.trans hb3
  have HO3 := Lib.hid (hown3.alloc (.cells #[.int .i32 78] 21))
  have HB3 := Lib.hid (I32.bts_alloc w3 [78] 1 (by decide) 21 (0, 0) (by intro x hx; simp at hx; subst hx; exact okk_of (by decide) (by decide)) (by decide))
  have HW3 := Lib.hid (hbw3.alloc hbw3.size (.cells #[.int .i32 78] 21))
  clear hown3 hb3 hbw3
  go_step
  go_step
  go_step
  refine I32.wpList_append_bts rfl (.tmp 21) (.tmp 22) rfl w2.heap.size _ (0 + b.length) _ rfl HO3.out _ [78] rfl HB3.out (by simp; omega) HW3.out.size ?_
  intro v4 w4 hown4 hb4
  have hbw4 := HW3.out.trans hb4
  obtain ⟨g2, c4, rfl, hc4⟩ := copy_owned hown4
  have HY := Lib.hid hc4
  have HX4 := Lib.hid (HX.out.later hbw4)
  have HWY := Lib.hid (HWX.out.trans (hbw4.mono HWX.out.size))
  have HA4 := Lib.hid (HA.out.below HWY.out)
  have HB4 := Lib.hid (HB.out.below HWY.out)
  have hroom2 := hc4.room
  have hmost2 := hc4.most
  unfold maxLen at hmost2
  clear hown4 hb4 hbw4 hc4 HO HO3 HB3 HW3 HW0 HBX HX HWX HA HB
  have HD := Lib.hid (dist_any _ _ _ _ _ (HX4.out.bts HA4.out.small HA4.out.len) (HY.out.bts HB4.out.small HB4.out.len))
  have HR := Lib.hid (refDist_any _ _ _ _ _ HA4.out HB4.out)
  unfold DistAns at HD
  generalize Vp.far a b = d at *
  generalize Vp.ferr a b = f at *
  go_wp2_with fail
  refine HD.out.mono ?_
  rintro e w' ⟨rfl, rfl⟩
  go_wp2_with fail
  refine HR.out.mono ?_
  rintro e w' ⟨rfl, n1, rfl⟩
  have hb1 := below_drewN (Below.refl w4.heap.size w4) n1
  have HS1 := Lib.hid (same_self _ _ _ _ ((HX4.out.later hb1).bts HA4.out.small HA4.out.len) (HA4.out.below hb1))
  have HY1 := Lib.hid (HY.out.later hb1)
  have HB1 := Lib.hid (HB4.out.below hb1)
  clear hb1
  go_wp2_with fail
  refine HS1.out.mono ?_
  rintro e w' ⟨rfl, n2, rfl⟩
  have hb2 := below_drewN (Below.refl (w4.drewN n1).heap.size (w4.drewN n1)) n2
  have HS2 := Lib.hid (same_self _ _ _ _ ((HY1.out.later hb2).bts HB4.out.small HB4.out.len) (HB1.out.below hb2))
  clear hb2
  rw [World.drewN_drewN] at *
  go_wp2_with fail
  refine HS2.out.mono ?_
  rintro e w' ⟨rfl, n3, rfl⟩
  rw [World.drewN_drewN] at *
  have hm1 := HX4.out.mark
  have hm2 := HY.out.mark
  go_wp2_with fail
  refine (known_any _).mono ?_
  rintro e w' ⟨rfl, hb⟩
  have HK := Lib.hid ((below_drewN HWY.out (n1 + n2 + n3)).trans (hb.mono (by have := HWY.out.size; simp; omega)))
  clear hb
  go_wp2_with fail
  go_ret
  exact ⟨rfl, HK.out⟩
end Go.Proofs.Ytljichhmfbefaaa
