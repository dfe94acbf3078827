/- A record copied, by the document's own way. Conditions: the value reads as a record; few of each. -/
import Derived.Test.YtkchoelegdknoaaLrKnown
namespace Go.Proofs.Ytkchoelegdknoaa
open Go.RowKit

set_option maxHeartbeats 6400000 in
set_option maxRecDepth 20000 in
theorem refCopy_any (x : Lr.R) (o n u c d : Value) (w : World) (h : RecAt w x o n u c d) (hf : Lr.Few x) :
    Calls Try.prog 10 #[RecV x o n u c d] w fun e w' => ∃ o' n' u' c' d', e = .returned (RecV x o' n' u' c' d') ∧ RecOwn w.heap.size w' x o' n' u' c' d' ∧ Below w.heap.size w w' := by
  obtain ⟨W, hW⟩ : ∃ W, W = w.alloc (robj x o n u c d) := ⟨_, rfl⟩
  have hb := below_new1 w (robj x o n u c d)
  have hr0 := rblk w x o n u c d
  rw [← hW] at hb hr0
  obtain ⟨V, hV⟩ : ∃ V, V = W.alloc zobj := ⟨_, rfl⟩
  have hb1 := below_new1 W zobj
  have hz := zblk W
  rw [← hV] at hb1 hz
  have hs0 : W.heap.size = w.heap.size + 1 := by rw [hW]; simp
  rw [hs0] at hz
  have hr := (hb1.block _ (lt_of_block hr0)).trans hr0
  have HB := Lib.hid (hb.trans (hb1.mono hb.size))
  obtain ⟨p1, c1, p2, c2, p3, c3, p4, c4, p5, c5, rfl, rfl, rfl, rfl, rfl⟩ := rec_slices h
  unfold robj at hW
  unfold zobj at hV
  have HA := Lib.hid h
  have HF := Lib.hid hf
  have HR := Lib.hid hr
  have HZ := Lib.hid hz
  clear h hf hb hr hr0 hb1 hz hs0
  go_enter Try.func10, Try.ntmps10
  go_upto_region 1 with (fail)
  rw [← hW, ← hV]
  clear hW hV
  obtain ⟨P, hP⟩ : ∃ P, P = w.heap.size := ⟨_, rfl⟩
  rw [← hP] at HR HZ ⊢
  have HPW := Lib.hid hP
  clear hP
  go_step
  refine wpList_load_rec rfl (.tmp 1) rfl P rfl _ HR.out rfl ?_
  go_upto_region 2 with (fail)
  obtain ⟨Z0, hY⟩ : ∃ Y, Y = V.alloc (.cells #[.int .i64 x.kind, .int .u64 (x.lsn : Int), .int .u32 (x.epoch : Int), .int .u64 (x.txn : Int), .int .u32 (x.page : Int), .int .u16 (x.off : Int), .slice p1 x.old.length c1, .slice p2 x.new.length c2, .slice p3 x.undo.length c3, .int .u64 (x.prev : Int), .int .u64 (x.next : Int), .bool x.clr, .int .u64 (x.stamp : Int), .slice p4 x.opn.length c4, .slice p5 x.dirt.length c5] 30) := ⟨_, rfl⟩
  have hbY : Below V.heap.size V Z0 := by rw [hY]; exact below_new1 _ _
  have hrY : Z0.heap[V.heap.size]? = some (.cells #[.int .i64 x.kind, .int .u64 (x.lsn : Int), .int .u32 (x.epoch : Int), .int .u64 (x.txn : Int), .int .u32 (x.page : Int), .int .u16 (x.off : Int), .slice p1 x.old.length c1, .slice p2 x.new.length c2, .slice p3 x.undo.length c3, .int .u64 (x.prev : Int), .int .u64 (x.next : Int), .bool x.clr, .int .u64 (x.stamp : Int), .slice p4 x.opn.length c4, .slice p5 x.dirt.length c5] 30 (0, 0)) := by rw [hY]; exact heap_alloc_last _ _
  rw [← hY]
  obtain ⟨y, hy⟩ : ∃ y, y = V.heap.size := ⟨_, rfl⟩
  rw [← hy] at hrY ⊢
  have HZL : Hid (P + 1 < y) := by rw [hy]; exact lt_of_block HZ.out
  have HYW := Lib.hid (show w.heap.size ≤ y by have h1 := HZL.out; have h2 := HPW.out; omega)
  have HRY := Lib.hid hrY
  have HZ := Lib.hid ((hbY.block _ (lt_of_block HZ.out)).trans HZ.out)
  have HP := Lib.hid ((hbY.block _ (lt_of_block HR.out)).trans HR.out)
  have HB := Lib.hid (HB.out.trans (hbY.mono HB.out.size))
  clear hY hbY hrY hy
  go_upto_region 2 with (fail)
  iterate 4 go_step
  have hbe := below_new1 Z0 (.cells #[] 5)
  have hoe := own_empty Z0 Z0.heap.size 0 #[] (Nat.le_refl _) (by decide) rfl
  obtain ⟨E0, hE⟩ : ∃ E, E = Z0.alloc (.cells #[] 5) := ⟨_, rfl⟩
  rw [← hE] at hbe hoe ⊢
  have hpe := (hbe.block _ (lt_of_block HP.out)).trans HP.out
  obtain ⟨q0, q1, q2, q3, q4, q5, q6, q7, q8, q9, q10, q11, q12, q13, q14⟩ := rec_cell hpe
  clear hE hpe q0 q1 q2 q3 q4 q5 q7 q8 q9 q10 q11 q12 q13 q14
  iterate 6 go_step
  refine wpList_append_Own rfl (.tmp 5) (.tmp 7) rfl Z0.heap.size _ [] rfl hoe _ x.old rfl (HA.out.old.below (HB.out.trans (hbe.mono HB.out.size))) (by have := (HA.out.old).len; simp only [List.length_nil]; omega) hbe.size ?_
  intro v0 w0 hO hb _
  rw [List.nil_append] at hO
  obtain ⟨a0, b0, rfl⟩ := hO.bts.slice
  have hb := hbe.trans hb
  have HO0_ne := Lib.hid (own_neB hO (lt_of_block HRY.out))
  have HO0_nq := Lib.hid (own_neB hO (lt_of_block HZ.out))
  have HO0 := Lib.hid (hO.from HB.out.size)
  have HRY := Lib.hid ((hb.block _ (lt_of_block HRY.out)).trans HRY.out)
  have HZ := Lib.hid ((hb.block _ (lt_of_block HZ.out)).trans HZ.out)
  have HP := Lib.hid ((hb.block _ (lt_of_block HP.out)).trans HP.out)
  have HB := Lib.hid (HB.out.trans (hb.mono HB.out.size))
  clear hO hb hbe hoe q6
  obtain ⟨y0, y1, y2, y3, y4, y5, y6, y7, y8, y9, y10, y11, y12, y13, y14⟩ := rec_cell HRY.out
  have fy := rec_free HRY.out
  clear y0 y1 y2 y3 y4 y5 y7 y8 y9 y10 y11 y12 y13 y14
  go_upto_region 3 with (fail)
  have hrY := rec_set (i := 6) (.slice a0 x.old.length b0) HRY.out
  simp only [List.setIfInBounds_toArray, List.set_cons_zero, List.set_cons_succ] at hrY
  have hgs := grownBy_setCell w0 y 6 (.slice a0 x.old.length b0)
  obtain ⟨Z1, hZ⟩ : ∃ Z, Z = w0.setCell ⟨y, 6, none⟩ (.slice a0 x.old.length b0) := ⟨_, rfl⟩
  rw [← hZ] at hrY hgs ⊢
  clear hZ fy y6
  have HRY := Lib.hid hrY
  have HZ := Lib.hid ((hgs.block _ (lt_of_block HZ.out) (fun e => by have h1 := Option.some.inj e; have h2 := HZL.out; omega)).trans HZ.out)
  have HP := Lib.hid ((hgs.block _ (lt_of_block HP.out) (fun e => by have h1 := Option.some.inj e; have h2 := HZL.out; omega)).trans HP.out)
  have HO0 := Lib.hid (HO0.out.grown hgs HO0_ne.out)
  have HB := Lib.hid (below_grown HB.out hgs HB.out.size HYW.out)
  clear hrY hgs
  go_upto_region 3 with (fail)
  iterate 4 go_step
  have hbe := below_new1 Z1 (.cells #[] 5)
  have hoe := own_empty Z1 Z1.heap.size 0 #[] (Nat.le_refl _) (by decide) rfl
  obtain ⟨E1, hE⟩ : ∃ E, E = Z1.alloc (.cells #[] 5) := ⟨_, rfl⟩
  rw [← hE] at hbe hoe ⊢
  have hpe := (hbe.block _ (lt_of_block HP.out)).trans HP.out
  obtain ⟨q0, q1, q2, q3, q4, q5, q6, q7, q8, q9, q10, q11, q12, q13, q14⟩ := rec_cell hpe
  clear hE hpe q0 q1 q2 q3 q4 q5 q6 q8 q9 q10 q11 q12 q13 q14
  iterate 6 go_step
  refine wpList_append_Own rfl (.tmp 10) (.tmp 12) rfl Z1.heap.size _ [] rfl hoe _ x.new rfl (HA.out.new.below (HB.out.trans (hbe.mono HB.out.size))) (by have := (HA.out.new).len; simp only [List.length_nil]; omega) hbe.size ?_
  intro v1 w1 hO hb _
  rw [List.nil_append] at hO
  obtain ⟨a1, b1, rfl⟩ := hO.bts.slice
  have hb := hbe.trans hb
  have HO1_ne := Lib.hid (own_neB hO (lt_of_block HRY.out))
  have HO1_nq := Lib.hid (own_neB hO (lt_of_block HZ.out))
  have HO1 := Lib.hid (hO.from HB.out.size)
  have HRY := Lib.hid ((hb.block _ (lt_of_block HRY.out)).trans HRY.out)
  have HZ := Lib.hid ((hb.block _ (lt_of_block HZ.out)).trans HZ.out)
  have HP := Lib.hid ((hb.block _ (lt_of_block HP.out)).trans HP.out)
  have HO0 := Lib.hid (HO0.out.below hb)
  have HB := Lib.hid (HB.out.trans (hb.mono HB.out.size))
  clear hO hb hbe hoe q7
  obtain ⟨y0, y1, y2, y3, y4, y5, y6, y7, y8, y9, y10, y11, y12, y13, y14⟩ := rec_cell HRY.out
  have fy := rec_free HRY.out
  clear y0 y1 y2 y3 y4 y5 y6 y8 y9 y10 y11 y12 y13 y14
  go_upto_region 4 with (fail)
  have hrY := rec_set (i := 7) (.slice a1 x.new.length b1) HRY.out
  simp only [List.setIfInBounds_toArray, List.set_cons_zero, List.set_cons_succ] at hrY
  have hgs := grownBy_setCell w1 y 7 (.slice a1 x.new.length b1)
  obtain ⟨Z2, hZ⟩ : ∃ Z, Z = w1.setCell ⟨y, 7, none⟩ (.slice a1 x.new.length b1) := ⟨_, rfl⟩
  rw [← hZ] at hrY hgs ⊢
  clear hZ fy y7
  have HRY := Lib.hid hrY
  have HZ := Lib.hid ((hgs.block _ (lt_of_block HZ.out) (fun e => by have h1 := Option.some.inj e; have h2 := HZL.out; omega)).trans HZ.out)
  have HP := Lib.hid ((hgs.block _ (lt_of_block HP.out) (fun e => by have h1 := Option.some.inj e; have h2 := HZL.out; omega)).trans HP.out)
  have HO0 := Lib.hid (HO0.out.grown hgs HO0_ne.out)
  have HO1 := Lib.hid (HO1.out.grown hgs HO1_ne.out)
  have HB := Lib.hid (below_grown HB.out hgs HB.out.size HYW.out)
  clear hrY hgs
  go_upto_region 4 with (fail)
  iterate 4 go_step
  have hbe := below_new1 Z2 (.cells #[] 5)
  have hoe := own_empty Z2 Z2.heap.size 0 #[] (Nat.le_refl _) (by decide) rfl
  obtain ⟨E2, hE⟩ : ∃ E, E = Z2.alloc (.cells #[] 5) := ⟨_, rfl⟩
  rw [← hE] at hbe hoe ⊢
  have hpe := (hbe.block _ (lt_of_block HP.out)).trans HP.out
  obtain ⟨q0, q1, q2, q3, q4, q5, q6, q7, q8, q9, q10, q11, q12, q13, q14⟩ := rec_cell hpe
  clear hE hpe q0 q1 q2 q3 q4 q5 q6 q7 q9 q10 q11 q12 q13 q14
  iterate 6 go_step
  refine wpList_append_Own rfl (.tmp 15) (.tmp 17) rfl Z2.heap.size _ [] rfl hoe _ x.undo rfl (HA.out.undo.below (HB.out.trans (hbe.mono HB.out.size))) (by have := (HA.out.undo).len; simp only [List.length_nil]; omega) hbe.size ?_
  intro v2 w2 hO hb _
  rw [List.nil_append] at hO
  obtain ⟨a2, b2, rfl⟩ := hO.bts.slice
  have hb := hbe.trans hb
  have HO2_ne := Lib.hid (own_neB hO (lt_of_block HRY.out))
  have HO2_nq := Lib.hid (own_neB hO (lt_of_block HZ.out))
  have HO2 := Lib.hid (hO.from HB.out.size)
  have HRY := Lib.hid ((hb.block _ (lt_of_block HRY.out)).trans HRY.out)
  have HZ := Lib.hid ((hb.block _ (lt_of_block HZ.out)).trans HZ.out)
  have HP := Lib.hid ((hb.block _ (lt_of_block HP.out)).trans HP.out)
  have HO0 := Lib.hid (HO0.out.below hb)
  have HO1 := Lib.hid (HO1.out.below hb)
  have HB := Lib.hid (HB.out.trans (hb.mono HB.out.size))
  clear hO hb hbe hoe q8
  obtain ⟨y0, y1, y2, y3, y4, y5, y6, y7, y8, y9, y10, y11, y12, y13, y14⟩ := rec_cell HRY.out
  have fy := rec_free HRY.out
  clear y0 y1 y2 y3 y4 y5 y6 y7 y9 y10 y11 y12 y13 y14
  go_upto_region 5 with (fail)
  have hrY := rec_set (i := 8) (.slice a2 x.undo.length b2) HRY.out
  simp only [List.setIfInBounds_toArray, List.set_cons_zero, List.set_cons_succ] at hrY
  have hgs := grownBy_setCell w2 y 8 (.slice a2 x.undo.length b2)
  obtain ⟨Z3, hZ⟩ : ∃ Z, Z = w2.setCell ⟨y, 8, none⟩ (.slice a2 x.undo.length b2) := ⟨_, rfl⟩
  rw [← hZ] at hrY hgs ⊢
  clear hZ fy y8
  have HRY := Lib.hid hrY
  have HZ := Lib.hid ((hgs.block _ (lt_of_block HZ.out) (fun e => by have h1 := Option.some.inj e; have h2 := HZL.out; omega)).trans HZ.out)
  have HP := Lib.hid ((hgs.block _ (lt_of_block HP.out) (fun e => by have h1 := Option.some.inj e; have h2 := HZL.out; omega)).trans HP.out)
  have HO0 := Lib.hid (HO0.out.grown hgs HO0_ne.out)
  have HO1 := Lib.hid (HO1.out.grown hgs HO1_ne.out)
  have HO2 := Lib.hid (HO2.out.grown hgs HO2_ne.out)
  have HB := Lib.hid (below_grown HB.out hgs HB.out.size HYW.out)
  clear hrY hgs
  go_upto_region 5 with (fail)
  iterate 4 go_step
  have hbe := below_new1 Z3 (.cells #[] 50)
  have hoe := Chr.own_empty Z3 Z3.heap.size (Nat.le_refl _)
  obtain ⟨E3, hE⟩ : ∃ E, E = Z3.alloc (.cells #[] 50) := ⟨_, rfl⟩
  rw [← hE] at hbe hoe ⊢
  have hpe := (hbe.block _ (lt_of_block HP.out)).trans HP.out
  obtain ⟨q0, q1, q2, q3, q4, q5, q6, q7, q8, q9, q10, q11, q12, q13, q14⟩ := rec_cell hpe
  clear hE hpe q0 q1 q2 q3 q4 q5 q6 q7 q8 q9 q10 q11 q12 q14
  iterate 6 go_step
  refine Chr.wpList_append_Own rfl (.tmp 20) (.tmp 22) rfl Z3.heap.size _ [] rfl hoe _ x.opn rfl (HA.out.opn.below (HB.out.trans (hbe.mono HB.out.size))) (by have := HF.out.opn; simp only [List.length_nil]; omega) hbe.size ?_
  intro v3 w3 hO hb _
  rw [List.nil_append] at hO
  obtain ⟨a3, b3, rfl⟩ := hO.bts.slice
  have hb := hbe.trans hb
  have HO3_ne := Lib.hid (Chr.own_neB hO (lt_of_block HRY.out))
  have HO3_nq := Lib.hid (Chr.own_neB hO (lt_of_block HZ.out))
  have HO3 := Lib.hid (hO.from HB.out.size)
  have HRY := Lib.hid ((hb.block _ (lt_of_block HRY.out)).trans HRY.out)
  have HZ := Lib.hid ((hb.block _ (lt_of_block HZ.out)).trans HZ.out)
  have HP := Lib.hid ((hb.block _ (lt_of_block HP.out)).trans HP.out)
  have HO0 := Lib.hid (HO0.out.below hb)
  have HO1 := Lib.hid (HO1.out.below hb)
  have HO2 := Lib.hid (HO2.out.below hb)
  have HB := Lib.hid (HB.out.trans (hb.mono HB.out.size))
  clear hO hb hbe hoe q13
  obtain ⟨y0, y1, y2, y3, y4, y5, y6, y7, y8, y9, y10, y11, y12, y13, y14⟩ := rec_cell HRY.out
  have fy := rec_free HRY.out
  clear y0 y1 y2 y3 y4 y5 y6 y7 y8 y9 y10 y11 y12 y14
  go_upto_region 6 with (fail)
  have hrY := rec_set (i := 13) (.slice a3 x.opn.length b3) HRY.out
  simp only [List.setIfInBounds_toArray, List.set_cons_zero, List.set_cons_succ] at hrY
  have hgs := grownBy_setCell w3 y 13 (.slice a3 x.opn.length b3)
  obtain ⟨Z4, hZ⟩ : ∃ Z, Z = w3.setCell ⟨y, 13, none⟩ (.slice a3 x.opn.length b3) := ⟨_, rfl⟩
  rw [← hZ] at hrY hgs ⊢
  clear hZ fy y13
  have HRY := Lib.hid hrY
  have HZ := Lib.hid ((hgs.block _ (lt_of_block HZ.out) (fun e => by have h1 := Option.some.inj e; have h2 := HZL.out; omega)).trans HZ.out)
  have HP := Lib.hid ((hgs.block _ (lt_of_block HP.out) (fun e => by have h1 := Option.some.inj e; have h2 := HZL.out; omega)).trans HP.out)
  have HO0 := Lib.hid (HO0.out.grown hgs HO0_ne.out)
  have HO1 := Lib.hid (HO1.out.grown hgs HO1_ne.out)
  have HO2 := Lib.hid (HO2.out.grown hgs HO2_ne.out)
  have HO3 := Lib.hid (HO3.out.grown hgs HO3_ne.out)
  have HB := Lib.hid (below_grown HB.out hgs HB.out.size HYW.out)
  clear hrY hgs
  go_upto_region 6 with (fail)
  iterate 4 go_step
  have hbe := below_new1 Z4 (.cells #[] 52)
  have hoe := Dir.own_empty Z4 Z4.heap.size (Nat.le_refl _)
  obtain ⟨E4, hE⟩ : ∃ E, E = Z4.alloc (.cells #[] 52) := ⟨_, rfl⟩
  rw [← hE] at hbe hoe ⊢
  have hpe := (hbe.block _ (lt_of_block HP.out)).trans HP.out
  obtain ⟨q0, q1, q2, q3, q4, q5, q6, q7, q8, q9, q10, q11, q12, q13, q14⟩ := rec_cell hpe
  clear hE hpe q0 q1 q2 q3 q4 q5 q6 q7 q8 q9 q10 q11 q12 q13
  iterate 6 go_step
  refine Dir.wpList_append_Own rfl (.tmp 25) (.tmp 27) rfl Z4.heap.size _ [] rfl hoe _ x.dirt rfl (HA.out.dirt.below (HB.out.trans (hbe.mono HB.out.size))) (by have := HF.out.dirt; simp only [List.length_nil]; omega) hbe.size ?_
  intro v4 w4 hO hb _
  rw [List.nil_append] at hO
  obtain ⟨a4, b4, rfl⟩ := hO.bts.slice
  have hb := hbe.trans hb
  have HO4_ne := Lib.hid (Dir.own_neB hO (lt_of_block HRY.out))
  have HO4_nq := Lib.hid (Dir.own_neB hO (lt_of_block HZ.out))
  have HO4 := Lib.hid (hO.from HB.out.size)
  have HRY := Lib.hid ((hb.block _ (lt_of_block HRY.out)).trans HRY.out)
  have HZ := Lib.hid ((hb.block _ (lt_of_block HZ.out)).trans HZ.out)
  have HP := Lib.hid ((hb.block _ (lt_of_block HP.out)).trans HP.out)
  have HO0 := Lib.hid (HO0.out.below hb)
  have HO1 := Lib.hid (HO1.out.below hb)
  have HO2 := Lib.hid (HO2.out.below hb)
  have HO3 := Lib.hid (HO3.out.below hb)
  have HB := Lib.hid (HB.out.trans (hb.mono HB.out.size))
  clear hO hb hbe hoe q14
  obtain ⟨y0, y1, y2, y3, y4, y5, y6, y7, y8, y9, y10, y11, y12, y13, y14⟩ := rec_cell HRY.out
  have fy := rec_free HRY.out
  clear y0 y1 y2 y3 y4 y5 y6 y7 y8 y9 y10 y11 y12 y13
  go_upto_region 7 with (fail)
  have hrY := rec_set (i := 14) (.slice a4 x.dirt.length b4) HRY.out
  simp only [List.setIfInBounds_toArray, List.set_cons_zero, List.set_cons_succ] at hrY
  have hgs := grownBy_setCell w4 y 14 (.slice a4 x.dirt.length b4)
  obtain ⟨Z5, hZ⟩ : ∃ Z, Z = w4.setCell ⟨y, 14, none⟩ (.slice a4 x.dirt.length b4) := ⟨_, rfl⟩
  rw [← hZ] at hrY hgs ⊢
  clear hZ fy y14
  have HRY := Lib.hid hrY
  have HZ := Lib.hid ((hgs.block _ (lt_of_block HZ.out) (fun e => by have h1 := Option.some.inj e; have h2 := HZL.out; omega)).trans HZ.out)
  have HP := Lib.hid ((hgs.block _ (lt_of_block HP.out) (fun e => by have h1 := Option.some.inj e; have h2 := HZL.out; omega)).trans HP.out)
  have HO0 := Lib.hid (HO0.out.grown hgs HO0_ne.out)
  have HO1 := Lib.hid (HO1.out.grown hgs HO1_ne.out)
  have HO2 := Lib.hid (HO2.out.grown hgs HO2_ne.out)
  have HO3 := Lib.hid (HO3.out.grown hgs HO3_ne.out)
  have HO4 := Lib.hid (HO4.out.grown hgs HO4_ne.out)
  have HB := Lib.hid (below_grown HB.out hgs HB.out.size HYW.out)
  clear hrY hgs
  go_step
  refine wpList_load_rec rfl (.tmp 3) rfl y rfl _ HRY.out rfl ?_
  refine wpList_store_rec rfl (.tmp 2) (.tmp 30) rfl (P + 1) rfl _ rfl _ HZ.out rfl rfl (by simp [Value.oneCell']) ?_
  intro U hrU hgU
  have HST : Hid (_ ∧ _) := ⟨hrU, hgU⟩
  clear hrU hgU
  go_wp2_with fail
  refine bodyPost_ret (v := .agg #[.int .i64 x.kind, .int .u64 (x.lsn : Int), .int .u32 (x.epoch : Int), .int .u64 (x.txn : Int), .int .u32 (x.page : Int), .int .u16 (x.off : Int), .slice a0 x.old.length b0, .slice a1 x.new.length b1, .slice a2 x.undo.length b2, .int .u64 (x.prev : Int), .int .u64 (x.next : Int), .bool x.clr, .int .u64 (x.stamp : Int), .slice a3 x.opn.length b3, .slice a4 x.dirt.length b4]) (results_cell_row Try.results10 _ _ (P + 1) _ _ _ _ rfl HST.out.1 Try.underlying30 rfl (rec_info rfl)) rfl ?_
  exact ⟨_, _, _, _, _, rfl, ⟨HO0.out.grown HST.out.2 HO0_nq.out, HO1.out.grown HST.out.2 HO1_nq.out, HO2.out.grown HST.out.2 HO2_nq.out, HO3.out.grown HST.out.2 HO3_nq.out, HO4.out.grown HST.out.2 HO4_nq.out, HA.out.ok⟩, below_grown HB.out HST.out.2 HB.out.size (by have := HPW.out; omega)⟩
end Go.Proofs.Ytkchoelegdknoaa
