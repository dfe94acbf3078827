/- A record with what its kind has alone, by the document's own reckoning. Conditions: the value reads as a record. -/
import Derived.Test.YtkchoelegdknoaaLay
import Derived.Test.YtkchoelegdknoaaLrWithin
namespace Go.Proofs.Ytkchoelegdknoaa
open Go.RowKit

set_option maxHeartbeats 6400000 in
set_option maxRecDepth 20000 in
theorem refBare_any (x : Lr.R) (o n u c d : Value) (w : World) (h : RecAt w x o n u c d) :
    Calls Try.prog 27 #[RecV x o n u c d] w fun e w' => ∃ o' n' u' c' d', e = .returned (RecV (Lr.bare x) o' n' u' c' d') ∧ RecAt w' (Lr.bare x) o' n' u' c' d' ∧ Below w.heap.size w w' := by
  obtain ⟨W, hW⟩ : ∃ W, W = w.alloc (robj x o n u c d) := ⟨_, rfl⟩
  have hb := below_new1 w (robj x o n u c d)
  have hr0 := rblk w x o n u c d
  rw [← hW] at hb hr0
  obtain ⟨V, hV⟩ : ∃ V, V = W.alloc zobj := ⟨_, rfl⟩
  have hb1 := below_new1 W zobj
  have hz := zblk W
  rw [← hV] at hb1 hz
  have hs0 : W.heap.size = w.heap.size + 1 := by rw [hW]; simp
  rw [hs0] at hz
  have hr := (hb1.block _ (lt_of_block hr0)).trans hr0
  have HB := Lib.hid (hb.trans (hb1.mono hb.size))
  obtain ⟨q0, q1, q2, q3, q4, q5, q6, q7, q8, q9, q10, q11, q12, q13, q14⟩ := rec_cell hr
  obtain ⟨p1, c1, p2, c2, p3, c3, p4, c4, p5, c5, rfl, rfl, rfl, rfl, rfl⟩ := rec_slices h
  unfold robj at hW
  unfold zobj at hV
  obtain ⟨k, lsn, ep, txn, pg, off, ol, nw, un, pv, nx, cl, st, op, di⟩ := x
  dsimp only at *
  have HA0 := Lib.hid h
  have HR := Lib.hid hr
  have HZ := Lib.hid hz
  clear h hb hr hr0 hb1 hz hs0
  by_cases h1 : k = 1
  · as_aux_lemma =>
      subst h1
      rw [show Lr.bare ⟨1, lsn, ep, txn, pg, off, ol, nw, un, pv, nx, cl, st, op, di⟩ = ⟨1, lsn, ep, 0, pg, off, ol, nw, [], 0, 0, false, 0, [], []⟩ from rfl]
      go_enter Try.func27, Try.ntmps27
      go_upto_region 1 with (fail)
      rw [← hW, ← hV]
      clear hW hV
      go_upto_region 2 with (fail)
      obtain ⟨Y, hY⟩ : ∃ Y, Y = V.alloc (.cells #[.int .i64 1, .int .u64 (lsn : Int), .int .u32 (ep : Int), .int .u64 0, .int .u32 0, .int .u16 0, .slice none 0 0, .slice none 0 0, .slice none 0 0, .int .u64 0, .int .u64 0, .bool false, .int .u64 0, .slice none 0 0, .slice none 0 0] 30) := ⟨_, rfl⟩
      have hbY : Below V.heap.size V Y := by rw [hY]; exact below_new1 _ _
      have HRY : Hid (Y.heap[V.heap.size]? = some (.cells #[.int .i64 1, .int .u64 (lsn : Int), .int .u32 (ep : Int), .int .u64 0, .int .u32 0, .int .u16 0, .slice none 0 0, .slice none 0 0, .slice none 0 0, .int .u64 0, .int .u64 0, .bool false, .int .u64 0, .slice none 0 0, .slice none 0 0] 30 (0, 0))) := by rw [hY]; exact heap_alloc_last _ _
      have HZY := Lib.hid ((hbY.block _ (lt_of_block HZ.out)).trans HZ.out)
      have hpY := (hbY.block _ (lt_of_block HR.out)).trans HR.out
      have HBY := Lib.hid (HB.out.trans (hbY.mono HB.out.size))
      have HSZ : Hid (w.heap.size < V.heap.size) := lt_of_block HR.out
      have HSY : Hid (V.heap.size < Y.heap.size) := lt_of_block HRY.out
      have HNE : Hid (¬ w.heap.size = V.heap.size) := fun e => Nat.ne_of_lt HSZ.out e
      have HNE2 : Hid (¬ V.heap.size = w.heap.size + 1) := by have := lt_of_block HZ.out; intro e; omega
      rw [← hY]
      clear hY hbY q0 q1 q2 q3 q4 q5 q6 q7 q8 q9 q10 q11 q12 q13 q14
      obtain ⟨q0, q1, q2, q3, q4, q5, q6, q7, q8, q9, q10, q11, q12, q13, q14⟩ := rec_cell hpY
      clear hpY
      have y := rec_cell HRY.out
      obtain ⟨y0, y1, y2, y3, y4, y5, y6, y7, y8, y9, y10, y11, y12, y13, y14⟩ := y
      have fy := rec_free HRY.out
      have hne := HNE.out
      go_upto_region 22 with (fail)
      have hrY2 := HRY.out
      have hrY2 := rec_set (i := 4) (.int .u32 (pg : Int)) hrY2
      simp only [List.setIfInBounds_toArray, List.set_cons_zero, List.set_cons_succ] at hrY2
      have hrY2 := rec_set (i := 5) (.int .u16 (off : Int)) hrY2
      simp only [List.setIfInBounds_toArray, List.set_cons_zero, List.set_cons_succ] at hrY2
      have hrY2 := rec_set (i := 6) (.slice p1 ol.length c1) hrY2
      simp only [List.setIfInBounds_toArray, List.set_cons_zero, List.set_cons_succ] at hrY2
      have hrY2 := rec_set (i := 7) (.slice p2 nw.length c2) hrY2
      simp only [List.setIfInBounds_toArray, List.set_cons_zero, List.set_cons_succ] at hrY2
      have hgZ : Y.grownBy ((((Y.setCell ⟨V.heap.size, 4, none⟩ (.int .u32 (pg : Int))).setCell ⟨V.heap.size, 5, none⟩ (.int .u16 (off : Int))).setCell ⟨V.heap.size, 6, none⟩ (.slice p1 ol.length c1)).setCell ⟨V.heap.size, 7, none⟩ (.slice p2 nw.length c2)) (some V.heap.size) := grownBy_trans (grownBy_trans (grownBy_trans (grownBy_setCell _ _ _ _) (grownBy_setCell _ _ _ _)) (grownBy_setCell _ _ _ _)) (grownBy_setCell _ _ _ _)
      obtain ⟨Z, hZ⟩ : ∃ Z, Z = ((((Y.setCell ⟨V.heap.size, 4, none⟩ (.int .u32 (pg : Int))).setCell ⟨V.heap.size, 5, none⟩ (.int .u16 (off : Int))).setCell ⟨V.heap.size, 6, none⟩ (.slice p1 ol.length c1)).setCell ⟨V.heap.size, 7, none⟩ (.slice p2 nw.length c2)) := ⟨_, rfl⟩
      rw [← hZ] at hgZ hrY2 ⊢
      clear hZ
      clear fy hne y0 q0 y1 q1 y2 q2 y3 q3 y4 q4 y5 q5 y6 q6 y7 q7 y8 q8 y9 q9 y10 q10 y11 q11 y12 q12 y13 q13 y14 q14
      have hzZ := (hgZ.block _ (lt_of_block HZY.out) (fun e => HNE2.out (Option.some.inj e).symm)).trans HZY.out
      have HRZ := Lib.hid hrY2
      have HZZ := Lib.hid hzZ
      have HG := Lib.hid hgZ
      clear hgZ hzZ hrY2
      go_upto_region 22 with (fail)
      go_step
      refine wpList_load_rec rfl (.tmp 3) rfl V.heap.size rfl _ HRZ.out rfl ?_
      refine wpList_store_rec rfl (.tmp 2) (.tmp 65) rfl (w.heap.size + 1) rfl _ rfl _ HZZ.out rfl rfl (by simp [Value.oneCell']) ?_
      intro U hrU hgU
      have HST : Hid (_ ∧ _) := ⟨hrU, hgU⟩
      clear hrU hgU
      go_wp2_with fail
      refine bodyPost_ret (v := .agg #[.int .i64 1, .int .u64 (lsn : Int), .int .u32 (ep : Int), .int .u64 0, .int .u32 (pg : Int), .int .u16 (off : Int), .slice p1 ol.length c1, .slice p2 nw.length c2, .slice none 0 0, .int .u64 0, .int .u64 0, .bool false, .int .u64 0, .slice none 0 0, .slice none 0 0]) (results_cell_row Try.results27 _ _ (w.heap.size + 1) _ _ _ _ rfl HST.out.1 Try.underlying30 rfl (rec_info rfl)) rfl ?_
      have hbU : Below w.heap.size w U := below_grown (below_grown HBY.out HG.out (Nat.le_of_lt (Nat.lt_trans HSZ.out HSY.out)) (Nat.le_of_lt HSZ.out)) HST.out.2 (Nat.le_trans (Nat.le_of_lt (Nat.lt_trans HSZ.out HSY.out)) HG.out.size) (Nat.le_succ _)
      have hAU := HA0.out.below hbU
      refine ⟨(.slice p1 ol.length c1), (.slice p2 nw.length c2), (.slice none 0 0), (.slice none 0 0), (.slice none 0 0), rfl, ?_, hbU⟩
      have hok := hAU.ok
      exact ⟨hAU.old, hAU.new, bts_none _, Chr.bts_nil _, Dir.bts_nil _, ok_bare hok⟩
  have k1 : (k == 1) = false := by rw [beq_eq_false_iff_ne]; exact h1
  by_cases h2 : k = 2
  · as_aux_lemma =>
      subst h2
      rw [show Lr.bare ⟨2, lsn, ep, txn, pg, off, ol, nw, un, pv, nx, cl, st, op, di⟩ = ⟨2, lsn, ep, txn, 0, 0, [], [], un, pv, nx, cl, 0, [], []⟩ from rfl]
      go_enter Try.func27, Try.ntmps27
      go_upto_region 1 with (fail)
      rw [← hW, ← hV]
      clear hW hV
      go_upto_region 2 with (fail)
      obtain ⟨Y, hY⟩ : ∃ Y, Y = V.alloc (.cells #[.int .i64 2, .int .u64 (lsn : Int), .int .u32 (ep : Int), .int .u64 0, .int .u32 0, .int .u16 0, .slice none 0 0, .slice none 0 0, .slice none 0 0, .int .u64 0, .int .u64 0, .bool false, .int .u64 0, .slice none 0 0, .slice none 0 0] 30) := ⟨_, rfl⟩
      have hbY : Below V.heap.size V Y := by rw [hY]; exact below_new1 _ _
      have HRY : Hid (Y.heap[V.heap.size]? = some (.cells #[.int .i64 2, .int .u64 (lsn : Int), .int .u32 (ep : Int), .int .u64 0, .int .u32 0, .int .u16 0, .slice none 0 0, .slice none 0 0, .slice none 0 0, .int .u64 0, .int .u64 0, .bool false, .int .u64 0, .slice none 0 0, .slice none 0 0] 30 (0, 0))) := by rw [hY]; exact heap_alloc_last _ _
      have HZY := Lib.hid ((hbY.block _ (lt_of_block HZ.out)).trans HZ.out)
      have hpY := (hbY.block _ (lt_of_block HR.out)).trans HR.out
      have HBY := Lib.hid (HB.out.trans (hbY.mono HB.out.size))
      have HSZ : Hid (w.heap.size < V.heap.size) := lt_of_block HR.out
      have HSY : Hid (V.heap.size < Y.heap.size) := lt_of_block HRY.out
      have HNE : Hid (¬ w.heap.size = V.heap.size) := fun e => Nat.ne_of_lt HSZ.out e
      have HNE2 : Hid (¬ V.heap.size = w.heap.size + 1) := by have := lt_of_block HZ.out; intro e; omega
      rw [← hY]
      clear hY hbY q0 q1 q2 q3 q4 q5 q6 q7 q8 q9 q10 q11 q12 q13 q14
      obtain ⟨q0, q1, q2, q3, q4, q5, q6, q7, q8, q9, q10, q11, q12, q13, q14⟩ := rec_cell hpY
      clear hpY
      have y := rec_cell HRY.out
      obtain ⟨y0, y1, y2, y3, y4, y5, y6, y7, y8, y9, y10, y11, y12, y13, y14⟩ := y
      have fy := rec_free HRY.out
      have hne := HNE.out
      go_upto_region 22 with (fail)
      have hrY2 := HRY.out
      have hrY2 := rec_set (i := 3) (.int .u64 (txn : Int)) hrY2
      simp only [List.setIfInBounds_toArray, List.set_cons_zero, List.set_cons_succ] at hrY2
      have hrY2 := rec_set (i := 8) (.slice p3 un.length c3) hrY2
      simp only [List.setIfInBounds_toArray, List.set_cons_zero, List.set_cons_succ] at hrY2
      have hrY2 := rec_set (i := 9) (.int .u64 (pv : Int)) hrY2
      simp only [List.setIfInBounds_toArray, List.set_cons_zero, List.set_cons_succ] at hrY2
      have hrY2 := rec_set (i := 10) (.int .u64 (nx : Int)) hrY2
      simp only [List.setIfInBounds_toArray, List.set_cons_zero, List.set_cons_succ] at hrY2
      have hrY2 := rec_set (i := 11) (.bool cl) hrY2
      simp only [List.setIfInBounds_toArray, List.set_cons_zero, List.set_cons_succ] at hrY2
      have hgZ : Y.grownBy (((((Y.setCell ⟨V.heap.size, 3, none⟩ (.int .u64 (txn : Int))).setCell ⟨V.heap.size, 8, none⟩ (.slice p3 un.length c3)).setCell ⟨V.heap.size, 9, none⟩ (.int .u64 (pv : Int))).setCell ⟨V.heap.size, 10, none⟩ (.int .u64 (nx : Int))).setCell ⟨V.heap.size, 11, none⟩ (.bool cl)) (some V.heap.size) := grownBy_trans (grownBy_trans (grownBy_trans (grownBy_trans (grownBy_setCell _ _ _ _) (grownBy_setCell _ _ _ _)) (grownBy_setCell _ _ _ _)) (grownBy_setCell _ _ _ _)) (grownBy_setCell _ _ _ _)
      obtain ⟨Z, hZ⟩ : ∃ Z, Z = (((((Y.setCell ⟨V.heap.size, 3, none⟩ (.int .u64 (txn : Int))).setCell ⟨V.heap.size, 8, none⟩ (.slice p3 un.length c3)).setCell ⟨V.heap.size, 9, none⟩ (.int .u64 (pv : Int))).setCell ⟨V.heap.size, 10, none⟩ (.int .u64 (nx : Int))).setCell ⟨V.heap.size, 11, none⟩ (.bool cl)) := ⟨_, rfl⟩
      rw [← hZ] at hgZ hrY2 ⊢
      clear hZ
      clear fy hne y0 q0 y1 q1 y2 q2 y3 q3 y4 q4 y5 q5 y6 q6 y7 q7 y8 q8 y9 q9 y10 q10 y11 q11 y12 q12 y13 q13 y14 q14
      have hzZ := (hgZ.block _ (lt_of_block HZY.out) (fun e => HNE2.out (Option.some.inj e).symm)).trans HZY.out
      have HRZ := Lib.hid hrY2
      have HZZ := Lib.hid hzZ
      have HG := Lib.hid hgZ
      clear hgZ hzZ hrY2
      go_upto_region 22 with (fail)
      go_step
      refine wpList_load_rec rfl (.tmp 3) rfl V.heap.size rfl _ HRZ.out rfl ?_
      refine wpList_store_rec rfl (.tmp 2) (.tmp 65) rfl (w.heap.size + 1) rfl _ rfl _ HZZ.out rfl rfl (by simp [Value.oneCell']) ?_
      intro U hrU hgU
      have HST : Hid (_ ∧ _) := ⟨hrU, hgU⟩
      clear hrU hgU
      go_wp2_with fail
      refine bodyPost_ret (v := .agg #[.int .i64 2, .int .u64 (lsn : Int), .int .u32 (ep : Int), .int .u64 (txn : Int), .int .u32 0, .int .u16 0, .slice none 0 0, .slice none 0 0, .slice p3 un.length c3, .int .u64 (pv : Int), .int .u64 (nx : Int), .bool cl, .int .u64 0, .slice none 0 0, .slice none 0 0]) (results_cell_row Try.results27 _ _ (w.heap.size + 1) _ _ _ _ rfl HST.out.1 Try.underlying30 rfl (rec_info rfl)) rfl ?_
      have hbU : Below w.heap.size w U := below_grown (below_grown HBY.out HG.out (Nat.le_of_lt (Nat.lt_trans HSZ.out HSY.out)) (Nat.le_of_lt HSZ.out)) HST.out.2 (Nat.le_trans (Nat.le_of_lt (Nat.lt_trans HSZ.out HSY.out)) HG.out.size) (Nat.le_succ _)
      have hAU := HA0.out.below hbU
      refine ⟨(.slice none 0 0), (.slice none 0 0), (.slice p3 un.length c3), (.slice none 0 0), (.slice none 0 0), rfl, ?_, hbU⟩
      have hok := hAU.ok
      exact ⟨bts_none _, bts_none _, hAU.undo, Chr.bts_nil _, Dir.bts_nil _, ok_bare hok⟩
  have k2 : (k == 2) = false := by rw [beq_eq_false_iff_ne]; exact h2
  by_cases h3 : k = 3
  · as_aux_lemma =>
      subst h3
      rw [show Lr.bare ⟨3, lsn, ep, txn, pg, off, ol, nw, un, pv, nx, cl, st, op, di⟩ = ⟨3, lsn, ep, txn, 0, 0, [], [], [], 0, 0, false, st, [], []⟩ from rfl]
      go_enter Try.func27, Try.ntmps27
      go_upto_region 1 with (fail)
      rw [← hW, ← hV]
      clear hW hV
      go_upto_region 2 with (fail)
      obtain ⟨Y, hY⟩ : ∃ Y, Y = V.alloc (.cells #[.int .i64 3, .int .u64 (lsn : Int), .int .u32 (ep : Int), .int .u64 0, .int .u32 0, .int .u16 0, .slice none 0 0, .slice none 0 0, .slice none 0 0, .int .u64 0, .int .u64 0, .bool false, .int .u64 0, .slice none 0 0, .slice none 0 0] 30) := ⟨_, rfl⟩
      have hbY : Below V.heap.size V Y := by rw [hY]; exact below_new1 _ _
      have HRY : Hid (Y.heap[V.heap.size]? = some (.cells #[.int .i64 3, .int .u64 (lsn : Int), .int .u32 (ep : Int), .int .u64 0, .int .u32 0, .int .u16 0, .slice none 0 0, .slice none 0 0, .slice none 0 0, .int .u64 0, .int .u64 0, .bool false, .int .u64 0, .slice none 0 0, .slice none 0 0] 30 (0, 0))) := by rw [hY]; exact heap_alloc_last _ _
      have HZY := Lib.hid ((hbY.block _ (lt_of_block HZ.out)).trans HZ.out)
      have hpY := (hbY.block _ (lt_of_block HR.out)).trans HR.out
      have HBY := Lib.hid (HB.out.trans (hbY.mono HB.out.size))
      have HSZ : Hid (w.heap.size < V.heap.size) := lt_of_block HR.out
      have HSY : Hid (V.heap.size < Y.heap.size) := lt_of_block HRY.out
      have HNE : Hid (¬ w.heap.size = V.heap.size) := fun e => Nat.ne_of_lt HSZ.out e
      have HNE2 : Hid (¬ V.heap.size = w.heap.size + 1) := by have := lt_of_block HZ.out; intro e; omega
      rw [← hY]
      clear hY hbY q0 q1 q2 q3 q4 q5 q6 q7 q8 q9 q10 q11 q12 q13 q14
      obtain ⟨q0, q1, q2, q3, q4, q5, q6, q7, q8, q9, q10, q11, q12, q13, q14⟩ := rec_cell hpY
      clear hpY
      have y := rec_cell HRY.out
      obtain ⟨y0, y1, y2, y3, y4, y5, y6, y7, y8, y9, y10, y11, y12, y13, y14⟩ := y
      have fy := rec_free HRY.out
      have hne := HNE.out
      go_upto_region 22 with (fail)
      have hrY2 := HRY.out
      have hrY2 := rec_set (i := 3) (.int .u64 (txn : Int)) hrY2
      simp only [List.setIfInBounds_toArray, List.set_cons_zero, List.set_cons_succ] at hrY2
      have hrY2 := rec_set (i := 12) (.int .u64 (st : Int)) hrY2
      simp only [List.setIfInBounds_toArray, List.set_cons_zero, List.set_cons_succ] at hrY2
      have hgZ : Y.grownBy ((Y.setCell ⟨V.heap.size, 3, none⟩ (.int .u64 (txn : Int))).setCell ⟨V.heap.size, 12, none⟩ (.int .u64 (st : Int))) (some V.heap.size) := grownBy_trans (grownBy_setCell _ _ _ _) (grownBy_setCell _ _ _ _)
      obtain ⟨Z, hZ⟩ : ∃ Z, Z = ((Y.setCell ⟨V.heap.size, 3, none⟩ (.int .u64 (txn : Int))).setCell ⟨V.heap.size, 12, none⟩ (.int .u64 (st : Int))) := ⟨_, rfl⟩
      rw [← hZ] at hgZ hrY2 ⊢
      clear hZ
      clear fy hne y0 q0 y1 q1 y2 q2 y3 q3 y4 q4 y5 q5 y6 q6 y7 q7 y8 q8 y9 q9 y10 q10 y11 q11 y12 q12 y13 q13 y14 q14
      have hzZ := (hgZ.block _ (lt_of_block HZY.out) (fun e => HNE2.out (Option.some.inj e).symm)).trans HZY.out
      have HRZ := Lib.hid hrY2
      have HZZ := Lib.hid hzZ
      have HG := Lib.hid hgZ
      clear hgZ hzZ hrY2
      go_upto_region 22 with (fail)
      go_step
      refine wpList_load_rec rfl (.tmp 3) rfl V.heap.size rfl _ HRZ.out rfl ?_
      refine wpList_store_rec rfl (.tmp 2) (.tmp 65) rfl (w.heap.size + 1) rfl _ rfl _ HZZ.out rfl rfl (by simp [Value.oneCell']) ?_
      intro U hrU hgU
      have HST : Hid (_ ∧ _) := ⟨hrU, hgU⟩
      clear hrU hgU
      go_wp2_with fail
      refine bodyPost_ret (v := .agg #[.int .i64 3, .int .u64 (lsn : Int), .int .u32 (ep : Int), .int .u64 (txn : Int), .int .u32 0, .int .u16 0, .slice none 0 0, .slice none 0 0, .slice none 0 0, .int .u64 0, .int .u64 0, .bool false, .int .u64 (st : Int), .slice none 0 0, .slice none 0 0]) (results_cell_row Try.results27 _ _ (w.heap.size + 1) _ _ _ _ rfl HST.out.1 Try.underlying30 rfl (rec_info rfl)) rfl ?_
      have hbU : Below w.heap.size w U := below_grown (below_grown HBY.out HG.out (Nat.le_of_lt (Nat.lt_trans HSZ.out HSY.out)) (Nat.le_of_lt HSZ.out)) HST.out.2 (Nat.le_trans (Nat.le_of_lt (Nat.lt_trans HSZ.out HSY.out)) HG.out.size) (Nat.le_succ _)
      have hAU := HA0.out.below hbU
      refine ⟨(.slice none 0 0), (.slice none 0 0), (.slice none 0 0), (.slice none 0 0), (.slice none 0 0), rfl, ?_, hbU⟩
      have hok := hAU.ok
      exact ⟨bts_none _, bts_none _, bts_none _, Chr.bts_nil _, Dir.bts_nil _, ok_bare hok⟩
  have k3 : (k == 3) = false := by rw [beq_eq_false_iff_ne]; exact h3
  by_cases h4 : k = 4
  · as_aux_lemma =>
      subst h4
      rw [show Lr.bare ⟨4, lsn, ep, txn, pg, off, ol, nw, un, pv, nx, cl, st, op, di⟩ = ⟨4, lsn, ep, txn, 0, 0, [], [], [], 0, 0, false, 0, [], []⟩ from rfl]
      go_enter Try.func27, Try.ntmps27
      go_upto_region 1 with (fail)
      rw [← hW, ← hV]
      clear hW hV
      go_upto_region 2 with (fail)
      obtain ⟨Y, hY⟩ : ∃ Y, Y = V.alloc (.cells #[.int .i64 4, .int .u64 (lsn : Int), .int .u32 (ep : Int), .int .u64 0, .int .u32 0, .int .u16 0, .slice none 0 0, .slice none 0 0, .slice none 0 0, .int .u64 0, .int .u64 0, .bool false, .int .u64 0, .slice none 0 0, .slice none 0 0] 30) := ⟨_, rfl⟩
      have hbY : Below V.heap.size V Y := by rw [hY]; exact below_new1 _ _
      have HRY : Hid (Y.heap[V.heap.size]? = some (.cells #[.int .i64 4, .int .u64 (lsn : Int), .int .u32 (ep : Int), .int .u64 0, .int .u32 0, .int .u16 0, .slice none 0 0, .slice none 0 0, .slice none 0 0, .int .u64 0, .int .u64 0, .bool false, .int .u64 0, .slice none 0 0, .slice none 0 0] 30 (0, 0))) := by rw [hY]; exact heap_alloc_last _ _
      have HZY := Lib.hid ((hbY.block _ (lt_of_block HZ.out)).trans HZ.out)
      have hpY := (hbY.block _ (lt_of_block HR.out)).trans HR.out
      have HBY := Lib.hid (HB.out.trans (hbY.mono HB.out.size))
      have HSZ : Hid (w.heap.size < V.heap.size) := lt_of_block HR.out
      have HSY : Hid (V.heap.size < Y.heap.size) := lt_of_block HRY.out
      have HNE : Hid (¬ w.heap.size = V.heap.size) := fun e => Nat.ne_of_lt HSZ.out e
      have HNE2 : Hid (¬ V.heap.size = w.heap.size + 1) := by have := lt_of_block HZ.out; intro e; omega
      rw [← hY]
      clear hY hbY q0 q1 q2 q3 q4 q5 q6 q7 q8 q9 q10 q11 q12 q13 q14
      obtain ⟨q0, q1, q2, q3, q4, q5, q6, q7, q8, q9, q10, q11, q12, q13, q14⟩ := rec_cell hpY
      clear hpY
      have y := rec_cell HRY.out
      obtain ⟨y0, y1, y2, y3, y4, y5, y6, y7, y8, y9, y10, y11, y12, y13, y14⟩ := y
      have fy := rec_free HRY.out
      have hne := HNE.out
      go_upto_region 22 with (fail)
      have hrY2 := HRY.out
      have hrY2 := rec_set (i := 3) (.int .u64 (txn : Int)) hrY2
      simp only [List.setIfInBounds_toArray, List.set_cons_zero, List.set_cons_succ] at hrY2
      have hgZ : Y.grownBy (Y.setCell ⟨V.heap.size, 3, none⟩ (.int .u64 (txn : Int))) (some V.heap.size) := grownBy_setCell _ _ _ _
      obtain ⟨Z, hZ⟩ : ∃ Z, Z = (Y.setCell ⟨V.heap.size, 3, none⟩ (.int .u64 (txn : Int))) := ⟨_, rfl⟩
      rw [← hZ] at hgZ hrY2 ⊢
      clear hZ
      clear fy hne y0 q0 y1 q1 y2 q2 y3 q3 y4 q4 y5 q5 y6 q6 y7 q7 y8 q8 y9 q9 y10 q10 y11 q11 y12 q12 y13 q13 y14 q14
      have hzZ := (hgZ.block _ (lt_of_block HZY.out) (fun e => HNE2.out (Option.some.inj e).symm)).trans HZY.out
      have HRZ := Lib.hid hrY2
      have HZZ := Lib.hid hzZ
      have HG := Lib.hid hgZ
      clear hgZ hzZ hrY2
      go_upto_region 22 with (fail)
      go_step
      refine wpList_load_rec rfl (.tmp 3) rfl V.heap.size rfl _ HRZ.out rfl ?_
      refine wpList_store_rec rfl (.tmp 2) (.tmp 65) rfl (w.heap.size + 1) rfl _ rfl _ HZZ.out rfl rfl (by simp [Value.oneCell']) ?_
      intro U hrU hgU
      have HST : Hid (_ ∧ _) := ⟨hrU, hgU⟩
      clear hrU hgU
      go_wp2_with fail
      refine bodyPost_ret (v := .agg #[.int .i64 4, .int .u64 (lsn : Int), .int .u32 (ep : Int), .int .u64 (txn : Int), .int .u32 0, .int .u16 0, .slice none 0 0, .slice none 0 0, .slice none 0 0, .int .u64 0, .int .u64 0, .bool false, .int .u64 0, .slice none 0 0, .slice none 0 0]) (results_cell_row Try.results27 _ _ (w.heap.size + 1) _ _ _ _ rfl HST.out.1 Try.underlying30 rfl (rec_info rfl)) rfl ?_
      have hbU : Below w.heap.size w U := below_grown (below_grown HBY.out HG.out (Nat.le_of_lt (Nat.lt_trans HSZ.out HSY.out)) (Nat.le_of_lt HSZ.out)) HST.out.2 (Nat.le_trans (Nat.le_of_lt (Nat.lt_trans HSZ.out HSY.out)) HG.out.size) (Nat.le_succ _)
      have hAU := HA0.out.below hbU
      refine ⟨(.slice none 0 0), (.slice none 0 0), (.slice none 0 0), (.slice none 0 0), (.slice none 0 0), rfl, ?_, hbU⟩
      have hok := hAU.ok
      exact ⟨bts_none _, bts_none _, bts_none _, Chr.bts_nil _, Dir.bts_nil _, ok_bare hok⟩
  have k4 : (k == 4) = false := by rw [beq_eq_false_iff_ne]; exact h4
  by_cases h5 : k = 5
  · as_aux_lemma =>
      subst h5
      rw [show Lr.bare ⟨5, lsn, ep, txn, pg, off, ol, nw, un, pv, nx, cl, st, op, di⟩ = ⟨5, lsn, ep, 0, 0, 0, [], [], [], 0, 0, false, 0, op, di⟩ from rfl]
      go_enter Try.func27, Try.ntmps27
      go_upto_region 1 with (fail)
      rw [← hW, ← hV]
      clear hW hV
      go_upto_region 2 with (fail)
      obtain ⟨Y, hY⟩ : ∃ Y, Y = V.alloc (.cells #[.int .i64 5, .int .u64 (lsn : Int), .int .u32 (ep : Int), .int .u64 0, .int .u32 0, .int .u16 0, .slice none 0 0, .slice none 0 0, .slice none 0 0, .int .u64 0, .int .u64 0, .bool false, .int .u64 0, .slice none 0 0, .slice none 0 0] 30) := ⟨_, rfl⟩
      have hbY : Below V.heap.size V Y := by rw [hY]; exact below_new1 _ _
      have HRY : Hid (Y.heap[V.heap.size]? = some (.cells #[.int .i64 5, .int .u64 (lsn : Int), .int .u32 (ep : Int), .int .u64 0, .int .u32 0, .int .u16 0, .slice none 0 0, .slice none 0 0, .slice none 0 0, .int .u64 0, .int .u64 0, .bool false, .int .u64 0, .slice none 0 0, .slice none 0 0] 30 (0, 0))) := by rw [hY]; exact heap_alloc_last _ _
      have HZY := Lib.hid ((hbY.block _ (lt_of_block HZ.out)).trans HZ.out)
      have hpY := (hbY.block _ (lt_of_block HR.out)).trans HR.out
      have HBY := Lib.hid (HB.out.trans (hbY.mono HB.out.size))
      have HSZ : Hid (w.heap.size < V.heap.size) := lt_of_block HR.out
      have HSY : Hid (V.heap.size < Y.heap.size) := lt_of_block HRY.out
      have HNE : Hid (¬ w.heap.size = V.heap.size) := fun e => Nat.ne_of_lt HSZ.out e
      have HNE2 : Hid (¬ V.heap.size = w.heap.size + 1) := by have := lt_of_block HZ.out; intro e; omega
      rw [← hY]
      clear hY hbY q0 q1 q2 q3 q4 q5 q6 q7 q8 q9 q10 q11 q12 q13 q14
      obtain ⟨q0, q1, q2, q3, q4, q5, q6, q7, q8, q9, q10, q11, q12, q13, q14⟩ := rec_cell hpY
      clear hpY
      have y := rec_cell HRY.out
      obtain ⟨y0, y1, y2, y3, y4, y5, y6, y7, y8, y9, y10, y11, y12, y13, y14⟩ := y
      have fy := rec_free HRY.out
      have hne := HNE.out
      go_upto_region 22 with (fail)
      have hrY2 := HRY.out
      have hrY2 := rec_set (i := 13) (.slice p4 op.length c4) hrY2
      simp only [List.setIfInBounds_toArray, List.set_cons_zero, List.set_cons_succ] at hrY2
      have hrY2 := rec_set (i := 14) (.slice p5 di.length c5) hrY2
      simp only [List.setIfInBounds_toArray, List.set_cons_zero, List.set_cons_succ] at hrY2
      have hgZ : Y.grownBy ((Y.setCell ⟨V.heap.size, 13, none⟩ (.slice p4 op.length c4)).setCell ⟨V.heap.size, 14, none⟩ (.slice p5 di.length c5)) (some V.heap.size) := grownBy_trans (grownBy_setCell _ _ _ _) (grownBy_setCell _ _ _ _)
      obtain ⟨Z, hZ⟩ : ∃ Z, Z = ((Y.setCell ⟨V.heap.size, 13, none⟩ (.slice p4 op.length c4)).setCell ⟨V.heap.size, 14, none⟩ (.slice p5 di.length c5)) := ⟨_, rfl⟩
      rw [← hZ] at hgZ hrY2 ⊢
      clear hZ
      clear fy hne y0 q0 y1 q1 y2 q2 y3 q3 y4 q4 y5 q5 y6 q6 y7 q7 y8 q8 y9 q9 y10 q10 y11 q11 y12 q12 y13 q13 y14 q14
      have hzZ := (hgZ.block _ (lt_of_block HZY.out) (fun e => HNE2.out (Option.some.inj e).symm)).trans HZY.out
      have HRZ := Lib.hid hrY2
      have HZZ := Lib.hid hzZ
      have HG := Lib.hid hgZ
      clear hgZ hzZ hrY2
      go_upto_region 22 with (fail)
      go_step
      refine wpList_load_rec rfl (.tmp 3) rfl V.heap.size rfl _ HRZ.out rfl ?_
      refine wpList_store_rec rfl (.tmp 2) (.tmp 65) rfl (w.heap.size + 1) rfl _ rfl _ HZZ.out rfl rfl (by simp [Value.oneCell']) ?_
      intro U hrU hgU
      have HST : Hid (_ ∧ _) := ⟨hrU, hgU⟩
      clear hrU hgU
      go_wp2_with fail
      refine bodyPost_ret (v := .agg #[.int .i64 5, .int .u64 (lsn : Int), .int .u32 (ep : Int), .int .u64 0, .int .u32 0, .int .u16 0, .slice none 0 0, .slice none 0 0, .slice none 0 0, .int .u64 0, .int .u64 0, .bool false, .int .u64 0, .slice p4 op.length c4, .slice p5 di.length c5]) (results_cell_row Try.results27 _ _ (w.heap.size + 1) _ _ _ _ rfl HST.out.1 Try.underlying30 rfl (rec_info rfl)) rfl ?_
      have hbU : Below w.heap.size w U := below_grown (below_grown HBY.out HG.out (Nat.le_of_lt (Nat.lt_trans HSZ.out HSY.out)) (Nat.le_of_lt HSZ.out)) HST.out.2 (Nat.le_trans (Nat.le_of_lt (Nat.lt_trans HSZ.out HSY.out)) HG.out.size) (Nat.le_succ _)
      have hAU := HA0.out.below hbU
      refine ⟨(.slice none 0 0), (.slice none 0 0), (.slice none 0 0), (.slice p4 op.length c4), (.slice p5 di.length c5), rfl, ?_, hbU⟩
      have hok := hAU.ok
      exact ⟨bts_none _, bts_none _, bts_none _, hAU.opn, hAU.dirt, ok_bare hok⟩
  have k5 : (k == 5) = false := by rw [beq_eq_false_iff_ne]; exact h5
  rw [show Lr.bare ⟨k, lsn, ep, txn, pg, off, ol, nw, un, pv, nx, cl, st, op, di⟩ = ⟨k, lsn, ep, 0, 0, 0, [], [], [], 0, 0, false, 0, [], []⟩ by unfold Lr.bare; simp only [if_neg h1, if_neg h2, if_neg h3, if_neg h4, if_neg h5]]
  go_enter Try.func27, Try.ntmps27
  go_upto_region 1 with (fail)
  rw [← hW, ← hV]
  clear hW hV
  go_upto_region 2 with (fail)
  obtain ⟨Y, hY⟩ : ∃ Y, Y = V.alloc (.cells #[.int .i64 k, .int .u64 (lsn : Int), .int .u32 (ep : Int), .int .u64 0, .int .u32 0, .int .u16 0, .slice none 0 0, .slice none 0 0, .slice none 0 0, .int .u64 0, .int .u64 0, .bool false, .int .u64 0, .slice none 0 0, .slice none 0 0] 30) := ⟨_, rfl⟩
  have hbY : Below V.heap.size V Y := by rw [hY]; exact below_new1 _ _
  have HRY : Hid (Y.heap[V.heap.size]? = some (.cells #[.int .i64 k, .int .u64 (lsn : Int), .int .u32 (ep : Int), .int .u64 0, .int .u32 0, .int .u16 0, .slice none 0 0, .slice none 0 0, .slice none 0 0, .int .u64 0, .int .u64 0, .bool false, .int .u64 0, .slice none 0 0, .slice none 0 0] 30 (0, 0))) := by rw [hY]; exact heap_alloc_last _ _
  have HZY := Lib.hid ((hbY.block _ (lt_of_block HZ.out)).trans HZ.out)
  have hpY := (hbY.block _ (lt_of_block HR.out)).trans HR.out
  have HBY := Lib.hid (HB.out.trans (hbY.mono HB.out.size))
  have HSZ : Hid (w.heap.size < V.heap.size) := lt_of_block HR.out
  have HSY : Hid (V.heap.size < Y.heap.size) := lt_of_block HRY.out
  have HNE : Hid (¬ w.heap.size = V.heap.size) := fun e => Nat.ne_of_lt HSZ.out e
  have HNE2 : Hid (¬ V.heap.size = w.heap.size + 1) := by have := lt_of_block HZ.out; intro e; omega
  rw [← hY]
  clear hY hbY q0 q1 q2 q3 q4 q5 q6 q7 q8 q9 q10 q11 q12 q13 q14
  obtain ⟨q0, q1, q2, q3, q4, q5, q6, q7, q8, q9, q10, q11, q12, q13, q14⟩ := rec_cell hpY
  clear hpY
  have y := rec_cell HRY.out
  obtain ⟨y0, y1, y2, y3, y4, y5, y6, y7, y8, y9, y10, y11, y12, y13, y14⟩ := y
  have fy := rec_free HRY.out
  have hne := HNE.out
  go_upto_region 22 with (fail)
  have hrY2 := HRY.out
  have hgZ : Y.grownBy Y (some V.heap.size) := grownBy_refl _ _
  obtain ⟨Z, hZ⟩ : ∃ Z, Z = Y := ⟨_, rfl⟩
  subst hZ
  clear fy hne y0 q0 y1 q1 y2 q2 y3 q3 y4 q4 y5 q5 y6 q6 y7 q7 y8 q8 y9 q9 y10 q10 y11 q11 y12 q12 y13 q13 y14 q14
  have hzZ := (hgZ.block _ (lt_of_block HZY.out) (fun e => HNE2.out (Option.some.inj e).symm)).trans HZY.out
  have HRZ := Lib.hid hrY2
  have HZZ := Lib.hid hzZ
  have HG := Lib.hid hgZ
  clear hgZ hzZ hrY2
  go_upto_region 22 with (fail)
  go_step
  refine wpList_load_rec rfl (.tmp 3) rfl V.heap.size rfl _ HRZ.out rfl ?_
  refine wpList_store_rec rfl (.tmp 2) (.tmp 65) rfl (w.heap.size + 1) rfl _ rfl _ HZZ.out rfl rfl (by simp [Value.oneCell']) ?_
  intro U hrU hgU
  have HST : Hid (_ ∧ _) := ⟨hrU, hgU⟩
  clear hrU hgU
  go_wp2_with fail
  refine bodyPost_ret (v := .agg #[.int .i64 k, .int .u64 (lsn : Int), .int .u32 (ep : Int), .int .u64 0, .int .u32 0, .int .u16 0, .slice none 0 0, .slice none 0 0, .slice none 0 0, .int .u64 0, .int .u64 0, .bool false, .int .u64 0, .slice none 0 0, .slice none 0 0]) (results_cell_row Try.results27 _ _ (w.heap.size + 1) _ _ _ _ rfl HST.out.1 Try.underlying30 rfl (rec_info rfl)) rfl ?_
  have hbU : Below w.heap.size w U := below_grown (below_grown HBY.out HG.out (Nat.le_of_lt (Nat.lt_trans HSZ.out HSY.out)) (Nat.le_of_lt HSZ.out)) HST.out.2 (Nat.le_trans (Nat.le_of_lt (Nat.lt_trans HSZ.out HSY.out)) HG.out.size) (Nat.le_succ _)
  have hAU := HA0.out.below hbU
  refine ⟨(.slice none 0 0), (.slice none 0 0), (.slice none 0 0), (.slice none 0 0), (.slice none 0 0), rfl, ?_, hbU⟩
  have hok := hAU.ok
  exact ⟨bts_none _, bts_none _, bts_none _, Chr.bts_nil _, Dir.bts_nil _, ok_bare hok⟩

end Go.Proofs.Ytkchoelegdknoaa
