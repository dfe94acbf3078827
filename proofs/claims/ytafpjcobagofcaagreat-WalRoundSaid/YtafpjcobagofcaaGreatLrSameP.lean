/- Whether two records (part 2) are alike, by the program. Conditions: the values read as records. Whether two records (part 3) are alike, by the program. Conditions: the values read as records. Whether two records (part 4) are alike, by the program. Conditions: the values read as records. -/
import Derived.Test.YtafpjcobagofcaaGreatLrEq
import Derived.Test.YtafpjcobagofcaaGreatLrWithin
namespace Go.Proofs.YtafpjcobagofcaaGreat
open Go.RowKit

set_option maxHeartbeats 6400000 in
set_option maxRecDepth 20000 in
theorem sameD8 (x1 x2 : Lr.R) (o1 n1 u1 c1 d1 o2 n2 u2 c2 d2 : Value) (w : World) (h1 : RecAt w x1 o1 n1 u1 c1 d1) (h2 : RecAt w x2 o2 n2 u2 c2 d2) (hl1 : x1.opn.length ≤ 1000000 ∧ x1.dirt.length ≤ 1000000) (e_0 : x1.kind = x2.kind) (e_1 : x1.lsn = x2.lsn) (e_2 : x1.epoch = x2.epoch) (e_3 : x1.txn = x2.txn) (e_4 : x1.page = x2.page) (e_5 : x1.off = x2.off) (e_6 : x1.old = x2.old) (e_7 : x1.new = x2.new) (hne : ¬ x1.undo = x2.undo) :
    Calls Tryz.prog 71 #[RecV x1 o1 n1 u1 c1 d1, RecV x2 o2 n2 u2 c2 d2] w fun e w' => e = .returned (.bool false) ∧ Below w.heap.size w w' := by
  obtain ⟨W, hW⟩ : ∃ W, W = (w.alloc (robj x1 o1 n1 u1 c1 d1)).alloc (robj x2 o2 n2 u2 c2 d2) := ⟨_, rfl⟩
  have hb0 := below_new1 w (robj x1 o1 n1 u1 c1 d1)
  have hb1 := below_new1 (w.alloc (robj x1 o1 n1 u1 c1 d1)) (robj x2 o2 n2 u2 c2 d2)
  have hr1 := rblk w x1 o1 n1 u1 c1 d1
  have hr2 := rblk (w.alloc (robj x1 o1 n1 u1 c1 d1)) x2 o2 n2 u2 c2 d2
  rw [← hW] at hb1 hr2
  have hr3 := (hb1.block _ (lt_of_block hr1)).trans hr1
  have hbW := hb0.trans (hb1.mono hb0.size)
  have hA := h1.below hbW
  have hB := h2.below hbW
  have hsz : (w.alloc (robj x1 o1 n1 u1 c1 d1)).heap.size = w.heap.size + 1 := by simp
  rw [hsz] at hr2
  obtain ⟨q0, q1, q2, q3, q4, q5, q6, q7, q8, q9, q10, q11, q12, q13, q14⟩ := rec_cell hr3
  obtain ⟨r0, r1, r2, r3, r4, r5, r6, r7, r8, r9, r10, r11, r12, r13, r14⟩ := rec_cell hr2
  obtain ⟨p1, s1, p2, s2, p3, s3, p4, s4, p5, s5, rfl, rfl, rfl, rfl, rfl⟩ := rec_slices h1
  obtain ⟨p6, s6, p7, s7, p8, s8, p9, s9, pa, sa, rfl, rfl, rfl, rfl, rfl⟩ := rec_slices h2
  unfold robj at hW
  obtain ⟨k1, lsn1, ep1, txn1, pg1, off1, ol1, nw1, un1, pv1, nx1, cl1, st1, op1, di1⟩ := x1
  obtain ⟨k2, lsn2, ep2, txn2, pg2, off2, ol2, nw2, un2, pv2, nx2, cl2, st2, op2, di2⟩ := x2
  dsimp only at *
  have HBW := Lib.hid hbW
  have HA := Lib.hid hA
  have HB := Lib.hid hB
  have HL := Lib.hid hl1
  clear hb0 hb1 hr1 hr2 hr3 hbW hA hB h1 h2 hsz hl1
  have f_k : (k1 == k2) = true := by rw [e_0]; simp
  clear e_0
  have f_lsn : ((lsn1 : Int) == (lsn2 : Int)) = true := by rw [eqI, decide_eq_true e_1]
  clear e_1
  have f_ep : ((ep1 : Int) == (ep2 : Int)) = true := by rw [eqI, decide_eq_true e_2]
  clear e_2
  have f_txn : ((txn1 : Int) == (txn2 : Int)) = true := by rw [eqI, decide_eq_true e_3]
  clear e_3
  have f_pg : ((pg1 : Int) == (pg2 : Int)) = true := by rw [eqI, decide_eq_true e_4]
  clear e_4
  have f_off : ((off1 : Int) == (off2 : Int)) = true := by rw [eqI, decide_eq_true e_5]
  clear e_5
  have Eol : Hid (decide (ol1 = ol2) = true) := decide_eq_true e_6
  clear e_6
  have Enw : Hid (decide (nw1 = nw2) = true) := decide_eq_true e_7
  clear e_7
  have Eun : Hid (decide (un1 = un2) = false) := decide_eq_false hne
  clear hne
  clear q9 r9 q10 r10 q11 r11 q12 r12 q13 r13 q14 r14
  go_enter Tryz.func71, Tryz.ntmps71
  go_upto_region 0 with (fail)
  iterate 7 go_step
  rw [← hW]
  clear hW
  go_wp2_with fail
  refine (btEqual_any _ _ ol1 ol2 _ HA.out.old HB.out.old).mono ?_
  rintro e w' ⟨rfl, rfl⟩
  rw [Eol.out]
  go_wp2_with fail
  refine (btEqual_any _ _ nw1 nw2 _ HA.out.new HB.out.new).mono ?_
  rintro e w' ⟨rfl, rfl⟩
  rw [Enw.out]
  go_wp2_with fail
  refine (btEqual_any _ _ un1 un2 _ HA.out.undo HB.out.undo).mono ?_
  rintro e w' ⟨rfl, rfl⟩
  rw [Eun.out]
  go_wp2_with fail
  go_ret
  exact ⟨rfl, HBW.out⟩
set_option maxHeartbeats 6400000 in
set_option maxRecDepth 20000 in
theorem sameD9 (x1 x2 : Lr.R) (o1 n1 u1 c1 d1 o2 n2 u2 c2 d2 : Value) (w : World) (h1 : RecAt w x1 o1 n1 u1 c1 d1) (h2 : RecAt w x2 o2 n2 u2 c2 d2) (hl1 : x1.opn.length ≤ 1000000 ∧ x1.dirt.length ≤ 1000000) (e_0 : x1.kind = x2.kind) (e_1 : x1.lsn = x2.lsn) (e_2 : x1.epoch = x2.epoch) (e_3 : x1.txn = x2.txn) (e_4 : x1.page = x2.page) (e_5 : x1.off = x2.off) (e_6 : x1.old = x2.old) (e_7 : x1.new = x2.new) (e_8 : x1.undo = x2.undo) (hne : ¬ x1.prev = x2.prev) :
    Calls Tryz.prog 71 #[RecV x1 o1 n1 u1 c1 d1, RecV x2 o2 n2 u2 c2 d2] w fun e w' => e = .returned (.bool false) ∧ Below w.heap.size w w' := by
  obtain ⟨W, hW⟩ : ∃ W, W = (w.alloc (robj x1 o1 n1 u1 c1 d1)).alloc (robj x2 o2 n2 u2 c2 d2) := ⟨_, rfl⟩
  have hb0 := below_new1 w (robj x1 o1 n1 u1 c1 d1)
  have hb1 := below_new1 (w.alloc (robj x1 o1 n1 u1 c1 d1)) (robj x2 o2 n2 u2 c2 d2)
  have hr1 := rblk w x1 o1 n1 u1 c1 d1
  have hr2 := rblk (w.alloc (robj x1 o1 n1 u1 c1 d1)) x2 o2 n2 u2 c2 d2
  rw [← hW] at hb1 hr2
  have hr3 := (hb1.block _ (lt_of_block hr1)).trans hr1
  have hbW := hb0.trans (hb1.mono hb0.size)
  have hA := h1.below hbW
  have hB := h2.below hbW
  have hsz : (w.alloc (robj x1 o1 n1 u1 c1 d1)).heap.size = w.heap.size + 1 := by simp
  rw [hsz] at hr2
  obtain ⟨q0, q1, q2, q3, q4, q5, q6, q7, q8, q9, q10, q11, q12, q13, q14⟩ := rec_cell hr3
  obtain ⟨r0, r1, r2, r3, r4, r5, r6, r7, r8, r9, r10, r11, r12, r13, r14⟩ := rec_cell hr2
  obtain ⟨p1, s1, p2, s2, p3, s3, p4, s4, p5, s5, rfl, rfl, rfl, rfl, rfl⟩ := rec_slices h1
  obtain ⟨p6, s6, p7, s7, p8, s8, p9, s9, pa, sa, rfl, rfl, rfl, rfl, rfl⟩ := rec_slices h2
  unfold robj at hW
  obtain ⟨k1, lsn1, ep1, txn1, pg1, off1, ol1, nw1, un1, pv1, nx1, cl1, st1, op1, di1⟩ := x1
  obtain ⟨k2, lsn2, ep2, txn2, pg2, off2, ol2, nw2, un2, pv2, nx2, cl2, st2, op2, di2⟩ := x2
  dsimp only at *
  have HBW := Lib.hid hbW
  have HA := Lib.hid hA
  have HB := Lib.hid hB
  have HL := Lib.hid hl1
  clear hb0 hb1 hr1 hr2 hr3 hbW hA hB h1 h2 hsz hl1
  have f_k : (k1 == k2) = true := by rw [e_0]; simp
  clear e_0
  have f_lsn : ((lsn1 : Int) == (lsn2 : Int)) = true := by rw [eqI, decide_eq_true e_1]
  clear e_1
  have f_ep : ((ep1 : Int) == (ep2 : Int)) = true := by rw [eqI, decide_eq_true e_2]
  clear e_2
  have f_txn : ((txn1 : Int) == (txn2 : Int)) = true := by rw [eqI, decide_eq_true e_3]
  clear e_3
  have f_pg : ((pg1 : Int) == (pg2 : Int)) = true := by rw [eqI, decide_eq_true e_4]
  clear e_4
  have f_off : ((off1 : Int) == (off2 : Int)) = true := by rw [eqI, decide_eq_true e_5]
  clear e_5
  have Eol : Hid (decide (ol1 = ol2) = true) := decide_eq_true e_6
  clear e_6
  have Enw : Hid (decide (nw1 = nw2) = true) := decide_eq_true e_7
  clear e_7
  have Eun : Hid (decide (un1 = un2) = true) := decide_eq_true e_8
  clear e_8
  have f_pv : ((pv1 : Int) == (pv2 : Int)) = false := by rw [eqI, decide_eq_false hne]
  clear hne
  clear q10 r10 q11 r11 q12 r12 q13 r13 q14 r14
  go_enter Tryz.func71, Tryz.ntmps71
  go_upto_region 0 with (fail)
  iterate 7 go_step
  rw [← hW]
  clear hW
  go_wp2_with fail
  refine (btEqual_any _ _ ol1 ol2 _ HA.out.old HB.out.old).mono ?_
  rintro e w' ⟨rfl, rfl⟩
  rw [Eol.out]
  go_wp2_with fail
  refine (btEqual_any _ _ nw1 nw2 _ HA.out.new HB.out.new).mono ?_
  rintro e w' ⟨rfl, rfl⟩
  rw [Enw.out]
  go_wp2_with fail
  refine (btEqual_any _ _ un1 un2 _ HA.out.undo HB.out.undo).mono ?_
  rintro e w' ⟨rfl, rfl⟩
  rw [Eun.out]
  go_wp2_with fail
  go_ret
  exact ⟨rfl, HBW.out⟩
set_option maxHeartbeats 6400000 in
set_option maxRecDepth 20000 in
theorem sameD10 (x1 x2 : Lr.R) (o1 n1 u1 c1 d1 o2 n2 u2 c2 d2 : Value) (w : World) (h1 : RecAt w x1 o1 n1 u1 c1 d1) (h2 : RecAt w x2 o2 n2 u2 c2 d2) (hl1 : x1.opn.length ≤ 1000000 ∧ x1.dirt.length ≤ 1000000) (e_0 : x1.kind = x2.kind) (e_1 : x1.lsn = x2.lsn) (e_2 : x1.epoch = x2.epoch) (e_3 : x1.txn = x2.txn) (e_4 : x1.page = x2.page) (e_5 : x1.off = x2.off) (e_6 : x1.old = x2.old) (e_7 : x1.new = x2.new) (e_8 : x1.undo = x2.undo) (e_9 : x1.prev = x2.prev) (hne : ¬ x1.next = x2.next) :
    Calls Tryz.prog 71 #[RecV x1 o1 n1 u1 c1 d1, RecV x2 o2 n2 u2 c2 d2] w fun e w' => e = .returned (.bool false) ∧ Below w.heap.size w w' := by
  obtain ⟨W, hW⟩ : ∃ W, W = (w.alloc (robj x1 o1 n1 u1 c1 d1)).alloc (robj x2 o2 n2 u2 c2 d2) := ⟨_, rfl⟩
  have hb0 := below_new1 w (robj x1 o1 n1 u1 c1 d1)
  have hb1 := below_new1 (w.alloc (robj x1 o1 n1 u1 c1 d1)) (robj x2 o2 n2 u2 c2 d2)
  have hr1 := rblk w x1 o1 n1 u1 c1 d1
  have hr2 := rblk (w.alloc (robj x1 o1 n1 u1 c1 d1)) x2 o2 n2 u2 c2 d2
  rw [← hW] at hb1 hr2
  have hr3 := (hb1.block _ (lt_of_block hr1)).trans hr1
  have hbW := hb0.trans (hb1.mono hb0.size)
  have hA := h1.below hbW
  have hB := h2.below hbW
  have hsz : (w.alloc (robj x1 o1 n1 u1 c1 d1)).heap.size = w.heap.size + 1 := by simp
  rw [hsz] at hr2
  obtain ⟨q0, q1, q2, q3, q4, q5, q6, q7, q8, q9, q10, q11, q12, q13, q14⟩ := rec_cell hr3
  obtain ⟨r0, r1, r2, r3, r4, r5, r6, r7, r8, r9, r10, r11, r12, r13, r14⟩ := rec_cell hr2
  obtain ⟨p1, s1, p2, s2, p3, s3, p4, s4, p5, s5, rfl, rfl, rfl, rfl, rfl⟩ := rec_slices h1
  obtain ⟨p6, s6, p7, s7, p8, s8, p9, s9, pa, sa, rfl, rfl, rfl, rfl, rfl⟩ := rec_slices h2
  unfold robj at hW
  obtain ⟨k1, lsn1, ep1, txn1, pg1, off1, ol1, nw1, un1, pv1, nx1, cl1, st1, op1, di1⟩ := x1
  obtain ⟨k2, lsn2, ep2, txn2, pg2, off2, ol2, nw2, un2, pv2, nx2, cl2, st2, op2, di2⟩ := x2
  dsimp only at *
  have HBW := Lib.hid hbW
  have HA := Lib.hid hA
  have HB := Lib.hid hB
  have HL := Lib.hid hl1
  clear hb0 hb1 hr1 hr2 hr3 hbW hA hB h1 h2 hsz hl1
  have f_k : (k1 == k2) = true := by rw [e_0]; simp
  clear e_0
  have f_lsn : ((lsn1 : Int) == (lsn2 : Int)) = true := by rw [eqI, decide_eq_true e_1]
  clear e_1
  have f_ep : ((ep1 : Int) == (ep2 : Int)) = true := by rw [eqI, decide_eq_true e_2]
  clear e_2
  have f_txn : ((txn1 : Int) == (txn2 : Int)) = true := by rw [eqI, decide_eq_true e_3]
  clear e_3
  have f_pg : ((pg1 : Int) == (pg2 : Int)) = true := by rw [eqI, decide_eq_true e_4]
  clear e_4
  have f_off : ((off1 : Int) == (off2 : Int)) = true := by rw [eqI, decide_eq_true e_5]
  clear e_5
  have Eol : Hid (decide (ol1 = ol2) = true) := decide_eq_true e_6
  clear e_6
  have Enw : Hid (decide (nw1 = nw2) = true) := decide_eq_true e_7
  clear e_7
  have Eun : Hid (decide (un1 = un2) = true) := decide_eq_true e_8
  clear e_8
  have f_pv : ((pv1 : Int) == (pv2 : Int)) = true := by rw [eqI, decide_eq_true e_9]
  clear e_9
  have f_nx : ((nx1 : Int) == (nx2 : Int)) = false := by rw [eqI, decide_eq_false hne]
  clear hne
  clear q11 r11 q12 r12 q13 r13 q14 r14
  go_enter Tryz.func71, Tryz.ntmps71
  go_upto_region 0 with (fail)
  iterate 7 go_step
  rw [← hW]
  clear hW
  go_wp2_with fail
  refine (btEqual_any _ _ ol1 ol2 _ HA.out.old HB.out.old).mono ?_
  rintro e w' ⟨rfl, rfl⟩
  rw [Eol.out]
  go_wp2_with fail
  refine (btEqual_any _ _ nw1 nw2 _ HA.out.new HB.out.new).mono ?_
  rintro e w' ⟨rfl, rfl⟩
  rw [Enw.out]
  go_wp2_with fail
  refine (btEqual_any _ _ un1 un2 _ HA.out.undo HB.out.undo).mono ?_
  rintro e w' ⟨rfl, rfl⟩
  rw [Eun.out]
  go_wp2_with fail
  go_ret
  exact ⟨rfl, HBW.out⟩
end Go.Proofs.YtafpjcobagofcaaGreat

namespace Go.Proofs.YtafpjcobagofcaaGreat
open Go.RowKit

set_option maxHeartbeats 6400000 in
set_option maxRecDepth 20000 in
theorem sameD11 (x1 x2 : Lr.R) (o1 n1 u1 c1 d1 o2 n2 u2 c2 d2 : Value) (w : World) (h1 : RecAt w x1 o1 n1 u1 c1 d1) (h2 : RecAt w x2 o2 n2 u2 c2 d2) (hl1 : x1.opn.length ≤ 1000000 ∧ x1.dirt.length ≤ 1000000) (e_0 : x1.kind = x2.kind) (e_1 : x1.lsn = x2.lsn) (e_2 : x1.epoch = x2.epoch) (e_3 : x1.txn = x2.txn) (e_4 : x1.page = x2.page) (e_5 : x1.off = x2.off) (e_6 : x1.old = x2.old) (e_7 : x1.new = x2.new) (e_8 : x1.undo = x2.undo) (e_9 : x1.prev = x2.prev) (e_10 : x1.next = x2.next) (hne : ¬ x1.clr = x2.clr) :
    Calls Tryz.prog 71 #[RecV x1 o1 n1 u1 c1 d1, RecV x2 o2 n2 u2 c2 d2] w fun e w' => e = .returned (.bool false) ∧ Below w.heap.size w w' := by
  obtain ⟨W, hW⟩ : ∃ W, W = (w.alloc (robj x1 o1 n1 u1 c1 d1)).alloc (robj x2 o2 n2 u2 c2 d2) := ⟨_, rfl⟩
  have hb0 := below_new1 w (robj x1 o1 n1 u1 c1 d1)
  have hb1 := below_new1 (w.alloc (robj x1 o1 n1 u1 c1 d1)) (robj x2 o2 n2 u2 c2 d2)
  have hr1 := rblk w x1 o1 n1 u1 c1 d1
  have hr2 := rblk (w.alloc (robj x1 o1 n1 u1 c1 d1)) x2 o2 n2 u2 c2 d2
  rw [← hW] at hb1 hr2
  have hr3 := (hb1.block _ (lt_of_block hr1)).trans hr1
  have hbW := hb0.trans (hb1.mono hb0.size)
  have hA := h1.below hbW
  have hB := h2.below hbW
  have hsz : (w.alloc (robj x1 o1 n1 u1 c1 d1)).heap.size = w.heap.size + 1 := by simp
  rw [hsz] at hr2
  obtain ⟨q0, q1, q2, q3, q4, q5, q6, q7, q8, q9, q10, q11, q12, q13, q14⟩ := rec_cell hr3
  obtain ⟨r0, r1, r2, r3, r4, r5, r6, r7, r8, r9, r10, r11, r12, r13, r14⟩ := rec_cell hr2
  obtain ⟨p1, s1, p2, s2, p3, s3, p4, s4, p5, s5, rfl, rfl, rfl, rfl, rfl⟩ := rec_slices h1
  obtain ⟨p6, s6, p7, s7, p8, s8, p9, s9, pa, sa, rfl, rfl, rfl, rfl, rfl⟩ := rec_slices h2
  unfold robj at hW
  obtain ⟨k1, lsn1, ep1, txn1, pg1, off1, ol1, nw1, un1, pv1, nx1, cl1, st1, op1, di1⟩ := x1
  obtain ⟨k2, lsn2, ep2, txn2, pg2, off2, ol2, nw2, un2, pv2, nx2, cl2, st2, op2, di2⟩ := x2
  dsimp only at *
  have HBW := Lib.hid hbW
  have HA := Lib.hid hA
  have HB := Lib.hid hB
  have HL := Lib.hid hl1
  clear hb0 hb1 hr1 hr2 hr3 hbW hA hB h1 h2 hsz hl1
  have f_k : (k1 == k2) = true := by rw [e_0]; simp
  clear e_0
  have f_lsn : ((lsn1 : Int) == (lsn2 : Int)) = true := by rw [eqI, decide_eq_true e_1]
  clear e_1
  have f_ep : ((ep1 : Int) == (ep2 : Int)) = true := by rw [eqI, decide_eq_true e_2]
  clear e_2
  have f_txn : ((txn1 : Int) == (txn2 : Int)) = true := by rw [eqI, decide_eq_true e_3]
  clear e_3
  have f_pg : ((pg1 : Int) == (pg2 : Int)) = true := by rw [eqI, decide_eq_true e_4]
  clear e_4
  have f_off : ((off1 : Int) == (off2 : Int)) = true := by rw [eqI, decide_eq_true e_5]
  clear e_5
  have Eol : Hid (decide (ol1 = ol2) = true) := decide_eq_true e_6
  clear e_6
  have Enw : Hid (decide (nw1 = nw2) = true) := decide_eq_true e_7
  clear e_7
  have Eun : Hid (decide (un1 = un2) = true) := decide_eq_true e_8
  clear e_8
  have f_pv : ((pv1 : Int) == (pv2 : Int)) = true := by rw [eqI, decide_eq_true e_9]
  clear e_9
  have f_nx : ((nx1 : Int) == (nx2 : Int)) = true := by rw [eqI, decide_eq_true e_10]
  clear e_10
  have f_cl : (cl1 == cl2) = false := by rw [beq_eq_false_iff_ne]; exact hne
  clear hne
  clear q12 r12 q13 r13 q14 r14
  go_enter Tryz.func71, Tryz.ntmps71
  go_upto_region 0 with (fail)
  iterate 7 go_step
  rw [← hW]
  clear hW
  go_wp2_with fail
  refine (btEqual_any _ _ ol1 ol2 _ HA.out.old HB.out.old).mono ?_
  rintro e w' ⟨rfl, rfl⟩
  rw [Eol.out]
  go_wp2_with fail
  refine (btEqual_any _ _ nw1 nw2 _ HA.out.new HB.out.new).mono ?_
  rintro e w' ⟨rfl, rfl⟩
  rw [Enw.out]
  go_wp2_with fail
  refine (btEqual_any _ _ un1 un2 _ HA.out.undo HB.out.undo).mono ?_
  rintro e w' ⟨rfl, rfl⟩
  rw [Eun.out]
  go_wp2_with fail
  go_ret
  exact ⟨rfl, HBW.out⟩
set_option maxHeartbeats 6400000 in
set_option maxRecDepth 20000 in
theorem sameD12 (x1 x2 : Lr.R) (o1 n1 u1 c1 d1 o2 n2 u2 c2 d2 : Value) (w : World) (h1 : RecAt w x1 o1 n1 u1 c1 d1) (h2 : RecAt w x2 o2 n2 u2 c2 d2) (hl1 : x1.opn.length ≤ 1000000 ∧ x1.dirt.length ≤ 1000000) (e_0 : x1.kind = x2.kind) (e_1 : x1.lsn = x2.lsn) (e_2 : x1.epoch = x2.epoch) (e_3 : x1.txn = x2.txn) (e_4 : x1.page = x2.page) (e_5 : x1.off = x2.off) (e_6 : x1.old = x2.old) (e_7 : x1.new = x2.new) (e_8 : x1.undo = x2.undo) (e_9 : x1.prev = x2.prev) (e_10 : x1.next = x2.next) (e_11 : x1.clr = x2.clr) (hne : ¬ x1.stamp = x2.stamp) :
    Calls Tryz.prog 71 #[RecV x1 o1 n1 u1 c1 d1, RecV x2 o2 n2 u2 c2 d2] w fun e w' => e = .returned (.bool false) ∧ Below w.heap.size w w' := by
  obtain ⟨W, hW⟩ : ∃ W, W = (w.alloc (robj x1 o1 n1 u1 c1 d1)).alloc (robj x2 o2 n2 u2 c2 d2) := ⟨_, rfl⟩
  have hb0 := below_new1 w (robj x1 o1 n1 u1 c1 d1)
  have hb1 := below_new1 (w.alloc (robj x1 o1 n1 u1 c1 d1)) (robj x2 o2 n2 u2 c2 d2)
  have hr1 := rblk w x1 o1 n1 u1 c1 d1
  have hr2 := rblk (w.alloc (robj x1 o1 n1 u1 c1 d1)) x2 o2 n2 u2 c2 d2
  rw [← hW] at hb1 hr2
  have hr3 := (hb1.block _ (lt_of_block hr1)).trans hr1
  have hbW := hb0.trans (hb1.mono hb0.size)
  have hA := h1.below hbW
  have hB := h2.below hbW
  have hsz : (w.alloc (robj x1 o1 n1 u1 c1 d1)).heap.size = w.heap.size + 1 := by simp
  rw [hsz] at hr2
  obtain ⟨q0, q1, q2, q3, q4, q5, q6, q7, q8, q9, q10, q11, q12, q13, q14⟩ := rec_cell hr3
  obtain ⟨r0, r1, r2, r3, r4, r5, r6, r7, r8, r9, r10, r11, r12, r13, r14⟩ := rec_cell hr2
  obtain ⟨p1, s1, p2, s2, p3, s3, p4, s4, p5, s5, rfl, rfl, rfl, rfl, rfl⟩ := rec_slices h1
  obtain ⟨p6, s6, p7, s7, p8, s8, p9, s9, pa, sa, rfl, rfl, rfl, rfl, rfl⟩ := rec_slices h2
  unfold robj at hW
  obtain ⟨k1, lsn1, ep1, txn1, pg1, off1, ol1, nw1, un1, pv1, nx1, cl1, st1, op1, di1⟩ := x1
  obtain ⟨k2, lsn2, ep2, txn2, pg2, off2, ol2, nw2, un2, pv2, nx2, cl2, st2, op2, di2⟩ := x2
  dsimp only at *
  have HBW := Lib.hid hbW
  have HA := Lib.hid hA
  have HB := Lib.hid hB
  have HL := Lib.hid hl1
  clear hb0 hb1 hr1 hr2 hr3 hbW hA hB h1 h2 hsz hl1
  have f_k : (k1 == k2) = true := by rw [e_0]; simp
  clear e_0
  have f_lsn : ((lsn1 : Int) == (lsn2 : Int)) = true := by rw [eqI, decide_eq_true e_1]
  clear e_1
  have f_ep : ((ep1 : Int) == (ep2 : Int)) = true := by rw [eqI, decide_eq_true e_2]
  clear e_2
  have f_txn : ((txn1 : Int) == (txn2 : Int)) = true := by rw [eqI, decide_eq_true e_3]
  clear e_3
  have f_pg : ((pg1 : Int) == (pg2 : Int)) = true := by rw [eqI, decide_eq_true e_4]
  clear e_4
  have f_off : ((off1 : Int) == (off2 : Int)) = true := by rw [eqI, decide_eq_true e_5]
  clear e_5
  have Eol : Hid (decide (ol1 = ol2) = true) := decide_eq_true e_6
  clear e_6
  have Enw : Hid (decide (nw1 = nw2) = true) := decide_eq_true e_7
  clear e_7
  have Eun : Hid (decide (un1 = un2) = true) := decide_eq_true e_8
  clear e_8
  have f_pv : ((pv1 : Int) == (pv2 : Int)) = true := by rw [eqI, decide_eq_true e_9]
  clear e_9
  have f_nx : ((nx1 : Int) == (nx2 : Int)) = true := by rw [eqI, decide_eq_true e_10]
  clear e_10
  have f_cl : (cl1 == cl2) = true := by rw [e_11]; simp
  clear e_11
  have f_st : ((st1 : Int) == (st2 : Int)) = false := by rw [eqI, decide_eq_false hne]
  clear hne
  clear q13 r13 q14 r14
  go_enter Tryz.func71, Tryz.ntmps71
  go_upto_region 0 with (fail)
  iterate 7 go_step
  rw [← hW]
  clear hW
  go_wp2_with fail
  refine (btEqual_any _ _ ol1 ol2 _ HA.out.old HB.out.old).mono ?_
  rintro e w' ⟨rfl, rfl⟩
  rw [Eol.out]
  go_wp2_with fail
  refine (btEqual_any _ _ nw1 nw2 _ HA.out.new HB.out.new).mono ?_
  rintro e w' ⟨rfl, rfl⟩
  rw [Enw.out]
  go_wp2_with fail
  refine (btEqual_any _ _ un1 un2 _ HA.out.undo HB.out.undo).mono ?_
  rintro e w' ⟨rfl, rfl⟩
  rw [Eun.out]
  go_wp2_with fail
  go_ret
  exact ⟨rfl, HBW.out⟩
set_option maxHeartbeats 6400000 in
set_option maxRecDepth 20000 in
theorem sameD13 (x1 x2 : Lr.R) (o1 n1 u1 c1 d1 o2 n2 u2 c2 d2 : Value) (w : World) (h1 : RecAt w x1 o1 n1 u1 c1 d1) (h2 : RecAt w x2 o2 n2 u2 c2 d2) (hl1 : x1.opn.length ≤ 1000000 ∧ x1.dirt.length ≤ 1000000) (e_0 : x1.kind = x2.kind) (e_1 : x1.lsn = x2.lsn) (e_2 : x1.epoch = x2.epoch) (e_3 : x1.txn = x2.txn) (e_4 : x1.page = x2.page) (e_5 : x1.off = x2.off) (e_6 : x1.old = x2.old) (e_7 : x1.new = x2.new) (e_8 : x1.undo = x2.undo) (e_9 : x1.prev = x2.prev) (e_10 : x1.next = x2.next) (e_11 : x1.clr = x2.clr) (e_12 : x1.stamp = x2.stamp) (hne : ¬ x1.opn = x2.opn) :
    Calls Tryz.prog 71 #[RecV x1 o1 n1 u1 c1 d1, RecV x2 o2 n2 u2 c2 d2] w fun e w' => e = .returned (.bool false) ∧ Below w.heap.size w w' := by
  obtain ⟨W, hW⟩ : ∃ W, W = (w.alloc (robj x1 o1 n1 u1 c1 d1)).alloc (robj x2 o2 n2 u2 c2 d2) := ⟨_, rfl⟩
  have hb0 := below_new1 w (robj x1 o1 n1 u1 c1 d1)
  have hb1 := below_new1 (w.alloc (robj x1 o1 n1 u1 c1 d1)) (robj x2 o2 n2 u2 c2 d2)
  have hr1 := rblk w x1 o1 n1 u1 c1 d1
  have hr2 := rblk (w.alloc (robj x1 o1 n1 u1 c1 d1)) x2 o2 n2 u2 c2 d2
  rw [← hW] at hb1 hr2
  have hr3 := (hb1.block _ (lt_of_block hr1)).trans hr1
  have hbW := hb0.trans (hb1.mono hb0.size)
  have hA := h1.below hbW
  have hB := h2.below hbW
  have hsz : (w.alloc (robj x1 o1 n1 u1 c1 d1)).heap.size = w.heap.size + 1 := by simp
  rw [hsz] at hr2
  obtain ⟨q0, q1, q2, q3, q4, q5, q6, q7, q8, q9, q10, q11, q12, q13, q14⟩ := rec_cell hr3
  obtain ⟨r0, r1, r2, r3, r4, r5, r6, r7, r8, r9, r10, r11, r12, r13, r14⟩ := rec_cell hr2
  obtain ⟨p1, s1, p2, s2, p3, s3, p4, s4, p5, s5, rfl, rfl, rfl, rfl, rfl⟩ := rec_slices h1
  obtain ⟨p6, s6, p7, s7, p8, s8, p9, s9, pa, sa, rfl, rfl, rfl, rfl, rfl⟩ := rec_slices h2
  unfold robj at hW
  obtain ⟨k1, lsn1, ep1, txn1, pg1, off1, ol1, nw1, un1, pv1, nx1, cl1, st1, op1, di1⟩ := x1
  obtain ⟨k2, lsn2, ep2, txn2, pg2, off2, ol2, nw2, un2, pv2, nx2, cl2, st2, op2, di2⟩ := x2
  dsimp only at *
  have HBW := Lib.hid hbW
  have HA := Lib.hid hA
  have HB := Lib.hid hB
  have HL := Lib.hid hl1
  clear hb0 hb1 hr1 hr2 hr3 hbW hA hB h1 h2 hsz hl1
  have f_k : (k1 == k2) = true := by rw [e_0]; simp
  clear e_0
  have f_lsn : ((lsn1 : Int) == (lsn2 : Int)) = true := by rw [eqI, decide_eq_true e_1]
  clear e_1
  have f_ep : ((ep1 : Int) == (ep2 : Int)) = true := by rw [eqI, decide_eq_true e_2]
  clear e_2
  have f_txn : ((txn1 : Int) == (txn2 : Int)) = true := by rw [eqI, decide_eq_true e_3]
  clear e_3
  have f_pg : ((pg1 : Int) == (pg2 : Int)) = true := by rw [eqI, decide_eq_true e_4]
  clear e_4
  have f_off : ((off1 : Int) == (off2 : Int)) = true := by rw [eqI, decide_eq_true e_5]
  clear e_5
  have Eol : Hid (decide (ol1 = ol2) = true) := decide_eq_true e_6
  clear e_6
  have Enw : Hid (decide (nw1 = nw2) = true) := decide_eq_true e_7
  clear e_7
  have Eun : Hid (decide (un1 = un2) = true) := decide_eq_true e_8
  clear e_8
  have f_pv : ((pv1 : Int) == (pv2 : Int)) = true := by rw [eqI, decide_eq_true e_9]
  clear e_9
  have f_nx : ((nx1 : Int) == (nx2 : Int)) = true := by rw [eqI, decide_eq_true e_10]
  clear e_10
  have f_cl : (cl1 == cl2) = true := by rw [e_11]; simp
  clear e_11
  have f_st : ((st1 : Int) == (st2 : Int)) = true := by rw [eqI, decide_eq_true e_12]
  clear e_12
  have Eop : Hid (decide (op1 = op2) = false) := decide_eq_false hne
  clear hne
  clear q14 r14
  go_enter Tryz.func71, Tryz.ntmps71
  go_upto_region 0 with (fail)
  iterate 7 go_step
  rw [← hW]
  clear hW
  go_wp2_with fail
  refine (btEqual_any _ _ ol1 ol2 _ HA.out.old HB.out.old).mono ?_
  rintro e w' ⟨rfl, rfl⟩
  rw [Eol.out]
  go_wp2_with fail
  refine (btEqual_any _ _ nw1 nw2 _ HA.out.new HB.out.new).mono ?_
  rintro e w' ⟨rfl, rfl⟩
  rw [Enw.out]
  go_wp2_with fail
  refine (btEqual_any _ _ un1 un2 _ HA.out.undo HB.out.undo).mono ?_
  rintro e w' ⟨rfl, rfl⟩
  rw [Eun.out]
  go_wp2_with fail
  refine (Chr.equal_any _ _ op1 op2 _ (HA.out.opn) (HB.out.opn) HL.out.1).mono ?_
  rintro e w' ⟨rfl, n13, rfl⟩
  rw [Eop.out]
  go_wp2_with fail
  go_ret
  exact ⟨rfl, HBW.out.goN _⟩
end Go.Proofs.YtafpjcobagofcaaGreat

namespace Go.Proofs.YtafpjcobagofcaaGreat
open Go.RowKit

set_option maxHeartbeats 6400000 in
set_option maxRecDepth 20000 in
theorem sameD14 (x1 x2 : Lr.R) (o1 n1 u1 c1 d1 o2 n2 u2 c2 d2 : Value) (w : World) (h1 : RecAt w x1 o1 n1 u1 c1 d1) (h2 : RecAt w x2 o2 n2 u2 c2 d2) (hl1 : x1.opn.length ≤ 1000000 ∧ x1.dirt.length ≤ 1000000) (e_0 : x1.kind = x2.kind) (e_1 : x1.lsn = x2.lsn) (e_2 : x1.epoch = x2.epoch) (e_3 : x1.txn = x2.txn) (e_4 : x1.page = x2.page) (e_5 : x1.off = x2.off) (e_6 : x1.old = x2.old) (e_7 : x1.new = x2.new) (e_8 : x1.undo = x2.undo) (e_9 : x1.prev = x2.prev) (e_10 : x1.next = x2.next) (e_11 : x1.clr = x2.clr) (e_12 : x1.stamp = x2.stamp) (e_13 : x1.opn = x2.opn) (hne : ¬ x1.dirt = x2.dirt) :
    Calls Tryz.prog 71 #[RecV x1 o1 n1 u1 c1 d1, RecV x2 o2 n2 u2 c2 d2] w fun e w' => e = .returned (.bool false) ∧ Below w.heap.size w w' := by
  obtain ⟨W, hW⟩ : ∃ W, W = (w.alloc (robj x1 o1 n1 u1 c1 d1)).alloc (robj x2 o2 n2 u2 c2 d2) := ⟨_, rfl⟩
  have hb0 := below_new1 w (robj x1 o1 n1 u1 c1 d1)
  have hb1 := below_new1 (w.alloc (robj x1 o1 n1 u1 c1 d1)) (robj x2 o2 n2 u2 c2 d2)
  have hr1 := rblk w x1 o1 n1 u1 c1 d1
  have hr2 := rblk (w.alloc (robj x1 o1 n1 u1 c1 d1)) x2 o2 n2 u2 c2 d2
  rw [← hW] at hb1 hr2
  have hr3 := (hb1.block _ (lt_of_block hr1)).trans hr1
  have hbW := hb0.trans (hb1.mono hb0.size)
  have hA := h1.below hbW
  have hB := h2.below hbW
  have hsz : (w.alloc (robj x1 o1 n1 u1 c1 d1)).heap.size = w.heap.size + 1 := by simp
  rw [hsz] at hr2
  obtain ⟨q0, q1, q2, q3, q4, q5, q6, q7, q8, q9, q10, q11, q12, q13, q14⟩ := rec_cell hr3
  obtain ⟨r0, r1, r2, r3, r4, r5, r6, r7, r8, r9, r10, r11, r12, r13, r14⟩ := rec_cell hr2
  obtain ⟨p1, s1, p2, s2, p3, s3, p4, s4, p5, s5, rfl, rfl, rfl, rfl, rfl⟩ := rec_slices h1
  obtain ⟨p6, s6, p7, s7, p8, s8, p9, s9, pa, sa, rfl, rfl, rfl, rfl, rfl⟩ := rec_slices h2
  unfold robj at hW
  obtain ⟨k1, lsn1, ep1, txn1, pg1, off1, ol1, nw1, un1, pv1, nx1, cl1, st1, op1, di1⟩ := x1
  obtain ⟨k2, lsn2, ep2, txn2, pg2, off2, ol2, nw2, un2, pv2, nx2, cl2, st2, op2, di2⟩ := x2
  dsimp only at *
  have HBW := Lib.hid hbW
  have HA := Lib.hid hA
  have HB := Lib.hid hB
  have HL := Lib.hid hl1
  clear hb0 hb1 hr1 hr2 hr3 hbW hA hB h1 h2 hsz hl1
  have f_k : (k1 == k2) = true := by rw [e_0]; simp
  clear e_0
  have f_lsn : ((lsn1 : Int) == (lsn2 : Int)) = true := by rw [eqI, decide_eq_true e_1]
  clear e_1
  have f_ep : ((ep1 : Int) == (ep2 : Int)) = true := by rw [eqI, decide_eq_true e_2]
  clear e_2
  have f_txn : ((txn1 : Int) == (txn2 : Int)) = true := by rw [eqI, decide_eq_true e_3]
  clear e_3
  have f_pg : ((pg1 : Int) == (pg2 : Int)) = true := by rw [eqI, decide_eq_true e_4]
  clear e_4
  have f_off : ((off1 : Int) == (off2 : Int)) = true := by rw [eqI, decide_eq_true e_5]
  clear e_5
  have Eol : Hid (decide (ol1 = ol2) = true) := decide_eq_true e_6
  clear e_6
  have Enw : Hid (decide (nw1 = nw2) = true) := decide_eq_true e_7
  clear e_7
  have Eun : Hid (decide (un1 = un2) = true) := decide_eq_true e_8
  clear e_8
  have f_pv : ((pv1 : Int) == (pv2 : Int)) = true := by rw [eqI, decide_eq_true e_9]
  clear e_9
  have f_nx : ((nx1 : Int) == (nx2 : Int)) = true := by rw [eqI, decide_eq_true e_10]
  clear e_10
  have f_cl : (cl1 == cl2) = true := by rw [e_11]; simp
  clear e_11
  have f_st : ((st1 : Int) == (st2 : Int)) = true := by rw [eqI, decide_eq_true e_12]
  clear e_12
  have Eop : Hid (decide (op1 = op2) = true) := decide_eq_true e_13
  clear e_13
  have Edi : Hid (decide (di1 = di2) = false) := decide_eq_false hne
  clear hne
  go_enter Tryz.func71, Tryz.ntmps71
  go_upto_region 0 with (fail)
  iterate 7 go_step
  rw [← hW]
  clear hW
  go_wp2_with fail
  refine (btEqual_any _ _ ol1 ol2 _ HA.out.old HB.out.old).mono ?_
  rintro e w' ⟨rfl, rfl⟩
  rw [Eol.out]
  go_wp2_with fail
  refine (btEqual_any _ _ nw1 nw2 _ HA.out.new HB.out.new).mono ?_
  rintro e w' ⟨rfl, rfl⟩
  rw [Enw.out]
  go_wp2_with fail
  refine (btEqual_any _ _ un1 un2 _ HA.out.undo HB.out.undo).mono ?_
  rintro e w' ⟨rfl, rfl⟩
  rw [Eun.out]
  go_wp2_with fail
  refine (Chr.equal_any _ _ op1 op2 _ (HA.out.opn) (HB.out.opn) HL.out.1).mono ?_
  rintro e w' ⟨rfl, n13, rfl⟩
  rw [Eop.out]
  go_wp2_with fail
  refine (Dir.equal_any _ _ di1 di2 _ (HA.out.dirt.below ((Below.refl _ _).goN _)) (HB.out.dirt.below ((Below.refl _ _).goN _)) HL.out.2).mono ?_
  rintro e w' ⟨rfl, n14, rfl⟩
  rw [Edi.out]
  go_wp2_with fail
  go_ret
  exact ⟨rfl, HBW.out.goN _⟩
set_option maxHeartbeats 6400000 in
set_option maxRecDepth 20000 in
theorem sameD15 (x1 x2 : Lr.R) (o1 n1 u1 c1 d1 o2 n2 u2 c2 d2 : Value) (w : World) (h1 : RecAt w x1 o1 n1 u1 c1 d1) (h2 : RecAt w x2 o2 n2 u2 c2 d2) (hl1 : x1.opn.length ≤ 1000000 ∧ x1.dirt.length ≤ 1000000) (e_0 : x1.kind = x2.kind) (e_1 : x1.lsn = x2.lsn) (e_2 : x1.epoch = x2.epoch) (e_3 : x1.txn = x2.txn) (e_4 : x1.page = x2.page) (e_5 : x1.off = x2.off) (e_6 : x1.old = x2.old) (e_7 : x1.new = x2.new) (e_8 : x1.undo = x2.undo) (e_9 : x1.prev = x2.prev) (e_10 : x1.next = x2.next) (e_11 : x1.clr = x2.clr) (e_12 : x1.stamp = x2.stamp) (e_13 : x1.opn = x2.opn) (e_14 : x1.dirt = x2.dirt) :
    Calls Tryz.prog 71 #[RecV x1 o1 n1 u1 c1 d1, RecV x2 o2 n2 u2 c2 d2] w fun e w' => e = .returned (.bool true) ∧ Below w.heap.size w w' := by
  obtain ⟨W, hW⟩ : ∃ W, W = (w.alloc (robj x1 o1 n1 u1 c1 d1)).alloc (robj x2 o2 n2 u2 c2 d2) := ⟨_, rfl⟩
  have hb0 := below_new1 w (robj x1 o1 n1 u1 c1 d1)
  have hb1 := below_new1 (w.alloc (robj x1 o1 n1 u1 c1 d1)) (robj x2 o2 n2 u2 c2 d2)
  have hr1 := rblk w x1 o1 n1 u1 c1 d1
  have hr2 := rblk (w.alloc (robj x1 o1 n1 u1 c1 d1)) x2 o2 n2 u2 c2 d2
  rw [← hW] at hb1 hr2
  have hr3 := (hb1.block _ (lt_of_block hr1)).trans hr1
  have hbW := hb0.trans (hb1.mono hb0.size)
  have hA := h1.below hbW
  have hB := h2.below hbW
  have hsz : (w.alloc (robj x1 o1 n1 u1 c1 d1)).heap.size = w.heap.size + 1 := by simp
  rw [hsz] at hr2
  obtain ⟨q0, q1, q2, q3, q4, q5, q6, q7, q8, q9, q10, q11, q12, q13, q14⟩ := rec_cell hr3
  obtain ⟨r0, r1, r2, r3, r4, r5, r6, r7, r8, r9, r10, r11, r12, r13, r14⟩ := rec_cell hr2
  obtain ⟨p1, s1, p2, s2, p3, s3, p4, s4, p5, s5, rfl, rfl, rfl, rfl, rfl⟩ := rec_slices h1
  obtain ⟨p6, s6, p7, s7, p8, s8, p9, s9, pa, sa, rfl, rfl, rfl, rfl, rfl⟩ := rec_slices h2
  unfold robj at hW
  obtain ⟨k1, lsn1, ep1, txn1, pg1, off1, ol1, nw1, un1, pv1, nx1, cl1, st1, op1, di1⟩ := x1
  obtain ⟨k2, lsn2, ep2, txn2, pg2, off2, ol2, nw2, un2, pv2, nx2, cl2, st2, op2, di2⟩ := x2
  dsimp only at *
  have HBW := Lib.hid hbW
  have HA := Lib.hid hA
  have HB := Lib.hid hB
  have HL := Lib.hid hl1
  clear hb0 hb1 hr1 hr2 hr3 hbW hA hB h1 h2 hsz hl1
  have f_k : (k1 == k2) = true := by rw [e_0]; simp
  clear e_0
  have f_lsn : ((lsn1 : Int) == (lsn2 : Int)) = true := by rw [eqI, decide_eq_true e_1]
  clear e_1
  have f_ep : ((ep1 : Int) == (ep2 : Int)) = true := by rw [eqI, decide_eq_true e_2]
  clear e_2
  have f_txn : ((txn1 : Int) == (txn2 : Int)) = true := by rw [eqI, decide_eq_true e_3]
  clear e_3
  have f_pg : ((pg1 : Int) == (pg2 : Int)) = true := by rw [eqI, decide_eq_true e_4]
  clear e_4
  have f_off : ((off1 : Int) == (off2 : Int)) = true := by rw [eqI, decide_eq_true e_5]
  clear e_5
  have Eol : Hid (decide (ol1 = ol2) = true) := decide_eq_true e_6
  clear e_6
  have Enw : Hid (decide (nw1 = nw2) = true) := decide_eq_true e_7
  clear e_7
  have Eun : Hid (decide (un1 = un2) = true) := decide_eq_true e_8
  clear e_8
  have f_pv : ((pv1 : Int) == (pv2 : Int)) = true := by rw [eqI, decide_eq_true e_9]
  clear e_9
  have f_nx : ((nx1 : Int) == (nx2 : Int)) = true := by rw [eqI, decide_eq_true e_10]
  clear e_10
  have f_cl : (cl1 == cl2) = true := by rw [e_11]; simp
  clear e_11
  have f_st : ((st1 : Int) == (st2 : Int)) = true := by rw [eqI, decide_eq_true e_12]
  clear e_12
  have Eop : Hid (decide (op1 = op2) = true) := decide_eq_true e_13
  clear e_13
  have Edi : Hid (decide (di1 = di2) = true) := decide_eq_true e_14
  clear e_14
  go_enter Tryz.func71, Tryz.ntmps71
  go_upto_region 0 with (fail)
  iterate 7 go_step
  rw [← hW]
  clear hW
  go_wp2_with fail
  refine (btEqual_any _ _ ol1 ol2 _ HA.out.old HB.out.old).mono ?_
  rintro e w' ⟨rfl, rfl⟩
  rw [Eol.out]
  go_wp2_with fail
  refine (btEqual_any _ _ nw1 nw2 _ HA.out.new HB.out.new).mono ?_
  rintro e w' ⟨rfl, rfl⟩
  rw [Enw.out]
  go_wp2_with fail
  refine (btEqual_any _ _ un1 un2 _ HA.out.undo HB.out.undo).mono ?_
  rintro e w' ⟨rfl, rfl⟩
  rw [Eun.out]
  go_wp2_with fail
  refine (Chr.equal_any _ _ op1 op2 _ (HA.out.opn) (HB.out.opn) HL.out.1).mono ?_
  rintro e w' ⟨rfl, n13, rfl⟩
  rw [Eop.out]
  go_wp2_with fail
  refine (Dir.equal_any _ _ di1 di2 _ (HA.out.dirt.below ((Below.refl _ _).goN _)) (HB.out.dirt.below ((Below.refl _ _).goN _)) HL.out.2).mono ?_
  rintro e w' ⟨rfl, n14, rfl⟩
  rw [Edi.out]
  go_wp2_with fail
  go_ret
  exact ⟨rfl, HBW.out.goN _⟩
end Go.Proofs.YtafpjcobagofcaaGreat
