/- Whether two records (part 4) are alike, by the document's own reckoning. Conditions: the values read as records. Whether two records (part 5) are alike, by the document's own reckoning. Conditions: the values read as records. Whether two records (part 6) are alike, by the document's own reckoning. Conditions: the values read as records. Whether two records are alike, by the document's own reckoning. Conditions: the values read as records. -/
import Derived.Test.YtkchoelegdknoaaLrStr
import Derived.Test.YtkchoelegdknoaaLrWithin
import Derived.Test.YtkchoelegdknoaaLrSameRa
import Derived.Test.YtkchoelegdknoaaLrSameD
namespace Go.Proofs.Ytkchoelegdknoaa
open Go.RowKit

set_option maxHeartbeats 6400000 in
set_option maxRecDepth 20000 in
theorem refD10 (x1 x2 : Lr.R) (o1 n1 u1 c1 d1 o2 n2 u2 c2 d2 : Value) (w : World) (h1 : RecAt w x1 o1 n1 u1 c1 d1) (h2 : RecAt w x2 o2 n2 u2 c2 d2) (hl1 : x1.opn.length ≤ 1000000 ∧ x1.dirt.length ≤ 1000000) (e_0 : x1.kind = x2.kind) (e_1 : x1.lsn = x2.lsn) (e_2 : x1.epoch = x2.epoch) (e_3 : x1.txn = x2.txn) (e_4 : x1.page = x2.page) (e_5 : x1.off = x2.off) (e_6 : x1.prev = x2.prev) (e_7 : x1.next = x2.next) (e_8 : x1.clr = x2.clr) (e_9 : x1.stamp = x2.stamp) (hne : ¬ x1.old = x2.old) :
    Calls Try.prog 15 #[RecV x1 o1 n1 u1 c1 d1, RecV x2 o2 n2 u2 c2 d2] w fun e w' => e = .returned (.bool false) ∧ Below w.heap.size w w' := by
  obtain ⟨W, hW⟩ : ∃ W, W = (w.alloc (robj x1 o1 n1 u1 c1 d1)).alloc (robj x2 o2 n2 u2 c2 d2) := ⟨_, rfl⟩
  have hb0 := below_new1 w (robj x1 o1 n1 u1 c1 d1)
  have hb1 := below_new1 (w.alloc (robj x1 o1 n1 u1 c1 d1)) (robj x2 o2 n2 u2 c2 d2)
  have hr1 := rblk w x1 o1 n1 u1 c1 d1
  have hr2 := rblk (w.alloc (robj x1 o1 n1 u1 c1 d1)) x2 o2 n2 u2 c2 d2
  rw [← hW] at hb1 hr2
  have hr3 := (hb1.block _ (lt_of_block hr1)).trans hr1
  have hbW := hb0.trans (hb1.mono hb0.size)
  have hA := h1.below hbW
  have hB := h2.below hbW
  have hsz : (w.alloc (robj x1 o1 n1 u1 c1 d1)).heap.size = w.heap.size + 1 := by simp
  rw [hsz] at hr2
  obtain ⟨q0, q1, q2, q3, q4, q5, q6, q7, q8, q9, q10, q11, q12, q13, q14⟩ := rec_cell hr3
  obtain ⟨r0, r1, r2, r3, r4, r5, r6, r7, r8, r9, r10, r11, r12, r13, r14⟩ := rec_cell hr2
  obtain ⟨p1, s1, p2, s2, p3, s3, p4, s4, p5, s5, rfl, rfl, rfl, rfl, rfl⟩ := rec_slices h1
  obtain ⟨p6, s6, p7, s7, p8, s8, p9, s9, pa, sa, rfl, rfl, rfl, rfl, rfl⟩ := rec_slices h2
  unfold robj at hW
  obtain ⟨k1, lsn1, ep1, txn1, pg1, off1, ol1, nw1, un1, pv1, nx1, cl1, st1, op1, di1⟩ := x1
  obtain ⟨k2, lsn2, ep2, txn2, pg2, off2, ol2, nw2, un2, pv2, nx2, cl2, st2, op2, di2⟩ := x2
  dsimp only at *
  have HBW := Lib.hid hbW
  have HA := Lib.hid hA
  have HB := Lib.hid hB
  have HL := Lib.hid hl1
  clear hb0 hb1 hr1 hr2 hr3 hbW hA hB h1 h2 hsz hl1
  have f_k : (k1 != k2) = false := by rw [bne, show (k1 == k2) = true from by rw [e_0]; simp]; rfl
  clear e_0
  have f_lsn : ((lsn1 : Int) != (lsn2 : Int)) = false := by rw [bne, show ((lsn1 : Int) == (lsn2 : Int)) = true from by rw [eqI, decide_eq_true e_1]]; rfl
  clear e_1
  have f_ep : ((ep1 : Int) != (ep2 : Int)) = false := by rw [bne, show ((ep1 : Int) == (ep2 : Int)) = true from by rw [eqI, decide_eq_true e_2]]; rfl
  clear e_2
  have f_txn : ((txn1 : Int) != (txn2 : Int)) = false := by rw [bne, show ((txn1 : Int) == (txn2 : Int)) = true from by rw [eqI, decide_eq_true e_3]]; rfl
  clear e_3
  have f_pg : ((pg1 : Int) != (pg2 : Int)) = false := by rw [bne, show ((pg1 : Int) == (pg2 : Int)) = true from by rw [eqI, decide_eq_true e_4]]; rfl
  clear e_4
  have f_off : ((off1 : Int) != (off2 : Int)) = false := by rw [bne, show ((off1 : Int) == (off2 : Int)) = true from by rw [eqI, decide_eq_true e_5]]; rfl
  clear e_5
  have f_pv : ((pv1 : Int) != (pv2 : Int)) = false := by rw [bne, show ((pv1 : Int) == (pv2 : Int)) = true from by rw [eqI, decide_eq_true e_6]]; rfl
  clear e_6
  have f_nx : ((nx1 : Int) != (nx2 : Int)) = false := by rw [bne, show ((nx1 : Int) == (nx2 : Int)) = true from by rw [eqI, decide_eq_true e_7]]; rfl
  clear e_7
  subst e_8
  have f_st : ((st1 : Int) != (st2 : Int)) = false := by rw [bne, show ((st1 : Int) == (st2 : Int)) = true from by rw [eqI, decide_eq_true e_9]]; rfl
  clear e_9
  have v1_ol := strOf_conv HA.out.old
  have v2_ol := strOf_conv HB.out.old
  have hq_ol := str_ne HA.out.old.small HB.out.old.small hne
  generalize strOfNums (ol1.map fun x : Nat => (x : Int)) = Sol at *
  generalize strOfNums (ol2.map fun x : Nat => (x : Int)) = Tol at *
  clear hne
  clear q7 r7 q8 r8 q13 r13 q14 r14
  go_enter Try.func15, Try.ntmps15
  go_upto_region 0 with (fail)
  iterate 7 go_step
  rw [← hW]
  clear hW
  go_wp2_with fail
  go_ret
  exact ⟨rfl, HBW.out⟩
set_option maxHeartbeats 6400000 in
set_option maxRecDepth 20000 in
theorem refD11 (x1 x2 : Lr.R) (o1 n1 u1 c1 d1 o2 n2 u2 c2 d2 : Value) (w : World) (h1 : RecAt w x1 o1 n1 u1 c1 d1) (h2 : RecAt w x2 o2 n2 u2 c2 d2) (hl1 : x1.opn.length ≤ 1000000 ∧ x1.dirt.length ≤ 1000000) (e_0 : x1.kind = x2.kind) (e_1 : x1.lsn = x2.lsn) (e_2 : x1.epoch = x2.epoch) (e_3 : x1.txn = x2.txn) (e_4 : x1.page = x2.page) (e_5 : x1.off = x2.off) (e_6 : x1.prev = x2.prev) (e_7 : x1.next = x2.next) (e_8 : x1.clr = x2.clr) (e_9 : x1.stamp = x2.stamp) (e_10 : x1.old = x2.old) (hne : ¬ x1.new = x2.new) :
    Calls Try.prog 15 #[RecV x1 o1 n1 u1 c1 d1, RecV x2 o2 n2 u2 c2 d2] w fun e w' => e = .returned (.bool false) ∧ Below w.heap.size w w' := by
  obtain ⟨W, hW⟩ : ∃ W, W = (w.alloc (robj x1 o1 n1 u1 c1 d1)).alloc (robj x2 o2 n2 u2 c2 d2) := ⟨_, rfl⟩
  have hb0 := below_new1 w (robj x1 o1 n1 u1 c1 d1)
  have hb1 := below_new1 (w.alloc (robj x1 o1 n1 u1 c1 d1)) (robj x2 o2 n2 u2 c2 d2)
  have hr1 := rblk w x1 o1 n1 u1 c1 d1
  have hr2 := rblk (w.alloc (robj x1 o1 n1 u1 c1 d1)) x2 o2 n2 u2 c2 d2
  rw [← hW] at hb1 hr2
  have hr3 := (hb1.block _ (lt_of_block hr1)).trans hr1
  have hbW := hb0.trans (hb1.mono hb0.size)
  have hA := h1.below hbW
  have hB := h2.below hbW
  have hsz : (w.alloc (robj x1 o1 n1 u1 c1 d1)).heap.size = w.heap.size + 1 := by simp
  rw [hsz] at hr2
  obtain ⟨q0, q1, q2, q3, q4, q5, q6, q7, q8, q9, q10, q11, q12, q13, q14⟩ := rec_cell hr3
  obtain ⟨r0, r1, r2, r3, r4, r5, r6, r7, r8, r9, r10, r11, r12, r13, r14⟩ := rec_cell hr2
  obtain ⟨p1, s1, p2, s2, p3, s3, p4, s4, p5, s5, rfl, rfl, rfl, rfl, rfl⟩ := rec_slices h1
  obtain ⟨p6, s6, p7, s7, p8, s8, p9, s9, pa, sa, rfl, rfl, rfl, rfl, rfl⟩ := rec_slices h2
  unfold robj at hW
  obtain ⟨k1, lsn1, ep1, txn1, pg1, off1, ol1, nw1, un1, pv1, nx1, cl1, st1, op1, di1⟩ := x1
  obtain ⟨k2, lsn2, ep2, txn2, pg2, off2, ol2, nw2, un2, pv2, nx2, cl2, st2, op2, di2⟩ := x2
  dsimp only at *
  have HBW := Lib.hid hbW
  have HA := Lib.hid hA
  have HB := Lib.hid hB
  have HL := Lib.hid hl1
  clear hb0 hb1 hr1 hr2 hr3 hbW hA hB h1 h2 hsz hl1
  have f_k : (k1 != k2) = false := by rw [bne, show (k1 == k2) = true from by rw [e_0]; simp]; rfl
  clear e_0
  have f_lsn : ((lsn1 : Int) != (lsn2 : Int)) = false := by rw [bne, show ((lsn1 : Int) == (lsn2 : Int)) = true from by rw [eqI, decide_eq_true e_1]]; rfl
  clear e_1
  have f_ep : ((ep1 : Int) != (ep2 : Int)) = false := by rw [bne, show ((ep1 : Int) == (ep2 : Int)) = true from by rw [eqI, decide_eq_true e_2]]; rfl
  clear e_2
  have f_txn : ((txn1 : Int) != (txn2 : Int)) = false := by rw [bne, show ((txn1 : Int) == (txn2 : Int)) = true from by rw [eqI, decide_eq_true e_3]]; rfl
  clear e_3
  have f_pg : ((pg1 : Int) != (pg2 : Int)) = false := by rw [bne, show ((pg1 : Int) == (pg2 : Int)) = true from by rw [eqI, decide_eq_true e_4]]; rfl
  clear e_4
  have f_off : ((off1 : Int) != (off2 : Int)) = false := by rw [bne, show ((off1 : Int) == (off2 : Int)) = true from by rw [eqI, decide_eq_true e_5]]; rfl
  clear e_5
  have f_pv : ((pv1 : Int) != (pv2 : Int)) = false := by rw [bne, show ((pv1 : Int) == (pv2 : Int)) = true from by rw [eqI, decide_eq_true e_6]]; rfl
  clear e_6
  have f_nx : ((nx1 : Int) != (nx2 : Int)) = false := by rw [bne, show ((nx1 : Int) == (nx2 : Int)) = true from by rw [eqI, decide_eq_true e_7]]; rfl
  clear e_7
  subst e_8
  have f_st : ((st1 : Int) != (st2 : Int)) = false := by rw [bne, show ((st1 : Int) == (st2 : Int)) = true from by rw [eqI, decide_eq_true e_9]]; rfl
  clear e_9
  have v1_ol := strOf_conv HA.out.old
  have v2_ol := strOf_conv HB.out.old
  obtain ⟨Sol, hS1⟩ : ∃ S, strOfNums (ol1.map fun x : Nat => (x : Int)) = S := ⟨_, rfl⟩
  have hS2 : strOfNums (ol2.map fun x : Nat => (x : Int)) = Sol := by rw [← e_10]; exact hS1
  rw [hS1] at v1_ol
  rw [hS2] at v2_ol
  clear hS1 hS2 e_10
  have v1_nw := strOf_conv HA.out.new
  have v2_nw := strOf_conv HB.out.new
  have hq_nw := str_ne HA.out.new.small HB.out.new.small hne
  generalize strOfNums (nw1.map fun x : Nat => (x : Int)) = Snw at *
  generalize strOfNums (nw2.map fun x : Nat => (x : Int)) = Tnw at *
  clear hne
  clear q8 r8 q13 r13 q14 r14
  go_enter Try.func15, Try.ntmps15
  go_upto_region 0 with (fail)
  iterate 7 go_step
  rw [← hW]
  clear hW
  go_wp2_with fail
  go_ret
  exact ⟨rfl, HBW.out⟩
set_option maxHeartbeats 6400000 in
set_option maxRecDepth 20000 in
theorem refD12 (x1 x2 : Lr.R) (o1 n1 u1 c1 d1 o2 n2 u2 c2 d2 : Value) (w : World) (h1 : RecAt w x1 o1 n1 u1 c1 d1) (h2 : RecAt w x2 o2 n2 u2 c2 d2) (hl1 : x1.opn.length ≤ 1000000 ∧ x1.dirt.length ≤ 1000000) (e_0 : x1.kind = x2.kind) (e_1 : x1.lsn = x2.lsn) (e_2 : x1.epoch = x2.epoch) (e_3 : x1.txn = x2.txn) (e_4 : x1.page = x2.page) (e_5 : x1.off = x2.off) (e_6 : x1.prev = x2.prev) (e_7 : x1.next = x2.next) (e_8 : x1.clr = x2.clr) (e_9 : x1.stamp = x2.stamp) (e_10 : x1.old = x2.old) (e_11 : x1.new = x2.new) (hne : ¬ x1.undo = x2.undo) :
    Calls Try.prog 15 #[RecV x1 o1 n1 u1 c1 d1, RecV x2 o2 n2 u2 c2 d2] w fun e w' => e = .returned (.bool false) ∧ Below w.heap.size w w' := by
  obtain ⟨W, hW⟩ : ∃ W, W = (w.alloc (robj x1 o1 n1 u1 c1 d1)).alloc (robj x2 o2 n2 u2 c2 d2) := ⟨_, rfl⟩
  have hb0 := below_new1 w (robj x1 o1 n1 u1 c1 d1)
  have hb1 := below_new1 (w.alloc (robj x1 o1 n1 u1 c1 d1)) (robj x2 o2 n2 u2 c2 d2)
  have hr1 := rblk w x1 o1 n1 u1 c1 d1
  have hr2 := rblk (w.alloc (robj x1 o1 n1 u1 c1 d1)) x2 o2 n2 u2 c2 d2
  rw [← hW] at hb1 hr2
  have hr3 := (hb1.block _ (lt_of_block hr1)).trans hr1
  have hbW := hb0.trans (hb1.mono hb0.size)
  have hA := h1.below hbW
  have hB := h2.below hbW
  have hsz : (w.alloc (robj x1 o1 n1 u1 c1 d1)).heap.size = w.heap.size + 1 := by simp
  rw [hsz] at hr2
  obtain ⟨q0, q1, q2, q3, q4, q5, q6, q7, q8, q9, q10, q11, q12, q13, q14⟩ := rec_cell hr3
  obtain ⟨r0, r1, r2, r3, r4, r5, r6, r7, r8, r9, r10, r11, r12, r13, r14⟩ := rec_cell hr2
  obtain ⟨p1, s1, p2, s2, p3, s3, p4, s4, p5, s5, rfl, rfl, rfl, rfl, rfl⟩ := rec_slices h1
  obtain ⟨p6, s6, p7, s7, p8, s8, p9, s9, pa, sa, rfl, rfl, rfl, rfl, rfl⟩ := rec_slices h2
  unfold robj at hW
  obtain ⟨k1, lsn1, ep1, txn1, pg1, off1, ol1, nw1, un1, pv1, nx1, cl1, st1, op1, di1⟩ := x1
  obtain ⟨k2, lsn2, ep2, txn2, pg2, off2, ol2, nw2, un2, pv2, nx2, cl2, st2, op2, di2⟩ := x2
  dsimp only at *
  have HBW := Lib.hid hbW
  have HA := Lib.hid hA
  have HB := Lib.hid hB
  have HL := Lib.hid hl1
  clear hb0 hb1 hr1 hr2 hr3 hbW hA hB h1 h2 hsz hl1
  have f_k : (k1 != k2) = false := by rw [bne, show (k1 == k2) = true from by rw [e_0]; simp]; rfl
  clear e_0
  have f_lsn : ((lsn1 : Int) != (lsn2 : Int)) = false := by rw [bne, show ((lsn1 : Int) == (lsn2 : Int)) = true from by rw [eqI, decide_eq_true e_1]]; rfl
  clear e_1
  have f_ep : ((ep1 : Int) != (ep2 : Int)) = false := by rw [bne, show ((ep1 : Int) == (ep2 : Int)) = true from by rw [eqI, decide_eq_true e_2]]; rfl
  clear e_2
  have f_txn : ((txn1 : Int) != (txn2 : Int)) = false := by rw [bne, show ((txn1 : Int) == (txn2 : Int)) = true from by rw [eqI, decide_eq_true e_3]]; rfl
  clear e_3
  have f_pg : ((pg1 : Int) != (pg2 : Int)) = false := by rw [bne, show ((pg1 : Int) == (pg2 : Int)) = true from by rw [eqI, decide_eq_true e_4]]; rfl
  clear e_4
  have f_off : ((off1 : Int) != (off2 : Int)) = false := by rw [bne, show ((off1 : Int) == (off2 : Int)) = true from by rw [eqI, decide_eq_true e_5]]; rfl
  clear e_5
  have f_pv : ((pv1 : Int) != (pv2 : Int)) = false := by rw [bne, show ((pv1 : Int) == (pv2 : Int)) = true from by rw [eqI, decide_eq_true e_6]]; rfl
  clear e_6
  have f_nx : ((nx1 : Int) != (nx2 : Int)) = false := by rw [bne, show ((nx1 : Int) == (nx2 : Int)) = true from by rw [eqI, decide_eq_true e_7]]; rfl
  clear e_7
  subst e_8
  have f_st : ((st1 : Int) != (st2 : Int)) = false := by rw [bne, show ((st1 : Int) == (st2 : Int)) = true from by rw [eqI, decide_eq_true e_9]]; rfl
  clear e_9
  have v1_ol := strOf_conv HA.out.old
  have v2_ol := strOf_conv HB.out.old
  obtain ⟨Sol, hS1⟩ : ∃ S, strOfNums (ol1.map fun x : Nat => (x : Int)) = S := ⟨_, rfl⟩
  have hS2 : strOfNums (ol2.map fun x : Nat => (x : Int)) = Sol := by rw [← e_10]; exact hS1
  rw [hS1] at v1_ol
  rw [hS2] at v2_ol
  clear hS1 hS2 e_10
  have v1_nw := strOf_conv HA.out.new
  have v2_nw := strOf_conv HB.out.new
  obtain ⟨Snw, hS1⟩ : ∃ S, strOfNums (nw1.map fun x : Nat => (x : Int)) = S := ⟨_, rfl⟩
  have hS2 : strOfNums (nw2.map fun x : Nat => (x : Int)) = Snw := by rw [← e_11]; exact hS1
  rw [hS1] at v1_nw
  rw [hS2] at v2_nw
  clear hS1 hS2 e_11
  have v1_un := strOf_conv HA.out.undo
  have v2_un := strOf_conv HB.out.undo
  have hq_un := str_ne HA.out.undo.small HB.out.undo.small hne
  generalize strOfNums (un1.map fun x : Nat => (x : Int)) = Sun at *
  generalize strOfNums (un2.map fun x : Nat => (x : Int)) = Tun at *
  clear hne
  clear q13 r13 q14 r14
  go_enter Try.func15, Try.ntmps15
  go_upto_region 0 with (fail)
  iterate 7 go_step
  rw [← hW]
  clear hW
  go_wp2_with fail
  go_ret
  exact ⟨rfl, HBW.out⟩
end Go.Proofs.Ytkchoelegdknoaa

namespace Go.Proofs.Ytkchoelegdknoaa
open Go.RowKit

set_option maxHeartbeats 6400000 in
set_option maxRecDepth 20000 in
theorem refDop (x1 x2 : Lr.R) (o1 n1 u1 c1 d1 o2 n2 u2 c2 d2 : Value) (w : World) (h1 : RecAt w x1 o1 n1 u1 c1 d1) (h2 : RecAt w x2 o2 n2 u2 c2 d2) (hl1 : x1.opn.length ≤ 1000000 ∧ x1.dirt.length ≤ 1000000) (e_0 : x1.kind = x2.kind) (e_1 : x1.lsn = x2.lsn) (e_2 : x1.epoch = x2.epoch) (e_3 : x1.txn = x2.txn) (e_4 : x1.page = x2.page) (e_5 : x1.off = x2.off) (e_6 : x1.prev = x2.prev) (e_7 : x1.next = x2.next) (e_8 : x1.clr = x2.clr) (e_9 : x1.stamp = x2.stamp) (e_10 : x1.old = x2.old) (e_11 : x1.new = x2.new) (e_12 : x1.undo = x2.undo) (hlo : ¬ x1.opn.length = x2.opn.length) :
    Calls Try.prog 15 #[RecV x1 o1 n1 u1 c1 d1, RecV x2 o2 n2 u2 c2 d2] w fun e w' => e = .returned (.bool false) ∧ Below w.heap.size w w' := by
  obtain ⟨W, hW⟩ : ∃ W, W = (w.alloc (robj x1 o1 n1 u1 c1 d1)).alloc (robj x2 o2 n2 u2 c2 d2) := ⟨_, rfl⟩
  have hb0 := below_new1 w (robj x1 o1 n1 u1 c1 d1)
  have hb1 := below_new1 (w.alloc (robj x1 o1 n1 u1 c1 d1)) (robj x2 o2 n2 u2 c2 d2)
  have hr1 := rblk w x1 o1 n1 u1 c1 d1
  have hr2 := rblk (w.alloc (robj x1 o1 n1 u1 c1 d1)) x2 o2 n2 u2 c2 d2
  rw [← hW] at hb1 hr2
  have hr3 := (hb1.block _ (lt_of_block hr1)).trans hr1
  have hbW := hb0.trans (hb1.mono hb0.size)
  have hA := h1.below hbW
  have hB := h2.below hbW
  have hsz : (w.alloc (robj x1 o1 n1 u1 c1 d1)).heap.size = w.heap.size + 1 := by simp
  rw [hsz] at hr2
  obtain ⟨q0, q1, q2, q3, q4, q5, q6, q7, q8, q9, q10, q11, q12, q13, q14⟩ := rec_cell hr3
  obtain ⟨r0, r1, r2, r3, r4, r5, r6, r7, r8, r9, r10, r11, r12, r13, r14⟩ := rec_cell hr2
  obtain ⟨p1, s1, p2, s2, p3, s3, p4, s4, p5, s5, rfl, rfl, rfl, rfl, rfl⟩ := rec_slices h1
  obtain ⟨p6, s6, p7, s7, p8, s8, p9, s9, pa, sa, rfl, rfl, rfl, rfl, rfl⟩ := rec_slices h2
  unfold robj at hW
  obtain ⟨k1, lsn1, ep1, txn1, pg1, off1, ol1, nw1, un1, pv1, nx1, cl1, st1, op1, di1⟩ := x1
  obtain ⟨k2, lsn2, ep2, txn2, pg2, off2, ol2, nw2, un2, pv2, nx2, cl2, st2, op2, di2⟩ := x2
  dsimp only at *
  have HBW := Lib.hid hbW
  have HA := Lib.hid hA
  have HB := Lib.hid hB
  have HL := Lib.hid hl1
  clear hb0 hb1 hr1 hr2 hr3 hbW hA hB h1 h2 hsz hl1
  have f_k : (k1 != k2) = false := by rw [bne, show (k1 == k2) = true from by rw [e_0]; simp]; rfl
  clear e_0
  have f_lsn : ((lsn1 : Int) != (lsn2 : Int)) = false := by rw [bne, show ((lsn1 : Int) == (lsn2 : Int)) = true from by rw [eqI, decide_eq_true e_1]]; rfl
  clear e_1
  have f_ep : ((ep1 : Int) != (ep2 : Int)) = false := by rw [bne, show ((ep1 : Int) == (ep2 : Int)) = true from by rw [eqI, decide_eq_true e_2]]; rfl
  clear e_2
  have f_txn : ((txn1 : Int) != (txn2 : Int)) = false := by rw [bne, show ((txn1 : Int) == (txn2 : Int)) = true from by rw [eqI, decide_eq_true e_3]]; rfl
  clear e_3
  have f_pg : ((pg1 : Int) != (pg2 : Int)) = false := by rw [bne, show ((pg1 : Int) == (pg2 : Int)) = true from by rw [eqI, decide_eq_true e_4]]; rfl
  clear e_4
  have f_off : ((off1 : Int) != (off2 : Int)) = false := by rw [bne, show ((off1 : Int) == (off2 : Int)) = true from by rw [eqI, decide_eq_true e_5]]; rfl
  clear e_5
  have f_pv : ((pv1 : Int) != (pv2 : Int)) = false := by rw [bne, show ((pv1 : Int) == (pv2 : Int)) = true from by rw [eqI, decide_eq_true e_6]]; rfl
  clear e_6
  have f_nx : ((nx1 : Int) != (nx2 : Int)) = false := by rw [bne, show ((nx1 : Int) == (nx2 : Int)) = true from by rw [eqI, decide_eq_true e_7]]; rfl
  clear e_7
  subst e_8
  have f_st : ((st1 : Int) != (st2 : Int)) = false := by rw [bne, show ((st1 : Int) == (st2 : Int)) = true from by rw [eqI, decide_eq_true e_9]]; rfl
  clear e_9
  have v1_ol := strOf_conv HA.out.old
  have v2_ol := strOf_conv HB.out.old
  obtain ⟨Sol, hS1⟩ : ∃ S, strOfNums (ol1.map fun x : Nat => (x : Int)) = S := ⟨_, rfl⟩
  have hS2 : strOfNums (ol2.map fun x : Nat => (x : Int)) = Sol := by rw [← e_10]; exact hS1
  rw [hS1] at v1_ol
  rw [hS2] at v2_ol
  clear hS1 hS2 e_10
  have v1_nw := strOf_conv HA.out.new
  have v2_nw := strOf_conv HB.out.new
  obtain ⟨Snw, hS1⟩ : ∃ S, strOfNums (nw1.map fun x : Nat => (x : Int)) = S := ⟨_, rfl⟩
  have hS2 : strOfNums (nw2.map fun x : Nat => (x : Int)) = Snw := by rw [← e_11]; exact hS1
  rw [hS1] at v1_nw
  rw [hS2] at v2_nw
  clear hS1 hS2 e_11
  have v1_un := strOf_conv HA.out.undo
  have v2_un := strOf_conv HB.out.undo
  obtain ⟨Sun, hS1⟩ : ∃ S, strOfNums (un1.map fun x : Nat => (x : Int)) = S := ⟨_, rfl⟩
  have hS2 : strOfNums (un2.map fun x : Nat => (x : Int)) = Sun := by rw [← e_12]; exact hS1
  rw [hS1] at v1_un
  rw [hS2] at v2_un
  clear hS1 hS2 e_12
  have f_op : ((op1.length : Int) != (op2.length : Int)) = true := by rw [bne, eqI, decide_eq_false hlo]; rfl
  have g_op : ¬ (op1.length : Int) = (op2.length : Int) := by omega
  go_enter Try.func15, Try.ntmps15
  go_upto_region 0 with (fail)
  iterate 7 go_step
  rw [← hW]
  clear hW
  go_wp2_with fail
  go_ret
  exact ⟨rfl, HBW.out⟩
set_option maxHeartbeats 6400000 in
set_option maxRecDepth 20000 in
theorem refDdi (x1 x2 : Lr.R) (o1 n1 u1 c1 d1 o2 n2 u2 c2 d2 : Value) (w : World) (h1 : RecAt w x1 o1 n1 u1 c1 d1) (h2 : RecAt w x2 o2 n2 u2 c2 d2) (hl1 : x1.opn.length ≤ 1000000 ∧ x1.dirt.length ≤ 1000000) (e_0 : x1.kind = x2.kind) (e_1 : x1.lsn = x2.lsn) (e_2 : x1.epoch = x2.epoch) (e_3 : x1.txn = x2.txn) (e_4 : x1.page = x2.page) (e_5 : x1.off = x2.off) (e_6 : x1.prev = x2.prev) (e_7 : x1.next = x2.next) (e_8 : x1.clr = x2.clr) (e_9 : x1.stamp = x2.stamp) (e_10 : x1.old = x2.old) (e_11 : x1.new = x2.new) (e_12 : x1.undo = x2.undo) (hlo : x1.opn.length = x2.opn.length) (hld : ¬ x1.dirt.length = x2.dirt.length) :
    Calls Try.prog 15 #[RecV x1 o1 n1 u1 c1 d1, RecV x2 o2 n2 u2 c2 d2] w fun e w' => e = .returned (.bool false) ∧ Below w.heap.size w w' := by
  obtain ⟨W, hW⟩ : ∃ W, W = (w.alloc (robj x1 o1 n1 u1 c1 d1)).alloc (robj x2 o2 n2 u2 c2 d2) := ⟨_, rfl⟩
  have hb0 := below_new1 w (robj x1 o1 n1 u1 c1 d1)
  have hb1 := below_new1 (w.alloc (robj x1 o1 n1 u1 c1 d1)) (robj x2 o2 n2 u2 c2 d2)
  have hr1 := rblk w x1 o1 n1 u1 c1 d1
  have hr2 := rblk (w.alloc (robj x1 o1 n1 u1 c1 d1)) x2 o2 n2 u2 c2 d2
  rw [← hW] at hb1 hr2
  have hr3 := (hb1.block _ (lt_of_block hr1)).trans hr1
  have hbW := hb0.trans (hb1.mono hb0.size)
  have hA := h1.below hbW
  have hB := h2.below hbW
  have hsz : (w.alloc (robj x1 o1 n1 u1 c1 d1)).heap.size = w.heap.size + 1 := by simp
  rw [hsz] at hr2
  obtain ⟨q0, q1, q2, q3, q4, q5, q6, q7, q8, q9, q10, q11, q12, q13, q14⟩ := rec_cell hr3
  obtain ⟨r0, r1, r2, r3, r4, r5, r6, r7, r8, r9, r10, r11, r12, r13, r14⟩ := rec_cell hr2
  obtain ⟨p1, s1, p2, s2, p3, s3, p4, s4, p5, s5, rfl, rfl, rfl, rfl, rfl⟩ := rec_slices h1
  obtain ⟨p6, s6, p7, s7, p8, s8, p9, s9, pa, sa, rfl, rfl, rfl, rfl, rfl⟩ := rec_slices h2
  unfold robj at hW
  obtain ⟨k1, lsn1, ep1, txn1, pg1, off1, ol1, nw1, un1, pv1, nx1, cl1, st1, op1, di1⟩ := x1
  obtain ⟨k2, lsn2, ep2, txn2, pg2, off2, ol2, nw2, un2, pv2, nx2, cl2, st2, op2, di2⟩ := x2
  dsimp only at *
  have HBW := Lib.hid hbW
  have HA := Lib.hid hA
  have HB := Lib.hid hB
  have HL := Lib.hid hl1
  clear hb0 hb1 hr1 hr2 hr3 hbW hA hB h1 h2 hsz hl1
  have f_k : (k1 != k2) = false := by rw [bne, show (k1 == k2) = true from by rw [e_0]; simp]; rfl
  clear e_0
  have f_lsn : ((lsn1 : Int) != (lsn2 : Int)) = false := by rw [bne, show ((lsn1 : Int) == (lsn2 : Int)) = true from by rw [eqI, decide_eq_true e_1]]; rfl
  clear e_1
  have f_ep : ((ep1 : Int) != (ep2 : Int)) = false := by rw [bne, show ((ep1 : Int) == (ep2 : Int)) = true from by rw [eqI, decide_eq_true e_2]]; rfl
  clear e_2
  have f_txn : ((txn1 : Int) != (txn2 : Int)) = false := by rw [bne, show ((txn1 : Int) == (txn2 : Int)) = true from by rw [eqI, decide_eq_true e_3]]; rfl
  clear e_3
  have f_pg : ((pg1 : Int) != (pg2 : Int)) = false := by rw [bne, show ((pg1 : Int) == (pg2 : Int)) = true from by rw [eqI, decide_eq_true e_4]]; rfl
  clear e_4
  have f_off : ((off1 : Int) != (off2 : Int)) = false := by rw [bne, show ((off1 : Int) == (off2 : Int)) = true from by rw [eqI, decide_eq_true e_5]]; rfl
  clear e_5
  have f_pv : ((pv1 : Int) != (pv2 : Int)) = false := by rw [bne, show ((pv1 : Int) == (pv2 : Int)) = true from by rw [eqI, decide_eq_true e_6]]; rfl
  clear e_6
  have f_nx : ((nx1 : Int) != (nx2 : Int)) = false := by rw [bne, show ((nx1 : Int) == (nx2 : Int)) = true from by rw [eqI, decide_eq_true e_7]]; rfl
  clear e_7
  subst e_8
  have f_st : ((st1 : Int) != (st2 : Int)) = false := by rw [bne, show ((st1 : Int) == (st2 : Int)) = true from by rw [eqI, decide_eq_true e_9]]; rfl
  clear e_9
  have v1_ol := strOf_conv HA.out.old
  have v2_ol := strOf_conv HB.out.old
  obtain ⟨Sol, hS1⟩ : ∃ S, strOfNums (ol1.map fun x : Nat => (x : Int)) = S := ⟨_, rfl⟩
  have hS2 : strOfNums (ol2.map fun x : Nat => (x : Int)) = Sol := by rw [← e_10]; exact hS1
  rw [hS1] at v1_ol
  rw [hS2] at v2_ol
  clear hS1 hS2 e_10
  have v1_nw := strOf_conv HA.out.new
  have v2_nw := strOf_conv HB.out.new
  obtain ⟨Snw, hS1⟩ : ∃ S, strOfNums (nw1.map fun x : Nat => (x : Int)) = S := ⟨_, rfl⟩
  have hS2 : strOfNums (nw2.map fun x : Nat => (x : Int)) = Snw := by rw [← e_11]; exact hS1
  rw [hS1] at v1_nw
  rw [hS2] at v2_nw
  clear hS1 hS2 e_11
  have v1_un := strOf_conv HA.out.undo
  have v2_un := strOf_conv HB.out.undo
  obtain ⟨Sun, hS1⟩ : ∃ S, strOfNums (un1.map fun x : Nat => (x : Int)) = S := ⟨_, rfl⟩
  have hS2 : strOfNums (un2.map fun x : Nat => (x : Int)) = Sun := by rw [← e_12]; exact hS1
  rw [hS1] at v1_un
  rw [hS2] at v2_un
  clear hS1 hS2 e_12
  have f_op : ((op1.length : Int) != (op2.length : Int)) = false := by rw [bne, eqI, decide_eq_true hlo]; rfl
  have f_di : ((di1.length : Int) != (di2.length : Int)) = true := by rw [bne, eqI, decide_eq_false hld]; rfl
  have g_di : ¬ (di1.length : Int) = (di2.length : Int) := by omega
  clear hlo
  go_enter Try.func15, Try.ntmps15
  go_upto_region 0 with (fail)
  iterate 7 go_step
  rw [← hW]
  clear hW
  go_wp2_with fail
  go_ret
  exact ⟨rfl, HBW.out⟩
end Go.Proofs.Ytkchoelegdknoaa

namespace Go.Proofs.Ytkchoelegdknoaa
open Go.RowKit

set_option maxHeartbeats 6400000 in
set_option maxRecDepth 20000 in
theorem refTail (x1 x2 : Lr.R) (o1 n1 u1 c1 d1 o2 n2 u2 c2 d2 : Value) (w : World) (h1 : RecAt w x1 o1 n1 u1 c1 d1) (h2 : RecAt w x2 o2 n2 u2 c2 d2) (hl1 : x1.opn.length ≤ 1000000 ∧ x1.dirt.length ≤ 1000000) (e_0 : x1.kind = x2.kind) (e_1 : x1.lsn = x2.lsn) (e_2 : x1.epoch = x2.epoch) (e_3 : x1.txn = x2.txn) (e_4 : x1.page = x2.page) (e_5 : x1.off = x2.off) (e_6 : x1.prev = x2.prev) (e_7 : x1.next = x2.next) (e_8 : x1.clr = x2.clr) (e_9 : x1.stamp = x2.stamp) (e_10 : x1.old = x2.old) (e_11 : x1.new = x2.new) (e_12 : x1.undo = x2.undo) (hlo : x1.opn.length = x2.opn.length) (hld : x1.dirt.length = x2.dirt.length) :
    Calls Try.prog 15 #[RecV x1 o1 n1 u1 c1 d1, RecV x2 o2 n2 u2 c2 d2] w fun e w' => e = .returned (.bool (decide (x1.opn = x2.opn ∧ x1.dirt = x2.dirt))) ∧ Below w.heap.size w w' := by
  obtain ⟨W, hW⟩ : ∃ W, W = (w.alloc (robj x1 o1 n1 u1 c1 d1)).alloc (robj x2 o2 n2 u2 c2 d2) := ⟨_, rfl⟩
  have hb0 := below_new1 w (robj x1 o1 n1 u1 c1 d1)
  have hb1 := below_new1 (w.alloc (robj x1 o1 n1 u1 c1 d1)) (robj x2 o2 n2 u2 c2 d2)
  have hr1 := rblk w x1 o1 n1 u1 c1 d1
  have hr2 := rblk (w.alloc (robj x1 o1 n1 u1 c1 d1)) x2 o2 n2 u2 c2 d2
  rw [← hW] at hb1 hr2
  have hr3 := (hb1.block _ (lt_of_block hr1)).trans hr1
  have hbW := hb0.trans (hb1.mono hb0.size)
  have hA := h1.below hbW
  have hB := h2.below hbW
  have hsz : (w.alloc (robj x1 o1 n1 u1 c1 d1)).heap.size = w.heap.size + 1 := by simp
  rw [hsz] at hr2
  obtain ⟨q0, q1, q2, q3, q4, q5, q6, q7, q8, q9, q10, q11, q12, q13, q14⟩ := rec_cell hr3
  obtain ⟨r0, r1, r2, r3, r4, r5, r6, r7, r8, r9, r10, r11, r12, r13, r14⟩ := rec_cell hr2
  obtain ⟨p1, s1, p2, s2, p3, s3, p4, s4, p5, s5, rfl, rfl, rfl, rfl, rfl⟩ := rec_slices h1
  obtain ⟨p6, s6, p7, s7, p8, s8, p9, s9, pa, sa, rfl, rfl, rfl, rfl, rfl⟩ := rec_slices h2
  unfold robj at hW
  obtain ⟨k1, lsn1, ep1, txn1, pg1, off1, ol1, nw1, un1, pv1, nx1, cl1, st1, op1, di1⟩ := x1
  obtain ⟨k2, lsn2, ep2, txn2, pg2, off2, ol2, nw2, un2, pv2, nx2, cl2, st2, op2, di2⟩ := x2
  dsimp only at *
  have HBW := Lib.hid hbW
  have HA := Lib.hid hA
  have HB := Lib.hid hB
  have HL := Lib.hid hl1
  clear hb0 hb1 hr1 hr2 hr3 hbW hA hB h1 h2 hsz hl1
  have f_k : (k1 != k2) = false := by rw [bne, show (k1 == k2) = true from by rw [e_0]; simp]; rfl
  clear e_0
  have f_lsn : ((lsn1 : Int) != (lsn2 : Int)) = false := by rw [bne, show ((lsn1 : Int) == (lsn2 : Int)) = true from by rw [eqI, decide_eq_true e_1]]; rfl
  clear e_1
  have f_ep : ((ep1 : Int) != (ep2 : Int)) = false := by rw [bne, show ((ep1 : Int) == (ep2 : Int)) = true from by rw [eqI, decide_eq_true e_2]]; rfl
  clear e_2
  have f_txn : ((txn1 : Int) != (txn2 : Int)) = false := by rw [bne, show ((txn1 : Int) == (txn2 : Int)) = true from by rw [eqI, decide_eq_true e_3]]; rfl
  clear e_3
  have f_pg : ((pg1 : Int) != (pg2 : Int)) = false := by rw [bne, show ((pg1 : Int) == (pg2 : Int)) = true from by rw [eqI, decide_eq_true e_4]]; rfl
  clear e_4
  have f_off : ((off1 : Int) != (off2 : Int)) = false := by rw [bne, show ((off1 : Int) == (off2 : Int)) = true from by rw [eqI, decide_eq_true e_5]]; rfl
  clear e_5
  have f_pv : ((pv1 : Int) != (pv2 : Int)) = false := by rw [bne, show ((pv1 : Int) == (pv2 : Int)) = true from by rw [eqI, decide_eq_true e_6]]; rfl
  clear e_6
  have f_nx : ((nx1 : Int) != (nx2 : Int)) = false := by rw [bne, show ((nx1 : Int) == (nx2 : Int)) = true from by rw [eqI, decide_eq_true e_7]]; rfl
  clear e_7
  subst e_8
  have f_st : ((st1 : Int) != (st2 : Int)) = false := by rw [bne, show ((st1 : Int) == (st2 : Int)) = true from by rw [eqI, decide_eq_true e_9]]; rfl
  clear e_9
  have v1_ol := strOf_conv HA.out.old
  have v2_ol := strOf_conv HB.out.old
  obtain ⟨Sol, hS1⟩ : ∃ S, strOfNums (ol1.map fun x : Nat => (x : Int)) = S := ⟨_, rfl⟩
  have hS2 : strOfNums (ol2.map fun x : Nat => (x : Int)) = Sol := by rw [← e_10]; exact hS1
  rw [hS1] at v1_ol
  rw [hS2] at v2_ol
  clear hS1 hS2 e_10
  have v1_nw := strOf_conv HA.out.new
  have v2_nw := strOf_conv HB.out.new
  obtain ⟨Snw, hS1⟩ : ∃ S, strOfNums (nw1.map fun x : Nat => (x : Int)) = S := ⟨_, rfl⟩
  have hS2 : strOfNums (nw2.map fun x : Nat => (x : Int)) = Snw := by rw [← e_11]; exact hS1
  rw [hS1] at v1_nw
  rw [hS2] at v2_nw
  clear hS1 hS2 e_11
  have v1_un := strOf_conv HA.out.undo
  have v2_un := strOf_conv HB.out.undo
  obtain ⟨Sun, hS1⟩ : ∃ S, strOfNums (un1.map fun x : Nat => (x : Int)) = S := ⟨_, rfl⟩
  have hS2 : strOfNums (un2.map fun x : Nat => (x : Int)) = Sun := by rw [← e_12]; exact hS1
  rw [hS1] at v1_un
  rw [hS2] at v2_un
  clear hS1 hS2 e_12
  have f_op : ((op1.length : Int) != (op2.length : Int)) = false := by rw [bne, eqI, decide_eq_true hlo]; rfl
  have f_di : ((di1.length : Int) != (di2.length : Int)) = false := by rw [bne, eqI, decide_eq_true hld]; rfl
  obtain ⟨r, hr⟩ : ∃ r, decide (op1 = op2 ∧ di1 = di2) = r := ⟨_, rfl⟩
  rw [hr]
  have HR := Lib.hid hr
  have HLO := Lib.hid hlo
  have HLD := Lib.hid hld
  clear hr hlo hld
  go_enter Try.func15, Try.ntmps15
  go_upto_region 0 with (fail)
  iterate 7 go_step
  rw [← hW]
  clear hW
  go_wp2_with fail
  clear f_k f_lsn f_ep f_txn f_pg f_off f_pv f_nx f_st f_op f_di v1_ol v2_ol v1_nw v2_nw v1_un v2_un q0 r0 q1 r1 q2 r2 q3 r3 q4 r4 q5 r5 q6 r6 q7 r7 q8 r8 q9 r9 q10 r10 q11 r11 q12 r12
  go_loopw [5] (fun i wr => ∃ k n : Nat, k ≤ op1.length ∧ i = .int .i64 k ∧ op1.take k = op2.take k ∧ wr = W.drewN n) (fun i _ => op1.length - (intOf i).toNat)
  case atStart => exact ⟨0, 0, by omega, rfl, by simp, rfl⟩
  case round =>
    obtain ⟨k, n5, hk, rfl, ht, rfl⟩ := hrel
    have HT := Lib.hid ht
    clear ht
    by_cases hlt : k < op1.length
    · have HS := Lib.hid (take_eq_step op1 op2 default k HLO.out hlt HT.out)
      have hk' : k < op2.length := by have := HLO.out; omega
      have la := HL.out.1
      obtain ⟨ba, oa, ga, hpa⟩ := HA.out.opn.some (Nat.lt_of_le_of_lt (Nat.zero_le _) hlt)
      obtain ⟨bb, ob, gb, hpb⟩ := HB.out.opn.some (Nat.lt_of_le_of_lt (Nat.zero_le _) hk')
      have HCA := HA.out.opn
      have HCB := HB.out.opn
      simp only [Value.slice.injEq, true_and] at hpa hpb
      obtain ⟨rfl, rfl⟩ := hpa
      obtain ⟨rfl, rfl⟩ := hpb
      have ca0 := HCA.at k hlt 0 (by decide)
      have ca1 := HCA.at k hlt 1 (by decide)
      have ca2 := HCA.at k hlt 2 (by decide)
      have cb0 := HCB.at k hk' 0 (by decide)
      have cb1 := HCB.at k hk' 1 (by decide)
      have cb2 := HCB.at k hk' 2 (by decide)
      clear HCA HCB
      simp only [Chr.enc, List.getElem?_cons_zero, List.getElem?_cons_succ, Nat.add_zero] at ca0 ca1 ca2 cb0 cb1 cb2
      have ki : (k : Int) < (op1.length : Int) := by omega
      have ki2 : (k : Int) < (op2.length : Int) := by omega
      by_cases hxy : op1.getD k default = op2.getD k default
      · have hs := HS.out hxy
        have HS2 := Lib.hid hs
        rw [← hxy] at cb0 cb1 cb2
        clear hs hxy HS
        generalize ((op1.getD k default).1 : Int) = x0 at *
        generalize ((op1.getD k default).2.1 : Int) = x1 at *
        generalize ((op1.getD k default).2.2 : Int) = x2 at *
        go_wp2
        go_quiet (fail)
        go_wp2
        go_roundw
        case rel => exact ⟨k + 1, _, by omega, by go_num, HS2.out, rfl⟩
        case measure => simp [intOf]; omega
      · have hne2 : decide (op1 = op2 ∧ di1 = di2) = false := decide_eq_false (fun e => hxy (by rw [e.1]))
        have HD := Lib.hid (HR.out.symm.trans hne2)
        rw [Chr.el_eq] at hxy
        clear hne2 HS
        generalize ((op1.getD k default).1 : Int) = x0 at *
        generalize ((op1.getD k default).2.1 : Int) = x1 at *
        generalize ((op1.getD k default).2.2 : Int) = x2 at *
        generalize ((op2.getD k default).1 : Int) = y0 at *
        generalize ((op2.getD k default).2.1 : Int) = y1 at *
        generalize ((op2.getD k default).2.2 : Int) = y2 at *
        have hcase : (x0 == y0) = false ∨ ((x0 == y0) = true ∧ (x1 == y1) = false) ∨ ((x0 == y0) = true ∧ (x1 == y1) = true ∧ (x2 == y2) = false) := by
          simp only [beq_eq_false_iff_ne, beq_iff_eq]; omega
        clear hxy
        rcases hcase with e0 | ⟨e0, e1⟩ | ⟨e0, e1, e2⟩
        all_goals
          go_wp2
          go_quiet (fail)
          go_wp2
          go_ret
          exact ⟨ret_bool HD.out.symm, (HBW.out.goN _).goN _⟩
    · have hd : op1 = op2 := by
        have h2 := HT.out
        have h1 := HLO.out
        rw [List.take_of_length_le (by omega), List.take_of_length_le (by omega)] at h2
        exact h2
      have HChr := Lib.hid hd
      have hki : ¬ (k : Int) < (op1.length : Int) := by omega
      clear hd HT
      go_wp2_with fail
      clear hk hki hlt
      go_loopw [6] (fun i wr => ∃ k n : Nat, k ≤ di1.length ∧ i = .int .i64 k ∧ di1.take k = di2.take k ∧ wr = W.drewN n) (fun i _ => di1.length - (intOf i).toNat)
      case atStart => exact ⟨0, n5, by omega, rfl, by simp, rfl⟩
      case round =>
        obtain ⟨k, n6, hk, rfl, ht, rfl⟩ := hrel
        have HT := Lib.hid ht
        clear ht
        by_cases hlt : k < di1.length
        · have HS := Lib.hid (take_eq_step di1 di2 default k HLD.out hlt HT.out)
          have hk' : k < di2.length := by have := HLD.out; omega
          have la := HL.out.2
          obtain ⟨ba, oa, ga, hpa⟩ := HA.out.dirt.some (Nat.lt_of_le_of_lt (Nat.zero_le _) hlt)
          obtain ⟨bb, ob, gb, hpb⟩ := HB.out.dirt.some (Nat.lt_of_le_of_lt (Nat.zero_le _) hk')
          have HCA := HA.out.dirt
          have HCB := HB.out.dirt
          simp only [Value.slice.injEq, true_and] at hpa hpb
          obtain ⟨rfl, rfl⟩ := hpa
          obtain ⟨rfl, rfl⟩ := hpb
          have ca0 := HCA.at k hlt 0 (by decide)
          have ca1 := HCA.at k hlt 1 (by decide)
          have cb0 := HCB.at k hk' 0 (by decide)
          have cb1 := HCB.at k hk' 1 (by decide)
          clear HCA HCB
          simp only [Dir.enc, List.getElem?_cons_zero, List.getElem?_cons_succ, Nat.add_zero] at ca0 ca1 cb0 cb1
          have ki : (k : Int) < (di1.length : Int) := by omega
          have ki2 : (k : Int) < (di2.length : Int) := by omega
          by_cases hxy : di1.getD k default = di2.getD k default
          · have hs := HS.out hxy
            have HS2 := Lib.hid hs
            rw [← hxy] at cb0 cb1
            clear hs hxy HS
            generalize ((di1.getD k default).1 : Int) = x0 at *
            generalize ((di1.getD k default).2 : Int) = x1 at *
            go_wp2
            go_quiet (fail)
            go_wp2
            go_roundw
            case rel => exact ⟨k + 1, _, by omega, by go_num, HS2.out, rfl⟩
            case measure => simp [intOf]; omega
          · have hne2 : decide (op1 = op2 ∧ di1 = di2) = false := decide_eq_false (fun e => hxy (by rw [e.2]))
            have HD := Lib.hid (HR.out.symm.trans hne2)
            rw [Dir.el_eq] at hxy
            clear hne2 HS
            generalize ((di1.getD k default).1 : Int) = x0 at *
            generalize ((di1.getD k default).2 : Int) = x1 at *
            generalize ((di2.getD k default).1 : Int) = y0 at *
            generalize ((di2.getD k default).2 : Int) = y1 at *
            have hcase : (x0 == y0) = false ∨ ((x0 == y0) = true ∧ (x1 == y1) = false) := by
              simp only [beq_eq_false_iff_ne, beq_iff_eq]; omega
            clear hxy
            rcases hcase with e0 | ⟨e0, e1⟩
            all_goals
              go_wp2
              go_quiet (fail)
              go_wp2
              go_ret
              exact ⟨ret_bool HD.out.symm, (HBW.out.goN _).goN _⟩
        · have hd : di1 = di2 := by
            have h2 := HT.out
            have h1 := HLD.out
            rw [List.take_of_length_le (by omega), List.take_of_length_le (by omega)] at h2
            exact h2
          have HDir := Lib.hid hd
          have hki : ¬ (k : Int) < (di1.length : Int) := by omega
          clear hd HT
          go_wp2_with fail
          go_ret
          exact ⟨ret_bool (HR.out.symm.trans (decide_eq_true ⟨HChr.out, HDir.out⟩)).symm, HBW.out.goN _⟩
end Go.Proofs.Ytkchoelegdknoaa

namespace Go.Proofs.Ytkchoelegdknoaa
open Go.RowKit

theorem refSame_any (x1 x2 : Lr.R) (o1 n1 u1 c1 d1 o2 n2 u2 c2 d2 : Value) (w : World) (h1 : RecAt w x1 o1 n1 u1 c1 d1) (h2 : RecAt w x2 o2 n2 u2 c2 d2) (hl1 : x1.opn.length ≤ 1000000 ∧ x1.dirt.length ≤ 1000000) :
    Calls Try.prog 15 #[RecV x1 o1 n1 u1 c1 d1, RecV x2 o2 n2 u2 c2 d2] w fun e w' => e = .returned (.bool (Lr.same x1 x2)) ∧ Below w.heap.size w w' := by
  by_cases e_0 : x1.kind = x2.kind
  case neg =>
    rw [Lr.same_false fun e => e_0 (congrArg Lr.R.kind e)]
    exact refD0 x1 x2 _ _ _ _ _ _ _ _ _ _ w h1 h2 hl1  e_0
  by_cases e_1 : x1.lsn = x2.lsn
  case neg =>
    rw [Lr.same_false fun e => e_1 (congrArg Lr.R.lsn e)]
    exact refD1 x1 x2 _ _ _ _ _ _ _ _ _ _ w h1 h2 hl1 e_0 e_1
  by_cases e_2 : x1.epoch = x2.epoch
  case neg =>
    rw [Lr.same_false fun e => e_2 (congrArg Lr.R.epoch e)]
    exact refD2 x1 x2 _ _ _ _ _ _ _ _ _ _ w h1 h2 hl1 e_0 e_1 e_2
  by_cases e_3 : x1.txn = x2.txn
  case neg =>
    rw [Lr.same_false fun e => e_3 (congrArg Lr.R.txn e)]
    exact refD3 x1 x2 _ _ _ _ _ _ _ _ _ _ w h1 h2 hl1 e_0 e_1 e_2 e_3
  by_cases e_4 : x1.page = x2.page
  case neg =>
    rw [Lr.same_false fun e => e_4 (congrArg Lr.R.page e)]
    exact refD4 x1 x2 _ _ _ _ _ _ _ _ _ _ w h1 h2 hl1 e_0 e_1 e_2 e_3 e_4
  by_cases e_5 : x1.off = x2.off
  case neg =>
    rw [Lr.same_false fun e => e_5 (congrArg Lr.R.off e)]
    exact refD5 x1 x2 _ _ _ _ _ _ _ _ _ _ w h1 h2 hl1 e_0 e_1 e_2 e_3 e_4 e_5
  by_cases e_6 : x1.prev = x2.prev
  case neg =>
    rw [Lr.same_false fun e => e_6 (congrArg Lr.R.prev e)]
    exact refD6 x1 x2 _ _ _ _ _ _ _ _ _ _ w h1 h2 hl1 e_0 e_1 e_2 e_3 e_4 e_5 e_6
  by_cases e_7 : x1.next = x2.next
  case neg =>
    rw [Lr.same_false fun e => e_7 (congrArg Lr.R.next e)]
    exact refD7 x1 x2 _ _ _ _ _ _ _ _ _ _ w h1 h2 hl1 e_0 e_1 e_2 e_3 e_4 e_5 e_6 e_7
  by_cases e_8 : x1.clr = x2.clr
  case neg =>
    rw [Lr.same_false fun e => e_8 (congrArg Lr.R.clr e)]
    exact refD8 x1 x2 _ _ _ _ _ _ _ _ _ _ w h1 h2 hl1 e_0 e_1 e_2 e_3 e_4 e_5 e_6 e_7 e_8
  by_cases e_9 : x1.stamp = x2.stamp
  case neg =>
    rw [Lr.same_false fun e => e_9 (congrArg Lr.R.stamp e)]
    exact refD9 x1 x2 _ _ _ _ _ _ _ _ _ _ w h1 h2 hl1 e_0 e_1 e_2 e_3 e_4 e_5 e_6 e_7 e_8 e_9
  by_cases e_10 : x1.old = x2.old
  case neg =>
    rw [Lr.same_false fun e => e_10 (congrArg Lr.R.old e)]
    exact refD10 x1 x2 _ _ _ _ _ _ _ _ _ _ w h1 h2 hl1 e_0 e_1 e_2 e_3 e_4 e_5 e_6 e_7 e_8 e_9 e_10
  by_cases e_11 : x1.new = x2.new
  case neg =>
    rw [Lr.same_false fun e => e_11 (congrArg Lr.R.new e)]
    exact refD11 x1 x2 _ _ _ _ _ _ _ _ _ _ w h1 h2 hl1 e_0 e_1 e_2 e_3 e_4 e_5 e_6 e_7 e_8 e_9 e_10 e_11
  by_cases e_12 : x1.undo = x2.undo
  case neg =>
    rw [Lr.same_false fun e => e_12 (congrArg Lr.R.undo e)]
    exact refD12 x1 x2 _ _ _ _ _ _ _ _ _ _ w h1 h2 hl1 e_0 e_1 e_2 e_3 e_4 e_5 e_6 e_7 e_8 e_9 e_10 e_11 e_12
  by_cases hlo : x1.opn.length = x2.opn.length
  case neg =>
    rw [Lr.same_false fun e => hlo (by rw [e])]
    exact refDop x1 x2 _ _ _ _ _ _ _ _ _ _ w h1 h2 hl1 e_0 e_1 e_2 e_3 e_4 e_5 e_6 e_7 e_8 e_9 e_10 e_11 e_12 hlo
  by_cases hld : x1.dirt.length = x2.dirt.length
  case neg =>
    rw [Lr.same_false fun e => hld (by rw [e])]
    exact refDdi x1 x2 _ _ _ _ _ _ _ _ _ _ w h1 h2 hl1 e_0 e_1 e_2 e_3 e_4 e_5 e_6 e_7 e_8 e_9 e_10 e_11 e_12 hlo hld
  have hs : Lr.same x1 x2 = decide (x1.opn = x2.opn ∧ x1.dirt = x2.dirt) := by
    by_cases h : x1.opn = x2.opn ∧ x1.dirt = x2.dirt
    · rw [decide_eq_true h, Lr.same_true (Lr.mk_eq e_0 e_1 e_2 e_3 e_4 e_5 e_10 e_11 e_12 e_6 e_7 e_8 e_9 h.1 h.2)]
    · rw [decide_eq_false h, Lr.same_false fun e => h ⟨by rw [e], by rw [e]⟩]
  rw [hs]
  exact refTail x1 x2 _ _ _ _ _ _ _ _ _ _ w h1 h2 hl1 e_0 e_1 e_2 e_3 e_4 e_5 e_6 e_7 e_8 e_9 e_10 e_11 e_12 hlo hld
end Go.Proofs.Ytkchoelegdknoaa
