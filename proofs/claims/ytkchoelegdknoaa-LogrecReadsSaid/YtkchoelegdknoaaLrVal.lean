/- Records of the log as values: what reads as one, and one of a call's own. Conditions: none. -/
import Derived.Test.YtkchoelegdknoaaChr
import Derived.Test.YtkchoelegdknoaaDir
import Derived.Test.YtkchoelegdknoaaTouch
import Derived.IntWalk
import Derived.WideShapes
import Derived.BigQuiet
import Derived.Deep.QuietTactic
import Derived.StillTailTactics
namespace Go.Proofs.Ytkchoelegdknoaa
open Go.RowKit

theorem _root_.Go.RowKit.Below.goN {B0 : Nat} {a b : World} (h : Below B0 a b) (n : Nat) : Below B0 a (b.drewN n) := ⟨h.os, h.tape, h.output, h.size, fun k hk => h.block k hk⟩
theorem _root_.Go.RowKit.Below.go1 {B0 : Nat} {a b : World} (h : Below B0 a b) : Below B0 a b.drew := ⟨h.os, h.tape, h.output, h.size, fun k hk => h.block k hk⟩
/-- A record's value. -/
abbrev RecV (x : Lr.R) (o n u c d : Value) : Value := .agg #[.int .i64 x.kind, .int .u64 (x.lsn : Int), .int .u32 (x.epoch : Int), .int .u64 (x.txn : Int), .int .u32 (x.page : Int), .int .u16 (x.off : Int), o, n, u, .int .u64 (x.prev : Int), .int .u64 (x.next : Int), .bool x.clr, .int .u64 (x.stamp : Int), c, d]
/-- .. in a block. -/
def robj (x : Lr.R) (o n u c d : Value) : Obj := .cells #[.int .i64 x.kind, .int .u64 (x.lsn : Int), .int .u32 (x.epoch : Int), .int .u64 (x.txn : Int), .int .u32 (x.page : Int), .int .u16 (x.off : Int), o, n, u, .int .u64 (x.prev : Int), .int .u64 (x.next : Int), .bool x.clr, .int .u64 (x.stamp : Int), c, d] 30
abbrev zeroV : Value := .agg #[.int .i64 0, .int .u64 0, .int .u32 0, .int .u64 0, .int .u32 0, .int .u16 0, .slice none 0 0, .slice none 0 0, .slice none 0 0, .int .u64 0, .int .u64 0, .bool false, .int .u64 0, .slice none 0 0, .slice none 0 0]
def zobj : Obj := .cells #[.int .i64 0, .int .u64 0, .int .u32 0, .int .u64 0, .int .u32 0, .int .u16 0, .slice none 0 0, .slice none 0 0, .slice none 0 0, .int .u64 0, .int .u64 0, .bool false, .int .u64 0, .slice none 0 0, .slice none 0 0] 30

structure RecAt (w : World) (x : Lr.R) (o n u c d : Value) : Prop where
  old : Bts w o x.old
  new : Bts w n x.new
  undo : Bts w u x.undo
  opn : Chr.Bts w c x.opn
  dirt : Dir.Bts w d x.dirt
  ok : Lr.Ok x
/-- .. of the call's own. -/
structure RecOwn (base : Nat) (w : World) (x : Lr.R) (o n u c d : Value) : Prop where
  old : Own base w o x.old
  new : Own base w n x.new
  undo : Own base w u x.undo
  opn : Chr.Own base w c x.opn
  dirt : Dir.Own base w d x.dirt
  ok : Lr.Ok x
section
variable {base base' : Nat} {w w' : World} {x : Lr.R} {o n u c d : Value}
theorem RecAt.below (h : RecAt w x o n u c d) (hb : Below w.heap.size w w') : RecAt w' x o n u c d := ⟨h.old.below hb, h.new.below hb, h.undo.below hb, h.opn.below hb, h.dirt.below hb, h.ok⟩
theorem RecOwn.below (h : RecOwn base w x o n u c d) (hb : Below w.heap.size w w') : RecOwn base w' x o n u c d := ⟨h.old.below hb, h.new.below hb, h.undo.below hb, h.opn.below hb, h.dirt.below hb, h.ok⟩
theorem RecOwn.from (h : RecOwn base w x o n u c d) (hb : base' ≤ base) : RecOwn base' w x o n u c d := ⟨h.old.from hb, h.new.from hb, h.undo.from hb, h.opn.from hb, h.dirt.from hb, h.ok⟩
theorem RecOwn.at (h : RecOwn base w x o n u c d) : RecAt w x o n u c d := ⟨h.old.bts, h.new.bts, h.undo.bts, h.opn.bts, h.dirt.bts, h.ok⟩
theorem ok_zero : Lr.Ok Lr.zero := by
  refine ⟨by decide, by decide, by decide, by decide, by decide, by decide, ?_, ?_, ?_, by decide, by decide, by decide, ?_, ?_⟩ <;> intro b hb <;> cases hb
theorem zero_own (base : Nat) (w : World) : RecOwn base w Lr.zero (.slice none 0 0) (.slice none 0 0) (.slice none 0 0) (.slice none 0 0) (.slice none 0 0) := ⟨own_nil _ _, own_nil _ _, own_nil _ _, Chr.own_nil _ _, Dir.own_nil _ _, ok_zero⟩
theorem Bts.slice {v : Value} {l : List Nat} (h : Bts w v l) : ∃ p cap, v = .slice p l.length cap := by
  obtain ⟨p, cap, hv, -⟩ := h.form
  exact ⟨p, cap, hv⟩
theorem rec_slices (h : RecAt w x o n u c d) : ∃ p1 c1 p2 c2 p3 c3 p4 c4 p5 c5, o = .slice p1 x.old.length c1 ∧ n = .slice p2 x.new.length c2 ∧ u = .slice p3 x.undo.length c3 ∧ c = .slice p4 x.opn.length c4 ∧ d = .slice p5 x.dirt.length c5 := by
  obtain ⟨p1, c1, e1⟩ := h.old.slice
  obtain ⟨p2, c2, e2⟩ := h.new.slice
  obtain ⟨p3, c3, e3⟩ := h.undo.slice
  obtain ⟨p4, c4, e4⟩ := h.opn.slice
  obtain ⟨p5, c5, e5⟩ := h.dirt.slice
  exact ⟨p1, c1, p2, c2, p3, c3, p4, c4, p5, c5, e1, e2, e3, e4, e5⟩
end
/-- A block of fifteen cells. -/
theorem rec_cell {w : World} {B : Nat} {a0 a1 a2 a3 a4 a5 a6 a7 a8 a9 a10 a11 a12 a13 a14 : Value} {T : TypeId} (h : w.heap[B]? = some (.cells #[a0, a1, a2, a3, a4, a5, a6, a7, a8, a9, a10, a11, a12, a13, a14] T (0, 0))) : w.cell? ⟨B, 0, none⟩ = some a0 ∧ w.cell? ⟨B, 1, none⟩ = some a1 ∧ w.cell? ⟨B, 2, none⟩ = some a2 ∧ w.cell? ⟨B, 3, none⟩ = some a3 ∧ w.cell? ⟨B, 4, none⟩ = some a4 ∧ w.cell? ⟨B, 5, none⟩ = some a5 ∧ w.cell? ⟨B, 6, none⟩ = some a6 ∧ w.cell? ⟨B, 7, none⟩ = some a7 ∧ w.cell? ⟨B, 8, none⟩ = some a8 ∧ w.cell? ⟨B, 9, none⟩ = some a9 ∧ w.cell? ⟨B, 10, none⟩ = some a10 ∧ w.cell? ⟨B, 11, none⟩ = some a11 ∧ w.cell? ⟨B, 12, none⟩ = some a12 ∧ w.cell? ⟨B, 13, none⟩ = some a13 ∧ w.cell? ⟨B, 14, none⟩ = some a14 := by
  refine ⟨?_, ?_, ?_, ?_, ?_, ?_, ?_, ?_, ?_, ?_, ?_, ?_, ?_, ?_, ?_⟩ <;> simp [World.cell?, h]
theorem rec_free {w : World} {B : Nat} {A : Array Value} {T : TypeId} (h : w.heap[B]? = some (.cells A T (0, 0))) (i : Nat) : w.frozen? ⟨B, i, none⟩ = false := by simp [World.frozen?, h]
theorem rec_set {w : World} {B i : Nat} {A : Array Value} {T : TypeId} (v : Value) (h : w.heap[B]? = some (.cells A T (0, 0))) : (w.setCell ⟨B, i, none⟩ v).heap[B]? = some (.cells (A.setIfInBounds i v) T (0, 0)) := by
  have hlt := lt_of_block h
  have h' : w.heap[B] = .cells A T (0, 0) := by simpa [Array.getElem?_eq_getElem hlt] using h
  show (w.heap.modify B _)[B]? = _
  rw [Array.getElem?_eq_getElem (by simpa using hlt), Array.getElem_modify_self, h']
  rfl
theorem rblk (w : World) (x : Lr.R) (o n u c d : Value) : (w.alloc (robj x o n u c d)).heap[w.heap.size]? = some (.cells #[.int .i64 x.kind, .int .u64 (x.lsn : Int), .int .u32 (x.epoch : Int), .int .u64 (x.txn : Int), .int .u32 (x.page : Int), .int .u16 (x.off : Int), o, n, u, .int .u64 (x.prev : Int), .int .u64 (x.next : Int), .bool x.clr, .int .u64 (x.stamp : Int), c, d] 30 (0, 0)) := heap_alloc_last _ _
theorem zblk (w : World) : (w.alloc zobj).heap[w.heap.size]? = some (.cells #[.int .i64 0, .int .u64 0, .int .u32 0, .int .u64 0, .int .u32 0, .int .u16 0, .slice none 0 0, .slice none 0 0, .slice none 0 0, .int .u64 0, .int .u64 0, .bool false, .int .u64 0, .slice none 0 0, .slice none 0 0] 30 (0, 0)) := heap_alloc_last _ _
theorem below_new1 (w : World) (o : Obj) : Below w.heap.size w (w.alloc o) := (Below.refl _ _).alloc (Nat.le_refl _) _
theorem ret_bool {a b : Bool} (h : a = b) : Ending.returned (.bool a) = .returned (.bool b) := by rw [h]
/-- A whole record stored over another. -/
theorem rec_stored {w : World} {B : Nat} {z0 z1 z2 z3 z4 z5 z6 z7 z8 z9 z10 z11 z12 z13 z14 : Value} {T : TypeId} (a0 a1 a2 a3 a4 a5 a6 a7 a8 a9 a10 a11 a12 a13 a14 : Value) (h : w.heap[B]? = some (.cells #[z0, z1, z2, z3, z4, z5, z6, z7, z8, z9, z10, z11, z12, z13, z14] T (0, 0))) : (((((((((((((((w.setCell ⟨B, 0, none⟩ a0).setCell ⟨B, 1, none⟩ a1).setCell ⟨B, 2, none⟩ a2).setCell ⟨B, 3, none⟩ a3).setCell ⟨B, 4, none⟩ a4).setCell ⟨B, 5, none⟩ a5).setCell ⟨B, 6, none⟩ a6).setCell ⟨B, 7, none⟩ a7).setCell ⟨B, 8, none⟩ a8).setCell ⟨B, 9, none⟩ a9).setCell ⟨B, 10, none⟩ a10).setCell ⟨B, 11, none⟩ a11).setCell ⟨B, 12, none⟩ a12).setCell ⟨B, 13, none⟩ a13).setCell ⟨B, 14, none⟩ a14).heap[B]? = some (.cells #[a0, a1, a2, a3, a4, a5, a6, a7, a8, a9, a10, a11, a12, a13, a14] T (0, 0)) ∧ w.grownBy (((((((((((((((w.setCell ⟨B, 0, none⟩ a0).setCell ⟨B, 1, none⟩ a1).setCell ⟨B, 2, none⟩ a2).setCell ⟨B, 3, none⟩ a3).setCell ⟨B, 4, none⟩ a4).setCell ⟨B, 5, none⟩ a5).setCell ⟨B, 6, none⟩ a6).setCell ⟨B, 7, none⟩ a7).setCell ⟨B, 8, none⟩ a8).setCell ⟨B, 9, none⟩ a9).setCell ⟨B, 10, none⟩ a10).setCell ⟨B, 11, none⟩ a11).setCell ⟨B, 12, none⟩ a12).setCell ⟨B, 13, none⟩ a13).setCell ⟨B, 14, none⟩ a14) (some B) := by
  have h0 := rec_set (i := 0) a0 h
  simp only [List.setIfInBounds_toArray, List.set_cons_zero] at h0
  have h1 := rec_set (i := 1) a1 h0
  simp only [List.setIfInBounds_toArray, List.set_cons_zero, List.set_cons_succ] at h1
  have h2 := rec_set (i := 2) a2 h1
  simp only [List.setIfInBounds_toArray, List.set_cons_zero, List.set_cons_succ] at h2
  have h3 := rec_set (i := 3) a3 h2
  simp only [List.setIfInBounds_toArray, List.set_cons_zero, List.set_cons_succ] at h3
  have h4 := rec_set (i := 4) a4 h3
  simp only [List.setIfInBounds_toArray, List.set_cons_zero, List.set_cons_succ] at h4
  have h5 := rec_set (i := 5) a5 h4
  simp only [List.setIfInBounds_toArray, List.set_cons_zero, List.set_cons_succ] at h5
  have h6 := rec_set (i := 6) a6 h5
  simp only [List.setIfInBounds_toArray, List.set_cons_zero, List.set_cons_succ] at h6
  have h7 := rec_set (i := 7) a7 h6
  simp only [List.setIfInBounds_toArray, List.set_cons_zero, List.set_cons_succ] at h7
  have h8 := rec_set (i := 8) a8 h7
  simp only [List.setIfInBounds_toArray, List.set_cons_zero, List.set_cons_succ] at h8
  have h9 := rec_set (i := 9) a9 h8
  simp only [List.setIfInBounds_toArray, List.set_cons_zero, List.set_cons_succ] at h9
  have h10 := rec_set (i := 10) a10 h9
  simp only [List.setIfInBounds_toArray, List.set_cons_zero, List.set_cons_succ] at h10
  have h11 := rec_set (i := 11) a11 h10
  simp only [List.setIfInBounds_toArray, List.set_cons_zero, List.set_cons_succ] at h11
  have h12 := rec_set (i := 12) a12 h11
  simp only [List.setIfInBounds_toArray, List.set_cons_zero, List.set_cons_succ] at h12
  have h13 := rec_set (i := 13) a13 h12
  simp only [List.setIfInBounds_toArray, List.set_cons_zero, List.set_cons_succ] at h13
  have h14 := rec_set (i := 14) a14 h13
  simp only [List.setIfInBounds_toArray, List.set_cons_zero, List.set_cons_succ] at h14
  refine ⟨h14, ?_⟩
  iterate 14 refine grownBy_trans ?_ (grownBy_setCell _ _ _ _)
  exact grownBy_setCell _ _ _ _
end Go.Proofs.Ytkchoelegdknoaa
