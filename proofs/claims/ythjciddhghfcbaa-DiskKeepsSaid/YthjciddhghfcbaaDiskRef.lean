/- The document's device in memory, and what its small calls answer. Conditions: the device's blocks. -/
import Derived.Test.YthjciddhghfcbaaTouch
import Derived.Test.YthjciddhghfcbaaDiskPure
import Derived.Lib.SmallJoins
import Derived.IntWalk
namespace Go.Proofs.Ythjciddhghfcbaa
open Go.RowKit

/-- A text's value; nothing waits: the empty text. -/
def sv (b : List Nat) : Value := .string (strOfNums (b.map fun x : Nat => (x : Int)))
def wv (o : Option (List Nat)) : Value := sv (o.getD [])

theorem blk_cell {w : World} {B : Nat} {arr : Array Value} {T : TypeId} (h : w.heap[B]? = some (.cells arr T (0, 0))) (i : Nat) {v : Value} (hv : arr[i]? = some v) : w.cell? ⟨B, i, none⟩ = some v := by
  rw [cell_of_row _ _ _ _ _ _ h]; exact hv
theorem blk_free {w : World} {B : Nat} {arr : Array Value} {T : TypeId} (h : w.heap[B]? = some (.cells arr T (0, 0))) (i : Nat) : w.frozen? ⟨B, i, none⟩ = false := by simp [World.frozen?, h]
theorem blk_set {w : World} {B i : Nat} {arr : Array Value} {T : TypeId} (h : w.heap[B]? = some (.cells arr T (0, 0))) (u : Value) : (w.setCell ⟨B, i, none⟩ u).heap[B]? = some (.cells (arr.setIfInBounds i u) T (0, 0)) := Joins.block_setCell h u
theorem blk_map {α : Type} {w : World} {B i : Nat} {f : α → Value} {l : List α} {T : TypeId} (h : w.heap[B]? = some (.cells (l.map f).toArray T (0, 0))) (x : α) : (w.setCell ⟨B, i, none⟩ (f x)).heap[B]? = some (.cells ((l.set i x).map f).toArray T (0, 0)) := by
  rw [blk_set h]
  congr 2
  simp [List.map_set]
theorem blk_at {α : Type} {w : World} {B i : Nat} {f : α → Value} {l : List α} {T : TypeId} (h : w.heap[B]? = some (.cells (l.map f).toArray T (0, 0))) (d : α) (hi : i < l.length) : w.cell? ⟨B, i, none⟩ = some (f (l.getD i d)) :=
  blk_cell h i (by simp [List.getElem?_eq_getElem hi])

/-- The device's four blocks. -/
structure RDev (w : World) (B g1 g2 g3 : Nat) (d : Dk.Dev) : Prop where
  blk : w.heap[B]? = some (.cells #[.slice (some ⟨g1, 0, none⟩) (Dk.size d) (Dk.size d), .slice (some ⟨g2, 0, none⟩) (Dk.size d) (Dk.size d), .slice (some ⟨g3, 0, none⟩) (Dk.size d) (Dk.size d), .int .i64 (d.most : Int), .int .i64 (d.armed : Int), .bool d.off] 61 (0, 0))
  lasts : w.heap[g1]? = some (.cells (d.lasts.map sv).toArray 9 (0, 0))
  waits : w.heap[g2]? = some (.cells (d.waits.map wv).toArray 9 (0, 0))
  seen : w.heap[g3]? = some (.cells (d.seen.map Value.bool).toArray 4 (0, 0))
  b1 : B ≠ g1
  b2 : B ≠ g2
  b3 : B ≠ g3
  n12 : g1 ≠ g2
  n13 : g1 ≠ g3
  n23 : g2 ≠ g3
  ok : Dk.Ok d
  arm : d.armed ≤ 1073741824
  most : d.most ≤ Dk.size d
  sz : Dk.size d ≤ 65536

/-- The blocks that it may write. -/
def RS (B g1 g2 g3 : Nat) (i : Nat) : Prop := i = B ∨ i = g1 ∨ i = g2 ∨ i = g3

theorem RDev.keep {w w' : World} {B g1 g2 g3 : Nat} {d : Dk.Dev} {S : Nat → Prop} (h : RDev w B g1 g2 g3 d) (ht : Touch S w w') (hs : ∀ i, RS B g1 g2 g3 i → ¬ S i) : RDev w' B g1 g2 g3 d :=
  ⟨ht.row h.blk (hs _ (Or.inl rfl)), ht.row h.lasts (hs _ (Or.inr (Or.inl rfl))), ht.row h.waits (hs _ (Or.inr (Or.inr (Or.inl rfl)))), ht.row h.seen (hs _ (Or.inr (Or.inr (Or.inr rfl)))), h.b1, h.b2, h.b3, h.n12, h.n13, h.n23, h.ok, h.arm, h.most, h.sz⟩

theorem RDev.below {w w' : World} {B g1 g2 g3 : Nat} {d : Dk.Dev} (h : RDev w B g1 g2 g3 d) (hb : Below w.heap.size w w') : RDev w' B g1 g2 g3 d := by
  refine h.keep (S := fun i => w.heap.size ≤ i) (.of_below hb fun i _ hi => hi) fun i hi => ?_
  rcases hi with rfl | rfl | rfl | rfl
  · have := lt_of_block h.blk; omega
  · have := lt_of_block h.lasts; omega
  · have := lt_of_block h.waits; omega
  · have := lt_of_block h.seen; omega

/-- The device's own block alone is turned. -/
theorem RDev.turn {w w' : World} {B g1 g2 g3 : Nat} {d : Dk.Dev} (h : RDev w B g1 g2 g3 d) (hg : w.grownBy w' (some B)) (m : Nat) (o : Bool) (hm : m ≤ 1073741824)
    (hb : w'.heap[B]? = some (.cells #[.slice (some ⟨g1, 0, none⟩) (Dk.size d) (Dk.size d), .slice (some ⟨g2, 0, none⟩) (Dk.size d) (Dk.size d), .slice (some ⟨g3, 0, none⟩) (Dk.size d) (Dk.size d), .int .i64 (d.most : Int), .int .i64 (m : Int), .bool o] 61 (0, 0))) : RDev w' B g1 g2 g3 { d with armed := m, off := o } := by
  have ht : Touch (fun i => i = B) w w' := .of_grown hg rfl
  exact ⟨hb, ht.row h.lasts (fun e => h.b1 e.symm), ht.row h.waits (fun e => h.b2 e.symm), ht.row h.seen (fun e => h.b3 e.symm), h.b1, h.b2, h.b3, h.n12, h.n13, h.n23, ⟨h.ok.w, h.ok.s, h.ok.l1, h.ok.w1⟩, hm, h.most, h.sz⟩

set_option maxHeartbeats 800000 in
set_option maxRecDepth 20000 in
theorem refGoes_any (B g1 g2 g3 : Nat) (d : Dk.Dev) (w : World) (hR : RDev w B g1 g2 g3 d) :
    Calls Try.prog 41 #[.pointer (some ⟨B, 0, none⟩)] w fun e w' => e = .returned (.bool (Dk.goes d).off) ∧ RDev w' B g1 g2 g3 (Dk.goes d) ∧ w.grownBy w' (some B) := by
  have HR := Lib.hid hR
  have harm := hR.arm
  have hb := hR.blk
  have c4' := blk_cell hb 4 (v := .int .i64 (d.armed : Int)) rfl
  have c5 := blk_cell hb 5 (v := .bool d.off) rfl
  have f4 := blk_free hb 4
  by_cases ha : 0 < d.armed
  · have hg : Dk.goes d = { d with armed := d.armed - 1, off := decide (d.armed - 1 = 0) } := if_pos ha
    rw [hg]
    obtain ⟨m, hm⟩ : ∃ m, d.armed = m + 1 := ⟨d.armed - 1, by omega⟩
    have hm2 : d.armed - 1 = m := by omega
    rw [hm2]
    have HM := Lib.hid hm
    obtain ⟨z, hz⟩ : ∃ z, decide (m = 0) = z := ⟨_, rfl⟩
    have hz2 : ((m : Int) == 0) = z := by rw [← hz, Bool.eq_iff_iff]; simp
    rw [hz]
    have s1 := blk_set (i := 4) hb (.int .i64 (m : Int))
    have d4 := blk_cell s1 4 (v := .int .i64 (m : Int)) rfl
    have e5 := blk_cell s1 5 (v := .bool d.off) rfl
    have f5 := blk_free s1 5
    have s2 := blk_set (i := 5) s1 (.bool z)
    have d5 := blk_cell s2 5 (v := .bool z) rfl
    have HG := Lib.hid (grownBy_trans (grownBy_setCell w B 4 (.int .i64 (m : Int))) (grownBy_setCell _ B 5 (.bool z)))
    have HT := Lib.hid (hR.turn HG.out m z (by omega) s2)
    have hmi : (d.armed : Int) = (m : Int) + 1 := by omega
    have c4 : w.cell? ⟨B, 4, none⟩ = some (.int .i64 ((m : Int) + 1)) := by rw [← hmi]; exact c4'
    have hml : m ≤ 1073741824 := by omega
    clear hg hm hm2 hb s1 s2 hmi ha harm hz c4'
    go_enter Try.func41, Try.ntmps41
    go_wp2_with fail
    go_ret
    exact ⟨rfl, HT.out, HG.out⟩
  · have hg : Dk.goes d = d := if_neg ha
    rw [hg]
    have ha0 : d.armed = 0 := by omega
    have c4 : w.cell? ⟨B, 4, none⟩ = some (.int .i64 0) := by rw [show (0 : Int) = (d.armed : Int) by omega]; exact c4'
    clear hg hb ha c4'
    go_enter Try.func41, Try.ntmps41
    go_wp2
    go_ret
    exact ⟨rfl, HR.out, grownBy_refl _ _⟩
end Go.Proofs.Ythjciddhghfcbaa
