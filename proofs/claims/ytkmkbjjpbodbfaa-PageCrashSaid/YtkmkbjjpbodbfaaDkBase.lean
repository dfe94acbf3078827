/- Blocks, bytes of a call's own, and a device plainly: what the program's device needs. Conditions: none. -/
import Derived.Test.YtkmkbjjpbodbfaaTouch
import Derived.Test.YtkmkbjjpbodbfaaDiskPure
import Derived.Test.YtkmkbjjpbodbfaaInts
import Derived.Lib.SmallJoins
import Derived.IntWalk
namespace Go.Proofs.Ytkmkbjjpbodbfaa
open Go.RowKit

theorem blk_cell {w : World} {B : Nat} {arr : Array Value} {T : TypeId} (h : w.heap[B]? = some (.cells arr T (0, 0))) (i : Nat) {v : Value} (hv : arr[i]? = some v) : w.cell? ⟨B, i, none⟩ = some v := by
  rw [cell_of_row _ _ _ _ _ _ h]; exact hv
theorem blk_free {w : World} {B : Nat} {arr : Array Value} {T : TypeId} (h : w.heap[B]? = some (.cells arr T (0, 0))) (i : Nat) : w.frozen? ⟨B, i, none⟩ = false := by simp [World.frozen?, h]
theorem blk_set {w : World} {B i : Nat} {arr : Array Value} {T : TypeId} (h : w.heap[B]? = some (.cells arr T (0, 0))) (u : Value) : (w.setCell ⟨B, i, none⟩ u).heap[B]? = some (.cells (arr.setIfInBounds i u) T (0, 0)) := Joins.block_setCell h u
theorem blk_map {α : Type} {w : World} {B i : Nat} {f : α → Value} {l : List α} {T : TypeId} (h : w.heap[B]? = some (.cells (l.map f).toArray T (0, 0))) (x : α) : (w.setCell ⟨B, i, none⟩ (f x)).heap[B]? = some (.cells ((l.set i x).map f).toArray T (0, 0)) := by
  rw [blk_set h]
  congr 2
  simp [List.map_set]
theorem blk_at {α : Type} {w : World} {B i : Nat} {f : α → Value} {l : List α} {T : TypeId} (h : w.heap[B]? = some (.cells (l.map f).toArray T (0, 0))) (d : α) (hi : i < l.length) : w.cell? ⟨B, i, none⟩ = some (f (l.getD i d)) :=
  blk_cell h i (by simp [List.getElem?_eq_getElem hi])
/-- A row of bytes that may be written, whatever they are, in a block of any type. -/
def RowT (w : World) (g n : Nat) : Prop := ∃ (cur : Array Value) (T : TypeId), w.heap[g]? = some (.cells cur T (0, 0)) ∧ n ≤ cur.size ∧ ∀ i, i < n → ∃ b : Nat, b < 256 ∧ cur[i]? = some (.int .u8 (b : Int))
theorem RowT.cell {w : World} {g n : Nat} (h : RowT w g n) (i : Nat) (hi : i < n) : ∃ b : Nat, b < 256 ∧ w.cell? ⟨g, i, none⟩ = some (.int .u8 (b : Int)) := by
  obtain ⟨cur, T, hh, hs, hc⟩ := h
  obtain ⟨b, hb, hcur⟩ := hc i hi
  exact ⟨b, hb, by rw [cell_of_row _ g i cur T (0, 0) hh]; exact hcur⟩
theorem RowT.free {w : World} {g n : Nat} (h : RowT w g n) (i : Nat) : w.frozen? ⟨g, i, none⟩ = false := by
  obtain ⟨cur, T, hh, hs, hc⟩ := h
  simp [World.frozen?, hh]
theorem RowT.set {w : World} {g n : Nat} (h : RowT w g n) (i b : Nat) (hb : b < 256) : RowT (w.setCell ⟨g, i, none⟩ (.int .u8 (b : Int))) g n := by
  obtain ⟨cur, T, hh, hs, hc⟩ := h
  have hlt := lt_of_block hh
  have h' : w.heap[g] = .cells cur T (0, 0) := by simpa [Array.getElem?_eq_getElem hlt] using hh
  refine ⟨cur.setIfInBounds i (.int .u8 (b : Int)), T, ?_, by simpa using hs, fun j hj => ?_⟩
  · show (w.heap.modify g _)[g]? = _
    rw [Array.getElem?_eq_getElem (by simpa using hlt), Array.getElem_modify_self, h']
    rfl
  · obtain ⟨c, hc1, hc2⟩ := hc j hj
    by_cases hij : i = j
    · subst hij
      exact ⟨b, hb, by rw [Array.getElem?_setIfInBounds_self_of_lt (by omega)]⟩
    · exact ⟨c, hc1, by rw [Array.getElem?_setIfInBounds_ne hij]; exact hc2⟩
/-- Bytes of the call's own, in whatever block: they read so, and may be written. -/
structure Mine (base : Nat) (w : World) (v : Value) (l : List Nat) : Prop where
  bts : Bts w v l
  row : 0 < l.length → ∃ g cap, v = .slice (some ⟨g, 0, none⟩) l.length cap ∧ base ≤ g ∧ g < w.heap.size ∧ l.length ≤ cap ∧ cap ≤ 9223372036854775807 ∧ RowT w g l.length
theorem Mine.len {base : Nat} {w : World} {v : Value} {l : List Nat} (h : Mine base w v l) : l.length ≤ 140737488355328 := h.bts.len
theorem bts_none (w : World) : Bts w (.slice none 0 0) [] := ⟨⟨none, 0, rfl, by decide, fun _ => rfl, fun h => absurd h (by decide)⟩, by simp, by decide⟩
def badNew (n most : Int) : Prop := n < 1 ∨ 65536 < n ∨ most < 0 ∨ n < most
theorem okk_small (x : Nat) (h : x ≤ 65536) : Ints.Okk (x : Int) := by
  have h1 : IntKind.i64.min = -9223372036854775808 := rfl
  have h2 : IntKind.i64.max = 9223372036854775807 := rfl
  unfold Ints.Okk
  simp only [Lit.wf, Bool.and_eq_true, decide_eq_true_eq]
  omega
namespace Dk
theorem goes_size (d : Dev) : size (goes d) = size d := by unfold size; rw [(goes_same d).1]
theorem goes_idle {d : Dev} (h : d.armed = 0) : goes d = d := if_neg (by omega)
/-- A write that can not be refused, on a device that is not armed. -/
theorem write_fine {d : Dev} {i : Nat} {b : List Nat} (ho : d.off = false) (ha : d.armed = 0) (hi : i < size d) (hb : b.length = 128) (hu : used d < d.most ∨ d.seen.getD i false = true) :
    write d (i : Int) b = (put d i b, 0) := by
  have h1 : ¬ (d.off = true) := by rw [ho]; decide
  have h2 : ¬ (bad d (i : Int) ∨ b.length ≠ 128) := by unfold bad; omega
  have h3 : ¬ (d.seen.getD (i : Int).toNat false = false ∧ d.most ≤ used d) := by
    rw [Int.toNat_natCast]
    rintro ⟨h3, h4⟩
    rcases hu with h | h
    · omega
    · rw [h] at h3; cases h3
  unfold write
  rw [if_neg h1, if_neg h2, if_neg h3, Int.toNat_natCast, goes_idle (d := put d i b) ha]
  rw [if_neg (by show ¬ (d.off = true); exact h1)]
theorem sync_fine {d : Dev} (ho : d.off = false) (ha : d.armed = 0) : sync d = (last d, 0) := by
  unfold sync
  rw [goes_idle ha, if_neg (by rw [ho]; decide), if_neg (by rw [ho]; decide)]
theorem read_fine {d : Dev} {i : Nat} (ho : d.off = false) (hi : i < size d) : read d (i : Int) = ((d.waits.getD i none).getD (d.lasts.getD i []), 0) := by
  unfold read
  rw [if_neg (by rw [ho]; decide), if_neg (by unfold bad; omega), Int.toNat_natCast]
/-- How many of the first k sectors wait. -/
def cnt (d : Dev) (k : Nat) : Nat := (d.waits.take k).countP Option.isSome
theorem cnt_le (d : Dev) (k : Nat) : cnt d k ≤ k := Nat.le_trans List.countP_le_length (by rw [List.length_take]; omega)
theorem cnt_next (d : Dev) (k : Nat) (hk : k < d.waits.length) : cnt d (k + 1) = cnt d k + if (d.waits.getD k none).isSome then 1 else 0 := by
  unfold cnt
  rw [List.take_succ_eq_append_getElem hk, List.countP_append, List.getD_eq_getElem?_getD, List.getElem?_eq_getElem hk, Option.getD_some]
  cases d.waits[k] <;> simp
theorem crashL_getD : ∀ (ws : List (Option (List Nat))) (ls : List (List Nat)) (ps : List Nat) (k : Nat), ws.length = ls.length → k < ls.length →
    (crashL ws ls ps).getD k [] = match ws.getD k none with | none => ls.getD k [] | some b => pick (ps.getD ((ws.take k).countP Option.isSome) 0) (ls.getD k []) b
  | [], [], _, _, _, h => by simp at h
  | none :: ws, l :: ls, ps, 0, _, _ => rfl
  | some b :: ws, l :: ls, ps, 0, _, _ => by cases ps <;> rfl
  | none :: ws, l :: ls, ps, k + 1, h1, h2 => by
    have h := crashL_getD ws ls ps k (by simpa using h1) (by simpa using h2)
    simpa [crashL] using h
  | some b :: ws, l :: ls, ps, k + 1, h1, h2 => by
    have h := crashL_getD ws ls ps.tail k (by simpa using h1) (by simpa using h2)
    have e : ∀ j, ps.tail.getD j 0 = ps.getD (j + 1) 0 := fun j => by cases ps <;> simp
    rw [e] at h
    simpa [crashL] using h
  | [], _ :: _, _, _, h, _ => by simp at h
  | _ :: _, [], _, _, h, _ => by simp at h
end Dk
end Go.Proofs.Ytkmkbjjpbodbfaa
