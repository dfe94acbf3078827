/- Slotted bodies as values: what reads as one, and one of a call's own. Conditions: none. -/
import Derived.Test.YtbfpmpomcaijcaaSlPure
import Derived.Test.YtbfpmpomcaijcaaByte
import Derived.Test.YtbfpmpomcaijcaaBo
import Derived.Test.YtbfpmpomcaijcaaSv
import Derived.Test.YtbfpmpomcaijcaaOff
import Derived.Test.YtbfpmpomcaijcaaTouch
import Derived.IntWalk
namespace Go.Proofs.Ytbfpmpomcaijcaa
open Go.RowKit

/-- A slotted body's value. -/
abbrev SlV (k n : Nat) (fv dv : Value) : Value := .agg #[.int .u8 (k : Int), .int .u32 (n : Int), fv, dv]
def FB (l : List Bool) : List Value := l.map Value.bool
theorem fb_length (l : List Bool) : (FB l).length = l.length := by simp [FB]
theorem fb_getD (l : List Bool) (i : Nat) : (FB l).getD i (.bool false) = .bool (l.getD i false) := by
  unfold FB
  simp only [List.getD_eq_getElem?_getD, List.getElem?_map]
  cases l[i]? <;> rfl
abbrev nilS : Value := .slice none 0 0

/-- A slice of byte slices that reads as a list of texts. -/
structure DAt (w : World) (dv : Value) (ls : List (List Nat)) : Prop where
  form : ∃ vs : List Value, Sv.Bts w dv vs ∧ vs.length = ls.length ∧ ∀ i, i < ls.length → Bts w (vs.getD i nilS) (ls.getD i [])
structure SlAt (w : World) (fv dv : Value) (s : Sl.S) : Prop where
  full : Bo.Bts w fv (FB s.full)
  data : DAt w dv s.data
  kind : s.kind < 256
  next : s.next < 4294967296
/-- .. of the call's own, each text in memory of its own too. -/
structure DOwn (base : Nat) (w : World) (dv : Value) (vs : List Value) (ls : List (List Nat)) : Prop where
  own : Sv.Own base w dv vs
  len : vs.length = ls.length
  each : ∀ i, i < ls.length → Own base w (vs.getD i nilS) (ls.getD i [])
structure SlOwn (base : Nat) (w : World) (fv dv : Value) (vs : List Value) (s : Sl.S) : Prop where
  full : Bo.Own base w fv (FB s.full)
  data : DOwn base w dv vs s.data
  kind : s.kind < 256
  next : s.next < 4294967296

section
variable {base base' : Nat} {w w' : World} {fv dv : Value} {vs : List Value} {ls : List (List Nat)} {s : Sl.S}
theorem DAt.below (h : DAt w dv ls) (hb : Below w.heap.size w w') : DAt w' dv ls := by
  obtain ⟨vs, h1, h2, h3⟩ := h.form
  exact ⟨vs, h1.below hb, h2, fun i hi => (h3 i hi).below hb⟩
theorem SlAt.below (h : SlAt w fv dv s) (hb : Below w.heap.size w w') : SlAt w' fv dv s := ⟨h.full.below hb, h.data.below hb, h.kind, h.next⟩
theorem DOwn.at (h : DOwn base w dv vs ls) : DAt w dv ls := ⟨vs, h.own.bts, h.len, fun i hi => (h.each i hi).bts⟩
theorem SlOwn.at (h : SlOwn base w fv dv vs s) : SlAt w fv dv s := ⟨h.full.bts, h.data.at, h.kind, h.next⟩
theorem DOwn.below (h : DOwn base w dv vs ls) (hb : Below w.heap.size w w') : DOwn base w' dv vs ls := ⟨h.own.below hb, h.len, fun i hi => (h.each i hi).below hb⟩
theorem SlOwn.below (h : SlOwn base w fv dv vs s) (hb : Below w.heap.size w w') : SlOwn base w' fv dv vs s := ⟨h.full.below hb, h.data.below hb, h.kind, h.next⟩
theorem DOwn.from (h : DOwn base w dv vs ls) (hb : base' ≤ base) : DOwn base' w dv vs ls := ⟨h.own.from hb, h.len, fun i hi => (h.each i hi).from hb⟩
theorem SlOwn.from (h : SlOwn base w fv dv vs s) (hb : base' ≤ base) : SlOwn base' w fv dv vs s := ⟨h.full.from hb, h.data.from hb, h.kind, h.next⟩
theorem FAt.form (h : Bo.Bts w fv (FB s.full)) : ∃ p cap, fv = .slice p s.full.length cap ∧ (s.full.length ≤ cap ∧ cap ≤ 9223372036854775807) ∧ (p = none → cap = 0) ∧ (0 < s.full.length → ∃ b off, p = some ⟨b, off, none⟩ ∧ ∀ i, i < s.full.length → w.cell? ⟨b, off + i, none⟩ = some (.bool (Sl.fa s i))) := by
  obtain ⟨p, cap, h1, h2, h3, h4⟩ := h.form
  rw [fb_length] at h1 h2 h4
  refine ⟨p, cap, h1, h2, h3, fun h0 => ?_⟩
  obtain ⟨b, off, e, hc⟩ := h4 h0
  refine ⟨b, off, e, fun i hi => ?_⟩
  rw [hc i hi, fb_getD]; rfl
theorem DAt.form2 (h : DAt w dv ls) : ∃ p cap, dv = .slice p ls.length cap ∧ (ls.length ≤ cap ∧ cap ≤ 9223372036854775807) ∧ (p = none → cap = 0) ∧ (0 < ls.length → ∃ b off, p = some ⟨b, off, none⟩ ∧ ∀ i, i < ls.length → ∃ q c, w.cell? ⟨b, off + i, none⟩ = some (.slice q (ls.getD i []).length c) ∧ Bts w (.slice q (ls.getD i []).length c) (ls.getD i [])) := by
  obtain ⟨vs, hv, hl, hb⟩ := h.form
  obtain ⟨p, cap, h1, h2, h3, h4⟩ := hv.form
  rw [hl] at h1 h2 h4
  refine ⟨p, cap, h1, h2, h3, fun h0 => ?_⟩
  obtain ⟨b, off, e, hc⟩ := h4 h0
  refine ⟨b, off, e, fun i hi => ?_⟩
  obtain ⟨q, c, e2, -⟩ := (hb i hi).form
  refine ⟨q, c, ?_, ?_⟩
  · rw [hc i hi, e2]
  · rw [← e2]; exact hb i hi
theorem slv_slices (h : SlAt w fv dv s) : ∃ p1 c1 p2 c2, fv = .slice p1 s.full.length c1 ∧ dv = .slice p2 s.data.length c2 := by
  obtain ⟨p1, c1, e1, -⟩ := FAt.form h.full
  obtain ⟨p2, c2, e2, -⟩ := h.data.form2
  exact ⟨p1, c1, p2, c2, e1, e2⟩
theorem DAt.len (h : DAt w dv ls) : ls.length ≤ 5864062014805 := by
  obtain ⟨vs, hv, hl, -⟩ := h.form
  have := hv.len
  omega
end

/-- A block of four cells. -/
theorem four_cell {w : World} {B : Nat} {a b c d : Value} {T : TypeId} (h : w.heap[B]? = some (.cells #[a, b, c, d] T (0, 0))) :
    w.cell? ⟨B, 0, none⟩ = some a ∧ w.cell? ⟨B, 1, none⟩ = some b ∧ w.cell? ⟨B, 2, none⟩ = some c ∧ w.cell? ⟨B, 3, none⟩ = some d := by
  refine ⟨?_, ?_, ?_, ?_⟩ <;> simp [World.cell?, h]
/-- A body handed in, in its block. -/
def sobj (k n : Nat) (fv dv : Value) : Obj := .cells #[.int .u8 (k : Int), .int .u32 (n : Int), fv, dv] 26
theorem sblk (w : World) (k n : Nat) (fv dv : Value) : (w.alloc (sobj k n fv dv)).heap[w.heap.size]? = some (.cells #[.int .u8 (k : Int), .int .u32 (n : Int), fv, dv] 26 (0, 0)) := heap_alloc_last _ _
end Go.Proofs.Ytbfpmpomcaijcaa
