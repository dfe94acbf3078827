/- Parts of a proof. Conditions: as each row says. -/
import Derived.Test.YtbpodmallknhfaaGreatAr03
import Derived.Test.YtbpodmallknhfaaGreatAr08
import Derived.Test.YtbpodmallknhfaaGreatAr09
import Derived.Deep.WholeRow
import Derived.ArgAppend
import Derived.Laws.IdiomCopy
import Derived.Maps.AppendAt
namespace Go.Proofs.YtbpodmallknhfaaGreat.Wl
open Go.Proofs.YtbpodmallknhfaaGreat
structure S where
  recs : List Lr.R
  start : Nat
  stop : Nat
  flushed : Nat
  point : Nat
  epoch : Nat
  at_ : Nat
  count : Nat
def fresh (a count : Nat) : S := ⟨[], 52, 52, 52, 0, 1, a, count⟩
def size (x : Lr.R) : Nat := (Lr.form x).length
def stamp (s : S) (x : Lr.R) : Lr.R := { x with lsn := s.stop, epoch := s.epoch }
def left (s : S) : Int := (((s.start / 52 + 2 * s.count) * 52 : Nat) : Int) - (s.stop : Int)
def flush (s : S) : S := { s with flushed := s.stop }
def find (s : S) (lsn : Nat) : Option Lr.R := s.recs.find? (fun x => x.lsn == lsn)
def placeOf (s : S) (k : Nat) : Nat := match s.recs[k]? with
  | some x => x.lsn
  | none => s.stop
def cut (s : S) (k : Nat) : S := { s with recs := s.recs.take k, stop := placeOf s k, flushed := placeOf s k, epoch := s.epoch + 1 }
def Fits (n : Nat) (a c : Int) : Prop := 16 ≤ c ∧ c ≤ 8192 ∧ 0 ≤ a ∧ a + c + 2 ≤ n
structure Calm (n : Nat) (d : Dk.Dev) : Prop where
  off : d.off = false
  armed : d.armed = 0
  sz : Dk.size d = n
  most : d.most = n
structure Near (n : Nat) (d : Dk.Dev) : Prop where
  ok : Dk.Ok d
  sz : Dk.size d = n
  most : d.most = n
theorem calm_fresh {n : Nat} : Calm n (Dk.fresh n n) := ⟨rfl, rfl, by show (List.replicate n Dk.blank).length = n; rw [List.length_replicate], rfl⟩
theorem Near.crash {n : Nat} {d : Dk.Dev} (h : Near n d) (ps : List Nat) : Calm n (Dk.crash d ps) :=
  ⟨rfl, rfl, by show (Dk.crashL d.waits d.lasts ps).length = n; rw [Dk.crashL_length _ _ _ h.ok.w]; exact h.sz, h.most⟩
def chain : Nat → List Lr.R → Nat → Prop
  | p, [], q => p = q
  | p, x :: l, q => x.lsn = p ∧ chain (p + size x) l q
structure Good (s : S) : Prop where
  chain : chain s.start s.recs s.stop
  low : s.start ≤ s.flushed
  high : s.flushed ≤ s.stop
  ok : ∀ x ∈ s.recs, Lr.May x ∧ Lr.Ok x
theorem good_fresh (a c : Nat) : Good (fresh a c) := ⟨rfl, Nat.le_refl _, Nat.le_refl _, fun x hx => by cases hx⟩
def dn (t : Nat) : Lr.R := ⟨4, 0, 0, t, 0, 0, [], [], [], 0, 0, false, 0, [], []⟩
def wr (p : Nat) (b : List Nat) : Lr.R := ⟨1, 0, 0, 0, p, 0, b, b, [], 0, 0, false, 0, [], []⟩
theorem good_flush {s : S} (h : Good s) : Good (flush s) := ⟨h.chain, Nat.le_trans h.low h.high, Nat.le_refl _, h.ok⟩
end Go.Proofs.YtbpodmallknhfaaGreat.Wl
namespace Go.Proofs.YtbpodmallknhfaaGreat
open Go.RowKit
def Grew (U U' : Nat → Prop) (w : World) : Prop := ∀ i, U' i → U i ∨ w.heap.size ≤ i
def I64' (z : Int) : Prop := -9223372036854775808 ≤ z ∧ z ≤ 9223372036854775807
def Both (U V : Nat → Prop) (i : Nat) : Prop := U i ∨ V i
end Go.Proofs.YtbpodmallknhfaaGreat
namespace Go.Proofs.YtbpodmallknhfaaGreat
open Go.RowKit
namespace Wl
def zeros (n : Nat) : List Nat := List.replicate n 0
theorem zeros_length (n : Nat) : (zeros n).length = n := List.length_replicate ..
theorem zeros_lt (n : Nat) : ∀ x ∈ zeros n, x < 256 := fun x hx => by rw [List.eq_of_mem_replicate hx]; decide
end Wl
theorem wb_one (z : Value) (n : Nat) : madeCells #[z] n = (List.replicate n z).toArray := by
  apply Array.ext'
  rw [toList_madeCells_one]
theorem wb_run (n : Nat) (hn : n ≤ 65536) (W : World) : (Instr.makeSlice 57 (.int .i64 (n : Int)) (.int .i64 (n : Int))).run Tryz.prog W = .ok (.slice (some ⟨W.heap.size, 0, none⟩) n n) (W.alloc (.cells (bytesV (Wl.zeros n)).toArray 5)) := by
  obtain ⟨i0, hi, hz0, hz1, hz2⟩ := info_parts info5
  have h := run_makeSlice (P := Tryz.prog) W 57 5 i0 _ Tryz.underlying57 hi hz0 .i64 .i64 n n (by omega) (Int.le_refl _) (by rw [hz1]; omega) (by rw [hz2]; omega) (by omega)
  rw [Int.toNat_natCast, hz1, Nat.mul_one] at h
  rw [h]
  have e : madeCells #[Value.int .u8 0] n = (bytesV (Wl.zeros n)).toArray := by
    rw [show (bytesV (Wl.zeros n)).toArray = (List.replicate n (Value.int .u8 0)).toArray by unfold Wl.zeros bytesV; rw [List.map_replicate]; rfl]
    exact wb_one _ n
  congr 3
theorem wb_own (n : Nat) (hn : n ≤ 65536) (W : World) : Own W.heap.size (W.alloc (.cells (bytesV (Wl.zeros n)).toArray 5)) (.slice (some ⟨W.heap.size, 0, none⟩) n n) (Wl.zeros n) := by
  have hl := Wl.zeros_length n
  refine ⟨⟨by simp [bytesV], Or.inr ⟨W.heap.size, n, (bytesV (Wl.zeros n)).toArray, by rw [hl], Nat.le_refl _, heap_alloc_last _ _, by rw [hl]; exact Nat.le_refl _, by unfold maxLen; omega, ?_, ?_⟩⟩, Wl.zeros_lt n, by rw [hl]; omega⟩
  · simp [bytesV, hl]
  · simp only [Nat.mul_one]
    rw [List.take_of_length_le (by simp [bytesV])]
end Go.Proofs.YtbpodmallknhfaaGreat
namespace Go.Proofs.YtbpodmallknhfaaGreat.Wl
open Go.Proofs.YtbpodmallknhfaaGreat
def places (s : S) : List Nat := s.recs.map (fun x => x.lsn)
end Go.Proofs.YtbpodmallknhfaaGreat.Wl
namespace Go.Proofs.YtbpodmallknhfaaGreat.Wl
open Go.Proofs.YtbpodmallknhfaaGreat
def after (k : Nat) (j : Nat) : Nat := if j < k then j + 1 else 1000 + (j - k)
end Go.Proofs.YtbpodmallknhfaaGreat.Wl
namespace Go.Proofs.YtbpodmallknhfaaGreat
open Go.RowKit
def Qu (base : Nat) (w : World) (v : Value) (l : List Nat) : Prop := (v = .slice none 0 0 ∧ l = []) ∨
  ∃ g off cap cur, v = .slice (some ⟨g, off, none⟩) l.length cap ∧ base ≤ g ∧ w.heap[g]? = some (.cells cur 56 (0, 0)) ∧ off + cap = cur.size ∧ l.length ≤ cap ∧ cap ≤ 9223372036854775807 ∧ ∀ i, i < l.length → cur[off + i]? = some (.int .u64 (l.getD i 0 : Nat))
theorem Qu.lt {base : Nat} {w : World} {v : Value} {l : List Nat} (h : Qu base w v l) : ∀ g, v.ownBlock = some g → g < w.heap.size := by
  intro g hg
  rcases h with ⟨rfl, -⟩ | ⟨g2, off, cap, cur, rfl, hb, hh, -⟩
  · cases hg
  · simp only [Value.ownBlock, Option.some.injEq] at hg
    rw [← hg]; exact lt_of_block hh
def u64V (l : List Nat) : List Value := l.map fun x : Nat => Value.int .u64 (x : Int)
end Go.Proofs.YtbpodmallknhfaaGreat
namespace Go.Proofs.YtbpodmallknhfaaGreat
open Go.RowKit
def QO (base : Nat) (w : World) (v : Value) (l : List Nat) : Prop := w.ownsRow base 56 1 v l.length (u64V l)
theorem qo_nil (base : Nat) (w : World) : QO base w (.slice none 0 0) [] := ⟨rfl, Or.inl ⟨rfl, rfl⟩⟩
section
variable {base : Nat} {w w' : World} {v : Value} {l : List Nat} {T : Nat → Prop}
theorem QO.qu (h : QO base w v l) : Qu base w v l := by
  rcases h.2 with ⟨hv, h0⟩ | ⟨g, cap, cur, hv, hg, hh, h3, h4, h5, h6⟩
  · exact Or.inl ⟨hv, List.eq_nil_of_length_eq_zero h0⟩
  · refine Or.inr ⟨g, 0, cap, cur, hv, hg, hh, by omega, h3, by unfold maxLen at h4; exact h4, fun i hi => ?_⟩
    rw [Nat.zero_add]
    have e : (cur.toList.take (l.length * 1))[i]? = (u64V l)[i]? := by rw [h6]
    rw [List.getElem?_take, if_pos (by omega), Array.getElem?_toList] at e
    rw [e]
    unfold u64V
    rw [List.getElem?_map, List.getD_eq_getElem?_getD, List.getElem?_eq_getElem hi]
    rfl
theorem QO.keep (h : QO base w v l) (ht : Touch T w w') (hs : ∀ i, v.ownBlock = some i → ¬ T i) : QO base w' v l := by
  refine ⟨h.1, ?_⟩
  rcases h.2 with h2 | ⟨g, cap, cur, hv, hg, hh, r⟩
  · exact Or.inl h2
  · exact Or.inr ⟨g, cap, cur, hv, hg, ht.row hh (hs g (by rw [hv]; rfl)), r⟩
theorem QO.touch (h : QO base w v l) (ht : Touch T w w') (hs : ∀ i, v.ownBlock = some i → ¬ T i) : QO base w' v l := h.keep ht hs
theorem QO.lt (h : QO base w v l) : ∀ i, v.ownBlock = some i → i < w.heap.size := h.qu.lt
end
end Go.Proofs.YtbpodmallknhfaaGreat
