/- Slices of pages over any world: what reads as a list of pages' values, what an append of them leaves. Conditions: none but the room. -/
import Derived.Test.YtkmkbjjpbodbfaaPageRef
import Derived.Test.YtkmkbjjpbodbfaaTouch
import Derived.Test.YtkmkbjjpbodbfaaOff
import Derived.Test.YtkmkbjjpbodbfaaRows
import Derived.WalkKit
import Derived.WalkSpells
import Derived.WalkLawsBesides
import Derived.Lib.Hide
import Derived.Deep.WholeRow
import Derived.Laws.AppendOwnNone
import Derived.Laws.MakeOwn
import Derived.Laws.OwnMore
import Derived.OneCell
import Derived.OwnWalk
import Derived.Below
import Derived.KernelRfl
namespace Go.Proofs.Ytkmkbjjpbodbfaa
open Go.RowKit

abbrev Pp := Nat × Value
def dP : Pp := (0, undef)
def encP (x : Pp) : List Value := [.int .u64 (x.1 : Int), x.2]

/-- The pages' cells, one behind the other. -/
def cellsP (l : List Pp) : List Value := l.flatMap encP

theorem cellsP_length : ∀ l : List Pp, (cellsP l).length = l.length * 2
  | [] => rfl
  | h :: l => by
    have := cellsP_length l
    simp only [cellsP, List.flatMap_cons, List.length_append, List.length_cons] at *
    simp only [encP, List.length_cons, List.length_nil]
    omega

theorem cellsP_append (a b : List Pp) : cellsP (a ++ b) = cellsP a ++ cellsP b := by simp [cellsP]

theorem cellsP_key : ∀ (l : List Pp) (i : Nat), i < l.length → (cellsP l)[i * 2]? = some (.int .u64 ((l.getD i dP).1 : Int))
  | [], i, h => by simp at h
  | x :: l, 0, _ => by simp [cellsP, encP]
  | x :: l, i + 1, h => by
    have := cellsP_key l i (by simpa using h)
    rw [show (i + 1) * 2 = i * 2 + 1 + 1 by omega]
    simpa [cellsP, encP] using this

theorem cellsP_dist : ∀ (l : List Pp) (i : Nat), i < l.length → (cellsP l)[i * 2 + 1]? = some (l.getD i dP).2
  | [], i, h => by simp at h
  | x :: l, 0, _ => by simp [cellsP, encP]
  | x :: l, i + 1, h => by
    have := cellsP_dist l i (by simpa using h)
    rw [show (i + 1) * 2 + 1 = i * 2 + 1 + 1 + 1 by omega]
    simpa [cellsP, encP] using this

theorem cellsP_one (l : List Pp) (h1 : ∀ x ∈ l, x.2.oneCell' = true) : ∀ u ∈ cellsP l, u.oneCell' = true := by
  intro u hu
  simp only [cellsP, List.mem_flatMap, encP] at hu
  obtain ⟨x, hm, hx⟩ := hu
  simp at hx
  rcases hx with rfl | rfl
  · rfl
  · exact h1 _ hm

theorem cellsP_take (l : List Pp) (n : Nat) : cellsP (l.take n) = (cellsP l).take (n * 2) := by
  induction l generalizing n with
  | nil => simp [cellsP]
  | cons x l ih =>
    cases n with
    | zero => simp [cellsP]
    | succ n =>
      have := ih n
      rw [show (n + 1) * 2 = n * 2 + 1 + 1 by omega]
      simp only [cellsP, List.take_succ_cons, List.flatMap_cons, encP] at *
      simpa using this

theorem cellsP_set (l : List Pp) (i : Nat) (h : Pp) (hi : i < l.length) : cellsP (l.set i h) = ((cellsP l).set (i * 2) (.int .u64 (h.1 : Int))).set (i * 2 + 1) h.2 := by
  induction l generalizing i with
  | nil => simp at hi
  | cons x l ih =>
    cases i with
    | zero => simp [cellsP, encP]
    | succ i =>
      have := ih i (by simpa using hi)
      rw [show (i + 1) * 2 = i * 2 + 1 + 1 by omega]
      simp only [cellsP, List.set_cons_succ, List.flatMap_cons, encP] at *
      simpa using this

/-- The slice value v reads as the pages l in the world w. -/
structure PBts (w : World) (v : Value) (l : List Pp) : Prop where
  form : ∃ p cap, v = .slice p l.length cap ∧ (l.length ≤ cap ∧ cap ≤ 9223372036854775807) ∧ (p = none → cap = 0) ∧ (0 < l.length → ∃ b off, p = some ⟨b, off, none⟩ ∧ ∀ j, j < l.length * 2 → w.cell? ⟨b, off + j, none⟩ = (cellsP l)[j]?)

theorem PBts.below {w w' : World} {v : Value} {l : List Pp} (h : PBts w v l) (hb : Below w.heap.size w w') : PBts w' v l := by
  obtain ⟨p, cap, hv, hr, hn, hp⟩ := h.form
  refine ⟨p, cap, hv, hr, hn, fun h0 => ?_⟩
  obtain ⟨b, off, hpe, hc⟩ := hp h0
  refine ⟨b, off, hpe, fun j hj => ?_⟩
  have hci := hc j hj
  rw [List.getElem?_eq_getElem (by rw [cellsP_length]; exact hj)] at hci ⊢
  rw [hb.cell (p := ⟨b, off + j, none⟩) (block_lt_of_cell hci)]
  exact hci

theorem PBts.grown {w w' : World} {v : Value} {l : List Pp} {row : Option Nat} (h : PBts w v l) (hg : w.grownBy w' row) (hne : 0 < l.length → v.ownBlock ≠ row) : PBts w' v l := by
  obtain ⟨p, cap, hv, hr, hn, hp⟩ := h.form
  refine ⟨p, cap, hv, hr, hn, fun h0 => ?_⟩
  obtain ⟨b, off, hpe, hc⟩ := hp h0
  refine ⟨b, off, hpe, fun j hj => ?_⟩
  have hci := hc j hj
  rw [List.getElem?_eq_getElem (by rw [cellsP_length]; exact hj)] at hci ⊢
  refine hg.cell hci ?_
  have := hne h0
  rw [hv, hpe] at this
  exact this

/-- The first n of the pages, by a reslice. -/
theorem PBts.take {w : World} {p : Option Addr} {cap : Nat} {l : List Pp} (h : PBts w (.slice p l.length cap) l) (n : Nat) (hn : n ≤ l.length) : PBts w (.slice p n cap) (l.take n) := by
  obtain ⟨p', cap', hv, hr, hz, hp⟩ := h.form
  simp only [Value.slice.injEq] at hv
  obtain ⟨rfl, -, rfl⟩ := hv
  have hl : (l.take n).length = n := by simp; omega
  refine ⟨p, cap, by rw [hl], ⟨by omega, hr.2⟩, hz, fun h0 => ?_⟩
  obtain ⟨b, off, hpe, hc⟩ := hp (by omega)
  refine ⟨b, off, hpe, fun j hj => ?_⟩
  rw [hl] at hj
  rw [hc j (by omega), cellsP_take, List.getElem?_take, if_pos hj]

/-- One page's two cells. -/
theorem PBts.at {w : World} {b off cap : Nat} {l : List Pp} (h : PBts w (.slice (some ⟨b, off, none⟩) l.length cap) l) (i : Nat) (hi : i < l.length) :
    w.cell? ⟨b, off + i * 2, none⟩ = some (.int .u64 ((l.getD i dP).1 : Int)) ∧ w.cell? ⟨b, off + i * 2 + 1, none⟩ = some (l.getD i dP).2 := by
  obtain ⟨p', cap', hv, hr, hz, hp⟩ := h.form
  obtain ⟨b', off', hpe, hc⟩ := hp (by omega)
  subst hpe
  simp only [Value.slice.injEq, Option.some.injEq, Addr.mk.injEq, and_true, true_and] at hv
  obtain ⟨⟨rfl, rfl⟩, rfl⟩ := hv
  constructor
  · rw [hc (i * 2) (by omega), cellsP_key l i hi]
  · rw [Nat.add_assoc, hc (i * 2 + 1) (by omega), cellsP_dist l i hi]

theorem infoPp : (Try.prog.info? 25).map (fun i => (i.zero, i.size, i.bytes)) = some (some (.agg #[.int .u64 0, .slice none 0 0]), 2, 32) := by kernel_rfl

/-- What a call hands back: the pages l in memory of its own, from block number base on. -/
def POwn (base : Nat) (w : World) (v : Value) (l : List Pp) : Prop := w.ownsRow base 25 2 v l.length (cellsP l)

theorem POwn.form {base : Nat} {w : World} {v : Value} {l : List Pp} (h : POwn base w v l) : (v = .slice none 0 0 ∧ l = []) ∨ ∃ g cap, v = .slice (some ⟨g, 0, none⟩) l.length cap ∧ base ≤ g ∧ g < w.heap.size ∧ l.length ≤ cap ∧ cap ≤ 9223372036854775807 := by
  rcases h.2 with ⟨hv, h0⟩ | ⟨g, cap, cur, hv, hg, hh, h3, h4, h5, h6⟩
  · exact Or.inl ⟨hv, List.eq_nil_of_length_eq_zero h0⟩
  · exact Or.inr ⟨g, cap, hv, hg, lt_of_block hh, h3, h4⟩

theorem POwn.bts {base : Nat} {w : World} {v : Value} {l : List Pp} (h : POwn base w v l) : PBts w v l := by
  rcases h.2 with ⟨hv, h0⟩ | ⟨g, cap, cur, hv, hg, hh, h3, h4, h5, h6⟩
  · exact ⟨none, 0, by rw [hv, h0], by omega, fun _ => rfl, fun h => absurd h (by omega)⟩
  · refine ⟨some ⟨g, 0, none⟩, cap, hv, ⟨h3, h4⟩, fun h => by simp at h, fun _ => ⟨g, 0, rfl, fun j hj => ?_⟩⟩
    rw [Nat.zero_add, cell_of_row _ g j cur 25 (0, 0) hh, ← h6, List.getElem?_take, if_pos hj, Array.getElem?_toList]

theorem POwn.grown {base : Nat} {w w' : World} {v : Value} {l : List Pp} {row : Option Nat} (h : POwn base w v l) (hg : w.grownBy w' row) (hne : v.ownBlock = none ∨ v.ownBlock ≠ row) : POwn base w' v l := h.kept hg hne
theorem POwn.below {base : Nat} {w w' : World} {v : Value} {l : List Pp} (h : POwn base w v l) (hb : Below w.heap.size w w') : POwn base w' v l :=
  h.grown (row := none) (grownBy_below hb none) (by cases hv : v.ownBlock <;> simp)
theorem POwn.from {base base' : Nat} {w : World} {v : Value} {l : List Pp} (h : POwn base w v l) (hb : base' ≤ base) : POwn base' w v l := by
  refine ⟨h.1, ?_⟩
  rcases h.2 with h2 | ⟨g, cap, cur, hv, hg, r⟩
  · exact Or.inl h2
  · exact Or.inr ⟨g, cap, cur, hv, Nat.le_trans hb hg, r⟩

theorem pown_nil (base : Nat) (w : World) : POwn base w (.slice none 0 0) [] := ⟨rfl, Or.inl ⟨rfl, rfl⟩⟩
theorem pown_empty (w : World) (base : Nat) (hb : base ≤ w.heap.size) : POwn base (w.alloc (.cells #[] 25)) (.slice (some ⟨w.heap.size, 0, none⟩) 0 0) [] :=
  ⟨rfl, Or.inr ⟨w.heap.size, 0, #[], rfl, hb, heap_alloc_last _ _, Nat.le_refl _, Nat.zero_le _, rfl, rfl⟩⟩

/-- The first n of the pages that the call owns, by a reslice. -/
theorem POwn.take {base g cap : Nat} {w : World} {l : List Pp} (h : POwn base w (.slice (some ⟨g, 0, none⟩) l.length cap) l) (n : Nat) (hn : n ≤ l.length) : POwn base w (.slice (some ⟨g, 0, none⟩) n cap) (l.take n) := by
  have hl : (l.take n).length = n := by simp; omega
  refine ⟨by rw [cellsP_length], ?_⟩
  rcases h.2 with ⟨hv, _⟩ | ⟨g', cap', cur, hv, hg, hh, h3, h4, h5, h6⟩
  · simp at hv
  · simp only [Value.slice.injEq, Option.some.injEq, Addr.mk.injEq, and_true, true_and] at hv
    obtain ⟨rfl, rfl⟩ := hv
    refine Or.inr ⟨g, cap, cur, by rw [hl], hg, hh, by omega, h4, h5, ?_⟩
    rw [hl, cellsP_take, ← h6, List.take_take, Nat.min_eq_left (by omega)]

/-- Pages appended to what the call owns. -/
theorem wpList_append_POwn {w : World} {ops : Array Oper} {rest : List Oper} {o : Oper} {a : Act} {Q : Exit → Act → World → Prop} (hgd : o.guard = none) (s x : Operand)
    (ho : o.op = .call { callee := .builtin .append, args := #[s, x], argTypes := #[40, 40] })
    (base : Nat) (v : Value) (l1 : List Pp) (hs : a.eval s = v) (hown : POwn base w v l1)
    (xv : Value) (l2 : List Pp) (hx : a.eval x = xv) (hB : PBts w xv l2) (hone : ∀ x ∈ l2, x.2.oneCell' = true) (hlen : l1.length + l2.length ≤ 1000000) (hbase : base ≤ w.heap.size)
    (h : ∀ v' w', POwn base w' v' (l1 ++ l2) → Below base w w' → w.grownBy w' v.ownBlock → wpList Try.prog ops Q rest (a.put o.dst v') w') : wpList Try.prog ops Q (o :: rest) a w := by
  obtain ⟨i0, hi, hz0, hz1, hz2⟩ := info_parts infoPp
  obtain ⟨p, cap, rfl, _, hn, hp⟩ := hB.form
  cases p with
  | none =>
    obtain rfl := hn rfl
    have hl0 : l2.length = 0 := by
      rcases Nat.eq_zero_or_pos l2.length with h0 | h0
      · exact h0
      · obtain ⟨b, off, he, _⟩ := hp h0; simp at he
    obtain rfl : l2 = [] := List.eq_nil_of_length_eq_zero hl0
    refine wpList_append_own_none hgd s x 40 ho base 25 i0 2 Try.underlying40 hi v l1.length (cellsP l1) hs hown hx ?_
    refine h v w ?_ (Below.refl _ _) (World.grownBy.refl _ _)
    simpa using hown
  | some ad =>
    refine wpList_append_own w hgd s x 40 ho base 25 i0 (.agg #[.int .u64 0, .slice none 0 0]) 2 32 Try.underlying40 hi hz0 hz1 hz2 rfl (by decide) v l1.length (cellsP l1) hs hown ad l2.length cap (cellsP l2) hx (cellsP_length _) ?_ (cellsP_one l2 hone) (by unfold maxLen; omega) (by omega) hbase ?_
    · intro j u hj
      have hjl : j < l2.length * 2 := by
        rcases Nat.lt_or_ge j (l2.length * 2) with h1 | h1
        · exact h1
        · rw [List.getElem?_eq_none (by rw [cellsP_length]; exact h1)] at hj; simp at hj
      obtain ⟨b, off, he, hc⟩ := hp (by omega)
      obtain rfl := Option.some.inj he
      have hadd : (⟨b, off, none⟩ : Addr).add j = ⟨b, off + j, none⟩ := by unfold Addr.add; split <;> simp_all
      rw [hadd, hc j hjl, hj]
    · intro v' w' hown' hgrow _
      rw [← cellsP_append, ← List.length_append] at hown'
      refine h v' w' hown' ((Below.refl _ _).grown hgrow hbase ?_) hgrow
      intro k hk
      rcases hown.2 with ⟨rfl, _⟩ | ⟨g, c, cur, rfl, hg, _⟩
      · simp [Value.ownBlock] at hk
      · simp only [Value.ownBlock, Option.some.injEq] at hk
        omega

/-- One page in a new block reads as a list of one. -/
theorem pbts_one (w : World) (h : Pp) : PBts (w.alloc (.cells #[.int .u64 (h.1 : Int), h.2] 25)) (.slice (some ⟨w.heap.size, 0, none⟩) 1 1) [h] := by
  refine ⟨_, 1, rfl, ⟨Nat.le_refl 1, by omega⟩, fun h => by simp at h, fun _ => ⟨w.heap.size, 0, rfl, fun j hj => ?_⟩⟩
  rw [Nat.zero_add, cell_of_row _ _ j _ _ (0, 0) (heap_alloc_last _ _)]
  have : j = 0 ∨ j = 1 := by simp at hj; omega
  rcases this with rfl | rfl <;> rfl
/-- One page written into a row of the call's own. -/
theorem POwn.stored {base g cap : Nat} {w : World} {l : List Pp} (h : POwn base w (.slice (some ⟨g, 0, none⟩) l.length cap) l) (i : Nat) (hi : i < l.length) (x : Pp) :
    POwn base ((w.setCell ⟨g, i * 2, none⟩ (.int .u64 (x.1 : Int))).setCell ⟨g, i * 2 + 1, none⟩ x.2) (.slice (some ⟨g, 0, none⟩) l.length cap) (l.set i x) ∧
      w.grownBy ((w.setCell ⟨g, i * 2, none⟩ (.int .u64 (x.1 : Int))).setCell ⟨g, i * 2 + 1, none⟩ x.2) (some g) := by
  obtain ⟨h1, h2⟩ := World.ownsRow.stored h (i * 2) (.int .u64 (x.1 : Int))
  obtain ⟨h3, h4⟩ := World.ownsRow.stored h1 (i * 2 + 1) x.2
  rw [← cellsP_set l i x hi] at h3
  refine ⟨by unfold POwn; rw [List.length_set]; exact h3, ⟨h4.os.trans h2.os, h4.tape.trans h2.tape, h4.output.trans h2.output, Nat.le_trans h2.size h4.size, fun k hk hr => (h4.block k (Nat.lt_of_lt_of_le hk h2.size) hr).trans (h2.block k hk hr)⟩⟩

theorem POwn.free {base g cap : Nat} {w : World} {l : List Pp} (h : POwn base w (.slice (some ⟨g, 0, none⟩) l.length cap) l) (j : Nat) : w.frozen? ⟨g, j, none⟩ = false := World.ownsRow.frozenAt h j

theorem POwn.at {base g cap : Nat} {w : World} {l : List Pp} (h : POwn base w (.slice (some ⟨g, 0, none⟩) l.length cap) l) (i : Nat) (hi : i < l.length) :
    w.cell? ⟨g, i * 2, none⟩ = some (.int .u64 ((l.getD i dP).1 : Int)) ∧ w.cell? ⟨g, i * 2 + 1, none⟩ = some (l.getD i dP).2 := by
  obtain ⟨h1, h2⟩ := h.bts.at i hi
  rw [Nat.zero_add] at h1 h2
  exact ⟨h1, h2⟩

theorem POwn.mid {base g cap : Nat} {w : World} {l : List Pp} (h : POwn base w (.slice (some ⟨g, 0, none⟩) l.length cap) l) (i : Nat) (hi : i < l.length) (u : Value) :
    (w.setCell ⟨g, i * 2, none⟩ u).cell? ⟨g, i * 2 + 1, none⟩ = some (l.getD i dP).2 ∧ (w.setCell ⟨g, i * 2, none⟩ u).frozen? ⟨g, i * 2 + 1, none⟩ = false := by
  obtain ⟨h1, h2⟩ := World.ownsRow.stored h (i * 2) u
  refine ⟨?_, World.ownsRow.frozenAt h1 _⟩
  rw [World.ownsRow.cellAt h1 (i * 2 + 1) (by omega), List.getElem?_set_ne (by omega), cellsP_dist l i hi]

end Go.Proofs.Ytkmkbjjpbodbfaa
