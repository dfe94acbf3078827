/- Slices of hits over any world: what reads as a list of hits, what an append of them leaves. Conditions: none but the room. -/
import Derived.Test.YtljichhmfbefaaaHitOrder
import Derived.Test.YtljichhmfbefaaaRows
import Derived.WalkKit
import Derived.WalkSpells
import Derived.WalkLawsBesides
import Derived.Lib.Hide
import Derived.Deep.WholeRow
import Derived.Laws.AppendOwnNone
import Derived.Laws.MakeOwn
import Derived.Laws.OwnMore
import Derived.OneCell
import Derived.OwnWalk
import Derived.Below
import Derived.KernelRfl
namespace Go.Proofs.Ytljichhmfbefaaa
open Go.RowKit Go.Sort

/-- The hits' cells, one behind the other. -/
def cellsH (l : List Hit) : List Value := l.flatMap encH

theorem cellsH_length : ∀ l : List Hit, (cellsH l).length = l.length * 2
  | [] => rfl
  | h :: l => by
    have := cellsH_length l
    simp only [cellsH, List.flatMap_cons, List.length_append, List.length_cons] at *
    simp only [encH, List.length_cons, List.length_nil]
    omega

theorem cellsH_append (a b : List Hit) : cellsH (a ++ b) = cellsH a ++ cellsH b := by simp [cellsH]

theorem cellsH_key : ∀ (l : List Hit) (i : Nat), i < l.length → (cellsH l)[i * 2]? = some (.int .u64 ((l.getD i default).1.toNat : Int))
  | [], i, h => by simp at h
  | x :: l, 0, _ => by simp [cellsH, encH]
  | x :: l, i + 1, h => by
    have := cellsH_key l i (by simpa using h)
    rw [show (i + 1) * 2 = i * 2 + 1 + 1 by omega]
    simpa [cellsH, encH] using this

theorem cellsH_dist : ∀ (l : List Hit) (i : Nat), i < l.length → (cellsH l)[i * 2 + 1]? = some (.int .i64 (l.getD i default).2.toInt)
  | [], i, h => by simp at h
  | x :: l, 0, _ => by simp [cellsH, encH]
  | x :: l, i + 1, h => by
    have := cellsH_dist l i (by simpa using h)
    rw [show (i + 1) * 2 + 1 = i * 2 + 1 + 1 + 1 by omega]
    simpa [cellsH, encH] using this

theorem cellsH_one (l : List Hit) : ∀ u ∈ cellsH l, u.oneCell' = true := by
  intro u hu
  simp only [cellsH, List.mem_flatMap, encH] at hu
  obtain ⟨x, _, hx⟩ := hu
  simp at hx
  rcases hx with rfl | rfl <;> rfl

theorem cellsH_take (l : List Hit) (n : Nat) : cellsH (l.take n) = (cellsH l).take (n * 2) := by
  induction l generalizing n with
  | nil => simp [cellsH]
  | cons x l ih =>
    cases n with
    | zero => simp [cellsH]
    | succ n =>
      have := ih n
      rw [show (n + 1) * 2 = n * 2 + 1 + 1 by omega]
      simp only [cellsH, List.take_succ_cons, List.flatMap_cons, encH] at *
      simpa using this

theorem cellsH_set (l : List Hit) (i : Nat) (h : Hit) (hi : i < l.length) : cellsH (l.set i h) = ((cellsH l).set (i * 2) (.int .u64 (h.1.toNat : Int))).set (i * 2 + 1) (.int .i64 h.2.toInt) := by
  induction l generalizing i with
  | nil => simp at hi
  | cons x l ih =>
    cases i with
    | zero => simp [cellsH, encH]
    | succ i =>
      have := ih i (by simpa using hi)
      rw [show (i + 1) * 2 = i * 2 + 1 + 1 by omega]
      simp only [cellsH, List.set_cons_succ, List.flatMap_cons, encH] at *
      simpa using this

/-- The slice value v reads as the hits l in the world w. -/
structure HBts (w : World) (v : Value) (l : List Hit) : Prop where
  form : ∃ p cap, v = .slice p l.length cap ∧ (l.length ≤ cap ∧ cap ≤ 9223372036854775807) ∧ (p = none → cap = 0) ∧ (0 < l.length → ∃ b off, p = some ⟨b, off, none⟩ ∧ ∀ j, j < l.length * 2 → w.cell? ⟨b, off + j, none⟩ = (cellsH l)[j]?)

theorem HBts.below {w w' : World} {v : Value} {l : List Hit} (h : HBts w v l) (hb : Below w.heap.size w w') : HBts w' v l := by
  obtain ⟨p, cap, hv, hr, hn, hp⟩ := h.form
  refine ⟨p, cap, hv, hr, hn, fun h0 => ?_⟩
  obtain ⟨b, off, hpe, hc⟩ := hp h0
  refine ⟨b, off, hpe, fun j hj => ?_⟩
  have hci := hc j hj
  rw [List.getElem?_eq_getElem (by rw [cellsH_length]; exact hj)] at hci ⊢
  rw [hb.cell (p := ⟨b, off + j, none⟩) (block_lt_of_cell hci)]
  exact hci

theorem HBts.grown {w w' : World} {v : Value} {l : List Hit} {row : Option Nat} (h : HBts w v l) (hg : w.grownBy w' row) (hne : 0 < l.length → v.ownBlock ≠ row) : HBts w' v l := by
  obtain ⟨p, cap, hv, hr, hn, hp⟩ := h.form
  refine ⟨p, cap, hv, hr, hn, fun h0 => ?_⟩
  obtain ⟨b, off, hpe, hc⟩ := hp h0
  refine ⟨b, off, hpe, fun j hj => ?_⟩
  have hci := hc j hj
  rw [List.getElem?_eq_getElem (by rw [cellsH_length]; exact hj)] at hci ⊢
  refine hg.cell hci ?_
  have := hne h0
  rw [hv, hpe] at this
  exact this

/-- The first n of the hits, by a reslice. -/
theorem HBts.take {w : World} {p : Option Addr} {cap : Nat} {l : List Hit} (h : HBts w (.slice p l.length cap) l) (n : Nat) (hn : n ≤ l.length) : HBts w (.slice p n cap) (l.take n) := by
  obtain ⟨p', cap', hv, hr, hz, hp⟩ := h.form
  simp only [Value.slice.injEq] at hv
  obtain ⟨rfl, -, rfl⟩ := hv
  have hl : (l.take n).length = n := by simp; omega
  refine ⟨p, cap, by rw [hl], ⟨by omega, hr.2⟩, hz, fun h0 => ?_⟩
  obtain ⟨b, off, hpe, hc⟩ := hp (by omega)
  refine ⟨b, off, hpe, fun j hj => ?_⟩
  rw [hl] at hj
  rw [hc j (by omega), cellsH_take, List.getElem?_take, if_pos hj]

/-- One hit's two cells. -/
theorem HBts.at {w : World} {b off cap : Nat} {l : List Hit} (h : HBts w (.slice (some ⟨b, off, none⟩) l.length cap) l) (i : Nat) (hi : i < l.length) :
    w.cell? ⟨b, off + i * 2, none⟩ = some (.int .u64 ((l.getD i default).1.toNat : Int)) ∧ w.cell? ⟨b, off + i * 2 + 1, none⟩ = some (.int .i64 (l.getD i default).2.toInt) := by
  obtain ⟨p', cap', hv, hr, hz, hp⟩ := h.form
  obtain ⟨b', off', hpe, hc⟩ := hp (by omega)
  subst hpe
  simp only [Value.slice.injEq, Option.some.injEq, Addr.mk.injEq, and_true, true_and] at hv
  obtain ⟨⟨rfl, rfl⟩, rfl⟩ := hv
  constructor
  · rw [hc (i * 2) (by omega), cellsH_key l i hi]
  · rw [Nat.add_assoc, hc (i * 2 + 1) (by omega), cellsH_dist l i hi]

theorem infoH : (Try.prog.info? 35).map (fun i => (i.zero, i.size, i.bytes)) = some (some (.agg #[.int .u64 0, .int .i64 0]), 2, 16) := by kernel_rfl

/-- What a call hands back: the hits l in memory of its own, from block number base on. -/
def HOwn (base : Nat) (w : World) (v : Value) (l : List Hit) : Prop := w.ownsRow base 35 2 v l.length (cellsH l)

theorem HOwn.form {base : Nat} {w : World} {v : Value} {l : List Hit} (h : HOwn base w v l) : (v = .slice none 0 0 ∧ l = []) ∨ ∃ g cap, v = .slice (some ⟨g, 0, none⟩) l.length cap ∧ base ≤ g ∧ g < w.heap.size ∧ l.length ≤ cap ∧ cap ≤ 9223372036854775807 := by
  rcases h.2 with ⟨hv, h0⟩ | ⟨g, cap, cur, hv, hg, hh, h3, h4, h5, h6⟩
  · exact Or.inl ⟨hv, List.eq_nil_of_length_eq_zero h0⟩
  · exact Or.inr ⟨g, cap, hv, hg, lt_of_block hh, h3, h4⟩

theorem HOwn.bts {base : Nat} {w : World} {v : Value} {l : List Hit} (h : HOwn base w v l) : HBts w v l := by
  rcases h.2 with ⟨hv, h0⟩ | ⟨g, cap, cur, hv, hg, hh, h3, h4, h5, h6⟩
  · exact ⟨none, 0, by rw [hv, h0], by omega, fun _ => rfl, fun h => absurd h (by omega)⟩
  · refine ⟨some ⟨g, 0, none⟩, cap, hv, ⟨h3, h4⟩, fun h => by simp at h, fun _ => ⟨g, 0, rfl, fun j hj => ?_⟩⟩
    rw [Nat.zero_add, cell_of_row _ g j cur 35 (0, 0) hh, ← h6, List.getElem?_take, if_pos hj, Array.getElem?_toList]

theorem HOwn.grown {base : Nat} {w w' : World} {v : Value} {l : List Hit} {row : Option Nat} (h : HOwn base w v l) (hg : w.grownBy w' row) (hne : v.ownBlock = none ∨ v.ownBlock ≠ row) : HOwn base w' v l := h.kept hg hne
theorem grownBy_below' {a b : World} (h : Below a.heap.size a b) (row : Option Nat) : a.grownBy b row := ⟨h.os, h.tape, h.output, h.size, fun k hk _ => h.block k hk⟩
theorem HOwn.below {base : Nat} {w w' : World} {v : Value} {l : List Hit} (h : HOwn base w v l) (hb : Below w.heap.size w w') : HOwn base w' v l :=
  h.grown (row := none) (grownBy_below' hb none) (by cases hv : v.ownBlock <;> simp)
theorem HOwn.from {base base' : Nat} {w : World} {v : Value} {l : List Hit} (h : HOwn base w v l) (hb : base' ≤ base) : HOwn base' w v l := by
  refine ⟨h.1, ?_⟩
  rcases h.2 with h2 | ⟨g, cap, cur, hv, hg, r⟩
  · exact Or.inl h2
  · exact Or.inr ⟨g, cap, cur, hv, Nat.le_trans hb hg, r⟩

theorem hown_nil (base : Nat) (w : World) : HOwn base w (.slice none 0 0) [] := ⟨rfl, Or.inl ⟨rfl, rfl⟩⟩
theorem hown_empty (w : World) (base : Nat) (hb : base ≤ w.heap.size) : HOwn base (w.alloc (.cells #[] 35)) (.slice (some ⟨w.heap.size, 0, none⟩) 0 0) [] :=
  ⟨rfl, Or.inr ⟨w.heap.size, 0, #[], rfl, hb, heap_alloc_last _ _, Nat.le_refl _, Nat.zero_le _, rfl, rfl⟩⟩

/-- The first n of the hits that the call owns, by a reslice. -/
theorem HOwn.take {base g cap : Nat} {w : World} {l : List Hit} (h : HOwn base w (.slice (some ⟨g, 0, none⟩) l.length cap) l) (n : Nat) (hn : n ≤ l.length) : HOwn base w (.slice (some ⟨g, 0, none⟩) n cap) (l.take n) := by
  have hl : (l.take n).length = n := by simp; omega
  refine ⟨by rw [cellsH_length], ?_⟩
  rcases h.2 with ⟨hv, _⟩ | ⟨g', cap', cur, hv, hg, hh, h3, h4, h5, h6⟩
  · simp at hv
  · simp only [Value.slice.injEq, Option.some.injEq, Addr.mk.injEq, and_true, true_and] at hv
    obtain ⟨rfl, rfl⟩ := hv
    refine Or.inr ⟨g, cap, cur, by rw [hl], hg, hh, by omega, h4, h5, ?_⟩
    rw [hl, cellsH_take, ← h6, List.take_take, Nat.min_eq_left (by omega)]

/-- Hits appended to what the call owns. -/
theorem wpList_append_HOwn {w : World} {ops : Array Oper} {rest : List Oper} {o : Oper} {a : Act} {Q : Exit → Act → World → Prop} (hgd : o.guard = none) (s x : Operand)
    (ho : o.op = .call { callee := .builtin .append, args := #[s, x], argTypes := #[32, 32] })
    (base : Nat) (v : Value) (l1 : List Hit) (hs : a.eval s = v) (hown : HOwn base w v l1)
    (xv : Value) (l2 : List Hit) (hx : a.eval x = xv) (hB : HBts w xv l2) (hlen : l1.length + l2.length ≤ 1000000) (hbase : base ≤ w.heap.size)
    (h : ∀ v' w', HOwn base w' v' (l1 ++ l2) → Below base w w' → w.grownBy w' v.ownBlock → wpList Try.prog ops Q rest (a.put o.dst v') w') : wpList Try.prog ops Q (o :: rest) a w := by
  obtain ⟨i0, hi, hz0, hz1, hz2⟩ := info_parts infoH
  obtain ⟨p, cap, rfl, _, hn, hp⟩ := hB.form
  cases p with
  | none =>
    obtain rfl := hn rfl
    have hl0 : l2.length = 0 := by
      rcases Nat.eq_zero_or_pos l2.length with h0 | h0
      · exact h0
      · obtain ⟨b, off, he, _⟩ := hp h0; simp at he
    obtain rfl : l2 = [] := List.eq_nil_of_length_eq_zero hl0
    refine wpList_append_own_none hgd s x 32 ho base 35 i0 2 Try.underlying32 hi v l1.length (cellsH l1) hs hown hx ?_
    refine h v w ?_ (Below.refl _ _) (World.grownBy.refl _ _)
    simpa using hown
  | some ad =>
    refine wpList_append_own w hgd s x 32 ho base 35 i0 (.agg #[.int .u64 0, .int .i64 0]) 2 16 Try.underlying32 hi hz0 hz1 hz2 rfl (by decide) v l1.length (cellsH l1) hs hown ad l2.length cap (cellsH l2) hx (cellsH_length _) ?_ (cellsH_one l2) (by unfold maxLen; omega) (by omega) hbase ?_
    · intro j u hj
      have hjl : j < l2.length * 2 := by
        rcases Nat.lt_or_ge j (l2.length * 2) with h1 | h1
        · exact h1
        · rw [List.getElem?_eq_none (by rw [cellsH_length]; exact h1)] at hj; simp at hj
      obtain ⟨b, off, he, hc⟩ := hp (by omega)
      obtain rfl := Option.some.inj he
      have hadd : (⟨b, off, none⟩ : Addr).add j = ⟨b, off + j, none⟩ := by unfold Addr.add; split <;> simp_all
      rw [hadd, hc j hjl, hj]
    · intro v' w' hown' hgrow _
      rw [← cellsH_append, ← List.length_append] at hown'
      refine h v' w' hown' ((Below.refl _ _).grown hgrow hbase ?_) hgrow
      intro k hk
      rcases hown.2 with ⟨rfl, _⟩ | ⟨g, c, cur, rfl, hg, _⟩
      · simp [Value.ownBlock] at hk
      · simp only [Value.ownBlock, Option.some.injEq] at hk
        omega

/-- One hit in a new block reads as a list of one. -/
theorem hbts_one (w : World) (h : Hit) : HBts (w.alloc (.cells #[.int .u64 (h.1.toNat : Int), .int .i64 h.2.toInt] 35)) (.slice (some ⟨w.heap.size, 0, none⟩) 1 1) [h] := by
  refine ⟨_, 1, rfl, ⟨Nat.le_refl 1, by omega⟩, fun h => by simp at h, fun _ => ⟨w.heap.size, 0, rfl, fun j hj => ?_⟩⟩
  rw [Nat.zero_add, cell_of_row _ _ j _ _ (0, 0) (heap_alloc_last _ _)]
  have : j = 0 ∨ j = 1 := by simp at hj; omega
  rcases this with rfl | rfl <;> rfl
end Go.Proofs.Ytljichhmfbefaaa
