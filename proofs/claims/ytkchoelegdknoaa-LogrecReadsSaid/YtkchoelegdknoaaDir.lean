/- Slices of dirty pages over any world: what reads as a list of them, what an append, a make, a store of them leaves, how those that come in are opened. Conditions: none but the room. -/
import Derived.Test.YtkchoelegdknoaaLrPure
import Derived.Test.YtkchoelegdknoaaOff
import Derived.Laws.OwnMore
import Derived.Deep.SlicePairs
import Derived.Lib.SmallJoins
namespace Go.Proofs.Ytkchoelegdknoaa.Dir
open Go.RowKit Go.Proofs.Ytkchoelegdknoaa.Lr

abbrev El := Di
def enc (c : El) : List Value := [.int .u32 (c.1 : Int), .int .u64 (c.2 : Int)]
def cells (l : List El) : List Value := l.flatMap enc

theorem cells_length : ∀ l : List El, (cells l).length = l.length * 2
  | [] => rfl
  | h :: l => by
    have := cells_length l
    simp only [cells, List.flatMap_cons, List.length_append, List.length_cons] at *
    simp only [enc, List.length_cons, List.length_nil]
    omega
theorem cells_append (a b : List El) : cells (a ++ b) = cells a ++ cells b := by simp [cells]
theorem cells_at : ∀ (l : List El) (i j : Nat), i < l.length → j < 2 → (cells l)[i * 2 + j]? = (enc (l.getD i default))[j]?
  | [], i, _, h, _ => by simp at h
  | x :: l, 0, j, _, hj => by
    simp only [cells, List.flatMap_cons, Nat.zero_mul, Nat.zero_add]
    rw [List.getElem?_append_left (by simpa [enc] using hj)]
    rfl
  | x :: l, i + 1, j, h, hj => by
    have := cells_at l i j (by simpa using h) hj
    simp only [cells, List.flatMap_cons] at *
    rw [List.getElem?_append_right (by simp only [enc, List.length_cons, List.length_nil]; omega)]
    rw [show (i + 1) * 2 + j - (enc x).length = i * 2 + j by simp only [enc, List.length_cons, List.length_nil]; omega, this]
    simp
theorem cells_one (l : List El) : ∀ u ∈ cells l, u.oneCell' = true := by
  intro u hu
  simp only [cells, List.mem_flatMap, enc] at hu
  obtain ⟨x, _, hx⟩ := hu
  simp at hx
  rcases hx with rfl | rfl <;> rfl
theorem cells_set (l : List El) (i : Nat) (h : El) (hi : i < l.length) : cells (l.set i h) = (((cells l).set (i * 2) (.int .u32 (h.1 : Int))).set (i * 2 + 1) (.int .u64 (h.2 : Int))) := by
  induction l generalizing i with
  | nil => simp at hi
  | cons x l ih =>
    cases i with
    | zero => simp [cells, enc]
    | succ i =>
      have := ih i (by simpa using hi)
      rw [show (i + 1) * 2 = i * 2 + 2 by omega]
      simp only [cells, List.set_cons_succ, List.flatMap_cons, enc] at *
      simpa using this

/-- The slice value v reads as the list l in the world w. -/
structure Bts (w : World) (v : Value) (l : List El) : Prop where
  form : ∃ p cap, v = .slice p l.length cap ∧ (l.length ≤ cap ∧ cap ≤ 9223372036854775807) ∧ (p = none → cap = 0) ∧ (0 < l.length → ∃ b off, p = some ⟨b, off, none⟩ ∧ ∀ j, j < l.length * 2 → w.cell? ⟨b, off + j, none⟩ = (cells l)[j]?)

theorem Bts.below {w w' : World} {v : Value} {l : List El} (h : Bts w v l) (hb : Below w.heap.size w w') : Bts w' v l := by
  obtain ⟨p, cap, hv, hr, hn, hp⟩ := h.form
  refine ⟨p, cap, hv, hr, hn, fun h0 => ?_⟩
  obtain ⟨b, off, hpe, hc⟩ := hp h0
  refine ⟨b, off, hpe, fun j hj => ?_⟩
  have hci := hc j hj
  rw [List.getElem?_eq_getElem (by rw [cells_length]; exact hj)] at hci ⊢
  rw [hb.cell (p := ⟨b, off + j, none⟩) (block_lt_of_cell hci)]
  exact hci
theorem Bts.grown {w w' : World} {v : Value} {l : List El} {row : Option Nat} (h : Bts w v l) (hg : w.grownBy w' row) (hne : 0 < l.length → v.ownBlock ≠ row) : Bts w' v l := by
  obtain ⟨p, cap, hv, hr, hn, hp⟩ := h.form
  refine ⟨p, cap, hv, hr, hn, fun h0 => ?_⟩
  obtain ⟨b, off, hpe, hc⟩ := hp h0
  refine ⟨b, off, hpe, fun j hj => ?_⟩
  have hci := hc j hj
  rw [List.getElem?_eq_getElem (by rw [cells_length]; exact hj)] at hci ⊢
  refine hg.cell hci ?_
  have := hne h0
  rw [hv, hpe] at this
  exact this
/-- One element's cells. -/
theorem Bts.at {w : World} {b off cap : Nat} {l : List El} (h : Bts w (.slice (some ⟨b, off, none⟩) l.length cap) l) (i : Nat) (hi : i < l.length) (j : Nat) (hj : j < 2) :
    w.cell? ⟨b, off + i * 2 + j, none⟩ = (enc (l.getD i default))[j]? := by
  obtain ⟨p', cap', hv, hr, hz, hp⟩ := h.form
  obtain ⟨b', off', hpe, hc⟩ := hp (by omega)
  subst hpe
  simp only [Value.slice.injEq, Option.some.injEq, Addr.mk.injEq, and_true, true_and] at hv
  obtain ⟨⟨rfl, rfl⟩, rfl⟩ := hv
  rw [Nat.add_assoc, hc (i * 2 + j) (by omega), cells_at l i j hi hj]
theorem Bts.some {w : World} {v : Value} {l : List El} (h : Bts w v l) (h0 : 0 < l.length) : ∃ b off cap, v = .slice (some ⟨b, off, none⟩) l.length cap := by
  obtain ⟨p, cap, hv, -, -, hp⟩ := h.form
  obtain ⟨b, off, rfl, -⟩ := hp h0
  exact ⟨b, off, cap, hv⟩
theorem Bts.slice {w : World} {v : Value} {l : List El} (h : Bts w v l) : ∃ p cap, v = .slice p l.length cap := by
  obtain ⟨p, cap, hv, -⟩ := h.form
  exact ⟨p, cap, hv⟩
theorem bts_nil (w : World) : Bts w (.slice none 0 0) [] := ⟨none, 0, rfl, by decide, fun _ => rfl, fun h => absurd h (by decide)⟩

theorem info : (Try.prog.info? 52).map (fun i => (i.zero, i.size, i.bytes)) = some (some (.agg #[.int .u32 0, .int .u64 0]), 2, 16) := by kernel_rfl

/-- What a call hands back: the list l in memory of its own, from block number base on. -/
def Own (base : Nat) (w : World) (v : Value) (l : List El) : Prop := w.ownsRow base 52 2 v l.length (cells l)

theorem Own.form {base : Nat} {w : World} {v : Value} {l : List El} (h : Own base w v l) : (v = .slice none 0 0 ∧ l = []) ∨ ∃ g cap, v = .slice (some ⟨g, 0, none⟩) l.length cap ∧ base ≤ g ∧ g < w.heap.size ∧ l.length ≤ cap ∧ cap ≤ 9223372036854775807 := by
  rcases h.2 with ⟨hv, h0⟩ | ⟨g, cap, cur, hv, hg, hh, h3, h4, h5, h6⟩
  · exact Or.inl ⟨hv, List.eq_nil_of_length_eq_zero h0⟩
  · exact Or.inr ⟨g, cap, hv, hg, lt_of_block hh, h3, h4⟩
theorem Own.bts {base : Nat} {w : World} {v : Value} {l : List El} (h : Own base w v l) : Bts w v l := by
  rcases h.2 with ⟨hv, h0⟩ | ⟨g, cap, cur, hv, hg, hh, h3, h4, h5, h6⟩
  · exact ⟨none, 0, by rw [hv, h0], by omega, fun _ => rfl, fun h => absurd h (by omega)⟩
  · refine ⟨some ⟨g, 0, none⟩, cap, hv, ⟨h3, h4⟩, fun h => by simp at h, fun _ => ⟨g, 0, rfl, fun j hj => ?_⟩⟩
    rw [Nat.zero_add, cell_of_row _ g j cur 52 (0, 0) hh, ← h6, List.getElem?_take, if_pos hj, Array.getElem?_toList]
theorem Own.grown {base : Nat} {w w' : World} {v : Value} {l : List El} {row : Option Nat} (h : Own base w v l) (hg : w.grownBy w' row) (hne : v.ownBlock = none ∨ v.ownBlock ≠ row) : Own base w' v l := h.kept hg hne
theorem Own.below {base : Nat} {w w' : World} {v : Value} {l : List El} (h : Own base w v l) (hb : Below w.heap.size w w') : Own base w' v l :=
  h.grown (row := none) (grownBy_below hb none) (by cases hv : v.ownBlock <;> simp)
theorem Own.from {base base' : Nat} {w : World} {v : Value} {l : List El} (h : Own base w v l) (hb : base' ≤ base) : Own base' w v l := by
  refine ⟨h.1, ?_⟩
  rcases h.2 with h2 | ⟨g, cap, cur, hv, hg, r⟩
  · exact Or.inl h2
  · exact Or.inr ⟨g, cap, cur, hv, Nat.le_trans hb hg, r⟩
theorem own_nil (base : Nat) (w : World) : Own base w (.slice none 0 0) [] := ⟨rfl, Or.inl ⟨rfl, rfl⟩⟩
theorem own_empty (w : World) (base : Nat) (hb : base ≤ w.heap.size) : Own base (w.alloc (.cells #[] 52)) (.slice (some ⟨w.heap.size, 0, none⟩) 0 0) [] :=
  ⟨rfl, Or.inr ⟨w.heap.size, 0, #[], rfl, hb, heap_alloc_last _ _, Nat.le_refl _, Nat.zero_le _, rfl, rfl⟩⟩

/-- Elements appended to what the call owns. -/
theorem wpList_append_Own {w : World} {ops : Array Oper} {rest : List Oper} {o : Oper} {a : Act} {Q : Exit → Act → World → Prop} (hgd : o.guard = none) (s x : Operand)
    (ho : o.op = .call { callee := .builtin .append, args := #[s, x], argTypes := #[28, 28] })
    (base : Nat) (v : Value) (l1 : List El) (hs : a.eval s = v) (hown : Own base w v l1)
    (xv : Value) (l2 : List El) (hx : a.eval x = xv) (hB : Bts w xv l2) (hlen : l1.length + l2.length ≤ 1000000) (hbase : base ≤ w.heap.size)
    (h : ∀ v' w', Own base w' v' (l1 ++ l2) → Below base w w' → w.grownBy w' v.ownBlock → wpList Try.prog ops Q rest (a.put o.dst v') w') : wpList Try.prog ops Q (o :: rest) a w := by
  obtain ⟨i0, hi, hz0, hz1, hz2⟩ := info_parts info
  obtain ⟨p, cap, rfl, _, hn, hp⟩ := hB.form
  cases p with
  | none =>
    obtain rfl := hn rfl
    have hl0 : l2.length = 0 := by
      rcases Nat.eq_zero_or_pos l2.length with h0 | h0
      · exact h0
      · obtain ⟨b, off, he, _⟩ := hp h0; simp at he
    obtain rfl : l2 = [] := List.eq_nil_of_length_eq_zero hl0
    refine wpList_append_own_none hgd s x 28 ho base 52 i0 2 Try.underlying28 hi v l1.length (cells l1) hs hown hx ?_
    refine h v w ?_ (Below.refl _ _) (World.grownBy.refl _ _)
    simpa using hown
  | some ad =>
    refine wpList_append_own w hgd s x 28 ho base 52 i0 (.agg #[.int .u32 0, .int .u64 0]) 2 16 Try.underlying28 hi hz0 hz1 hz2 rfl (by decide) v l1.length (cells l1) hs hown ad l2.length cap (cells l2) hx (cells_length _) ?_ (cells_one l2) (by unfold maxLen; omega) (by omega) hbase ?_
    · intro j u hj
      have hjl : j < l2.length * 2 := by
        rcases Nat.lt_or_ge j (l2.length * 2) with h1 | h1
        · exact h1
        · rw [List.getElem?_eq_none (by rw [cells_length]; exact h1)] at hj; simp at hj
      obtain ⟨b, off, he, hc⟩ := hp (by omega)
      obtain rfl := Option.some.inj he
      have hadd : (⟨b, off, none⟩ : Addr).add j = ⟨b, off + j, none⟩ := by unfold Addr.add; split <;> simp_all
      rw [hadd, hc j hjl, hj]
    · intro v' w' hown' hgrow _
      rw [← cells_append, ← List.length_append] at hown'
      refine h v' w' hown' ((Below.refl _ _).grown hgrow hbase ?_) hgrow
      intro k hk
      rcases hown.2 with ⟨rfl, _⟩ | ⟨g, c, cur, rfl, hg, _⟩
      · simp [Value.ownBlock] at hk
      · simp only [Value.ownBlock, Option.some.injEq] at hk
        omega

/-- One element in a new block reads as a list of one. -/
theorem bts_one (w : World) (h : El) (t : TypeId) : Bts (w.alloc (.cells (enc h).toArray t)) (.slice (some ⟨w.heap.size, 0, none⟩) 1 1) [h] := by
  refine ⟨_, 1, rfl, ⟨Nat.le_refl 1, by omega⟩, fun h => by simp at h, fun _ => ⟨w.heap.size, 0, rfl, fun j hj => ?_⟩⟩
  rw [Nat.zero_add, cell_of_row _ _ j _ _ (0, 0) (heap_alloc_last _ _)]
  simp [cells]

/-- One element written into a row of the call's own. -/
theorem Own.stored {base g cap : Nat} {w : World} {l : List El} (h : Own base w (.slice (some ⟨g, 0, none⟩) l.length cap) l) (i : Nat) (hi : i < l.length) (x : El) :
    Own base ((w.setCell ⟨g, i * 2, none⟩ (.int .u32 (x.1 : Int))).setCell ⟨g, i * 2 + 1, none⟩ (.int .u64 (x.2 : Int))) (.slice (some ⟨g, 0, none⟩) l.length cap) (l.set i x) ∧ w.grownBy ((w.setCell ⟨g, i * 2, none⟩ (.int .u32 (x.1 : Int))).setCell ⟨g, i * 2 + 1, none⟩ (.int .u64 (x.2 : Int))) (some g) := by
  obtain ⟨a0, b0⟩ := World.ownsRow.stored h (i * 2) (.int .u32 (x.1 : Int))
  obtain ⟨a1, b1⟩ := World.ownsRow.stored a0 (i * 2 + 1) (.int .u64 (x.2 : Int))
  rw [← cells_set l i x hi] at a1
  exact ⟨by unfold Own; rw [List.length_set]; exact a1, (grownBy_trans b0 b1)⟩
theorem Own.free {base g cap : Nat} {w : World} {l : List El} (h : Own base w (.slice (some ⟨g, 0, none⟩) l.length cap) l) (j : Nat) : w.frozen? ⟨g, j, none⟩ = false := World.ownsRow.frozenAt h j
theorem Own.is {base g cap : Nat} {w : World} {l : List El} (h : Own base w (.slice (some ⟨g, 0, none⟩) l.length cap) l) (j : Nat) (hj : j < l.length * 2) : ∃ u, w.cell? ⟨g, j, none⟩ = some u := by
  have := World.ownsRow.cellAt h j hj
  rw [List.getElem?_eq_getElem (by rw [cells_length]; exact hj)] at this
  exact ⟨_, this⟩

/-- A new slice of n noughts. -/
theorem wpList_make_len {w : World} {ops : Array Oper} {rest : List Oper} {o : Oper} {a : Act} {Q : Exit → Act → World → Prop} (hgd : o.guard = none) (x c : Operand)
    (hop : o.op = Op.makeSlice 28 x c) (base : Nat) (kl kc : IntKind) (n : Nat) (hl : a.eval x = .int kl (n : Int)) (hc : a.eval c = .int kc (n : Int)) (hn : n ≤ 1000000) (hbase : base ≤ w.heap.size)
    (h : ∀ g w', Own base w' (.slice (some ⟨g, 0, none⟩) n n) (List.replicate n default) → base ≤ g → Below base w w' → wpList Try.prog ops Q rest (a.put o.dst (.slice (some ⟨g, 0, none⟩) n n)) w') : wpList Try.prog ops Q (o :: rest) a w := by
  obtain ⟨i0, hi, hz0, hz1, hz2⟩ := info_parts info
  refine wpList_make_full w hgd x c 28 hop base 52 i0 (.agg #[.int .u32 0, .int .u64 0]) 2 Try.underlying28 hi hz0 hz1 kl kc n n n hl hc rfl rfl (by rw [hz2]; omega) (by unfold maxLen; omega) hbase ?_
  intro w' hown hg
  have e : (madeCells (Value.cells (.agg #[.int .u32 0, .int .u64 0])) (n * 2)).toList = cells (List.replicate n default) := by
    apply List.ext_getElem?
    intro k
    by_cases hk : k < n * 2
    · have h1 := cells_at (List.replicate n default) (k / 2) (k % 2) (by rw [List.length_replicate]; omega) (by omega)
      rw [show k / 2 * 2 + k % 2 = k by omega] at h1
      have h2 : (List.replicate n (default : El)).getD (k / 2) default = default := by
        rw [List.getD_eq_getElem?_getD, List.getElem?_replicate]; split <;> rfl
      rw [h1, h2]
      have hm : k % 2 < 2 := Nat.mod_lt _ (by decide)
      have hg : (madeCells (Value.cells (.agg #[.int .u32 0, .int .u64 0])) (n * 2))[k]? = some ((Value.cells (.agg #[.int .u32 0, .int .u64 0]))[k % 2]!) := by
        unfold madeCells
        rw [Array.getElem?_map, Array.getElem?_range, if_pos hk]
        rfl
      rw [Array.getElem?_toList, hg]
      generalize k % 2 = r at hm ⊢
      match r, hm with
      | 0, _ => rfl
      | 1, _ => rfl
    · have e1 : (madeCells (Value.cells (.agg #[.int .u32 0, .int .u64 0])) (n * 2)).toList.length ≤ k := by rw [Array.length_toList, size_madeCells]; omega
      have e2 : (cells (List.replicate n default)).length ≤ k := by rw [cells_length, List.length_replicate]; omega
      rw [List.getElem?_eq_none e1, List.getElem?_eq_none e2]
  rw [e] at hown
  refine h _ w' (by unfold Own; rw [List.length_replicate]; exact hown) hbase ((Below.refl _ _).grown hg hbase (fun k hk => by cases hk))
end Go.Proofs.Ytkchoelegdknoaa.Dir
