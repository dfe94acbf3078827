/- Places one behind the other in a slice that is appended to at its end and taken from at its front. Conditions: none. Places in a slice that begins at its block's front: one more, and the first ones struck. Conditions: none. -/
import Derived.Test.YtafpjcobagofcaaGreatWlBase
import Derived.ArgAppend
import Derived.Laws.IdiomCopy
import Derived.Maps.AppendAt
namespace Go.Proofs.YtafpjcobagofcaaGreat
open Go.RowKit

/-- The slice value v holds the numbers l, in a block from base on; behind them there may be room. -/
def Qu (base : Nat) (w : World) (v : Value) (l : List Nat) : Prop := (v = .slice none 0 0 ∧ l = []) ∨
  ∃ g off cap cur, v = .slice (some ⟨g, off, none⟩) l.length cap ∧ base ≤ g ∧ w.heap[g]? = some (.cells cur 30 (0, 0)) ∧ off + cap = cur.size ∧ l.length ≤ cap ∧ cap ≤ 9223372036854775807 ∧ ∀ i, i < l.length → cur[off + i]? = some (.int .u64 (l.getD i 0 : Nat))
theorem qu_nil (base : Nat) (w : World) : Qu base w (.slice none 0 0) [] := Or.inl ⟨rfl, rfl⟩
theorem Qu.keep {base : Nat} {w w' : World} {v : Value} {l : List Nat} (h : Qu base w v l) (hk : ∀ g, v.ownBlock = some g → w'.heap[g]? = w.heap[g]?) : Qu base w' v l := by
  rcases h with h | ⟨g, off, cap, cur, hv, hb, hh, h1, h2, h3, h4⟩
  · exact Or.inl h
  · exact Or.inr ⟨g, off, cap, cur, hv, hb, by rw [hk g (by rw [hv]; rfl)]; exact hh, h1, h2, h3, h4⟩
theorem Qu.lt {base : Nat} {w : World} {v : Value} {l : List Nat} (h : Qu base w v l) : ∀ g, v.ownBlock = some g → g < w.heap.size := by
  intro g hg
  rcases h with ⟨rfl, -⟩ | ⟨g2, off, cap, cur, rfl, hb, hh, -⟩
  · cases hg
  · simp only [Value.ownBlock, Option.some.injEq] at hg
    rw [← hg]; exact lt_of_block hh
theorem Qu.below {base : Nat} {w w' : World} {v : Value} {l : List Nat} (h : Qu base w v l) (hb : Below w.heap.size w w') : Qu base w' v l := h.keep fun g hg => hb.block g (h.lt g hg)
theorem Qu.touch {base : Nat} {w w' : World} {v : Value} {l : List Nat} {U : Nat → Prop} (h : Qu base w v l) (ht : Touch U w w') (hu : ∀ g, v.ownBlock = some g → ¬ U g) : Qu base w' v l := h.keep fun g hg => ht.block g (h.lt g hg) (hu g hg)
theorem Qu.some {base : Nat} {w : World} {v : Value} {l : List Nat} (h : Qu base w v l) (h0 : 0 < l.length) : ∃ g off cap, v = .slice (some ⟨g, off, none⟩) l.length cap ∧ base ≤ g ∧ l.length ≤ cap ∧ cap ≤ 9223372036854775807 ∧ ∀ i, i < l.length → w.cell? ⟨g, off + i, none⟩ = some (.int .u64 (l.getD i 0 : Nat)) := by
  rcases h with ⟨-, rfl⟩ | ⟨g, off, cap, cur, hv, hb, hh, h1, h2, h3, h4⟩
  · simp at h0
  · exact ⟨g, off, cap, hv, hb, h2, h3, fun i hi => by rw [cell_of_row _ g (off + i) cur _ (0, 0) hh]; exact h4 i hi⟩
theorem Qu.slice {base : Nat} {w : World} {v : Value} {l : List Nat} (h : Qu base w v l) : ∃ p cap, v = .slice p l.length cap := by
  rcases h with ⟨rfl, rfl⟩ | ⟨g, off, cap, cur, hv, -⟩
  · exact ⟨none, 0, rfl⟩
  · exact ⟨_, cap, hv⟩
/-- The first one is taken off. -/
theorem Qu.tail {base g off n cap : Nat} {w : World} {x : Nat} {l : List Nat} (h : Qu base w (.slice (Option.some ⟨g, off, none⟩) n cap) (x :: l)) : Qu base w (.slice (Option.some ⟨g, off + 1, none⟩) l.length (cap - 1)) l := by
  rcases h with ⟨hv, -⟩ | ⟨g2, off2, cap2, cur, hv, hb, hh, h1, h2, h3, h4⟩
  · cases hv
  · simp only [Value.slice.injEq, Option.some.injEq, Addr.mk.injEq, and_true] at hv
    obtain ⟨⟨rfl, rfl⟩, -, rfl⟩ := hv
    simp only [List.length_cons] at h2
    refine Or.inr ⟨g, off + 1, cap - 1, cur, rfl, hb, hh, by omega, by omega, by omega, fun i hi => ?_⟩
    have := h4 (i + 1) (by simpa using hi)
    rw [show off + 1 + i = off + (i + 1) by omega, this]
    simp
theorem info64 : (Tryz.prog.info? 30).map (fun i => (i.zero, i.size, i.bytes)) = Option.some (Option.some (.int .u64 0), 1, 8) := by kernel_rfl
def u64V (l : List Nat) : List Value := l.map fun x : Nat => Value.int .u64 (x : Int)
theorem _root_.Go.World.ownsRow.from_ {w : World} {base base' : Nat} {e : TypeId} {size : Nat} {v : Value} {n : Nat} {xs : List Value} (h : w.ownsRow base e size v n xs) (hb : base' ≤ base) : w.ownsRow base' e size v n xs := by
  refine ⟨h.1, ?_⟩
  rcases h.2 with h5 | ⟨g5, c5, cur5, hv5, hb5, r5⟩
  · exact Or.inl h5
  · exact Or.inr ⟨g5, c5, cur5, hv5, Nat.le_trans hb hb5, r5⟩
theorem _root_.Go.World.ownsRow.new_ {w : World} {base : Nat} {e : TypeId} {size : Nat} {v : Value} {n : Nat} {xs : List Value} (h : w.ownsRow base e size v n xs) {i : Nat} (hi : v.ownBlock = Option.some i) : base ≤ i := by
  rcases h.2 with ⟨hv, -⟩ | ⟨g5, c5, cur5, hv5, hb5, -⟩
  · rw [hv] at hi; cases hi
  · rw [hv5] at hi
    simp only [Value.ownBlock, Option.some.injEq] at hi
    omega
/-- One more behind them. -/
theorem wpList_append_Qu {w : World} {ops : Array Oper} {rest : List Oper} {o : Oper} {a : Act} {Q : Exit → Act → World → Prop} (hgd : o.guard = none) (s x : Operand)
    (ho : o.op = .call { callee := .builtin .append, args := #[s, x], argTypes := #[54, 54] })
    (base : Nat) (v : Value) (l : List Nat) (hs : a.eval s = v) (hq : Qu base w v l) (y gx : Nat) (hx : a.eval x = .slice (some ⟨gx, 0, none⟩) 1 1) (hcx : w.cell? ⟨gx, 0, none⟩ = Option.some (.int .u64 (y : Int))) (hl : l.length ≤ 100000) (hbase : base ≤ w.heap.size)
    (h : ∀ v' w', Qu base w' v' (l ++ [y]) → w.grownBy w' v.ownBlock → (∀ i, v'.ownBlock = Option.some i → v.ownBlock = Option.some i ∨ w.heap.size ≤ i) → wpList Tryz.prog ops Q rest (a.put o.dst v') w') : wpList Tryz.prog ops Q (o :: rest) a w := by
  obtain ⟨i0, hi, hz0, hz1, hz2⟩ := info_parts info64
  have news1 : ∀ j u, ([Value.int .u64 (y : Int)] : List Value)[j]? = Option.some u → w.cell? ((⟨gx, 0, none⟩ : Addr).add j) = Option.some u := by
    intro j u hj
    cases j with
    | zero => simp at hj; subst hj; simpa [Addr.add] using hcx
    | succ j => simp at hj
  have toQ : ∀ (v' : Value) (w' : World), w'.ownsRow base 30 1 v' (l.length + 1) (u64V (l ++ [y])) → Qu base w' v' (l ++ [y]) := by
    intro v' w' ho
    rcases ho.2 with ⟨_, h0⟩ | ⟨g, cap, cur, hv, hg, hh, h3, h4, h5, h6⟩
    · omega
    · refine Or.inr ⟨g, 0, cap, cur, by rw [hv]; simp, hg, hh, by omega, by simpa using h3, by unfold maxLen at h4; exact h4, fun i hi => ?_⟩
      rw [Nat.zero_add]
      have e : (cur.toList.take ((l.length + 1) * 1))[i]? = (u64V (l ++ [y]))[i]? := by rw [h6]
      rw [List.getElem?_take, if_pos (by simp at hi; omega), Array.getElem?_toList] at e
      rw [e]
      unfold u64V
      rw [List.getElem?_map, List.getD_eq_getElem?_getD, List.getElem?_eq_getElem hi]
      rfl
  rcases hq with ⟨rfl, rfl⟩ | ⟨g, off, cap, cur, rfl, hb, hh, h1, h2, h3, h4⟩
  · refine wpList_append_own w hgd s x 54 ho w.heap.size 30 i0 (.int .u64 0) 1 8 Tryz.underlying54 hi hz0 hz1 hz2 rfl (by decide) (.slice none 0 0) 0 [] hs ⟨rfl, Or.inl ⟨rfl, rfl⟩⟩ ⟨gx, 0, none⟩ 1 1 [.int .u64 (y : Int)] hx rfl news1 (by intro u hu; rw [List.mem_singleton.1 hu]; rfl) (by unfold maxLen; omega) (by omega) (Nat.le_refl _) ?_
    intro v' w' hown hgrow _
    exact h v' w' (toQ v' w' (hown.from_ hbase)) hgrow (fun i e => Or.inr (hown.new_ e))
  · refine wpList_append_arg w hgd s x 54 ho 30 i0 (.int .u64 0) 1 8 Tryz.underlying54 hi hz0 hz1 hz2 rfl (by decide) g off l.length cap (u64V l) hs (by simp [u64V]) ?_ ⟨gx, 0, none⟩ 1 1 [.int .u64 (y : Int)] hx rfl news1 (by intro u hu; rw [List.mem_singleton.1 hu]; rfl) ?_ (by unfold maxLen; omega) (by omega) ?_ ?_
    · intro j u hj
      have hjl : j < l.length := by
        rcases Nat.lt_or_ge j l.length with h5 | h5
        · exact h5
        · rw [List.getElem?_eq_none (by simpa [u64V] using h5)] at hj; cases hj
      rw [cell_of_row _ g (off + j) cur _ (0, 0) hh, h4 j hjl, ← hj]
      unfold u64V
      rw [List.getElem?_map, List.getD_eq_getElem?_getD, List.getElem?_eq_getElem hjl]
      rfl
    · intro hr j hj
      have hj0 : j = 0 := by simpa using hj
      subst hj0
      refine ⟨?_, by simp [World.frozen?, hh]⟩
      rw [cell_of_row _ g _ cur _ (0, 0) hh, Array.getElem?_eq_getElem (by omega)]
      rfl
    · intro hr
      have e : w.setCells g (off + l.length * 1) [Value.int .u64 (y : Int)] = w.setCell ⟨g, off + l.length, none⟩ (.int .u64 (y : Int)) := by
        rw [Nat.mul_one]; rfl
      rw [e]
      have hset : (w.setCell ⟨g, off + l.length, none⟩ (.int .u64 (y : Int))).heap[g]? = Option.some (.cells (cur.setIfInBounds (off + l.length) (.int .u64 (y : Int))) 30 (0, 0)) := by
        have hlt := lt_of_block hh
        have h' : w.heap[g] = .cells cur 30 (0, 0) := by simpa [Array.getElem?_eq_getElem hlt] using hh
        show (w.heap.modify g _)[g]? = _
        rw [Array.getElem?_eq_getElem (by simpa using hlt), Array.getElem_modify_self, h']
        rfl
      have hll : (l ++ [y]).length = l.length + 1 := by simp
      have hq : Qu base (w.setCell ⟨g, off + l.length, none⟩ (.int .u64 (y : Int))) (.slice (some ⟨g, off, none⟩) (l.length + 1) cap) (l ++ [y]) := by
        refine Or.inr ⟨g, off, cap, _, by rw [hll], hb, hset, by simpa using h1, by rw [hll]; exact hr, h3, fun i hi => ?_⟩
        rw [hll] at hi
        by_cases hil : i = l.length
        · subst hil
          rw [Array.getElem?_setIfInBounds_self_of_lt (by omega)]
          simp
        · rw [Array.getElem?_setIfInBounds_ne (by omega), h4 i (by omega)]
          rw [List.getD_eq_getElem?_getD, List.getD_eq_getElem?_getD, List.getElem?_append_left (by omega)]
      exact h _ _ hq (grownBy_setCell w g _ _) (fun i e => Or.inl e)
    · intro hr v' w' hown hgrow
      have hown2 : w'.ownsRow base 30 1 v' (l.length + 1) (u64V (l ++ [y])) := by
        have e : u64V (l ++ [y]) = u64V l ++ [Value.int .u64 (y : Int)] := by simp [u64V]
        rw [e]
        exact hown.from_ hbase
      refine h v' w' (toQ v' w' hown2) ?_ (fun i e => Or.inr (hown.new_ e))
      exact ⟨hgrow.os, hgrow.tape, hgrow.output, hgrow.size, fun i hi _ => hgrow.block i hi (by simp)⟩
end Go.Proofs.YtafpjcobagofcaaGreat

namespace Go.Proofs.YtafpjcobagofcaaGreat
open Go.RowKit

/-- The slice value v holds the numbers l, at the front of a block from base on; behind them there may be room. -/
def QO (base : Nat) (w : World) (v : Value) (l : List Nat) : Prop := w.ownsRow base 30 1 v l.length (u64V l)
theorem u64V_length (l : List Nat) : (u64V l).length = l.length := by simp [u64V]
theorem qo_nil (base : Nat) (w : World) : QO base w (.slice none 0 0) [] := ⟨rfl, Or.inl ⟨rfl, rfl⟩⟩
section
variable {base : Nat} {w w' : World} {v : Value} {l : List Nat} {T : Nat → Prop}
theorem QO.qu (h : QO base w v l) : Qu base w v l := by
  rcases h.2 with ⟨hv, h0⟩ | ⟨g, cap, cur, hv, hg, hh, h3, h4, h5, h6⟩
  · exact Or.inl ⟨hv, List.eq_nil_of_length_eq_zero h0⟩
  · refine Or.inr ⟨g, 0, cap, cur, hv, hg, hh, by omega, h3, by unfold maxLen at h4; exact h4, fun i hi => ?_⟩
    rw [Nat.zero_add]
    have e : (cur.toList.take (l.length * 1))[i]? = (u64V l)[i]? := by rw [h6]
    rw [List.getElem?_take, if_pos (by omega), Array.getElem?_toList] at e
    rw [e]
    unfold u64V
    rw [List.getElem?_map, List.getD_eq_getElem?_getD, List.getElem?_eq_getElem hi]
    rfl
theorem QO.keep (h : QO base w v l) (ht : Touch T w w') (hs : ∀ i, v.ownBlock = some i → ¬ T i) : QO base w' v l := by
  refine ⟨h.1, ?_⟩
  rcases h.2 with h2 | ⟨g, cap, cur, hv, hg, hh, r⟩
  · exact Or.inl h2
  · exact Or.inr ⟨g, cap, cur, hv, hg, ht.row hh (hs g (by rw [hv]; rfl)), r⟩
theorem QO.touch (h : QO base w v l) (ht : Touch T w w') (hs : ∀ i, v.ownBlock = some i → ¬ T i) : QO base w' v l := h.keep ht hs
theorem QO.lt (h : QO base w v l) : ∀ i, v.ownBlock = some i → i < w.heap.size := h.qu.lt
theorem QO.below (h : QO base w v l) (hb : Below w.heap.size w w') : QO base w' v l :=
  h.keep (T := fun i => w.heap.size ≤ i) (.of_below hb fun _ _ h => h) fun i hi => by have := h.lt i hi; omega
theorem QO.from {base' : Nat} (h : QO base w v l) (hb : base' ≤ base) : QO base' w v l := h.from_ hb
theorem QO.new (h : QO base w v l) {i : Nat} (hi : v.ownBlock = some i) : base ≤ i := h.new_ hi
/-- One more behind them, as one operation. -/
theorem wp_append_Qo {o : Oper} {a : Act} {K : Act → World → Prop} {Q : Exit → Act → World → Prop} (s x : Operand)
    (ho : o.op = .call { callee := .builtin .append, args := #[s, x], argTypes := #[54, 54] })
    (hs : a.eval s = v) (hq : QO base w v l) (y gx : Nat) (hx : a.eval x = .slice (some ⟨gx, 0, none⟩) 1 1) (hcx : w.cell? ⟨gx, 0, none⟩ = Option.some (.int .u64 (y : Int))) (hl : l.length ≤ 100000) (hbase : base ≤ w.heap.size)
    (h : ∀ v' w', QO base w' v' (l ++ [y]) → w.grownBy w' v.ownBlock → (v'.ownBlock = v.ownBlock ∨ ∃ i, v'.ownBlock = some i ∧ w.heap.size ≤ i) → K (a.put o.dst v') w') : o.wp Tryz.prog a w K Q := by
  obtain ⟨i0, hi, hz0, hz1, hz2⟩ := info_parts info64
  have news1 : ∀ j u, ([Value.int .u64 (y : Int)] : List Value)[j]? = Option.some u → w.cell? ((⟨gx, 0, none⟩ : Addr).add j) = Option.some u := by
    intro j u hj
    cases j with
    | zero => simp at hj; subst hj; simpa [Addr.add] using hcx
    | succ j => simp at hj
  have e : u64V l ++ [Value.int .u64 (y : Int)] = u64V (l ++ [y]) := by simp [u64V]
  obtain ⟨v', w', hr, hown', hgrow, -, hat⟩ := run_append_own_at (P := Tryz.prog) w base 54 o.type 30 i0 (.int .u64 0) 1 8 Tryz.underlying54 hi hz0 hz1 hz2 rfl (by decide) v l.length (u64V l) hq ⟨gx, 0, none⟩ 1 1 [.int .u64 (y : Int)] rfl news1 (by intro u hu; rw [List.mem_singleton.1 hu]; rfl) (by unfold maxLen; omega) (by omega) hbase
  rw [e] at hown'
  have hk := h v' w' (by show w'.ownsRow _ _ _ _ (l ++ [y]).length _; rw [List.length_append]; exact hown') hgrow (hat.imp id fun h => ⟨_, h, Nat.le_refl _⟩)
  unfold Oper.wp
  simp [execOp, ho, resolve, invoke, builtin, hs, hx, hr, Result.andThen]
  exact hk
end
end Go.Proofs.YtafpjcobagofcaaGreat
