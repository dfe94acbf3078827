/- Places in a slice that begins at its block's front: one more, and the first ones struck. Conditions: none. -/
import Derived.Test.YtafpjcobagofcaaWlQu
import Derived.Maps.AppendAt
namespace Go.Proofs.Ytafpjcobagofcaa
open Go.RowKit

/-- The slice value v holds the numbers l, at the front of a block from base on; behind them there may be room. -/
def QO (base : Nat) (w : World) (v : Value) (l : List Nat) : Prop := w.ownsRow base 31 1 v l.length (u64V l)
theorem u64V_length (l : List Nat) : (u64V l).length = l.length := by simp [u64V]
theorem qo_nil (base : Nat) (w : World) : QO base w (.slice none 0 0) [] := ⟨rfl, Or.inl ⟨rfl, rfl⟩⟩
section
variable {base : Nat} {w w' : World} {v : Value} {l : List Nat} {T : Nat → Prop}
theorem QO.qu (h : QO base w v l) : Qu base w v l := by
  rcases h.2 with ⟨hv, h0⟩ | ⟨g, cap, cur, hv, hg, hh, h3, h4, h5, h6⟩
  · exact Or.inl ⟨hv, List.eq_nil_of_length_eq_zero h0⟩
  · refine Or.inr ⟨g, 0, cap, cur, hv, hg, hh, by omega, h3, by unfold maxLen at h4; exact h4, fun i hi => ?_⟩
    rw [Nat.zero_add]
    have e : (cur.toList.take (l.length * 1))[i]? = (u64V l)[i]? := by rw [h6]
    rw [List.getElem?_take, if_pos (by omega), Array.getElem?_toList] at e
    rw [e]
    unfold u64V
    rw [List.getElem?_map, List.getD_eq_getElem?_getD, List.getElem?_eq_getElem hi]
    rfl
theorem QO.keep (h : QO base w v l) (ht : Touch T w w') (hs : ∀ i, v.ownBlock = some i → ¬ T i) : QO base w' v l := by
  refine ⟨h.1, ?_⟩
  rcases h.2 with h2 | ⟨g, cap, cur, hv, hg, hh, r⟩
  · exact Or.inl h2
  · exact Or.inr ⟨g, cap, cur, hv, hg, ht.row hh (hs g (by rw [hv]; rfl)), r⟩
theorem QO.touch (h : QO base w v l) (ht : Touch T w w') (hs : ∀ i, v.ownBlock = some i → ¬ T i) : QO base w' v l := h.keep ht hs
theorem QO.lt (h : QO base w v l) : ∀ i, v.ownBlock = some i → i < w.heap.size := h.qu.lt
theorem QO.below (h : QO base w v l) (hb : Below w.heap.size w w') : QO base w' v l :=
  h.keep (T := fun i => w.heap.size ≤ i) (.of_below hb fun _ _ h => h) fun i hi => by have := h.lt i hi; omega
theorem QO.from {base' : Nat} (h : QO base w v l) (hb : base' ≤ base) : QO base' w v l := h.from_ hb
theorem QO.new (h : QO base w v l) {i : Nat} (hi : v.ownBlock = some i) : base ≤ i := h.new_ hi
/-- One more behind them, as one operation. -/
theorem wp_append_Qo {o : Oper} {a : Act} {K : Act → World → Prop} {Q : Exit → Act → World → Prop} (s x : Operand)
    (ho : o.op = .call { callee := .builtin .append, args := #[s, x], argTypes := #[56, 56] })
    (hs : a.eval s = v) (hq : QO base w v l) (y gx : Nat) (hx : a.eval x = .slice (some ⟨gx, 0, none⟩) 1 1) (hcx : w.cell? ⟨gx, 0, none⟩ = Option.some (.int .u64 (y : Int))) (hl : l.length ≤ 100000) (hbase : base ≤ w.heap.size)
    (h : ∀ v' w', QO base w' v' (l ++ [y]) → w.grownBy w' v.ownBlock → (v'.ownBlock = v.ownBlock ∨ ∃ i, v'.ownBlock = some i ∧ w.heap.size ≤ i) → K (a.put o.dst v') w') : o.wp Try.prog a w K Q := by
  obtain ⟨i0, hi, hz0, hz1, hz2⟩ := info_parts info64
  have news1 : ∀ j u, ([Value.int .u64 (y : Int)] : List Value)[j]? = Option.some u → w.cell? ((⟨gx, 0, none⟩ : Addr).add j) = Option.some u := by
    intro j u hj
    cases j with
    | zero => simp at hj; subst hj; simpa [Addr.add] using hcx
    | succ j => simp at hj
  have e : u64V l ++ [Value.int .u64 (y : Int)] = u64V (l ++ [y]) := by simp [u64V]
  obtain ⟨v', w', hr, hown', hgrow, -, hat⟩ := run_append_own_at (P := Try.prog) w base 56 o.type 31 i0 (.int .u64 0) 1 8 Try.underlying56 hi hz0 hz1 hz2 rfl (by decide) v l.length (u64V l) hq ⟨gx, 0, none⟩ 1 1 [.int .u64 (y : Int)] rfl news1 (by intro u hu; rw [List.mem_singleton.1 hu]; rfl) (by unfold maxLen; omega) (by omega) hbase
  rw [e] at hown'
  have hk := h v' w' (by show w'.ownsRow _ _ _ _ (l ++ [y]).length _; rw [List.length_append]; exact hown') hgrow (hat.imp id fun h => ⟨_, h, Nat.le_refl _⟩)
  unfold Oper.wp
  simp [execOp, ho, resolve, invoke, builtin, hs, hx, hr, Result.andThen]
  exact hk
end
end Go.Proofs.Ytafpjcobagofcaa
