/- Rows of numbers of the call's own: made of noughts, written one by one. Conditions: the room. -/
import Derived.Test.YtpliogkcfhcfpaaI32
namespace Go.Proofs.Ytpliogkcfhcfpaa
open Go.RowKit

/-- One number written into a row of the call's own. -/
theorem I32.Own.stored {base g cap : Nat} {w : World} {l : List Int} (h : I32.Own base w (.slice (some ⟨g, 0, none⟩) l.length cap) l) (j : Nat) (z : Int) (hz : I32.Okk z) :
    I32.Own base (w.setCell ⟨g, j, none⟩ (.int .i32 z)) (.slice (some ⟨g, 0, none⟩) l.length cap) (l.set j z) ∧ w.grownBy (w.setCell ⟨g, j, none⟩ (.int .i32 z)) (some g) := by
  obtain ⟨h1, h2⟩ := h.own.stored j (.int .i32 z)
  refine ⟨⟨?_, ?_, by simpa using h.len⟩, h2⟩
  · have e : I32.bytesV (l.set j z) = (I32.bytesV l).set j (.int .i32 z) := by simp [I32.bytesV, List.map_set]
    rw [e, List.length_set]
    exact h1
  · intro x hx
    rcases List.mem_or_eq_of_mem_set hx with hx | rfl
    · exact h.small x hx
    · exact hz

theorem I32.Own.cellAt {base g cap : Nat} {w : World} {l : List Int} (h : I32.Own base w (.slice (some ⟨g, 0, none⟩) l.length cap) l) (j : Nat) (hj : j < l.length) : w.cell? ⟨g, j, none⟩ = some (.int .i32 (l.getD j 0)) ∧ w.frozen? ⟨g, j, none⟩ = false := by
  refine ⟨?_, h.own.frozenAt j⟩
  rw [h.own.cellAt j (by omega)]
  simp [I32.bytesV, List.getElem?_eq_getElem hj]

/-- A new slice of n noughts. -/
theorem I32.wpList_make_len {w : World} {ops : Array Oper} {rest : List Oper} {o : Oper} {a : Act} {Q : Exit → Act → World → Prop} (hgd : o.guard = none) (x c : Operand)
    (hop : o.op = Op.makeSlice 23 x c) (base : Nat) (kl kc : IntKind) (n : Nat) (hl : a.eval x = .int kl (n : Int)) (hc : a.eval c = .int kc (n : Int)) (hn : n ≤ 35184372088832) (hbase : base ≤ w.heap.size)
    (h : ∀ g w', I32.Own base w' (.slice (some ⟨g, 0, none⟩) n n) (List.replicate n 0) → base ≤ g → Below base w w' → wpList Try.prog ops Q rest (a.put o.dst (.slice (some ⟨g, 0, none⟩) n n)) w') : wpList Try.prog ops Q (o :: rest) a w := by
  obtain ⟨i0, hi, hz0, hz1, hz2⟩ := info_parts I32.info5
  refine wpList_make_full w hgd x c 23 hop base 21 i0 (.int .i32 0) 1 Try.underlying23 hi hz0 hz1 kl kc n n n hl hc rfl rfl (by rw [hz2]; omega) (by unfold maxLen; omega) hbase ?_
  intro w' hown hg
  have e : (madeCells (Value.int .i32 0).cells (n * 1)).toList = I32.bytesV (List.replicate n 0) := by
    have : (Value.int IntKind.i32 0).cells = #[Value.int IntKind.i32 0] := rfl
    rw [this, Nat.mul_one, toList_madeCells_one]
    simp [I32.bytesV]
  rw [e] at hown
  refine h _ w' ⟨by simpa using hown, ?_, by simpa using hn⟩ hbase ((Below.refl _ _).grown hg hbase (fun k hk => by cases hk))
  intro x hx
  rw [(List.mem_replicate.1 hx).2]
  exact I32.okk_nought

theorem set_next (acc : List Int) (z : Int) (j : Nat) (h : 0 < j) : (acc ++ List.replicate j 0).set acc.length z = acc ++ [z] ++ List.replicate (j - 1) 0 := by
  obtain ⟨i, rfl⟩ : ∃ i, j = i + 1 := ⟨j - 1, by omega⟩
  rw [List.replicate_succ, List.set_append_right _ _ (Nat.le_refl _), Nat.sub_self]
  simp
end Go.Proofs.Ytpliogkcfhcfpaa
