/- What stays while the first of several rows are written over; and a slice of slices' cells. Conditions: none. -/
import Derived.Test.YtkchoelegdknoaaByte
namespace Go.Proofs.Ytkchoelegdknoaa
open Go.RowKit

/-- What a call hands back, where it is not empty. -/
theorem own_some {base : Nat} {w : World} {v : Value} {l : List Nat} (h : Own base w v l) (h0 : 0 < l.length) : ∃ g cap, v = .slice (some ⟨g, 0, none⟩) l.length cap ∧ base ≤ g ∧ g < w.heap.size ∧ l.length ≤ cap ∧ cap ≤ 9223372036854775807 ∧ Row w g l.length := by
  rcases h.form with ⟨_, ht⟩ | ⟨g, cap, hv, h1, h2, h3, h4⟩
  · rw [ht] at h0; simp at h0
  · exact ⟨g, cap, hv, h1, h4.lt, h2, by unfold maxLen at h3; exact h3, h4⟩

/-- All blocks but the first k of G are as they were. -/
structure Off (W w : World) (G : Nat → Nat) (k : Nat) : Prop where
  os : w.os = W.os
  tape : w.tape = W.tape
  output : w.output = W.output
  size : W.heap.size ≤ w.heap.size
  block : ∀ i, i < W.heap.size → (∀ j, j < k → i ≠ G j) → w.heap[i]? = W.heap[i]?

theorem Off.refl (W : World) (G : Nat → Nat) (k : Nat) : Off W W G k := ⟨rfl, rfl, rfl, Nat.le_refl _, fun _ _ _ => rfl⟩

theorem Off.write {W w w' : World} {G : Nat → Nat} {k : Nat} (h : Off W w G k) (hg : w.grownBy w' (some (G k))) : Off W w' G (k + 1) :=
  ⟨hg.os.trans h.os, hg.tape.trans h.tape, hg.output.trans h.output, Nat.le_trans h.size hg.size, fun i hi hj => by
    rw [hg.block i (Nat.lt_of_lt_of_le hi h.size) (by intro e; exact hj k (by omega) (Option.some.inj e))]
    exact h.block i hi (fun j hjk => hj j (by omega))⟩

theorem Off.grow {W w w' : World} {G : Nat → Nat} {k : Nat} (h : Off W w G k) (hb : Below w.heap.size w w') : Off W w' G k :=
  ⟨hb.os.trans h.os, hb.tape.trans h.tape, hb.output.trans h.output, Nat.le_trans h.size hb.size, fun i hi hj => by
    rw [hb.block i (Nat.lt_of_lt_of_le hi h.size)]
    exact h.block i hi hj⟩

theorem Off.cell {W w : World} {G : Nat → Nat} {k : Nat} (h : Off W w G k) {b o : Nat} {v : Value} (hc : W.cell? ⟨b, o, none⟩ = some v) (hj : ∀ j, j < k → b ≠ G j) : w.cell? ⟨b, o, none⟩ = some v := by
  rw [World.cell?_of_block (w := W) (a := ⟨b, o, none⟩) (h.block b (block_lt_of_cell hc) hj)]
  exact hc

theorem Off.bts {W w : World} {G : Nat → Nat} {k : Nat} (h : Off W w G k) {v : Value} {l : List Nat} (hB : Bts W v l) (hj : 0 < l.length → ∀ b, v.ownBlock = some b → ∀ j, j < k → b ≠ G j) : Bts w v l := by
  obtain ⟨p, cap, hv, hr, hn, hp⟩ := hB.form
  refine ⟨⟨p, cap, hv, hr, hn, fun h0 => ?_⟩, hB.small, hB.len⟩
  obtain ⟨b, off, hpe, hc⟩ := hp h0
  refine ⟨b, off, hpe, fun i hi => ?_⟩
  exact h.cell (hc i hi) (hj h0 b (by rw [hv, hpe]; rfl))

theorem Off.row {W w : World} {G : Nat → Nat} {k g n : Nat} (h : Off W w G k) (hr : Row W g n) (hj : ∀ j, j < k → g ≠ G j) : Row w g n := by
  obtain ⟨cur, hh, hs, hc⟩ := hr
  exact ⟨cur, by rw [h.block g (lt_of_block hh) hj]; exact hh, hs, hc⟩

theorem Off.below {W w : World} {G : Nat → Nat} {k base : Nat} (h : Off W w G k) (hG : ∀ j, j < k → base ≤ G j) (hb : base ≤ W.heap.size) : Below base W w :=
  ⟨h.os, h.tape, h.output, h.size, fun i hi => h.block i (by omega) (fun j hj => by have := hG j hj; omega)⟩

/-- Bytes that were there ahead of a block. -/
theorem Bts.block_lt {w : World} {v : Value} {l : List Nat} (h : Bts w v l) (h0 : 0 < l.length) : ∀ b, v.ownBlock = some b → b < w.heap.size := by
  intro b hb
  obtain ⟨p, cap, hv, _, _, hp⟩ := h.form
  obtain ⟨b', off, rfl, hc⟩ := hp h0
  rw [hv] at hb
  simp only [Value.ownBlock, Option.some.injEq] at hb
  subst hb
  exact block_lt_of_cell (hc 0 h0)
/-- Bytes appended to what the call owns, as one operation. -/
theorem wp_append_Own {w : World} {o : Oper} {a : Act} {K : Act → World → Prop} {Q : Exit → Act → World → Prop} (s x : Operand)
    (ho : o.op = .call { callee := .builtin .append, args := #[s, x], argTypes := #[26, 26] })
    (base : Nat) (v : Value) (l1 : List Nat) (hs : a.eval s = v) (hown : Own base w v l1)
    (xv : Value) (l2 : List Nat) (hx : a.eval x = xv) (hB : Bts w xv l2) (hlen : l1.length + l2.length ≤ 140737488355328) (hbase : base ≤ w.heap.size)
    (h : ∀ v' w', Own base w' v' (l1 ++ l2) → Below base w w' → w.grownBy w' v.ownBlock → K (a.put o.dst v') w') : o.wp Try.prog a w K Q := by
  obtain ⟨i0, hi, hz0, hz1, hz2⟩ := info_parts info5
  have hsm : ∀ x ∈ l1 ++ l2, x < 256 := by
    intro y hy
    rcases List.mem_append.1 hy with hy | hy
    · exact hown.small y hy
    · exact hB.small y hy
  have hb : bytesV l1 ++ bytesV l2 = bytesV (l1 ++ l2) := by simp [bytesV]
  obtain ⟨p, cap, rfl, _, hn, hp⟩ := hB.form
  cases p with
  | none =>
    obtain rfl := hn rfl
    have hl0 : l2.length = 0 := by
      rcases Nat.eq_zero_or_pos l2.length with h0 | h0
      · exact h0
      · obtain ⟨b, off, he, _⟩ := hp h0; simp at he
    obtain rfl : l2 = [] := List.eq_nil_of_length_eq_zero hl0
    have hrun := run_append_owned_none (P := Try.prog) (w := w) base 26 o.type 5 i0 1 Try.underlying26 hi v l1.length (bytesV l1) hown.own
    have hx' : a.eval x = .slice none 0 0 := hx
    have hk := h v w (by simpa using hown) (Below.refl _ _) (grownBy_refl _ _)
    unfold Oper.wp
    simp [execOp, ho, resolve, invoke, builtin, hs, hx', hrun, Result.andThen]
    exact hk
  | some ad =>
    refine wp_append_own w s x 26 ho base 5 i0 (.int .u8 0) 1 1 Try.underlying26 hi hz0 hz1 hz2 rfl (by decide) v l1.length (bytesV l1) hs hown.own ad l2.length cap (bytesV l2) hx (by simp [bytesV]) ?_ ?_ (by unfold maxLen; omega) (by omega) hbase ?_
    · intro j u hj
      have hjl : j < l2.length := by
        rcases Nat.lt_or_ge j l2.length with h1 | h1
        · exact h1
        · rw [List.getElem?_eq_none (by simpa [bytesV] using h1)] at hj; simp at hj
      obtain ⟨b, off, he, hc⟩ := hp (by omega)
      obtain rfl := Option.some.inj he
      have hadd : (⟨b, off, none⟩ : Addr).add j = ⟨b, off + j, none⟩ := by unfold Addr.add; split <;> simp_all
      rw [hadd, hc j hjl, ← hj]
      simp [bytesV, List.getElem?_eq_getElem hjl]
    · intro u hu
      simp only [bytesV, List.mem_map] at hu
      obtain ⟨y, _, rfl⟩ := hu
      rfl
    · intro v' w' hown' hgrow _
      rw [hb, ← List.length_append] at hown'
      refine h v' w' ⟨hown', hsm, by simp; omega⟩ ((Below.refl _ _).grown hgrow hbase ?_) hgrow
      intro k hk
      rcases hown.own.2 with ⟨rfl, _⟩ | ⟨g, c, cur, rfl, hg, _⟩
      · simp [Value.ownBlock] at hk
      · simp only [Value.ownBlock, Option.some.injEq] at hk
        omega
end Go.Proofs.Ytkchoelegdknoaa
