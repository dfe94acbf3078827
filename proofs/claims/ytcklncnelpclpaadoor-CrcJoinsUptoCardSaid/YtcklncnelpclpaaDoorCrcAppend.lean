/- What an append of bytes to a row of the call's own leaves, and what such a row holds. Conditions: none but the room. -/
import Derived.Test.YtcklncnelpclpaaDoorCrcKnown
import Derived.Laws.AppendOwnNone
namespace Go.Proofs.YtcklncnelpclpaaDoor
open Go.RowKit

theorem info5 : (Tryd.prog.info? 5).map (fun i => (i.zero, i.size, i.bytes)) = some (some (.int .u8 0), 1, 1) := by kernel_rfl

def bytesV (l : List Nat) : List Value := l.map fun x : Nat => Value.int .u8 (x : Int)

theorem bytesV_length (l : List Nat) : (bytesV l).length = l.length := by simp [bytesV]

/-- Bytes appended to a row of the call's own, whatever slice they come from. -/
theorem wpList_append_bts {w : World} {ops : Array Oper} {rest : List Oper} {o : Oper} {a : Act} {Q : Exit → Act → World → Prop} (hgd : o.guard = none) (s x : Operand)
    (ho : o.op = .call { callee := .builtin .append, args := #[s, x], argTypes := #[22, 22] })
    (base : Nat) (v : Value) (n : Nat) (xs : List Value) (hs : a.eval s = v) (hown : w.ownsRow base 5 1 v n xs)
    (xv : Value) (l : List Nat) (hx : a.eval x = xv) (hB : Bts w xv l) (hlen : n + l.length ≤ 140737488355328) (hbase : base ≤ w.heap.size)
    (h : ∀ v' w', w'.ownsRow base 5 1 v' (n + l.length) (xs ++ bytesV l) → Below base w w' → wpList Tryd.prog ops Q rest (a.put o.dst v') w') : wpList Tryd.prog ops Q (o :: rest) a w := by
  obtain ⟨i0, hi, hz0, hz1, hz2⟩ := info_parts info5
  obtain ⟨p, cap, rfl, _, hn, hp⟩ := hB.form
  cases p with
  | none =>
    obtain rfl := hn rfl
    have hl0 : l.length = 0 := by
      rcases Nat.eq_zero_or_pos l.length with h0 | h0
      · exact h0
      · obtain ⟨b, off, he, _⟩ := hp h0; simp at he
    obtain rfl : l = [] := List.eq_nil_of_length_eq_zero hl0
    refine wpList_append_own_none hgd s x 22 ho base 5 i0 1 Tryd.underlying22 hi v n xs hs hown hx ?_
    refine h v w ?_ (Below.refl _ _)
    simpa [bytesV] using hown
  | some ad =>
    refine wpList_append_own w hgd s x 22 ho base 5 i0 (.int .u8 0) 1 1 Tryd.underlying22 hi hz0 hz1 hz2 rfl (by decide) v n xs hs hown ad l.length cap (bytesV l) hx (by simp [bytesV]) ?_ ?_ (by unfold maxLen; omega) (by omega) hbase ?_
    · intro j u hj
      have hjl : j < l.length := by
        rcases Nat.lt_or_ge j l.length with h1 | h1
        · exact h1
        · rw [List.getElem?_eq_none (by simpa [bytesV] using h1)] at hj; simp at hj
      obtain ⟨b, off, he, hc⟩ := hp (by omega)
      obtain rfl := Option.some.inj he
      have hadd : (⟨b, off, none⟩ : Addr).add j = ⟨b, off + j, none⟩ := by unfold Addr.add; split <;> simp_all
      rw [hadd, hc j hjl, ← hj]
      simp [bytesV, List.getElem?_eq_getElem hjl]
    · intro u hu
      simp only [bytesV, List.mem_map] at hu
      obtain ⟨y, _, rfl⟩ := hu
      rfl
    · intro v' w' hown' hgrow _
      refine h v' w' hown' ((Below.refl _ _).grown hgrow hbase ?_)
      intro k hk
      rcases hown.2 with ⟨rfl, _⟩ | ⟨g, c, cur, rfl, hg, _⟩
      · simp [Value.ownBlock] at hk
      · simp only [Value.ownBlock, Option.some.injEq] at hk
        omega

/-- What an owned row of bytes holds, cell by cell. -/
theorem owns_cells {w : World} {base g cap n : Nat} {l : List Nat} (h : w.ownsRow base 5 1 (.slice (some ⟨g, 0, none⟩) n cap) n (bytesV l)) :
    base ≤ g ∧ n ≤ cap ∧ cap ≤ maxLen ∧ l.length = n ∧ ∀ i, i < l.length → w.cell? ⟨g, i, none⟩ = some (.int .u8 (l.getD i 0 : Nat)) := by
  obtain ⟨h1, h2⟩ := h
  rcases h2 with ⟨h2, _⟩ | ⟨g', cap', cur, hv, hg, hh, h3, h4, h5, h6⟩
  · simp at h2
  · simp only [Value.slice.injEq, Option.some.injEq, Addr.mk.injEq] at hv
    obtain ⟨⟨rfl, -, -⟩, -, rfl⟩ := hv
    have hln : l.length = n := by simpa [bytesV] using h1
    refine ⟨hg, h3, h4, hln, fun i hi => ?_⟩
    rw [cell_of_row _ g i cur 5 (0, 0) hh]
    have hi2 : (cur.toList.take (n * 1))[i]? = (bytesV l)[i]? := by rw [h6]
    rw [List.getElem?_take, if_pos (by omega)] at hi2
    rw [← Array.getElem?_toList, hi2]
    simp [bytesV, List.getElem?_eq_getElem hi]

/-- An owned row of bytes reads as its bytes. -/
theorem bts_owned {w : World} {base : Nat} {v : Value} {l : List Nat} (h : w.ownsRow base 5 1 v l.length (bytesV l)) (hs : ∀ x ∈ l, x < 256) (hl : l.length ≤ 140737488355328) : Bts w v l := by
  rcases h.2 with ⟨hv, h0⟩ | ⟨g, cap, cur, hv, _⟩
  · subst hv
    exact ⟨⟨none, 0, by rw [h0], by omega, fun _ => rfl, fun h => absurd h (by omega)⟩, hs, hl⟩
  · subst hv
    obtain ⟨_, h2, h3, _, h5⟩ := owns_cells h
    refine ⟨⟨some ⟨g, 0, none⟩, cap, rfl, ⟨h2, by unfold maxLen at h3; exact h3⟩, fun h => by simp at h, fun _ => ⟨g, 0, rfl, fun i hi => ?_⟩⟩, hs, hl⟩
    rw [Nat.zero_add]
    exact h5 i hi
end Go.Proofs.YtcklncnelpclpaaDoor
