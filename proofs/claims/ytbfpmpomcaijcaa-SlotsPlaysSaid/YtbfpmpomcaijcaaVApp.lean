/- Values appended to what the call owns, as one operation. Conditions: the room. -/
import Derived.Test.YtbfpmpomcaijcaaBo
import Derived.Test.YtbfpmpomcaijcaaSv
import Derived.Test.YtbfpmpomcaijcaaOff
namespace Go.Proofs.Ytbfpmpomcaijcaa
open Go.RowKit

/-- Bytes appended to what the call owns, as one operation. -/
theorem Bo.wp_append_Own {w : World} {o : Oper} {a : Act} {K : Act → World → Prop} {Q : Exit → Act → World → Prop} (s x : Operand)
    (ho : o.op = .call { callee := .builtin .append, args := #[s, x], argTypes := #[23, 23] })
    (base : Nat) (v : Value) (l1 : List Value) (hs : a.eval s = v) (hown : Bo.Own base w v l1)
    (xv : Value) (l2 : List Value) (hx : a.eval x = xv) (hB : Bo.Bts w xv l2) (hlen : l1.length + l2.length ≤ 140737488355328) (hbase : base ≤ w.heap.size)
    (h : ∀ v' w', Bo.Own base w' v' (l1 ++ l2) → Below base w w' → w.grownBy w' v.ownBlock → K (a.put o.dst v') w') : o.wp Try.prog a w K Q := by
  obtain ⟨i0, hi, hz0, hz1, hz2⟩ := info_parts Bo.info5
  have hsm : ∀ x ∈ l1 ++ l2, Bo.Okk x := by
    intro y hy
    rcases List.mem_append.1 hy with hy | hy
    · exact hown.small y hy
    · exact hB.small y hy
  have hb : Bo.bytesV l1 ++ Bo.bytesV l2 = Bo.bytesV (l1 ++ l2) := by simp [Bo.bytesV]
  obtain ⟨p, cap, rfl, _, hn, hp⟩ := hB.form
  cases p with
  | none =>
    obtain rfl := hn rfl
    have hl0 : l2.length = 0 := by
      rcases Nat.eq_zero_or_pos l2.length with h0 | h0
      · exact h0
      · obtain ⟨b, off, he, _⟩ := hp h0; simp at he
    obtain rfl : l2 = [] := List.eq_nil_of_length_eq_zero hl0
    have hrun := run_append_owned_none (P := Try.prog) (w := w) base 23 o.type 4 i0 1 Try.underlying23 hi v l1.length (Bo.bytesV l1) hown.own
    have hx' : a.eval x = .slice none 0 0 := hx
    have hk := h v w (by simpa using hown) (Below.refl _ _) (Bo.grownBy_refl _ _)
    unfold Oper.wp
    simp [execOp, ho, resolve, invoke, builtin, hs, hx', hrun, Result.andThen]
    exact hk
  | some ad =>
    refine wp_append_own w s x 23 ho base 4 i0 (.bool false) 1 1 Try.underlying23 hi hz0 hz1 hz2 rfl (by decide) v l1.length (Bo.bytesV l1) hs hown.own ad l2.length cap (Bo.bytesV l2) hx (by simp [Bo.bytesV]) ?_ ?_ (by unfold maxLen; omega) (by omega) hbase ?_
    · intro j u hj
      have hjl : j < l2.length := by
        rcases Nat.lt_or_ge j l2.length with h1 | h1
        · exact h1
        · rw [List.getElem?_eq_none (by simpa [Bo.bytesV] using h1)] at hj; simp at hj
      obtain ⟨b, off, he, hc⟩ := hp (by omega)
      obtain rfl := Option.some.inj he
      have hadd : (⟨b, off, none⟩ : Addr).add j = ⟨b, off + j, none⟩ := by unfold Addr.add; split <;> simp_all
      rw [hadd, hc j hjl, ← hj]
      simp [Bo.bytesV, List.getElem?_eq_getElem hjl]
    · intro u hu
      exact hB.small u hu
    · intro v' w' hown' hgrow _
      rw [hb, ← List.length_append] at hown'
      refine h v' w' ⟨hown', hsm, by simp; omega⟩ ((Below.refl _ _).grown hgrow hbase ?_) hgrow
      intro k hk
      rcases hown.own.2 with ⟨rfl, _⟩ | ⟨g, c, cur, rfl, hg, _⟩
      · simp [Value.ownBlock] at hk
      · simp only [Value.ownBlock, Option.some.injEq] at hk
        omega

theorem Bo.own_some {base : Nat} {w : World} {v : Value} {l : List Value} (h : Bo.Own base w v l) (h0 : 0 < l.length) : ∃ g cap, v = .slice (some ⟨g, 0, none⟩) l.length cap ∧ base ≤ g ∧ g < w.heap.size ∧ l.length ≤ cap ∧ cap ≤ 9223372036854775807 ∧ Bo.Row w g l.length := by
  rcases h.form with ⟨_, ht⟩ | ⟨g, cap, hv, h1, h2, h3, h4⟩
  · rw [ht] at h0; simp at h0
  · exact ⟨g, cap, hv, h1, h4.lt, h2, by unfold maxLen at h3; exact h3, h4⟩

/-- Bytes appended to what the call owns, as one operation. -/
theorem Sv.wp_append_Own {w : World} {o : Oper} {a : Act} {K : Act → World → Prop} {Q : Exit → Act → World → Prop} (s x : Operand)
    (ho : o.op = .call { callee := .builtin .append, args := #[s, x], argTypes := #[24, 24] })
    (base : Nat) (v : Value) (l1 : List Value) (hs : a.eval s = v) (hown : Sv.Own base w v l1)
    (xv : Value) (l2 : List Value) (hx : a.eval x = xv) (hB : Sv.Bts w xv l2) (hlen : l1.length + l2.length ≤ 5864062014805) (hbase : base ≤ w.heap.size)
    (h : ∀ v' w', Sv.Own base w' v' (l1 ++ l2) → Below base w w' → w.grownBy w' v.ownBlock → K (a.put o.dst v') w') : o.wp Try.prog a w K Q := by
  obtain ⟨i0, hi, hz0, hz1, hz2⟩ := info_parts Sv.info5
  have hsm : ∀ x ∈ l1 ++ l2, Sv.Okk x := by
    intro y hy
    rcases List.mem_append.1 hy with hy | hy
    · exact hown.small y hy
    · exact hB.small y hy
  have hb : Sv.bytesV l1 ++ Sv.bytesV l2 = Sv.bytesV (l1 ++ l2) := by simp [Sv.bytesV]
  obtain ⟨p, cap, rfl, _, hn, hp⟩ := hB.form
  cases p with
  | none =>
    obtain rfl := hn rfl
    have hl0 : l2.length = 0 := by
      rcases Nat.eq_zero_or_pos l2.length with h0 | h0
      · exact h0
      · obtain ⟨b, off, he, _⟩ := hp h0; simp at he
    obtain rfl : l2 = [] := List.eq_nil_of_length_eq_zero hl0
    have hrun := run_append_owned_none (P := Try.prog) (w := w) base 24 o.type 30 i0 1 Try.underlying24 hi v l1.length (Sv.bytesV l1) hown.own
    have hx' : a.eval x = .slice none 0 0 := hx
    have hk := h v w (by simpa using hown) (Below.refl _ _) (Sv.grownBy_refl _ _)
    unfold Oper.wp
    simp [execOp, ho, resolve, invoke, builtin, hs, hx', hrun, Result.andThen]
    exact hk
  | some ad =>
    refine wp_append_own w s x 24 ho base 30 i0 (.slice none 0 0) 1 24 Try.underlying24 hi hz0 hz1 hz2 rfl (by decide) v l1.length (Sv.bytesV l1) hs hown.own ad l2.length cap (Sv.bytesV l2) hx (by simp [Sv.bytesV]) ?_ ?_ (by unfold maxLen; omega) (by omega) hbase ?_
    · intro j u hj
      have hjl : j < l2.length := by
        rcases Nat.lt_or_ge j l2.length with h1 | h1
        · exact h1
        · rw [List.getElem?_eq_none (by simpa [Sv.bytesV] using h1)] at hj; simp at hj
      obtain ⟨b, off, he, hc⟩ := hp (by omega)
      obtain rfl := Option.some.inj he
      have hadd : (⟨b, off, none⟩ : Addr).add j = ⟨b, off + j, none⟩ := by unfold Addr.add; split <;> simp_all
      rw [hadd, hc j hjl, ← hj]
      simp [Sv.bytesV, List.getElem?_eq_getElem hjl]
    · intro u hu
      exact hB.small u hu
    · intro v' w' hown' hgrow _
      rw [hb, ← List.length_append] at hown'
      refine h v' w' ⟨hown', hsm, by simp; omega⟩ ((Below.refl _ _).grown hgrow hbase ?_) hgrow
      intro k hk
      rcases hown.own.2 with ⟨rfl, _⟩ | ⟨g, c, cur, rfl, hg, _⟩
      · simp [Value.ownBlock] at hk
      · simp only [Value.ownBlock, Option.some.injEq] at hk
        omega

theorem Sv.own_some {base : Nat} {w : World} {v : Value} {l : List Value} (h : Sv.Own base w v l) (h0 : 0 < l.length) : ∃ g cap, v = .slice (some ⟨g, 0, none⟩) l.length cap ∧ base ≤ g ∧ g < w.heap.size ∧ l.length ≤ cap ∧ cap ≤ 9223372036854775807 ∧ Sv.Row w g l.length := by
  rcases h.form with ⟨_, ht⟩ | ⟨g, cap, hv, h1, h2, h3, h4⟩
  · rw [ht] at h0; simp at h0
  · exact ⟨g, cap, hv, h1, h4.lt, h2, by unfold maxLen at h3; exact h3, h4⟩

end Go.Proofs.Ytbfpmpomcaijcaa
