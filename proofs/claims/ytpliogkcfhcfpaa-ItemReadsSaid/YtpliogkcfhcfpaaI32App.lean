/- Numbers appended to what the call owns, as one operation; rows of unlike elements lie apart. Conditions: the room. -/
import Derived.Test.YtpliogkcfhcfpaaI32
import Derived.Test.YtpliogkcfhcfpaaOff
namespace Go.Proofs.Ytpliogkcfhcfpaa
open Go.RowKit

/-- Bytes appended to what the call owns, as one operation. -/
theorem I32.wp_append_Own {w : World} {o : Oper} {a : Act} {K : Act → World → Prop} {Q : Exit → Act → World → Prop} (s x : Operand)
    (ho : o.op = .call { callee := .builtin .append, args := #[s, x], argTypes := #[23, 23] })
    (base : Nat) (v : Value) (l1 : List Int) (hs : a.eval s = v) (hown : I32.Own base w v l1)
    (xv : Value) (l2 : List Int) (hx : a.eval x = xv) (hB : I32.Bts w xv l2) (hlen : l1.length + l2.length ≤ 35184372088832) (hbase : base ≤ w.heap.size)
    (h : ∀ v' w', I32.Own base w' v' (l1 ++ l2) → Below base w w' → w.grownBy w' v.ownBlock → K (a.put o.dst v') w') : o.wp Try.prog a w K Q := by
  obtain ⟨i0, hi, hz0, hz1, hz2⟩ := info_parts I32.info5
  have hsm : ∀ x ∈ l1 ++ l2, I32.Okk x := by
    intro y hy
    rcases List.mem_append.1 hy with hy | hy
    · exact hown.small y hy
    · exact hB.small y hy
  have hb : I32.bytesV l1 ++ I32.bytesV l2 = I32.bytesV (l1 ++ l2) := by simp [I32.bytesV]
  obtain ⟨p, cap, rfl, _, hn, hp⟩ := hB.form
  cases p with
  | none =>
    obtain rfl := hn rfl
    have hl0 : l2.length = 0 := by
      rcases Nat.eq_zero_or_pos l2.length with h0 | h0
      · exact h0
      · obtain ⟨b, off, he, _⟩ := hp h0; simp at he
    obtain rfl : l2 = [] := List.eq_nil_of_length_eq_zero hl0
    have hrun := run_append_owned_none (P := Try.prog) (w := w) base 23 o.type 21 i0 1 Try.underlying23 hi v l1.length (I32.bytesV l1) hown.own
    have hx' : a.eval x = .slice none 0 0 := hx
    have hk := h v w (by simpa using hown) (Below.refl _ _) (I32.grownBy_refl _ _)
    unfold Oper.wp
    simp [execOp, ho, resolve, invoke, builtin, hs, hx', hrun, Result.andThen]
    exact hk
  | some ad =>
    refine wp_append_own w s x 23 ho base 21 i0 (.int .i32 0) 1 4 Try.underlying23 hi hz0 hz1 hz2 rfl (by decide) v l1.length (I32.bytesV l1) hs hown.own ad l2.length cap (I32.bytesV l2) hx (by simp [I32.bytesV]) ?_ ?_ (by unfold maxLen; omega) (by omega) hbase ?_
    · intro j u hj
      have hjl : j < l2.length := by
        rcases Nat.lt_or_ge j l2.length with h1 | h1
        · exact h1
        · rw [List.getElem?_eq_none (by simpa [I32.bytesV] using h1)] at hj; simp at hj
      obtain ⟨b, off, he, hc⟩ := hp (by omega)
      obtain rfl := Option.some.inj he
      have hadd : (⟨b, off, none⟩ : Addr).add j = ⟨b, off + j, none⟩ := by unfold Addr.add; split <;> simp_all
      rw [hadd, hc j hjl, ← hj]
      simp [I32.bytesV, List.getElem?_eq_getElem hjl]
    · intro u hu
      simp only [I32.bytesV, List.mem_map] at hu
      obtain ⟨y, _, rfl⟩ := hu
      rfl
    · intro v' w' hown' hgrow _
      rw [hb, ← List.length_append] at hown'
      refine h v' w' ⟨hown', hsm, by simp; omega⟩ ((Below.refl _ _).grown hgrow hbase ?_) hgrow
      intro k hk
      rcases hown.own.2 with ⟨rfl, _⟩ | ⟨g, c, cur, rfl, hg, _⟩
      · simp [Value.ownBlock] at hk
      · simp only [Value.ownBlock, Option.some.injEq] at hk
        omega

theorem I32.own_some {base : Nat} {w : World} {v : Value} {l : List Int} (h : I32.Own base w v l) (h0 : 0 < l.length) : ∃ g cap, v = .slice (some ⟨g, 0, none⟩) l.length cap ∧ base ≤ g ∧ g < w.heap.size ∧ l.length ≤ cap ∧ cap ≤ 9223372036854775807 ∧ I32.Row w g l.length := by
  rcases h.form with ⟨_, ht⟩ | ⟨g, cap, hv, h1, h2, h3, h4⟩
  · rw [ht] at h0; simp at h0
  · exact ⟨g, cap, hv, h1, h4.lt, h2, by unfold maxLen at h3; exact h3, h4⟩

/-- Rows of numbers and rows of bytes lie apart. -/
theorem apart_rows {w : World} {a b n k : Nat} {xs ys : List Value} {u v : Value} (h1 : w.ownsRow a 21 1 u n xs) (h2 : w.ownsRow b 5 1 v k ys) : u.ownBlock = none ∨ u.ownBlock ≠ v.ownBlock := by
  rcases h1.2 with ⟨rfl, _⟩ | ⟨g, cap, cur, rfl, _, hh, _⟩
  · exact Or.inl rfl
  · refine Or.inr fun e => ?_
    rcases h2.2 with ⟨rfl, _⟩ | ⟨g2, cap2, cur2, rfl, _, hh2, _⟩
    · simp [Value.ownBlock] at e
    · simp only [Value.ownBlock, Option.some.injEq] at e
      subst e
      rw [hh] at hh2
      simp at hh2
theorem apart_rows2 {w : World} {a b n k : Nat} {xs ys : List Value} {u v : Value} (h1 : w.ownsRow a 21 1 u n xs) (h2 : w.ownsRow b 5 1 v k ys) : v.ownBlock = none ∨ v.ownBlock ≠ u.ownBlock := by
  rcases h2.2 with ⟨rfl, _⟩ | ⟨g, cap, cur, rfl, _, hh, _⟩
  · exact Or.inl rfl
  · refine Or.inr fun e => ?_
    rcases h1.2 with ⟨rfl, _⟩ | ⟨g2, cap2, cur2, rfl, _, hh2, _⟩
    · simp [Value.ownBlock] at e
    · simp only [Value.ownBlock, Option.some.injEq] at e
      subst e
      rw [hh2] at hh
      simp at hh

/-- One number in memory of the call's own. -/
theorem I32.own_one (w : World) (base : Nat) (x : Int) (hb : base ≤ w.heap.size) (hx : I32.Okk x) : I32.Own base (w.alloc (.cells #[.int .i32 x] 21)) (.slice (some ⟨w.heap.size, 0, none⟩) 1 1) [x] :=
  ⟨⟨rfl, Or.inr ⟨w.heap.size, 1, #[.int .i32 x], rfl, hb, heap_alloc_last _ _, Nat.le_refl _, by decide, rfl, rfl⟩⟩, by simpa using hx, by simp⟩
theorem own_one (w : World) (base : Nat) (x : Nat) (hb : base ≤ w.heap.size) (hx : x < 256) : Own base (w.alloc (.cells #[.int .u8 (x : Int)] 5)) (.slice (some ⟨w.heap.size, 0, none⟩) 1 1) [x] :=
  ⟨⟨rfl, Or.inr ⟨w.heap.size, 1, #[.int .u8 (x : Int)], rfl, hb, heap_alloc_last _ _, Nat.le_refl _, by decide, rfl, rfl⟩⟩, by simpa using hx, by simp⟩
end Go.Proofs.Ytpliogkcfhcfpaa
