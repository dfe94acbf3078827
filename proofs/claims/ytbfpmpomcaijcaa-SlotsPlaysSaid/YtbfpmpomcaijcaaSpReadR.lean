/- A form read: rows of marks, and what stands while operations float. Conditions: none. -/
import Derived.Test.YtbfpmpomcaijcaaSpPutR
import Derived.Test.YtbfpmpomcaijcaaSlRdPure
import Derived.Test.YtbfpmpomcaijcaaInts
import Derived.Test.YtbfpmpomcaijcaaCodeTake
import Derived.Test.YtbfpmpomcaijcaaCodeLeft
namespace Go.Proofs.Ytbfpmpomcaijcaa
open Go.RowKit

namespace Sl
/-- The first k of n marks. -/
def mks (b : List Nat) (n k : Nat) : List Int := (List.range n).map fun i => if i < k then (mkk b i : Int) else 0
theorem mks_length (b : List Nat) (n k : Nat) : (mks b n k).length = n := by simp [mks]
theorem mks_getD {b : List Nat} {n k i : Nat} (h : i < n) : (mks b n k).getD i 0 = if i < k then (mkk b i : Int) else 0 := by
  unfold mks; simp [List.getD_eq_getElem?_getD, h]
theorem mks_set {b : List Nat} {n k : Nat} (h : k < n) : (mks b n k).set k (mkk b k : Int) = mks b n (k + 1) := by
  refine ext_getD 0 (by rw [List.length_set, mks_length, mks_length]) fun i hi => ?_
  rw [List.length_set, mks_length] at hi
  rw [mks_getD hi]
  by_cases e : k = i
  · subst e
    rw [getD_set_self _ _ (by rw [mks_length]; exact h), if_pos (by omega)]
  · rw [getD_set_ne _ _ _ e, mks_getD hi]
    by_cases h1 : i < k
    · rw [if_pos h1, if_pos (by omega)]
    · rw [if_neg h1, if_neg (by omega)]
theorem mks_zero (b : List Nat) (n : Nat) : mks b n 0 = List.replicate n 0 := by
  refine ext_getD 0 (by rw [mks_length, List.length_replicate]) fun i hi => ?_
  rw [mks_length] at hi
  rw [mks_getD hi, if_neg (by omega)]
  simp [List.getD_eq_getElem?_getD, hi]
theorem fl_set {b : List Nat} {n k : Nat} (h : k < n) : (fl b k ++ List.replicate (n - k) false).set k (decide (0 < mkk b k)) = fl b (k + 1) ++ List.replicate (n - (k + 1)) false := by
  obtain ⟨m, hm⟩ : ∃ m, n - k = m + 1 := ⟨n - k - 1, by omega⟩
  have e1 : n - (k + 1) = m := by omega
  rw [hm, e1, List.set_append_right _ _ (by rw [fl_length]; exact Nat.le_refl _), fl_length, Nat.sub_self, List.replicate_succ, List.set_cons_zero, fl_succ, List.append_assoc]
  rfl
theorem dt_set {b : List Nat} {n k : Nat} (h : k < n) : (dt b k ++ List.replicate (n - k) []).set k (tx b k) = dt b (k + 1) ++ List.replicate (n - (k + 1)) [] := by
  obtain ⟨m, hm⟩ : ∃ m, n - k = m + 1 := ⟨n - k - 1, by omega⟩
  have e1 : n - (k + 1) = m := by omega
  rw [hm, e1, List.set_append_right _ _ (by rw [dt_length]; exact Nat.le_refl _), dt_length, Nat.sub_self, List.replicate_succ, List.set_cons_zero, dt_succ, List.append_assoc]
  rfl
end Sl

theorem Ints.Own.stored {base g cap n : Nat} {w : World} {l : List Int} (h : Ints.Own base w (.slice (some ⟨g, 0, none⟩) n cap) l) (hn : l.length = n) (j : Nat) (z : Int) (hz : Ints.Okk z) :
    Ints.Own base (w.setCell ⟨g, j, none⟩ (.int .i64 z)) (.slice (some ⟨g, 0, none⟩) n cap) (l.set j z) ∧ w.grownBy (w.setCell ⟨g, j, none⟩ (.int .i64 z)) (some g) := by
  subst hn
  obtain ⟨h1, h2⟩ := h.own.stored j (.int .i64 z)
  refine ⟨⟨?_, ?_, by simpa using h.len⟩, h2⟩
  · have e : Ints.bytesV (l.set j z) = (Ints.bytesV l).set j (.int .i64 z) := by simp [Ints.bytesV, List.map_set]
    rw [e, List.length_set]
    exact h1
  · intro x hx
    rcases List.mem_or_eq_of_mem_set hx with hx | rfl
    · exact h.small x hx
    · exact hz
theorem Ints.Own.cellAt {base g cap n : Nat} {w : World} {l : List Int} (h : Ints.Own base w (.slice (some ⟨g, 0, none⟩) n cap) l) (hn : l.length = n) (j : Nat) (hj : j < n) : w.cell? ⟨g, j, none⟩ = some (.int .i64 (l.getD j 0)) ∧ w.frozen? ⟨g, j, none⟩ = false := by
  subst hn
  refine ⟨?_, h.own.frozenAt j⟩
  rw [h.own.cellAt j (by omega)]
  simp [Ints.bytesV, List.getElem?_eq_getElem hj]
theorem Ints.wp_make_len {w : World} {o : Oper} {a : Act} {K : Act → World → Prop} {Q : Exit → Act → World → Prop} (x c : Operand) (hop : o.op = Op.makeSlice 61 x c) (base : Nat) (kl kc : IntKind) (n : Nat) (hl : a.eval x = .int kl (n : Int)) (hc : a.eval c = .int kc (n : Int)) (hn : n ≤ 1000000) (hbase : base ≤ w.heap.size)
    (h : ∀ w', Ints.Own base w' (.slice (some ⟨w.heap.size, 0, none⟩) n n) (List.replicate n 0) → w.grownBy w' none → K (a.put o.dst (.slice (some ⟨w.heap.size, 0, none⟩) n n)) w') : o.wp Try.prog a w K Q := by
  refine wp_make_row x c 3 61 (.int .i64 0) 8 Ints.info5 rfl Try.underlying61 hop base kl kc n hl hc (by omega) (by unfold maxLen; omega) hbase fun w' h1 h2 => h w' ⟨?_, ?_, ?_⟩ h2
  · rw [List.length_replicate]
    have e : Ints.bytesV (List.replicate n 0) = List.replicate n (.int .i64 0) := by unfold Ints.bytesV; rw [List.map_replicate]
    rw [e]; exact h1
  · intro y hy
    rw [(List.mem_replicate.1 hy).2]; exact Ints.okk_nought
  · rw [List.length_replicate]; omega

/-- What is behind the first n bytes, as a reslice tells it. -/
theorem bts_from {w : World} {b off cap n L : Nat} {l : List Nat} (h : Bts w (.slice (some ⟨b, off, none⟩) L cap) l) (hL : L = l.length) (hn : n ≤ l.length) : Bts w (.slice (if cap = n then some ⟨b, off, none⟩ else some ⟨b, off + n, none⟩) (L - n) (cap - n)) (l.drop n) := by
  subst hL
  by_cases e : cap = n
  · rw [if_pos e]
    obtain ⟨p, c, hv, hr, -, -⟩ := h.form
    simp only [Value.slice.injEq] at hv
    obtain ⟨-, -, rfl⟩ := hv
    have hz : l.length - n = 0 := by omega
    rw [List.drop_of_length_le (by omega), hz]
    exact bts_zero w _ 0 _ rfl (by omega)
  · rw [if_neg e]; exact h.drop n hn

/-- Two rows made, and laid into the body X. -/
structure MkR (X n : Nat) (kv nv : Value) (W : World) (D : Nat → Bool) (xs : Nat → Value) (w : World) : Prop where
  gr : W.grownBy w (some X)
  lt : X < W.heap.size
  blk : w.heap[X]? = some (.cells #[kv, nv, (if D 7 then xs 2 else nilS), (if D 9 then xs 5 else nilS)] 26 (0, 0))
  a2 : D 2 = true → ∃ g, xs 2 = .slice (some ⟨g, 0, none⟩) n n ∧ W.heap.size ≤ g ∧ Bo.Own W.heap.size w (xs 2) (FB (List.replicate n false))
  a5 : D 5 = true → ∃ g, xs 5 = .slice (some ⟨g, 0, none⟩) n n ∧ W.heap.size ≤ g ∧ DOwn W.heap.size w (xs 5) (List.replicate n nilS) (List.replicate n [])
section
variable {X n : Nat} {kv nv : Value} {W w w' : World} {D : Nat → Bool} {xs : Nat → Value} {u : Value}
theorem MkR.first (xs : Nat → Value) (h : W.heap[X]? = some (.cells #[kv, nv, nilS, nilS] 26 (0, 0))) : MkR X n kv nv W (fun _ => false) xs W.drew :=
  ⟨grownBy_drew _ _, lt_of_block h, by rw [if_neg (by decide), if_neg (by decide)]; exact h, fun h => (by cases h), fun h => (by cases h)⟩
theorem MkR.skip (h : MkR X n kv nv W D xs w) (j : Nat) (hj : (j != 2 && j != 5 && j != 7 && j != 9) = true) : MkR X n kv nv W (Ord.wth D j) (Ord.set xs j u) w := by
  simp only [Bool.and_eq_true, bne_iff_ne] at hj
  obtain ⟨⟨⟨n2, n5⟩, n7⟩, n9⟩ := hj
  refine ⟨h.gr, h.lt, ?_, ?_, ?_⟩
  · rw [wth_ne _ (Ne.symm n7), wth_ne _ (Ne.symm n9), oset_ne _ _ (Ne.symm n2), oset_ne _ _ (Ne.symm n5)]; exact h.blk
  · rw [wth_ne _ (Ne.symm n2), oset_ne _ _ (Ne.symm n2)]; exact h.a2
  · rw [wth_ne _ (Ne.symm n5), oset_ne _ _ (Ne.symm n5)]; exact h.a5
theorem MkR.op2 (h : MkR X n kv nv W D xs w) (h7 : D 7 = false) (hu : u = .slice (some ⟨w.heap.size, 0, none⟩) n n) (hO : Bo.Own W.heap.size w' u (FB (List.replicate n false))) (hg : w.grownBy w' none) : MkR X n kv nv W (Ord.wth D 2) (Ord.set xs 2 u) w' := by
  have hb : Below w.heap.size w w' := (Below.refl _ _).grown hg (Nat.le_refl _) (fun i hi => by cases hi)
  refine ⟨grownBy_trans h.gr (grownBy_below hb _), h.lt, ?_, ?_, ?_⟩
  · have hx := h.blk
    rw [wth_ne _ (by decide), wth_ne _ (by decide), h7, if_neg (by decide : ¬ false = true), oset_ne _ _ (by decide)]
    rw [h7, if_neg (by decide : ¬ false = true)] at hx
    rw [hb.block _ (lt_of_block hx)]; exact hx
  · rw [oset_self]; exact fun _ => ⟨_, hu, h.gr.size, hO⟩
  · rw [wth_ne _ (by decide), oset_ne _ _ (by decide)]
    intro a
    obtain ⟨g, e, h1, h2⟩ := h.a5 a
    exact ⟨g, e, h1, h2.below hb⟩
theorem MkR.op5 (h : MkR X n kv nv W D xs w) (h9 : D 9 = false) (hu : u = .slice (some ⟨w.heap.size, 0, none⟩) n n) (hO : DOwn W.heap.size w' u (List.replicate n nilS) (List.replicate n [])) (hg : w.grownBy w' none) : MkR X n kv nv W (Ord.wth D 5) (Ord.set xs 5 u) w' := by
  have hb : Below w.heap.size w w' := (Below.refl _ _).grown hg (Nat.le_refl _) (fun i hi => by cases hi)
  refine ⟨grownBy_trans h.gr (grownBy_below hb _), h.lt, ?_, ?_, ?_⟩
  · have hx := h.blk
    rw [wth_ne _ (by decide), wth_ne _ (by decide), oset_ne _ _ (by decide), h9, if_neg (by decide : ¬ false = true)]
    rw [h9, if_neg (by decide : ¬ false = true)] at hx
    rw [hb.block _ (lt_of_block hx)]; exact hx
  · rw [wth_ne _ (by decide), oset_ne _ _ (by decide)]
    intro a
    obtain ⟨g, e, h1, h2⟩ := h.a2 a
    exact ⟨g, e, h1, h2.below hb⟩
  · rw [oset_self]; exact fun _ => ⟨_, hu, h.gr.size, hO⟩
theorem MkR.op7 (h : MkR X n kv nv W D xs w) : MkR X n kv nv W (Ord.wth D 7) (Ord.set xs 7 u) (w.setCell ⟨X, 2, none⟩ (xs 2)) := by
  have hg := grownBy_setCell w X 2 (xs 2)
  refine ⟨grownBy_trans h.gr hg, h.lt, ?_, ?_, ?_⟩
  · rw [wth_self, wth_ne _ (by decide), oset_ne _ _ (by decide), oset_ne _ _ (by decide), if_pos rfl]; exact (set4 h.blk).1
  · rw [wth_ne _ (by decide), oset_ne _ _ (by decide)]
    intro a
    obtain ⟨g, e, h1, h2⟩ := h.a2 a
    exact ⟨g, e, h1, h2.grown hg (row_ne_blk h2.own h.blk (by decide))⟩
  · rw [wth_ne _ (by decide), oset_ne _ _ (by decide)]
    intro a
    obtain ⟨g, e, h1, h2⟩ := h.a5 a
    exact ⟨g, e, h1, h2.blk h.blk hg⟩
theorem MkR.op9 (h : MkR X n kv nv W D xs w) : MkR X n kv nv W (Ord.wth D 9) (Ord.set xs 9 u) (w.setCell ⟨X, 3, none⟩ (xs 5)) := by
  have hg := grownBy_setCell w X 3 (xs 5)
  refine ⟨grownBy_trans h.gr hg, h.lt, ?_, ?_, ?_⟩
  · rw [wth_self, wth_ne _ (by decide), oset_ne _ _ (by decide), oset_ne _ _ (by decide), if_pos rfl]; exact (set4 h.blk).2
  · rw [wth_ne _ (by decide), oset_ne _ _ (by decide)]
    intro a
    obtain ⟨g, e, h1, h2⟩ := h.a2 a
    exact ⟨g, e, h1, h2.grown hg (row_ne_blk h2.own h.blk (by decide))⟩
  · rw [wth_ne _ (by decide), oset_ne _ _ (by decide)]
    intro a
    obtain ⟨g, e, h1, h2⟩ := h.a5 a
    exact ⟨g, e, h1, h2.blk h.blk hg⟩
end

/-- The marks are read: what stands. -/
structure MrkR (w0 : World) (sz R B X gm n : Nat) (kv nv : Value) (b : List Nat) (k : Nat) (w : World) : Prop where
  rd : Rd 75 (fun j => sz ≤ j ∧ j < B) w B (b.drop (6 + 2 * k)) (Sl.ste k)
  ans : w.heap[R]? = some (.cells #[.int .u8 0, .int .u32 0, nilS, nilS] 26 (0, 0))
  blk : w.heap[X]? = some (.cells #[kv, nv, nilS, nilS] 26 (0, 0))
  own : Ints.Own w0.heap.size w (.slice (some ⟨gm, 0, none⟩) n n) (Sl.mks b n k)
  bel : Below w0.heap.size w0 w
  hR : w0.heap.size ≤ R
  hB : R < B
  hX : B < X
  hg : X < gm
section
variable {w0 w w' : World} {sz R B X gm n : Nat} {kv nv : Value} {b : List Nat} {k : Nat}
theorem MrkR.read (h : MrkR w0 sz R B X gm n kv nv b k w) (hR : Rd 75 (fun j => sz ≤ j ∧ j < B) w' B (b.drop (6 + 2 * (k + 1))) (Sl.ste (k + 1))) (hg : w.grownBy w' (some B)) (hk : k < n) :
    MrkR w0 sz R B X gm n kv nv b (k + 1) (w'.setCell ⟨gm, k, none⟩ (.int .i64 (Sl.mkk b k : Int))) ∧ w'.cell? ⟨gm, k, none⟩ = some (.int .i64 ((Sl.mks b n k).getD k 0)) ∧ w'.frozen? ⟨gm, k, none⟩ = false := by
  have a1 := h.hB
  have a2 := h.hX
  have a3 := h.hg
  have a4 := h.hR
  have ho : Ints.Own w0.heap.size w' (.slice (some ⟨gm, 0, none⟩) n n) (Sl.mks b n k) := h.own.grown hg (Or.inr (fun e => by simp only [Value.ownBlock, Option.some.injEq] at e; omega))
  have hx : w'.heap[X]? = some (.cells #[kv, nv, nilS, nilS] 26 (0, 0)) := by rw [hg.block _ (lt_of_block h.blk) (fun e => by simp only [Option.some.injEq] at e; omega)]; exact h.blk
  have hr : w'.heap[R]? = some (.cells #[.int .u8 0, .int .u32 0, nilS, nilS] 26 (0, 0)) := by rw [hg.block _ (lt_of_block h.ans) (fun e => by simp only [Option.some.injEq] at e; omega)]; exact h.ans
  have hbl : Below w0.heap.size w0 w' := below_grown h.bel hg h.bel.size (by omega)
  have hz : Ints.Okk ((Sl.mkk b k : Nat) : Int) := by
    obtain ⟨s, hS⟩ := h.rd
    have h1 := Cod.num_lt ((b.drop (6 + 2 * k)).take 2) (fun x hx => hS.2.1.small x (List.mem_of_mem_take hx))
    have h2 : ((b.drop (6 + 2 * k)).take 2).length ≤ 2 := by rw [List.length_take]; omega
    have h3 : Sl.mkk b k < 65536 := Nat.lt_of_lt_of_le h1 (Nat.pow_le_pow_right (by decide) h2)
    have e1 : IntKind.i64.min = -9223372036854775808 := rfl
    have e2 : IntKind.i64.max = 9223372036854775807 := rfl
    unfold Ints.Okk
    simp only [Lit.wf, Bool.and_eq_true, decide_eq_true_eq]
    omega
  obtain ⟨hs, hg2⟩ := ho.stored (Sl.mks_length b n k) k _ hz
  rw [Sl.mks_set hk] at hs
  obtain ⟨c0, f0⟩ := ho.cellAt (Sl.mks_length b n k) k hk
  refine ⟨⟨hR.grown hg2 (fun g e => by simp only [Option.some.injEq] at e; subst e; exact ⟨fun hh => by omega, by omega⟩), ?_, ?_, hs, below_grown hbl hg2 hbl.size (by omega), a4, a1, a2, a3⟩, c0, f0⟩
  · rw [hg2.block _ (lt_of_block hr) (fun e => by simp only [Option.some.injEq] at e; omega)]; exact hr
  · rw [hg2.block _ (lt_of_block hx) (fun e => by simp only [Option.some.injEq] at e; omega)]; exact hx
end
end Go.Proofs.Ytbfpmpomcaijcaa
