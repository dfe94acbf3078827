/- Parts of a proof. Conditions: as each row says. -/
import Derived.Test.YtbpodmallknhfaaGreatAr15
import Derived.Test.YtbpodmallknhfaaGreatAr17
import Derived.RangeFuncCalls
namespace Go.Proofs.YtbpodmallknhfaaGreat
open Go.RowKit Go.Shelf
attribute [local go_sem] Oper.semAt_some
theorem or64_join (a b : Nat) (ha : a < 256) (hb : b < 256) : bits .or .i64 (a : Int) (256 * (b : Int)) = ((a + 256 * b : Nat) : Int) := by
  have h1 : (BitVec.ofInt 64 (a : Int)).toNat = a := by
    rw [BitVec.ofInt_natCast, BitVec.toNat_ofNat]; exact Nat.mod_eq_of_lt (by omega)
  have h2 : (BitVec.ofInt 64 (256 * (b : Int))).toNat = 256 * b := by
    rw [show (256 * (b : Int)) = ((256 * b : Nat) : Int) by omega, BitVec.ofInt_natCast, BitVec.toNat_ofNat]; exact Nat.mod_eq_of_lt (by omega)
  show IntKind.i64.wrap ((BitVec.ofInt 64 (a : Int) ||| BitVec.ofInt 64 (256 * (b : Int))).toNat : Int) = _
  have e : a ||| 256 * b = a + 256 * b := by
    have := Nat.two_pow_add_eq_or_of_lt (i := 8) (b := a) ha b
    rw [Nat.or_comm, Nat.add_comm]; exact this.symm
  rw [BitVec.toNat_or, h1, h2, e]
  exact IntWalk.i64_in _ (by omega)
def W1F (S : Value) (g o9 o10 o11 a9 a10 a11 N : Nat) (i : Nat) (u : Value) (_ : World) : Prop :=
  match i with
  | 0 => u = S
  | 1 => u = .pointer (some ⟨g, o9, none⟩)
  | 2 => u = .int .u8 (a9 : Int)
  | 3 => u = S
  | 4 => u = .pointer (some ⟨g, o10, none⟩)
  | 5 => u = .int .u8 (a10 : Int)
  | 6 => u = .int .i64 (a10 : Int)
  | 7 => u = S
  | 8 => u = .pointer (some ⟨g, o11, none⟩)
  | 9 => u = .int .u8 (a11 : Int)
  | 10 => u = .int .i64 (a11 : Int)
  | 11 => u = .int .i64 ((256 * a11 : Nat) : Int)
  | 12 => u = .int .i64 (N : Int)
  | _ => True
structure W1R (W : World) (A a9 N : Nat) (D : Nat → Bool) (xs : Nat → Value) (w : World) : Prop where
  below : Below A W w
  sz : A ≤ w.heap.size
  t0 : D 13 = true → ∃ B, xs 13 = .pointer (some ⟨B, 0, none⟩) ∧ A ≤ B ∧ ∃ v, Boxed w B 5 v ∧ (D 15 = true → v = .int .u8 (a9 : Int))
  n0 : D 14 = true → ∃ B, xs 14 = .pointer (some ⟨B, 0, none⟩) ∧ A ≤ B ∧ ∃ v, Boxed w B 3 v ∧ (D 16 = true → v = .int .i64 (N : Int))
  c15 : D 15 = true → D 13 = true
  c16 : D 16 = true → D 14 = true
section
variable {W : World} {A a9 N : Nat} {D : Nat → Bool} {xs : Nat → Value} {w : World}
theorem W1R.quiet (h : W1R W A a9 N D xs w) (k : Nat) (u : Value) (hk : (k != 13 && k != 14 && k != 15 && k != 16) = true) : W1R W A a9 N (Ord.wth D k) (Ord.set xs k u) w := by
  simp only [Bool.and_eq_true, bne_iff_ne] at hk
  obtain ⟨⟨⟨h3, h4⟩, h5⟩, h6⟩ := hk
  have e13 : Ord.wth D k 13 = D 13 := if_neg (Ne.symm h3)
  have e14 : Ord.wth D k 14 = D 14 := if_neg (Ne.symm h4)
  have e15 : Ord.wth D k 15 = D 15 := if_neg (Ne.symm h5)
  have e16 : Ord.wth D k 16 = D 16 := if_neg (Ne.symm h6)
  have x13 : Ord.set xs k u 13 = xs 13 := if_neg (Ne.symm h3)
  have x14 : Ord.set xs k u 14 = xs 14 := if_neg (Ne.symm h4)
  exact ⟨h.below, h.sz, by rw [e13, e15, x13]; exact h.t0, by rw [e14, e16, x14]; exact h.n0, by rw [e13, e15]; exact h.c15, by rw [e14, e16]; exact h.c16⟩
theorem W1R.box13 (h : W1R W A a9 N D xs w) (hD : D 13 = false) : W1R W A a9 N (Ord.wth D 13) (Ord.set xs 13 (.pointer (some ⟨w.heap.size, 0, none⟩))) (w.alloc (.cells #[.int .u8 0] 5)) := by
  have e14 : Ord.wth D 13 14 = D 14 := if_neg (by decide)
  have e15 : Ord.wth D 13 15 = D 15 := if_neg (by decide)
  have e16 : Ord.wth D 13 16 = D 16 := if_neg (by decide)
  have x14 : Ord.set xs 13 (.pointer (some ⟨w.heap.size, 0, none⟩)) 14 = xs 14 := if_neg (by decide)
  have hn : D 15 ≠ true := fun e => by rw [h.c15 e] at hD; cases hD
  refine ⟨h.below.alloc h.sz _, by have := h.sz; simp; omega, fun _ => ⟨_, if_pos rfl, h.sz, _, Boxed.new _ _ _, fun e => absurd (e15 ▸ e) hn⟩, fun e => ?_, fun _ => if_pos rfl, by rw [e14, e16]; exact h.c16⟩
  rw [e14] at e
  obtain ⟨B, h1, h2, v, h3, h4⟩ := h.n0 e
  exact ⟨B, by rw [x14]; exact h1, h2, v, h3.alloc _, by rw [e16]; exact h4⟩
theorem W1R.box14 (h : W1R W A a9 N D xs w) (hD : D 14 = false) : W1R W A a9 N (Ord.wth D 14) (Ord.set xs 14 (.pointer (some ⟨w.heap.size, 0, none⟩))) (w.alloc (.cells #[.int .i64 0] 3)) := by
  have e13 : Ord.wth D 14 13 = D 13 := if_neg (by decide)
  have e15 : Ord.wth D 14 15 = D 15 := if_neg (by decide)
  have e16 : Ord.wth D 14 16 = D 16 := if_neg (by decide)
  have x13 : Ord.set xs 14 (.pointer (some ⟨w.heap.size, 0, none⟩)) 13 = xs 13 := if_neg (by decide)
  have hn : D 16 ≠ true := fun e => by rw [h.c16 e] at hD; cases hD
  refine ⟨h.below.alloc h.sz _, by have := h.sz; simp; omega, fun e => ?_, fun _ => ⟨_, if_pos rfl, h.sz, _, Boxed.new _ _ _, fun e => absurd (e16 ▸ e) hn⟩, by rw [e13, e15]; exact h.c15, fun _ => if_pos rfl⟩
  rw [e13] at e
  obtain ⟨B, h1, h2, v, h3, h4⟩ := h.t0 e
  exact ⟨B, by rw [x13]; exact h1, h2, v, h3.alloc _, by rw [e15]; exact h4⟩
theorem boxed_types {B B' : Nat} {t t' : TypeId} {u v : Value} (h : Boxed w B t u) (k : Boxed w B' t' v) (ht : t ≠ t') : B ≠ B' := by
  intro e
  subst e
  have := (show w.heap[B]? = _ from h).symm.trans (show w.heap[B]? = _ from k)
  simp only [Option.some.injEq, Obj.cells.injEq] at this
  exact ht this.2.1
theorem W1R.set15 (h : W1R W A a9 N D xs w) {B : Nat} {v : Value} (hx : xs 13 = .pointer (some ⟨B, 0, none⟩)) (hAB : A ≤ B) (hb : Boxed w B 5 v) (h13 : D 13 = true) : W1R W A a9 N (Ord.wth D 15) (Ord.set xs 15 undef) (w.setCell ⟨B, 0, none⟩ (.int .u8 (a9 : Int))) := by
  have e13 : Ord.wth D 15 13 = D 13 := if_neg (by decide)
  have e14 : Ord.wth D 15 14 = D 14 := if_neg (by decide)
  have e16 : Ord.wth D 15 16 = D 16 := if_neg (by decide)
  have x13 : Ord.set xs 15 undef 13 = xs 13 := if_neg (by decide)
  have x14 : Ord.set xs 15 undef 14 = xs 14 := if_neg (by decide)
  have hg := grownBy_setCell' w B (.int .u8 (a9 : Int))
  refine ⟨h.below.setCell (p := ⟨B, 0, none⟩) hAB _, Nat.le_trans h.sz hg.size, fun _ => ⟨B, by rw [x13]; exact hx, hAB, _, hb.set _, fun _ => rfl⟩, fun e => ?_, fun _ => by rw [e13]; exact h13, by rw [e14, e16]; exact h.c16⟩
  rw [e14] at e
  obtain ⟨B', h1, h2, v', h3, h4⟩ := h.n0 e
  have hne := boxed_types hb h3 (by decide)
  exact ⟨B', by rw [x14]; exact h1, h2, v', h3.kept hg (by intro e; simp only [Option.some.injEq] at e; exact hne e.symm), by rw [e16]; exact h4⟩
theorem W1R.set16 (h : W1R W A a9 N D xs w) {B : Nat} {v : Value} (hx : xs 14 = .pointer (some ⟨B, 0, none⟩)) (hAB : A ≤ B) (hb : Boxed w B 3 v) (h14 : D 14 = true) : W1R W A a9 N (Ord.wth D 16) (Ord.set xs 16 undef) (w.setCell ⟨B, 0, none⟩ (.int .i64 (N : Int))) := by
  have e13 : Ord.wth D 16 13 = D 13 := if_neg (by decide)
  have e14 : Ord.wth D 16 14 = D 14 := if_neg (by decide)
  have e15 : Ord.wth D 16 15 = D 15 := if_neg (by decide)
  have x13 : Ord.set xs 16 undef 13 = xs 13 := if_neg (by decide)
  have x14 : Ord.set xs 16 undef 14 = xs 14 := if_neg (by decide)
  have hg := grownBy_setCell' w B (.int .i64 (N : Int))
  refine ⟨h.below.setCell (p := ⟨B, 0, none⟩) hAB _, Nat.le_trans h.sz hg.size, fun e => ?_, fun _ => ⟨B, by rw [x14]; exact hx, hAB, _, hb.set _, fun _ => rfl⟩, by rw [e13, e15]; exact h.c15, fun _ => by rw [e14]; exact h14⟩
  rw [e13] at e
  obtain ⟨B', h1, h2, v', h3, h4⟩ := h.t0 e
  have hne := boxed_types hb h3 (by decide)
  exact ⟨B', by rw [x13]; exact h1, h2, v', h3.kept hg (by intro e; simp only [Option.some.injEq] at e; exact hne e.symm), by rw [e15]; exact h4⟩
end
def W5F (P C : Value) (N a9 : Nat) (L : List Nat) (i : Nat) (u : Value) (w : World) : Prop :=
  match i with
  | 0 => u = P
  | 1 => u = C
  | 2 => u = .int .i64 (N : Int)
  | 3 => u = .int .u8 (a9 : Int)
  | 4 => Bts w u (Rg.tag N a9)
  | 5 => u = .bool (decide (L = Rg.tag N a9))
  | 6 => u = .bool (!decide (L = Rg.tag N a9))
  | _ => True
theorem ownFrom_touch {β : Type} {S : Nat → Prop} {Z : Nat} {W2 : World} (hS : ∀ k, Z ≤ k → S k) : OwnFrom Z (fun (_ : β) W => Touch S W2 W) := fun _ _ _ row hs hg hr => by
  refine ⟨hg.os.trans hs.os, hg.tape.trans hs.tape, hg.output.trans hs.output, Nat.le_trans hs.size hg.size, fun i hi hn => ?_⟩
  rw [← hs.block i hi hn]
  exact hg.block i (Nat.lt_of_lt_of_le hi hs.size) fun e => hn (hS i (hr i e.symm).1)
theorem ownFrom_pureL {β : Type} {Z : Nat} (p : β → Prop) : OwnFrom Z (fun (b : β) (_ : World) => p b) := fun _ _ _ _ hs _ _ => hs
theorem ownFrom_row {β : Type} {Z k : Nat} {o : Obj} (hk : k < Z) : OwnFrom Z (fun (_ : β) (W : World) => W.heap[k]? = some o) := fun _ _ _ row hs hg hr =>
  (hg.block k (Array.getElem?_eq_some_iff.1 hs).1 fun e => by have := (hr k e.symm).1; omega).trans hs
def rstL (s : List Nat) (pre : List Nat) : List Nat := pre.flatMap fun i => (Rg.part 64 s (ckN 10 i)).drop 12
def WhA (s : List Nat) (w : World) (e : Ending) (w' : World) : Prop := ∃ (n k : Nat) (u : Value) (ok : Bool), e = .returned (.tuple #[.int .i64 (n : Int), PgV k u, .bool ok]) ∧ (∃ p l c, u = .slice p l c) ∧ Below w.heap.size w w' ∧
  (ok = true → Rg.Told s ∧ Pg.openE (Rg.cut s) = 0 ∧ n = Rg.pageOf s ∧ k = Pg.openN (Rg.cut s) ∧ Own w.heap.size w' u (Pg.openL (Rg.cut s))) ∧ (ok = false → ¬ (Rg.Told s ∧ Pg.openE (Rg.cut s) = 0))
theorem wh_results (tmps : Array Value) (w : World) (g0 g1 g2 : Nat) (n a b c : Value) (h0 : tmps.getD 2 undef = .pointer (some ⟨g0, 0, none⟩)) (h1 : tmps.getD 3 undef = .pointer (some ⟨g1, 0, none⟩)) (h2 : tmps.getD 4 undef = .pointer (some ⟨g2, 0, none⟩))
    (r0 : w.heap[g0]? = some (.cells #[n] 3 (0, 0))) (r1 : w.heap[g1]? = some (.cells #[a, b] 59 (0, 0))) (r2 : w.heap[g2]? = some (.cells #[c] 4 (0, 0))) :
    (results Tryz.f70 tmps).run Tryz.prog w = .ok (.tuple #[n, .agg #[a, b], c]) w := by
  have hr : Tryz.f70.results = #[.cell 2 3, .cell 3 59, .cell 4 4] := rfl
  have h0' : tmps[2]?.getD undef = .pointer (some ⟨g0, 0, none⟩) := by simpa using h0
  have h1' : tmps[3]?.getD undef = .pointer (some ⟨g1, 0, none⟩) := by simpa using h1
  have h2' : tmps[4]?.getD undef = .pointer (some ⟨g2, 0, none⟩) := by simpa using h2
  have c0 := blk_cell r0 0 (v := n) rfl
  have c2 := blk_cell r2 0 (v := c) rfl
  have l1 := run_loadVar_row (P := Tryz.prog) w g1 59 _ _ _ _ r1 Tryz.underlying59 rfl (by kernel_rfl)
  have l0 : (loadVar 3 ⟨g0, 0, none⟩).run Tryz.prog w = .ok n w := by simp [loadVar, run_underlying Tryz.underlying3, c0]
  have l2 : (loadVar 4 ⟨g2, 0, none⟩).run Tryz.prog w = .ok c w := by simp [loadVar, run_underlying Tryz.underlying4, c2]
  simp [results, hr, h0', h1', h2', asAddr, l0, l1, l2]
theorem rest_len {s : List Nat} (h : s.length = 640) : (Rg.rest s 10).length = 520 := by
  have : ∀ m, m ≤ 10 → (Rg.rest s m).length = 52 * m := fun m => by
    induction m with
    | zero => intro _; rfl
    | succ m ih =>
      intro hm
      rw [Rg.rest_succ, List.length_append, ih (by omega), List.length_drop, Rg.part_length (by omega)]
      omega
  exact this 10 (Nat.le_refl _)
def W9F (N kN : Nat) (S : Value) (bE : Bool) (eE : Nat) (i : Nat) (u : Value) (_ : World) : Prop :=
  match i with
  | 0 => u = .int .i64 (N : Int)
  | 1 => u = .agg #[.int .u64 (kN : Int), S]
  | 2 => u = .int .i64 (eE : Int)
  | 3 => u = .bool bE
  | _ => True
structure W9R (W : World) (A N kN : Nat) (S : Value) (bE : Bool) (D : Nat → Bool) (w : World) : Prop where
  touch : Touch (fun k => A ≤ k ∧ k < A + 3) W w
  r0 : w.heap[A]? = some (.cells #[if D 4 then .int .i64 (N : Int) else .int .i64 0] 3 (0, 0))
  r1 : w.heap[A + 1]? = some (.cells (if D 5 then #[.int .u64 (kN : Int), S] else #[.int .u64 0, .slice none 0 0]) 59 (0, 0))
  r2 : w.heap[A + 2]? = some (.cells #[if D 6 then .bool bE else .bool false] 4 (0, 0))
section
variable {W : World} {A N kN : Nat} {S : Value} {bE : Bool} {D : Nat → Bool} {w : World}
theorem W9R.quiet (h : W9R W A N kN S bE D w) (k : Nat) (hk : (k != 4 && k != 5 && k != 6) = true) : W9R W A N kN S bE (Ord.wth D k) w := by
  simp only [Bool.and_eq_true, bne_iff_ne] at hk
  have e4 : Ord.wth D k 4 = D 4 := if_neg (Ne.symm hk.1.1)
  have e5 : Ord.wth D k 5 = D 5 := if_neg (Ne.symm hk.1.2)
  have e6 : Ord.wth D k 6 = D 6 := if_neg (Ne.symm hk.2)
  exact ⟨h.touch, by rw [e4]; exact h.r0, by rw [e5]; exact h.r1, by rw [e6]; exact h.r2⟩
theorem W9R.st4 (h : W9R W A N kN S bE D w) : W9R W A N kN S bE (Ord.wth D 4) (w.setCell ⟨A, 0, none⟩ (.int .i64 (N : Int))) := by
  have t : Touch (fun k => k = A) w (w.setCell ⟨A, 0, none⟩ (.int .i64 (N : Int))) := Touch.set A 0 _ rfl
  exact ⟨h.touch.trans (t.mono fun k _ e => by omega), blk_set (i := 0) h.r0 _, t.row h.r1 (by omega), t.row h.r2 (by omega)⟩
theorem W9R.st5 (h : W9R W A N kN S bE D w) : W9R W A N kN S bE (Ord.wth D 5) ((w.setCell ⟨A + 1, 0, none⟩ (.int .u64 (kN : Int))).setCell ⟨A + 1, 1, none⟩ S) := by
  have t : Touch (fun k => k = A + 1) w ((w.setCell ⟨A + 1, 0, none⟩ (.int .u64 (kN : Int))).setCell ⟨A + 1, 1, none⟩ S) := (Touch.set (S := fun k => k = A + 1) (A + 1) 0 _ rfl).trans (Touch.set (A + 1) 1 _ rfl)
  refine ⟨h.touch.trans (t.mono fun k _ e => by omega), t.row h.r0 (by omega), ?_, t.row h.r2 (by omega)⟩
  have e5 : Ord.wth D 5 5 = true := if_pos rfl
  rw [e5, if_pos rfl]
  have h1 := h.r1
  cases hd : D 5 with
  | true => rw [hd, if_pos rfl] at h1; exact blk_set (i := 1) (blk_set (i := 0) h1 (.int .u64 (kN : Int))) S
  | false => rw [hd, if_neg (by decide)] at h1; exact blk_set (i := 1) (blk_set (i := 0) h1 (.int .u64 (kN : Int))) S
theorem W9R.st6 (h : W9R W A N kN S bE D w) : W9R W A N kN S bE (Ord.wth D 6) (w.setCell ⟨A + 2, 0, none⟩ (.bool bE)) := by
  have t : Touch (fun k => k = A + 2) w (w.setCell ⟨A + 2, 0, none⟩ (.bool bE)) := Touch.set (A + 2) 0 _ rfl
  exact ⟨h.touch.trans (t.mono fun k _ e => by omega), t.row h.r0 (by omega), t.row h.r1 (by omega), blk_set (i := 0) h.r2 _⟩
end
theorem two_cells {w : World} {B : Nat} {c : Bool} {a b x y : Value} {T : TypeId} (h : w.heap[B]? = some (.cells (if c then #[a, b] else #[x, y]) T (0, 0))) (i : Nat) (hi : i < 2) : ∃ v, w.cell? ⟨B, i, none⟩ = some v := by
  cases c with
  | true =>
    rw [if_pos rfl] at h
    obtain rfl | rfl : i = 0 ∨ i = 1 := by omega
    · exact ⟨_, blk_cell h 0 rfl⟩
    · exact ⟨_, blk_cell h 1 rfl⟩
  | false =>
    rw [if_neg (by decide)] at h
    obtain rfl | rfl : i = 0 ∨ i = 1 := by omega
    · exact ⟨_, blk_cell h 0 rfl⟩
    · exact ⟨_, blk_cell h 1 rfl⟩
theorem own_touch {base : Nat} {S : Nat → Prop} {w w' : World} {v : Value} {l : List Nat} (h : Own base w v l) (ht : Touch S w w') (hs : ∀ k, base ≤ k → ¬ S k) : Own base w' v l := by
  refine ⟨⟨h.own.1, ?_⟩, h.small, h.len⟩
  rcases h.own.2 with h2 | ⟨g, cap, cur, hv, hg, hh, r⟩
  · exact Or.inl h2
  · exact Or.inr ⟨g, cap, cur, hv, hg, ht.row hh (hs g hg), r⟩
theorem int_zero (n : Nat) : ((n : Int) == 0) = decide (n = 0) := by
  by_cases h : n = 0
  · rw [h]; rfl
  · have : ((n : Int) == 0) = false := by rw [beq_eq_false_iff_ne]; omega
    rw [this, decide_eq_false h]
theorem rst_le (s : List Nat) : ∀ pre : List Nat, (rstL s pre).length ≤ 52 * pre.length
  | [] => Nat.le_refl _
  | y :: q => by
    have h1 := rst_le s q
    have h2 := Rg.part_le 64 s (ckN 10 y)
    unfold rstL at *
    rw [List.flatMap_cons, List.length_append, List.length_drop, List.length_cons]
    omega
theorem Touch.row1 {S : Nat → Prop} {a b : World} (h : Touch S a b) (k : Nat) (hk : k < a.heap.size) (hS : ¬ S k) : b.cell? ⟨k, 0, none⟩ = a.cell? ⟨k, 0, none⟩ := by
  have := h.block k hk hS
  unfold World.cell?
  rw [this]
def W7F (v P C : Value) (i : Nat) (u : Value) (_ : World) : Prop :=
  match i with
  | 0 => u = v
  | 1 => u = P
  | 2 => u = C
  | _ => True
structure W7R (W : World) (H : Nat) (v : Value) (L Y : List Nat) (D : Nat → Bool) (xs : Nat → Value) (w : World) : Prop where
  keep : KeepsOthers W w
  touch : Touch (fun k => k = H ∨ H + 3 ≤ k) W w
  sz : H + 3 ≤ w.heap.size
  s0 : D 3 = false → Own (H + 3) w v L ∧ Boxed w H 57 v
  s1 : D 3 = true → Own (H + 3) w (xs 3) (L ++ Y) ∧ ∃ u, Boxed w H 57 u ∧ (D 4 = true → u = xs 3)
section
variable {W : World} {H : Nat} {v : Value} {L Y : List Nat} {D : Nat → Bool} {xs : Nat → Value} {w : World}
theorem W7R.any (h : W7R W H v L Y (fun _ => false) (fun _ => undef) w) (xs : Nat → Value) : W7R W H v L Y (fun _ => false) xs w := ⟨h.keep, h.touch, h.sz, h.s0, fun e => by cases e⟩
theorem W7R.quiet (h : W7R W H v L Y D xs w) (k : Nat) (u : Value) (hk : (k != 3 && k != 4) = true) : W7R W H v L Y (Ord.wth D k) (Ord.set xs k u) w := by
  simp only [Bool.and_eq_true, bne_iff_ne] at hk
  have e3 : Ord.wth D k 3 = D 3 := if_neg (Ne.symm hk.1)
  have e4 : Ord.wth D k 4 = D 4 := if_neg (Ne.symm hk.2)
  have x3 : Ord.set xs k u 3 = xs 3 := if_neg (Ne.symm hk.1)
  exact ⟨h.keep, h.touch, h.sz, by rw [e3]; exact h.s0, by rw [e3, e4, x3]; exact h.s1⟩
theorem W7R.step3 (h : W7R W H v L Y D xs w) {l : List Oper} (hC : Ord.closed l D) (hD : D 3 = false) (hO : Own (H + 3) w v L) (hbx : Boxed w H 57 v) {w3 : World} {v3 : Value} (hO3 : Own (H + 3) w3 v3 (L ++ Y)) (hg3 : w.grownBy w3 v.ownBlock) (h4 : Ord.waits l 4 3 = true) : W7R W H v L Y (Ord.wth D 3) (Ord.set xs 3 v3) w3 := by
  have d4 : D 4 = false := by
    cases e : D 4 with
    | false => rfl
    | true => have := Ord.closed_at hC 4 3 h4 e; rw [hD] at this; cases this
  have e3 : Ord.wth D 3 3 = true := if_pos rfl
  have e4 : Ord.wth D 3 4 = D 4 := if_neg (by decide)
  have x3 : Ord.set xs 3 v3 3 = v3 := if_pos rfl
  refine ⟨h.keep.trans (keeps_own hO hg3), h.touch.trans ⟨hg3.os, hg3.tape, hg3.output, hg3.size, fun i hi hs => hg3.block i hi fun e => ?_⟩, Nat.le_trans h.sz hg3.size, (fun e => by rw [e3] at e; cases e), fun _ => ⟨by rw [x3]; exact hO3, v, hbx.kept hg3 (hbx.not_row (by decide) hO.own), fun e => by rw [e4, d4] at e; cases e⟩⟩
  rcases Nat.lt_or_ge i (H + 3) with h1 | h1
  · exact own_nota hO e.symm h1
  · exact hs (Or.inr h1)
theorem W7R.step4 (h : W7R W H v L Y D xs w) (hD : D 3 = true) (hO : Own (H + 3) w (xs 3) (L ++ Y)) {u : Value} (hbx : Boxed w H 57 u) : W7R W H v L Y (Ord.wth D 4) (Ord.set xs 4 undef) (w.setCell ⟨H, 0, none⟩ (xs 3)) := by
  have e3 : Ord.wth D 4 3 = D 3 := if_neg (by decide)
  have x3 : Ord.set xs 4 undef 3 = xs 3 := if_neg (by decide)
  have hg := grownBy_setCell' w H (xs 3)
  refine ⟨h.keep.trans (KeepsOthers.setCell _ _ _), h.touch.trans (Touch.set H 0 _ (Or.inl rfl)), Nat.le_trans h.sz hg.size, (fun e => by rw [e3, hD] at e; cases e), fun _ => ⟨?_, _, hbx.set _, fun _ => by rw [x3]⟩⟩
  rw [x3]
  exact ⟨hO.own.kept hg (.inr (hbx.not_row (by decide) hO.own).symm), hO.small, hO.len⟩
end
set_option maxRecDepth 100000 in
set_option maxHeartbeats 2000000 in
theorem whole_in (g off cap : Nat) (s : List Nat) (w : World) (hb : Bts w (.slice (some ⟨g, off, none⟩) 640 cap) s) (hbl : s.length = 640) :
    CallsIn Fence.wide 5 Tryz.prog 70 #[.slice (some ⟨g, off, none⟩) 640 cap] w fun e w' => WhA s w e w' := by
  refine callsIn_of_wp_marks Tryz.func70 rfl trivial ?_ rfl
  simp only [Tryz.ntmps70, List.size_toArray, List.length_cons, List.length_nil, Nat.reduceAdd, Nat.reduceSub, Array.replicate_succ, Array.replicate_zero, List.push_toArray, List.append_toArray, List.nil_append, List.cons_append]
  have hc9' := hb.at_ hbl 9 (by decide)
  have hc10' := hb.at_ hbl 10 (by decide)
  have hc11' := hb.at_ hbl 11 (by decide)
  have hgw := lt_cell hc9'
  obtain ⟨A, hA⟩ : ∃ A, A = w.heap.size + 3 := ⟨_, rfl⟩
  obtain ⟨W0, hW0⟩ : ∃ W0, W0 = ((w.alloc (.cells #[.int .i64 0] 3)).alloc (.cells #[.int .u64 0, .slice none 0 0] 59)).alloc (.cells #[.bool false] 4) := ⟨_, rfl⟩
  have hsz : W0.heap.size = A := by rw [hW0, hA]; simp
  have hr0 : W0.heap[w.heap.size]? = some (.cells #[.int .i64 0] 3 (0, 0)) := by
    rw [hW0]; exact ((Boxed.new w _ _).alloc _).alloc _
  have hr1 : W0.heap[w.heap.size + 1]? = some (.cells #[.int .u64 0, .slice none 0 0] 59 (0, 0)) := by
    have h := heap_alloc_last (w.alloc (.cells #[.int .i64 0] 3)) (.cells #[.int .u64 0, .slice none 0 0] 59)
    rw [World.size_alloc] at h
    have hb := (Below.refl (w.heap.size + 2) ((w.alloc (.cells #[.int .i64 0] 3)).alloc (.cells #[.int .u64 0, .slice none 0 0] 59))).alloc (by simp) (.cells #[.bool false] 4)
    rw [hW0]
    exact (hb.block (w.heap.size + 1) (by omega)).trans h
  have hr2 : W0.heap[w.heap.size + 2]? = some (.cells #[.bool false] 4 (0, 0)) := by
    have h := Boxed.new ((w.alloc (.cells #[.int .i64 0] 3)).alloc (.cells #[.int .u64 0, .slice none 0 0] 59)) 4 (.bool false)
    rw [World.size_alloc, World.size_alloc] at h
    rw [hW0]; exact h
  have HR0 : Hid (_ ∧ _ ∧ _) := ⟨hr0, hr1, hr2⟩
  clear hr0 hr1 hr2
  have hB0 : Below w.heap.size w W0 := by
    rw [hW0]
    exact (((Below.refl _ w).alloc (Nat.le_refl _) _).alloc (by simp) _).alloc (by simp; omega) _
  have hc9 := (hB0.cell (p := ⟨g, off + 9, none⟩) hgw).trans hc9'
  have hc10 := (hB0.cell (p := ⟨g, off + 10, none⟩) hgw).trans hc10'
  have hc11 := (hB0.cell (p := ⟨g, off + 11, none⟩) hgw).trans hc11'
  have hgA : g < A := by omega
  obtain ⟨o9, ho9⟩ : ∃ o, o = off + 9 := ⟨_, rfl⟩
  obtain ⟨o10, ho10⟩ : ∃ o, o = off + 10 := ⟨_, rfl⟩
  obtain ⟨o11, ho11⟩ : ∃ o, o = off + 11 := ⟨_, rfl⟩
  obtain ⟨a9, ha9⟩ : ∃ a, a = s.getD 9 0 := ⟨_, rfl⟩
  obtain ⟨a10, ha10⟩ : ∃ a, a = s.getD 10 0 := ⟨_, rfl⟩
  obtain ⟨a11, ha11⟩ : ∃ a, a = s.getD 11 0 := ⟨_, rfl⟩
  obtain ⟨N, hN⟩ : ∃ N, N = a10 + 256 * a11 := ⟨_, rfl⟩
  have l9 : a9 < 256 := by rw [ha9]; exact hb.getD 9
  have l10 : a10 < 256 := by rw [ha10]; exact hb.getD 10
  have l11 : a11 < 256 := by rw [ha11]; exact hb.getD 11
  rw [← ho9, ← ha9] at hc9
  rw [← ho10, ← ha10] at hc10
  rw [← ho11, ← ha11] at hc11
  have H9 := Lib.hid ho9
  have H10 := Lib.hid ho10
  have H11 := Lib.hid ho11
  have HV10 := Lib.hid (IntWalk.i64_in (a10 : Int) (by omega))
  have HV11 := Lib.hid (IntWalk.i64_in (a11 : Int) (by omega))
  have HS8 : Hid (Value.int .i64 (IntKind.i64.wrap ((a11 : Int) * 256)) = .int .i64 ((256 * a11 : Nat) : Int)) := by
    show _ = _
    rw [IntWalk.i64_in ((a11 : Int) * 256) (by omega), show (a11 : Int) * 256 = ((256 * a11 : Nat) : Int) by omega]
  have HOR : Hid (Value.int .i64 (bits .or .i64 (a10 : Int) (256 * (a11 : Int))) = .int .i64 (N : Int)) := by
    show _ = _
    rw [or64_join a10 a11 l10 l11, hN]
  have HSZ : Hid (W0.heap.size = A) := hsz
  have HW0 := Lib.hid hW0
  have HA := Lib.hid hA
  have HA9 := Lib.hid ha9
  have HA10 := Lib.hid ha10
  have HA11 := Lib.hid ha11
  have HN := Lib.hid hN
  have HL : Hid (a9 < 256 ∧ a10 < 256 ∧ a11 < 256) := ⟨l9, l10, l11⟩
  have HB0 := Lib.hid hB0
  have HBB := Lib.hid hb
  have HBL := Lib.hid hbl
  have HCAP : Hid (640 ≤ cap) := by
    obtain ⟨p, c, hv, h1, -⟩ := hb.form
    simp only [Value.slice.injEq] at hv
    show _ ≤ _
    rw [hv.2.2, ← hbl]; exact h1.1
  clear ho9 ho10 ho11 ha9 ha10 ha11 hN hc9' hc10' hc11' hA hB0 hb hbl
  gi_wp2
  rw [← hW0]
  clear hW0 hsz
  obtain ⟨A0, hA0⟩ : ∃ A0, A0 = w.heap.size := ⟨_, rfl⟩
  rw [← hA0]
  have HAZ := Lib.hid hA0
  clear hA0 hgw
  refine Ord.In.walk (fun _ => trivial) (W1F (.slice (some ⟨g, off, none⟩) 640 cap) g o9 o10 o11 a9 a10 a11 N) (W1R W0 A a9 N) (fun _ _ => True) (by kernel_rfl) (by kernel_rfl) ?fr ?hfr (fun k u w1 w2 _ h => h) ?hR ?he ?hend
  case hfr =>
    intro xs
    simp only [Ord.fill, Act.put, List.setIfInBounds_toArray, List.set_cons_zero, List.set_cons_succ]
    rfl
  case hR =>
    intro xs
    exact ⟨(Below.refl _ W0).drew, Nat.le_of_eq HSZ.out.symm, (fun e => by cases e), (fun e => by cases e), (fun e => by cases e), (fun e => by cases e)⟩
  case he =>
    refine Ord.In.each_cons (fun D xs w2 hD hC hP hR hA K' hK => ?_) ?_
    ·
      clear hA
      go_simp
      exact hK _ _ ⟨_, rfl, trivial, hR.quiet 0 _ (by decide), rfl⟩
    refine Ord.In.each_cons (fun D xs w2 hD hC hP hR hA K' hK => ?_) ?_
    ·
      have q0 := Ord.ahead_get _ hA 0 (by decide)
      simp only [W1F] at q0
      simp only [q0] at hK ⊢
      clear hA
      go_simp
      exact hK _ _ ⟨_, rfl, trivial, hR.quiet 1 _ (by decide), by show _ = _; rw [H9.out]⟩
    refine Ord.In.each_cons (fun D xs w2 hD hC hP hR hA K' hK => ?_) ?_
    ·
      have q1 := Ord.ahead_get _ hA 1 (by decide)
      simp only [W1F] at q1
      simp only [q1] at hK ⊢
      clear hA
      have hc := (hR.below.cell (p := ⟨g, o9, none⟩) hgA).trans hc9
      go_simp
      exact hK _ _ ⟨_, rfl, trivial, hR.quiet 2 _ (by decide), rfl⟩
    refine Ord.In.each_cons (fun D xs w2 hD hC hP hR hA K' hK => ?_) ?_
    ·
      clear hA
      go_simp
      exact hK _ _ ⟨_, rfl, trivial, hR.quiet 3 _ (by decide), rfl⟩
    refine Ord.In.each_cons (fun D xs w2 hD hC hP hR hA K' hK => ?_) ?_
    ·
      have q3 := Ord.ahead_get _ hA 3 (by decide)
      simp only [W1F] at q3
      simp only [q3] at hK ⊢
      clear hA
      go_simp
      exact hK _ _ ⟨_, rfl, trivial, hR.quiet 4 _ (by decide), by show _ = _; rw [H10.out]⟩
    refine Ord.In.each_cons (fun D xs w2 hD hC hP hR hA K' hK => ?_) ?_
    ·
      have q4 := Ord.ahead_get _ hA 4 (by decide)
      simp only [W1F] at q4
      simp only [q4] at hK ⊢
      clear hA
      have hc := (hR.below.cell (p := ⟨g, o10, none⟩) hgA).trans hc10
      go_simp
      exact hK _ _ ⟨_, rfl, trivial, hR.quiet 5 _ (by decide), rfl⟩
    refine Ord.In.each_cons (fun D xs w2 hD hC hP hR hA K' hK => ?_) ?_
    ·
      have q5 := Ord.ahead_get _ hA 5 (by decide)
      simp only [W1F] at q5
      simp only [q5] at hK ⊢
      clear hA
      go_simp
      exact hK _ _ ⟨_, rfl, trivial, hR.quiet 6 _ (by decide), by show _ = _; rw [HV10.out]⟩
    refine Ord.In.each_cons (fun D xs w2 hD hC hP hR hA K' hK => ?_) ?_
    ·
      clear hA
      go_simp
      exact hK _ _ ⟨_, rfl, trivial, hR.quiet 7 _ (by decide), rfl⟩
    refine Ord.In.each_cons (fun D xs w2 hD hC hP hR hA K' hK => ?_) ?_
    ·
      have q7 := Ord.ahead_get _ hA 7 (by decide)
      simp only [W1F] at q7
      simp only [q7] at hK ⊢
      clear hA
      go_simp
      exact hK _ _ ⟨_, rfl, trivial, hR.quiet 8 _ (by decide), by show _ = _; rw [H11.out]⟩
    refine Ord.In.each_cons (fun D xs w2 hD hC hP hR hA K' hK => ?_) ?_
    ·
      have q8 := Ord.ahead_get _ hA 8 (by decide)
      simp only [W1F] at q8
      simp only [q8] at hK ⊢
      clear hA
      have hc := (hR.below.cell (p := ⟨g, o11, none⟩) hgA).trans hc11
      go_simp
      exact hK _ _ ⟨_, rfl, trivial, hR.quiet 9 _ (by decide), rfl⟩
    refine Ord.In.each_cons (fun D xs w2 hD hC hP hR hA K' hK => ?_) ?_
    ·
      have q9 := Ord.ahead_get _ hA 9 (by decide)
      simp only [W1F] at q9
      simp only [q9] at hK ⊢
      clear hA
      go_simp
      exact hK _ _ ⟨_, rfl, trivial, hR.quiet 10 _ (by decide), by show _ = _; rw [HV11.out]⟩
    refine Ord.In.each_cons (fun D xs w2 hD hC hP hR hA K' hK => ?_) ?_
    ·
      have q10 := Ord.ahead_get _ hA 10 (by decide)
      simp only [W1F] at q10
      simp only [q10] at hK ⊢
      clear hA
      go_simp
      exact hK _ _ ⟨_, rfl, trivial, hR.quiet 11 _ (by decide), HS8.out⟩
    refine Ord.In.each_cons (fun D xs w2 hD hC hP hR hA K' hK => ?_) ?_
    ·
      have q6 := Ord.ahead_get _ hA 6 (by decide)
      simp only [W1F] at q6
      have q11 := Ord.ahead_get _ hA 11 (by decide)
      simp only [W1F] at q11
      simp only [q6, q11] at hK ⊢
      clear hA
      go_simp
      exact hK _ _ ⟨_, rfl, trivial, hR.quiet 12 _ (by decide), HOR.out⟩
    refine Ord.In.each_cons (fun D xs w2 hD hC hP hR hA K' hK => ?_) ?_
    ·
      clear hA
      go_simp
      exact hK _ _ ⟨_, rfl, trivial, hR.box13 hD, trivial⟩
    refine Ord.In.each_cons (fun D xs w2 hD hC hP hR hA K' hK => ?_) ?_
    ·
      clear hA
      go_simp
      exact hK _ _ ⟨_, rfl, trivial, hR.box14 hD, trivial⟩
    refine Ord.In.each_cons (fun D xs w2 hD hC hP hR hA K' hK => ?_) ?_
    ·
      have q2 := Ord.ahead_get _ hA 2 (by decide)
      simp only [W1F] at q2
      simp only [q2] at hK ⊢
      clear hA
      obtain ⟨B, hx, hAB, v, hbx, -⟩ := hR.t0 (hP { on := 13, ground := .data } (by simp) rfl)
      simp only [hx] at hK ⊢
      have hc := hbx.cell
      have hf := hbx.frozen
      go_simp
      exact hK _ _ ⟨undef, rfl, trivial, hR.set15 hx hAB hbx (hP { on := 13, ground := .data } (by simp) rfl), trivial⟩
    refine Ord.In.each_cons (fun D xs w2 hD hC hP hR hA K' hK => ?_) ?_
    ·
      have q12 := Ord.ahead_get _ hA 12 (by decide)
      simp only [W1F] at q12
      simp only [q12] at hK ⊢
      clear hA
      obtain ⟨B, hx, hAB, v, hbx, -⟩ := hR.n0 (hP { on := 14, ground := .data } (by simp) rfl)
      simp only [hx] at hK ⊢
      have hc := hbx.cell
      have hf := hbx.frozen
      go_simp
      exact hK _ _ ⟨undef, rfl, trivial, hR.set16 hx hAB hbx (hP { on := 14, ground := .data } (by simp) rfl), trivial⟩
    exact Ord.In.each_nil
  case hend =>
    intro D xs w1 hR hF
    obtain ⟨BT, hxT, hAT, vT, hbT, hvT⟩ := hR.t0 (hF 13 (by decide)).1
    obtain rfl := hvT (hF 15 (by decide)).1
    obtain ⟨BN, hxN, hAN, vN, hbN, hvN⟩ := hR.n0 (hF 14 (by decide)).1
    obtain rfl := hvN (hF 16 (by decide)).1
    have HB1 := Lib.hid hR.below
    have HS1 := Lib.hid hR.sz
    rw [hxT, hxN]
    have e0 := (hF 0 (by decide)).2
    have e1 := (hF 1 (by decide)).2
    have e2 := (hF 2 (by decide)).2
    have e3 := (hF 3 (by decide)).2
    have e4 := (hF 4 (by decide)).2
    have e5 := (hF 5 (by decide)).2
    have e6 := (hF 6 (by decide)).2
    have e7 := (hF 7 (by decide)).2
    have e8 := (hF 8 (by decide)).2
    have e9 := (hF 9 (by decide)).2
    have e10 := (hF 10 (by decide)).2
    have e11 := (hF 11 (by decide)).2
    have e12 := (hF 12 (by decide)).2
    simp only [W1F] at e0 e1 e2 e3 e4 e5 e6 e7 e8 e9 e10 e11 e12
    rw [e0, e1, e2, e3, e4, e5, e6, e7, e8, e9, e10, e11, e12]
    clear hF hR e0 e1 e2 e3 e4 e5 e6 e7 e8 e9 e10 e11 e12 hc9 hc10 hc11
    gi_wp2_with (refine ⟨trivial, ?_⟩; gi_at_call 102; refine (callsIn_wide.2 (chunk_any _ 64 _ _ _ _ rfl (by decide))).mono ?_; rintro e w' ⟨rfl, rfl⟩)
    obtain ⟨H, hH⟩ : ∃ H, H = w1.heap.size := ⟨_, rfl⟩
    obtain ⟨W2, hW2⟩ : ∃ W2, W2 = (((w1.alloc (.cells #[.slice none 0 0] 57)).alloc (.cells #[.slice (some ⟨g, off, none⟩) 640 cap] 57)).alloc (.cells #[.int .i64 64] 3)) := ⟨_, rfl⟩
    rw [← hW2, ← hH]
    have hsz : W2.heap.size = H + 3 := by rw [hW2, hH]; simp
    have bS : Boxed W2 H 57 (.slice none 0 0) := by rw [hW2, hH]; exact ((Boxed.new w1 _ _).alloc _).alloc _
    have bC : Boxed W2 (H + 1) 57 (.slice (some ⟨g, off, none⟩) 640 cap) := by
      have h := (Boxed.new (w1.alloc (.cells #[.slice none 0 0] 57)) 57 (.slice (some ⟨g, off, none⟩) 640 cap)).alloc (.cells #[.int .i64 64] 3)
      rw [World.size_alloc] at h
      rw [hW2, hH]; exact h
    have bK : Boxed W2 (H + 2) 3 (.int .i64 64) := by
      have h := Boxed.new ((w1.alloc (.cells #[.slice none 0 0] 57)).alloc (.cells #[.slice (some ⟨g, off, none⟩) 640 cap] 57)) 3 (.int .i64 64)
      rw [World.size_alloc, World.size_alloc] at h
      rw [hW2, hH]; exact h
    have hBT2 : Boxed W2 BT 5 (.int .u8 (a9 : Int)) := by rw [hW2]; exact ((hbT.alloc _).alloc _).alloc _
    have hBN2 : Boxed W2 BN 3 (.int .i64 (N : Int)) := by rw [hW2]; exact ((hbN.alloc _).alloc _).alloc _
    have hlT := hbT.lt
    have hlN := hbN.lt
    have hb2 : Below A W0 W2 := by
      rw [hW2]
      exact ((HB1.out.alloc HS1.out _).alloc (by have := HS1.out; simp; omega) _).alloc (by have := HS1.out; simp; omega) _
    have HH := Lib.hid hH
    have hA03 : A = A0 + 3 := by rw [HA.out, HAZ.out]
    have hHA : A ≤ H := by rw [HH.out]; exact HS1.out
    obtain ⟨hr0', hr1', hr2'⟩ := HR0.out
    rw [← HAZ.out] at hr0' hr1' hr2'
    have hr0 := (hb2.block A0 (by omega)).trans hr0'
    have hr1 := (hb2.block (A0 + 1) (by omega)).trans hr1'
    have hr2 := (hb2.block (A0 + 2) (by omega)).trans hr2'
    have HSZ2 : Hid (W2.heap.size = H + 3) := hsz
    have HX : Hid (_ ∧ _ ∧ _ ∧ _ ∧ _ ∧ _ ∧ _) := ⟨hA03, hHA, hlT, hlN, hAT, hAN, hgA⟩
    have hbw : Below A0 w W2 := by
      have h1 := HB0.out
      rw [← HAZ.out] at h1
      exact h1.trans (hb2.mono (by omega))
    have HBW := Lib.hid hbw
    have HBX : Hid (_ ∧ _ ∧ _) := ⟨bS, bC, bK⟩
    clear hr0' hr1' hr2' hA03 hHA hlT hlN hAT hAN hgA hbw hH hsz hW2 hb2 hbT hbN l9 l10 l11 bS bC bK
    have HRR : Hid (_ ∧ _ ∧ _) := ⟨hr0, hr1, hr2⟩
    clear hr0 hr1 hr2
    refine wpIn_rangeFunc_ownG (w := W2) (w0 := W2) rfl (by decide) (gf := 142) (lb := #[.pointer (some ⟨H + 1, 0, none⟩), .pointer (some ⟨H + 2, 0, none⟩)]) rfl trivial (enters_of Tryz.func142 (by kernel_rfl) rfl)
      (chunk_stops 4 (by decide) (H + 1) (H + 2) g off 640 cap 64 10 (by decide) (by decide) HCAP.out (by decide) W2 (by have := HSZ2.out; omega) (by have := HSZ2.out; omega) HBX.out.2.1.cell HBX.out.2.2.cell) (fun h k => h.trans k) (fun W l o o' hl _ _ _ => Kp2.put o' hl (by have := HSZ2.out; omega) (by have := HSZ2.out; omega)) (Below.refl _ _) (fun _ => rfl)
      (fun pre W => (∃ v, Boxed W H 57 v ∧ W.ownsRow (H + 3) 5 1 v (rstL s pre).length (bytesV (rstL s pre)) ∧ True) ∧ Touch (fun k => k = H ∨ H + 3 ≤ k) W2 W ∧ (pre.length ≤ 10 ∧ ∀ i ∈ pre, (Rg.part 64 s (ckN 10 i)).take 12 = Rg.tag N a9))
      (fun c _ W => c = Code.ret ∧ Touch (fun k => k = A0 ∨ k = A0 + 1 ∨ k = A0 + 2 ∨ k = H ∨ H + 3 ≤ k) W2 W ∧ W.heap[A0]? = some (.cells #[.int .i64 0] 3 (0, 0)) ∧ W.heap[A0 + 1]? = some (.cells #[.int .u64 0, .slice none 0 0] 59 (0, 0)) ∧ W.heap[A0 + 2]? = some (.cells #[.bool false] 4 (0, 0)) ∧ ∃ i, i < 10 ∧ (Rg.part 64 s i).take 12 ≠ Rg.tag N a9)
      ?hI ?hIx ?h0
      (fun x => { tmps := #[.slice (some ⟨g, off, none⟩) 640 cap, undef, .pointer (some ⟨A0, 0, none⟩), .pointer (some ⟨A0 + 1, 0, none⟩), .pointer (some ⟨A0 + 1 + 1, 0, none⟩), .pointer (some ⟨BT, 0, none⟩), .pointer (some ⟨BN, 0, none⟩), .pointer (some ⟨H, 0, none⟩), ckV g off 640 64 (ckN 10 x), undef, undef, .slice (some ⟨g, off, none⟩) 640 cap, .pointer (some ⟨g, o9, none⟩), .int .u8 (a9 : Int), .slice (some ⟨g, off, none⟩) 640 cap, .pointer (some ⟨g, o10, none⟩), .int .u8 (a10 : Int), .int .i64 (a10 : Int), .slice (some ⟨g, off, none⟩) 640 cap, .pointer (some ⟨g, o11, none⟩), .int .u8 (a11 : Int), .int .i64 (a11 : Int), .int .i64 ((256 * a11 : Nat) : Int), .int .i64 (N : Int), .slice (some ⟨g, off, none⟩) 640 cap, .func (.func 142) #[] #[.pointer (some ⟨H + 1, 0, none⟩), .pointer (some ⟨H + 2, 0, none⟩)], ckV g off 640 64 (ckN 10 x), undef, undef, undef, undef, undef, undef, undef, undef, undef, undef, undef, undef, undef, undef, undef, undef, undef, undef, undef, undef, undef, undef], defers := [] }) ?assign ?body ?done ?stop
    case hI => exact OwnFrom.and (Go.Own.from (holdsRow_own (H + 3) H 57 5 1 (fun pre : List Nat => (rstL s pre).length) (fun pre => bytesV (rstL s pre)) (fun _ _ => True)) _) (OwnFrom.and (ownFrom_touch fun k hk => Or.inr (by have := HSZ2.out; omega)) (ownFrom_pureL _))
    case hIx => exact fun c => OwnFrom.and (ownFrom_pureL _) (OwnFrom.and (ownFrom_touch fun k hk => by have := HSZ2.out; omega) (OwnFrom.and (ownFrom_row (by have := HSZ2.out; have := HX.out; omega)) (OwnFrom.and (ownFrom_row (by have := HSZ2.out; have := HX.out; omega)) (OwnFrom.and (ownFrom_row (by have := HSZ2.out; have := HX.out; omega)) (ownFrom_pureL _)))))
    case h0 => exact ⟨⟨_, HBX.out.1, World.ownsRow_nil _ _ _ _, trivial⟩, Touch.refl _ _, Nat.zero_le _, fun i hi => by cases hi⟩
    case assign =>
      intro l x W K hK
      gi_wp2
      exact hK
    case body =>
      rintro l pre x W ⟨⟨v, hv, hrow, -⟩, hT, hpl, hall⟩ hlt
      have hck : ckN 10 x < 10 := ckN_lt (by decide) x
      obtain ⟨i, hi⟩ : ∃ i, i = ckN 10 x := ⟨_, rfl⟩
      have hP : ckV g off 640 64 i = .slice (some ⟨g, off + 64 * i, none⟩) 64 64 := by
        unfold ckV ckL
        rw [Nat.min_eq_left (by omega)]
      rw [← hi] at hck ⊢
      have hBW : Below w.heap.size w W := by
        have h1 := HBW.out
        rw [HAZ.out] at h1
        refine ⟨hT.os.trans h1.os, hT.tape.trans h1.tape, hT.output.trans h1.output, Nat.le_trans h1.size hT.size, fun k hk => ?_⟩
        rw [← h1.block k hk]
        refine hT.block k (Nat.lt_of_lt_of_le hk h1.size) ?_
        have := HX.out
        have := HAZ.out
        rintro (h | h) <;> omega
      have hbp := (HBB.out.below hBW).part HBL.out 64 i (by rw [HBL.out]; omega)
      rw [hP] at hbp ⊢
      obtain ⟨oP, hoP⟩ : ∃ o, o = off + 64 * i := ⟨_, rfl⟩
      rw [← hoP] at hbp ⊢
      obtain ⟨Y, hY⟩ : ∃ Y, Y = Rg.part 64 s i := ⟨_, rfl⟩
      rw [← hY] at hbp
      have hYl : Y.length = 64 := by rw [hY]; exact Rg.part_length (by rw [HBL.out]; omega)
      have hb12 : Bts W (.slice (some ⟨g, oP, none⟩) 12 64) (Y.take 12) := by
        have h2 := hbp
        rw [← hYl] at h2
        have h3 := h2.take 12 (by omega)
        rw [hYl] at h3
        exact h3
      have hb52 : Bts W (.slice (some ⟨g, oP + 12, none⟩) 52 52) (Y.drop 12) := by
        have h2 := hbp
        rw [← hYl] at h2
        have h3 := h2.drop 12 (by omega)
        rw [hYl] at h3
        exact h3
      have hcT := ((show Boxed W BT 5 (.int .u8 (a9 : Int)) from by
        have := hT.block BT (by have := HX.out; have := HSZ2.out; have := HH.out; omega) (by have := HX.out; have := HH.out; rintro (h | h) <;> omega)
        exact this.trans hBT2)).cell
      have hcN := ((show Boxed W BN 3 (.int .i64 (N : Int)) from by
        have := hT.block BN (by have := HX.out; have := HSZ2.out; have := HH.out; omega) (by have := HX.out; have := HH.out; rintro (h | h) <;> omega)
        exact this.trans hBN2)).cell
      have htag := fun w' : World => tag_any N a9 (by have := HL.out; have := HN.out; omega) HL.out.1 w'
      have HTAG := Lib.hid htag
      have HV := Lib.hid hv
      have HROW := Lib.hid hrow
      have HT := Lib.hid hT
      have HI := Lib.hid hi
      have HY := Lib.hid hY
      have HYL := Lib.hid hYl
      have HALL : Hid (_ ∧ _ ∧ _) := ⟨hpl, hall, hlt⟩
      have HB52 := Lib.hid hb52
      have HOP := Lib.hid hoP
      clear htag hv hrow hT hi hY hYl hpl hall hlt hP hbp hBW hb52 hoP hck
      gi_wp2
      refine Ord.In.walk (fun _ => trivial) (W5F (.slice (some ⟨g, oP, none⟩) 64 64) (.slice (some ⟨g, oP, none⟩) 12 64) N a9 (Y.take 12)) (fun _ _ w' => Below W.heap.size W w') (fun w' w'' => Below w'.heap.size w' w'') (by kernel_rfl) (by kernel_rfl) ?fr5 ?hfr5 ?hTT5 (fun xs => (Below.refl _ W).drew) ?he5 ?hend5
      case hfr5 =>
        intro xs
        simp only [Ord.fill, Act.put, List.setIfInBounds_toArray, List.set_cons_zero, List.set_cons_succ]
        rfl
      case hTT5 =>
        intro k u w1' w2' ht hF
        rcases k with _ | _ | _ | _ | _ | _ | _ | k
        · exact hF
        · exact hF
        · exact hF
        · exact hF
        · exact Bts.below hF ht
        · exact hF
        · exact hF
        · trivial
      case he5 =>
        refine Ord.In.each_cons (fun D xs w2 hD hC hP hR hA K' hK => ?_) ?_
        ·
          clear hA
          go_simp
          exact hK _ _ ⟨_, rfl, Below.refl _ _, hR, rfl⟩
        refine Ord.In.each_cons (fun D xs w2 hD hC hP hR hA K' hK => ?_) ?_
        ·
          have q0 := Ord.ahead_get _ hA 0 (by decide)
          simp only [W5F] at q0
          simp only [q0] at hK ⊢
          clear hA
          go_simp
          exact hK _ _ ⟨_, rfl, Below.refl _ _, hR, rfl⟩
        refine Ord.In.each_cons (fun D xs w2 hD hC hP hR hA K' hK => ?_) ?_
        ·
          clear hA
          have hc := (hR.cell (p := ⟨BN, 0, none⟩) (lt_cell hcN)).trans hcN
          go_simp
          exact hK _ _ ⟨_, rfl, Below.refl _ _, hR, rfl⟩
        refine Ord.In.each_cons (fun D xs w2 hD hC hP hR hA K' hK => ?_) ?_
        ·
          clear hA
          have hc := (hR.cell (p := ⟨BT, 0, none⟩) (lt_cell hcT)).trans hcT
          go_simp
          exact hK _ _ ⟨_, rfl, Below.refl _ _, hR, rfl⟩
        refine Ord.In.each_cons (fun D xs w2 hD hC hP hR hA K' hK => ?_) ?_
        ·
          have q2 := Ord.ahead_get _ hA 2 (by decide)
          simp only [W5F] at q2
          have q3 := Ord.ahead_get _ hA 3 (by decide)
          simp only [W5F] at q3
          simp only [q2, q3] at hK ⊢
          clear hA
          go_simp
          refine ⟨trivial, (CallsIn.inRound l (callsIn_wide.2 (HTAG.out w2))).mono ?_⟩
          rintro e w3 ⟨u, rfl, hO, hb3⟩
          exact hK _ _ ⟨u, rfl, hb3, hR.trans (hb3.mono hR.size), hO.bts⟩
        refine Ord.In.each_cons (fun D xs w2 hD hC hP hR hA K' hK => ?_) ?_
        ·
          have q1 := Ord.ahead_get _ hA 1 (by decide)
          simp only [W5F] at q1
          simp only [q1] at hK ⊢
          have HAH := Lib.hid hA
          clear hA
          have q4 := Ord.ahead_get _ HAH.out 4 (by decide)
          simp only [W5F] at q4
          have he := btEqual_any _ (xs 4) _ _ w2 (hb12.below hR) q4
          go_simp
          refine ⟨trivial, (CallsIn.inRound l (callsIn_wide.2 he)).mono ?_⟩
          rintro e w3 ⟨rfl, rfl⟩
          exact hK _ _ ⟨_, rfl, Below.refl _ _, hR, rfl⟩
        refine Ord.In.each_cons (fun D xs w2 hD hC hP hR hA K' hK => ?_) ?_
        ·
          have q5 := Ord.ahead_get _ hA 5 (by decide)
          simp only [W5F] at q5
          simp only [q5] at hK ⊢
          clear hA
          go_simp
          exact hK _ _ ⟨_, rfl, Below.refl _ _, hR, rfl⟩
        exact Ord.In.each_nil
      case hend5 =>
        intro D xs w9 hR hF
        have e0 := (hF 0 (by decide)).2
        have e1 := (hF 1 (by decide)).2
        have e2 := (hF 2 (by decide)).2
        have e3 := (hF 3 (by decide)).2
        have e5 := (hF 5 (by decide)).2
        have e6 := (hF 6 (by decide)).2
        simp only [W5F] at e0 e1 e2 e3 e5 e6
        rw [e0, e1, e2, e3, e5, e6]
        generalize xs 4 = u4
        clear hF e0 e1 e2 e3 e5 e6 hb12 hcT hcN
        by_cases hq : Y.take 12 = Rg.tag N a9
        · rw [decide_eq_true hq]
          have HQ := Lib.hid hq
          have HR := Lib.hid hR
          clear hq hR
          gi_wp2
          obtain ⟨L, hL⟩ : ∃ L, L = rstL s pre := ⟨_, rfl⟩
          have hrow := HROW.out
          rw [← hL] at hrow
          have hLs : ∀ z ∈ L, z < 256 := fun z hz => by
            rw [hL] at hz
            obtain ⟨i', -, h2⟩ := List.mem_flatMap.1 hz
            exact Rg.part_lt HBB.out.small _ z (List.mem_of_mem_drop h2)
          have hLl : L.length ≤ 640 := by
            rw [hL]
            have h1 := rst_le s pre
            have h2 := HALL.out.1
            omega
          have hown0 : Own (H + 3) W v L := ⟨hrow, hLs, by omega⟩
          have hown := hown0.below HR.out
          have hv9 : Boxed w9 H 57 v := (HR.out.block H HV.out.lt).trans HV.out
          have hR0 : W7R W H v L (Y.drop 12) (fun _ => false) (fun _ => undef) w9.drew := ⟨⟨HR.out.size, fun k o hk _ => (HR.out.block k (Array.getElem?_eq_some_iff.1 hk).1).trans hk⟩, (Touch.of_new HR.out).drew, (by have h1 := HT.out.size; have h2 := HR.out.size; have h3 := HSZ2.out; show H + 3 ≤ w9.heap.size; omega), fun _ => ⟨hown.below ((Below.refl _ w9).drew), hv9⟩, fun e => by cases e⟩
          have HLE := Lib.hid hL
          have HLL : Hid (L.length ≤ 640) := hLl
          clear hrow hLs hLl hown0 hown hv9 hL
          refine Ord.In.walk (fun _ => trivial) (W7F v (.slice (some ⟨g, oP, none⟩) 64 64) (.slice (some ⟨g, oP + 12, none⟩) 52 52)) (W7R W H v L (Y.drop 12)) (fun _ _ => True) (by kernel_rfl) (by kernel_rfl) ?fr7 ?hfr7 (fun k u w' w'' _ h => h) (fun xs => hR0.any xs) ?he7 ?hend7
          case hfr7 =>
            intro xs
            simp only [Ord.fill, Act.put, List.setIfInBounds_toArray, List.set_cons_zero, List.set_cons_succ]
            rfl
          case he7 =>
            refine Ord.In.each_cons (fun D xs w2 hD hC hP hR hA K' hK => ?_) ?_
            ·
              clear hA
              have h5 : D 3 = false := by
                cases e : D 3 with
                | false => rfl
                | true => have := Ord.closed_at hC 3 0 (by kernel_rfl) e; rw [hD] at this; cases this
              have hc := (hR.s0 h5).2.cell
              go_simp
              exact hK _ _ ⟨_, rfl, trivial, hR.quiet 0 _ (by decide), rfl⟩
            refine Ord.In.each_cons (fun D xs w2 hD hC hP hR hA K' hK => ?_) ?_
            ·
              clear hA
              go_simp
              exact hK _ _ ⟨_, rfl, trivial, hR.quiet 1 _ (by decide), rfl⟩
            refine Ord.In.each_cons (fun D xs w2 hD hC hP hR hA K' hK => ?_) ?_
            ·
              have q1 := Ord.ahead_get _ hA 1 (by decide)
              simp only [W7F] at q1
              simp only [q1] at hK ⊢
              clear hA
              go_simp
              exact hK _ _ ⟨_, rfl, trivial, hR.quiet 2 _ (by decide), rfl⟩
            refine Ord.In.each_cons (fun D xs w2 hD hC hP hR hA K' hK => ?_) ?_
            ·
              have q0 := Ord.ahead_get _ hA 0 (by decide)
              simp only [W7F] at q0
              have q2 := Ord.ahead_get _ hA 2 (by decide)
              simp only [W7F] at q2
              simp only [q0, q2] at hK ⊢
              clear hA
              obtain ⟨hO, hbx⟩ := hR.s0 hD
              obtain ⟨v3, w3, hrun, hO3, hb3, hg3⟩ := run_append_Own 57 (H + 3) v L hO _ (Y.drop 12) (hR.touch.bts HB52.out (fun _ g' e => by
  simp only [Value.ownBlock, Option.some.injEq] at e
  subst e
  have := HX.out
  rintro (h | h) <;> omega)) (by rw [List.length_drop, HYL.out]; decide) (by rw [List.length_drop, HYL.out]; have := HLL.out; omega) hR.sz
              refine (if_pos (by rfl)).mpr ?_
              refine wpIn_append_run (.tmp 35) (.tmp 37) _ _ rfl _ _ rfl rfl v3 w3 hrun ?_
              exact hK _ _ ⟨v3, rfl, trivial, hR.step3 hC hD hO hbx hO3 hg3 (by kernel_rfl), trivial⟩
            refine Ord.In.each_cons (fun D xs w2 hD hC hP hR hA K' hK => ?_) ?_
            ·
              clear hA
              have h5 : D 3 = true := hP { on := 3, ground := .data } (by simp) rfl
              obtain ⟨hO, u, hbx, -⟩ := hR.s1 h5
              obtain ⟨g5, c5, e5, -, -⟩ := own_some2 hO (by rw [List.length_append, List.length_drop, HYL.out]; omega)
              simp only [e5] at hK ⊢
              have hc6 := hbx.cell
              have hf6 := hbx.frozen
              have hll : (L ++ Y.drop 12).length = L.length + (Y.length - 12) := by simp
              rw [hll] at hK
              go_simp
              refine hK _ _ ⟨undef, rfl, trivial, ?_, trivial⟩
              rw [← hll, ← e5]
              exact hR.step4 h5 hO hbx
            exact Ord.In.each_nil
          case hend7 =>
            intro D xs w8 hR hF
            obtain ⟨hO, u, hbx, hu⟩ := hR.s1 (hF 3 (by decide)).1
            obtain rfl := hu (hF 4 (by decide)).1
            clear hF
            gi_wp2
            have hEq : rstL s (pre ++ [x]) = L ++ Y.drop 12 := by
              unfold rstL
              rw [List.flatMap_append, HLE.out, HY.out, HI.out]
              simp only [List.flatMap_cons, List.flatMap_nil, List.append_nil]
              rfl
            refine ⟨hR.keep.from _, ⟨hR.touch.row1 (H + 1) (by have := HSZ2.out; have := HT.out.size; omega) (by omega), hR.touch.row1 (H + 2) (by have := HSZ2.out; have := HT.out.size; omega) (by omega)⟩, ⟨_, hbx, ?_⟩, HT.out.trans hR.touch, ?_, fun j hj => ?_⟩
            · rw [hEq]; exact hO.own
            · rw [List.length_append]; exact HALL.out.2.2
            · rcases List.mem_append.1 hj with h | h
              · exact HALL.out.2.1 j h
              · obtain rfl : j = x := by simpa using h
                rw [← HI.out, ← HY.out]; exact HQ.out
        · rw [decide_eq_false hq]
          have HQ := Lib.hid hq
          have HR := Lib.hid hR
          clear hq hR
          have hk : ∀ k o, k < H → W2.heap[k]? = some o → w9.heap[k]? = some o := fun k o hk ho => by
            have h1 : W.heap[k]? = some o := (HT.out.block k (by have := HSZ2.out; omega) (by rintro (h | h) <;> omega)).trans ho
            exact (HR.out.block k (Array.getElem?_eq_some_iff.1 h1).1).trans h1
          have hA0H : A0 + 2 < H := by have := HX.out; omega
          have hh0 := hk A0 _ (by omega) HRR.out.1
          have hh1 := hk (A0 + 1) _ (by omega) HRR.out.2.1
          have hh2 := hk (A0 + 2) _ hA0H HRR.out.2.2
          have c0 := blk_cell hh0 0 (v := .int .i64 0) rfl
          have c1 := blk_cell hh1 0 (v := .int .u64 0) rfl
          have c2 := blk_cell hh1 1 (v := .slice none 0 0) rfl
          have c3 := blk_cell hh2 0 (v := .bool false) rfl
          have f0 := blk_free hh0 0
          have f1 := blk_free hh1 0
          have f2 := blk_free hh1 1
          have f3 := blk_free hh2 0
          clear hk
          gi_wp2
          have hs0 : (w9.setCell ⟨A0, 0, none⟩ (.int .i64 0)).heap[A0]? = some (.cells #[.int .i64 0] 3 (0, 0)) := blk_set (i := 0) hh0 _
          have t0 : Touch (fun k => k = A0) w9 (w9.setCell ⟨A0, 0, none⟩ (.int .i64 0)) := Touch.set A0 0 _ rfl
          have k0 : KeepsOthers W w9 := ⟨HR.out.size, fun k o hk _ => (HR.out.block k (Array.getElem?_eq_some_iff.1 hk).1).trans hk⟩
          have k0a : KeepsOthers w9 (w9.setCell ⟨A0, 0, none⟩ (.int .i64 0)) := KeepsOthers.setCell _ _ _
          have h1a := t0.row hh1 (by omega)
          have h2a := t0.row hh2 (by omega)
          generalize w9.setCell ⟨A0, 0, none⟩ (.int .i64 0) = wa at *
          have hs1 : ((wa.setCell ⟨A0 + 1, 0, none⟩ (.int .u64 0)).setCell ⟨A0 + 1, 1, none⟩ (.slice none 0 0)).heap[A0 + 1]? = some (.cells #[.int .u64 0, .slice none 0 0] 59 (0, 0)) := blk_set (i := 1) (blk_set (i := 0) h1a (.int .u64 0)) (.slice none 0 0)
          have t1 : Touch (fun k => k = A0 + 1) wa ((wa.setCell ⟨A0 + 1, 0, none⟩ (.int .u64 0)).setCell ⟨A0 + 1, 1, none⟩ (.slice none 0 0)) := (Touch.set (S := fun k => k = A0 + 1) (A0 + 1) 0 _ rfl).trans (Touch.set (A0 + 1) 1 _ rfl)
          have h0b := t1.row hs0 (by omega)
          have h2b := t1.row h2a (by omega)
          have k1 : KeepsOthers wa ((wa.setCell ⟨A0 + 1, 0, none⟩ (.int .u64 0)).setCell ⟨A0 + 1, 1, none⟩ (.slice none 0 0)) := (KeepsOthers.setCell _ _ _).trans (KeepsOthers.setCell _ _ _)
          generalize (wa.setCell ⟨A0 + 1, 0, none⟩ (.int .u64 0)).setCell ⟨A0 + 1, 1, none⟩ (.slice none 0 0) = wb at *
          have hs2 : (wb.setCell ⟨A0 + 1 + 1, 0, none⟩ (.bool false)).heap[A0 + 2]? = some (.cells #[.bool false] 4 (0, 0)) := blk_set (i := 0) h2b _
          have t2 : Touch (fun k => k = A0 + 2) wb (wb.setCell ⟨A0 + 1 + 1, 0, none⟩ (.bool false)) := Touch.set (A0 + 2) 0 _ rfl
          have h0c := t2.row h0b (by omega)
          have h1c := t2.row hs1 (by omega)
          have k2 : KeepsOthers wb (wb.setCell ⟨A0 + 1 + 1, 0, none⟩ (.bool false)) := KeepsOthers.setCell _ _ _
          generalize wb.setCell ⟨A0 + 1 + 1, 0, none⟩ (.bool false) = wc at *
          refine ⟨?_, rfl, ?_, h0c, h1c, hs2, i, ?_, ?_⟩
          · exact (((k0.trans k0a).trans k1).trans k2).from _
          · exact (((((HT.out.mono fun k _ h => by omega).trans (Touch.of_new HR.out)).trans (t0.mono fun k _ h => Or.inl h)).trans (t1.mono fun k _ h => Or.inr (Or.inl h)))).trans (t2.mono fun k _ h => Or.inr (Or.inr (Or.inl h)))
          · rw [HI.out]; exact ckN_lt (by decide) x
          · rw [← HY.out]; exact HQ.out
    case done =>
      rintro D ys W hD rfl ⟨⟨v, hv, hrow, -⟩, hT, -, hall⟩ hK
      obtain ⟨L, hL⟩ : ∃ L, L = rstL s (List.range 10) := ⟨_, rfl⟩
      rw [← hL] at hrow
      have hLr : L = Rg.rest s 10 := by
        rw [hL]
        unfold rstL Rg.rest
        have : ∀ q : List Nat, (∀ i ∈ q, i < 10) → (q.flatMap fun i => (Rg.part 64 s (ckN 10 i)).drop 12) = q.flatMap fun i => (Rg.part 64 s i).drop 12 := fun q => by
          induction q with
          | nil => intro _; rfl
          | cons y q ih =>
            intro hq
            rw [List.flatMap_cons, List.flatMap_cons, ckN_of (hq y (List.mem_cons_self ..)), ih fun i hi => hq i (List.mem_cons_of_mem _ hi)]
        exact this _ fun i hi => List.mem_range.1 hi
      have hLl : L.length = 520 := by rw [hLr]; exact rest_len HBL.out
      have hLs : ∀ z ∈ L, z < 256 := fun z hz => by
        rw [hL] at hz
        obtain ⟨i', -, h2⟩ := List.mem_flatMap.1 hz
        exact Rg.part_lt HBB.out.small _ z (List.mem_of_mem_drop h2)
      have hown : Own (H + 3) W v L := ⟨hrow, hLs, by omega⟩
      have htold : Rg.Told s := fun i hi => by
        have := hall i (List.mem_range.2 hi)
        rw [ckN_of hi] at this
        rw [this]
        have e1 : Rg.pageOf s = N := by unfold Rg.pageOf; rw [HN.out, HA10.out, HA11.out]
        have e2 : Rg.turnOf s = a9 := by unfold Rg.turnOf; rw [HA9.out]
        rw [e1, e2]
      obtain ⟨g1, c1, rfl, hg1, hg2⟩ := own_some2 hown (by omega)
      have hc := hv.cell
      have hbt : Bts W (.slice (some ⟨g1, 0, none⟩) 512 c1) (Rg.cut s) := by
        have h1 := hown.bts.take 512 (by omega)
        rw [hLr] at h1
        exact h1
      have hc1 : 520 ≤ c1 := by
        obtain ⟨p, c, e, h1, -⟩ := hown.bts.form
        simp only [Value.slice.injEq] at e
        omega
      rw [hLl] at hc
      have HTOLD := Lib.hid htold
      have HD := Lib.hid hD
      have HK := Lib.hid hK
      have HT := Lib.hid hT
      clear hLl hLr hL hLs hown htold hrow hall hv hD hK hT
      gi_wp2_with (refine ⟨trivial, ?_⟩; gi_at_call 104; refine (callsIn_wide.2 (open_any _ _ W hbt)).mono ?_; rintro e w5 ⟨u, rfl, hOu, hb5⟩; obtain ⟨pu, cu, hu⟩ : (∃ pu cu, u = .slice pu (Pg.openL (Rg.cut s)).length cu) := (let ⟨p, c, h, _⟩ := hOu.bts.form; ⟨p, c, h⟩); subst hu; obtain ⟨kN, hkN⟩ : (∃ kN, kN = Pg.openN (Rg.cut s)) := ⟨_, rfl⟩; obtain ⟨eE, heE⟩ : (∃ eE, eE = Pg.openE (Rg.cut s)) := ⟨_, rfl⟩; obtain ⟨lU, hlU⟩ : (∃ lU, lU = (Pg.openL (Rg.cut s)).length) := ⟨_, rfl⟩; rw [← hkN, ← heE, ← hlU]; rw [← hlU] at hOu; have HKN := Lib.hid hkN; have HEE := Lib.hid heE; have HLU := Lib.hid hlU; have HOU := Lib.hid hOu; have HB5 := Lib.hid hb5; clear hkN heE hlU hOu hb5 hbt hc hc1)
      obtain ⟨Q, hQ⟩ : ∃ Q, Q = w5.heap.size := ⟨_, rfl⟩
      obtain ⟨W6, hW6⟩ : ∃ W6, W6 = w5.alloc (.cells #[.int .u64 (kN : Int), .slice pu lU cu] 59) := ⟨_, rfl⟩
      rw [← hW6, ← hQ]
      have hQr : W6.heap[Q]? = some (.cells #[.int .u64 (kN : Int), .slice pu lU cu] 59 (0, 0)) := by rw [hW6, hQ]; exact heap_alloc_last _ _
      have hb6 : Below W.heap.size W W6 := by rw [hW6]; exact HB5.out.alloc HB5.out.size _
      have hWs : H + 3 ≤ W.heap.size := by have := HT.out.size; have := HSZ2.out; omega
      have hx := HX.out
      have hold : ∀ k, k < H → W6.heap[k]? = W2.heap[k]? := fun k hk => (hb6.block k (by omega)).trans (HT.out.block k (by have := HSZ2.out; omega) (by rintro (h | h) <;> omega))
      have q0 := (hold A0 (by omega)).trans HRR.out.1
      have q1 := (hold (A0 + 1) (by omega)).trans HRR.out.2.1
      have q2 := (hold (A0 + 2) (by omega)).trans HRR.out.2.2
      have cN : W6.cell? ⟨BN, 0, none⟩ = some (.int .i64 (N : Int)) := blk_cell ((hold BN (by have := HH.out; omega)).trans hBN2) 0 rfl
      have c90 := blk_cell hQr 0 (v := .int .u64 (kN : Int)) rfl
      have c91 := blk_cell hQr 1 (v := .slice pu lU cu) rfl
      have hQA : A0 + 3 ≤ Q := by have := HB5.out.size; omega
      have hBNA : A0 + 3 ≤ BN := by omega
      have hdef : W6.heap[D]? = some (.deferred (some [])) := (hb6.block D (Array.getElem?_eq_some_iff.1 HK.out).1).trans HK.out
      have hOu6 : Own W.heap.size W6 (.slice pu lU cu) (Pg.openL (Rg.cut s)) := by rw [hW6]; exact HOU.out.below ((Below.refl _ w5).alloc (Nat.le_refl _) _)
      have hDA : A0 + 3 ≤ D := by have := HD.out; have := HSZ2.out; omega
      have hbw6 : Below A0 w W6 := by
        have h1 := HBW.out
        have h2 : Below A0 w W := ⟨HT.out.os.trans h1.os, HT.out.tape.trans h1.tape, HT.out.output.trans h1.output, Nat.le_trans h1.size HT.out.size, fun k hk => (HT.out.block k (by have := HSZ2.out; omega) (by rintro (h | h) <;> omega)).trans (h1.block k hk)⟩
        exact h2.trans (hb6.mono (by omega))
      have HR9 : Hid (W9R W6 A0 N kN (.slice pu lU cu) (decide (eE = 0)) (fun _ => false) W6.drew) := ⟨(Touch.refl _ _).drew, q0, q1, q2⟩
      have HDEF := Lib.hid hdef
      have HOU6 := Lib.hid hOu6
      have HBW6 := Lib.hid hbw6
      have HQA : Hid (_ ∧ _ ∧ _ ∧ _) := ⟨hQA, hBNA, hDA, hWs⟩
      clear hQ hW6 hQr hb6 hWs hx hold q0 q1 q2 hdef hOu6 hbw6 hQA hBNA hDA
      refine Ord.In.walk (fun _ => trivial) (W9F N kN (.slice pu lU cu) (decide (eE = 0)) eE) (fun D _ w' => W9R W6 A0 N kN (.slice pu lU cu) (decide (eE = 0)) D w') (fun _ _ => True) (by kernel_rfl) (by kernel_rfl) ?fr9 ?hfr9 (fun k u w' w'' _ h => h) (fun _ => HR9.out) ?he9 ?hend9
      case hfr9 =>
        intro xs
        simp only [Ord.fill, Act.put, List.setIfInBounds_toArray, List.set_cons_zero, List.set_cons_succ]
        rfl
      case he9 =>
        refine Ord.In.each_cons (fun D xs w2 hD hC hP hR hA K' hK => ?_) ?_
        ·
          clear hA
          have hc := hR.touch.cell (p := ⟨BN, 0, none⟩) cN (by have := HQA.out; dsimp only; omega)
          go_simp
          exact hK _ _ ⟨_, rfl, trivial, hR.quiet 0 (by decide), rfl⟩
        refine Ord.In.each_cons (fun D xs w2 hD hC hP hR hA K' hK => ?_) ?_
        ·
          clear hA
          have hc0 := hR.touch.cell (p := ⟨Q, 0, none⟩) c90 (by have := HQA.out; dsimp only; omega)
          have hc1 := hR.touch.cell (p := ⟨Q, 1, none⟩) c91 (by have := HQA.out; dsimp only; omega)
          go_simp
          exact hK _ _ ⟨_, rfl, trivial, hR.quiet 1 (by decide), rfl⟩
        refine Ord.In.each_cons (fun D xs w2 hD hC hP hR hA K' hK => ?_) ?_
        ·
          clear hA
          go_simp
          exact hK _ _ ⟨_, rfl, trivial, hR.quiet 2 (by decide), rfl⟩
        refine Ord.In.each_cons (fun D xs w2 hD hC hP hR hA K' hK => ?_) ?_
        ·
          have q2 := Ord.ahead_get _ hA 2 (by decide)
          simp only [W9F] at q2
          simp only [q2] at hK ⊢
          clear hA
          go_simp
          exact hK _ _ ⟨_, rfl, trivial, hR.quiet 3 (by decide), by show Value.bool _ = _; rw [int_zero]⟩
        refine Ord.In.each_cons (fun D xs w2 hD hC hP hR hA K' hK => ?_) ?_
        ·
          have q0 := Ord.ahead_get _ hA 0 (by decide)
          simp only [W9F] at q0
          simp only [q0] at hK ⊢
          clear hA
          have hc := blk_cell hR.r0 0 rfl
          have hf := blk_free hR.r0 0
          go_simp
          exact hK _ _ ⟨undef, rfl, trivial, hR.st4, trivial⟩
        refine Ord.In.each_cons (fun D xs w2 hD hC hP hR hA K' hK => ?_) ?_
        ·
          have q1 := Ord.ahead_get _ hA 1 (by decide)
          simp only [W9F] at q1
          simp only [q1] at hK ⊢
          clear hA
          have hf0 := blk_free hR.r1 0
          have hf1 := blk_free hR.r1 1
          have hc0 : ∃ v, w2.cell? ⟨A0 + 1, 0, none⟩ = some v := two_cells hR.r1 0 (by decide)
          have hc1 : ∃ v, w2.cell? ⟨A0 + 1, 1, none⟩ = some v := two_cells hR.r1 1 (by decide)
          obtain ⟨z0, hc0⟩ := hc0
          obtain ⟨z1, hc1⟩ := hc1
          go_simp
          exact hK _ _ ⟨undef, rfl, trivial, hR.st5, trivial⟩
        refine Ord.In.each_cons (fun D xs w2 hD hC hP hR hA K' hK => ?_) ?_
        ·
          have q3 := Ord.ahead_get _ hA 3 (by decide)
          simp only [W9F] at q3
          simp only [q3] at hK ⊢
          clear hA
          have hc := blk_cell hR.r2 0 rfl
          have hf := blk_free hR.r2 0
          go_simp
          exact hK _ _ ⟨undef, rfl, trivial, hR.st6, trivial⟩
        exact Ord.In.each_nil
      case hend9 =>
        intro D' xs w8 hR hF
        have e4 := (hF 4 (by decide)).1
        have e5 := (hF 5 (by decide)).1
        have e6 := (hF 6 (by decide)).1
        have r0 := hR.r0
        have r1 := hR.r1
        have r2 := hR.r2
        rw [e4, if_pos rfl] at r0
        rw [e5, if_pos rfl] at r1
        rw [e6, if_pos rfl] at r2
        have hkd : w8.heap[D]? = some (.deferred (some [])) := (hR.touch.block D (Array.getElem?_eq_some_iff.1 HDEF.out).1 (by have := HQA.out; omega)).trans HDEF.out
        have HR8 := Lib.hid hR.touch
        clear hF hR e4 e5 e6
        gi_wp2
        refine ⟨by simp, .inl ⟨_, _, rfl, run_takeDeferred hkd, ?_⟩⟩
        have hx : ∀ k, k < A0 + 3 → (w8.putObj D (.deferred none)).heap[k]? = w8.heap[k]? := fun k hk => World.putObj_heap_other (by have := HQA.out; omega)
        refine ⟨_, wh_results _ _ A0 (A0 + 1) (A0 + 2) _ _ _ _ rfl rfl rfl ((hx A0 (by omega)).trans r0) ((hx (A0 + 1) (by omega)).trans r1) ((hx (A0 + 2) (by omega)).trans r2), N, kN, .slice pu lU cu, decide (eE = 0), rfl, ⟨_, _, _, rfl⟩, ?_, fun e => ⟨HTOLD.out, ?_, ?_, HKN.out, ?_⟩, fun e ht => ?_⟩
        · rw [← HAZ.out]
          refine (HBW6.out.trans (HR8.out.below (fun k hk => hk.1) (by have := HBW6.out.size; have := HAZ.out; omega))).trans ⟨rfl, rfl, rfl, by simp [World.putObj], fun k hk => hx k (by omega)⟩
        · rw [← HEE.out]; exact of_decide_eq_true e
        · unfold Rg.pageOf; rw [HN.out, HA10.out, HA11.out]
        · have h1 := HOU6.out
          refine ⟨ownsRow_putObj ?_ _ hkd rfl, h1.small, h1.len⟩
          have h2 := own_touch h1 HR8.out fun k hk => by have := HQA.out; have := HX.out; omega
          have h3 := h2.from (base' := w.heap.size) (by have := HQA.out; have := HAZ.out; have := HX.out; omega)
          have h4 := h3.own
          rw [HLU.out] at h4 ⊢
          exact h4
        · have := of_decide_eq_false e
          rw [HEE.out] at this
          exact this ht.2
    case stop =>
      rintro D c pre W hD _ ⟨rfl, hT, hk0, hk1, hk2, i, hi, hne⟩ hK
      gi_wp2
      refine ⟨by simp, .inl ⟨_, _, rfl, run_takeDeferred hK, ?_⟩⟩
      have hDD : H + 3 ≤ D := by have := HSZ2.out; omega
      have hA3 : A0 + 3 ≤ H := by have := HX.out; omega
      have hx : ∀ k, k < H + 3 → (W.putObj D (.deferred none)).heap[k]? = W.heap[k]? := fun k hk => World.putObj_heap_other (by omega)
      refine ⟨_, wh_results _ _ A0 (A0 + 1) (A0 + 2) _ _ _ _ rfl rfl rfl ((hx A0 (by omega)).trans hk0) ((hx (A0 + 1) (by omega)).trans hk1) ((hx (A0 + 2) (by omega)).trans hk2), 0, 0, .slice none 0 0, false, rfl, ⟨_, _, _, rfl⟩, ?_, (fun e => by cases e), fun _ ht => ?_⟩
      · have h1 := HBW.out
        have h2 : Below A0 w W := ⟨hT.os.trans h1.os, hT.tape.trans h1.tape, hT.output.trans h1.output, Nat.le_trans h1.size hT.size, fun k hk => (hT.block k (by have := HSZ2.out; omega) (by omega)).trans (h1.block k hk)⟩
        rw [← HAZ.out]
        exact h2.trans ⟨rfl, rfl, rfl, by simp [World.putObj], fun k hk => hx k (by omega)⟩
      · refine hne ?_
        rw [ht.1 i hi]
        have e1 : Rg.pageOf s = N := by unfold Rg.pageOf; rw [HN.out, HA10.out, HA11.out]
        have e2 : Rg.turnOf s = a9 := by unfold Rg.turnOf; rw [HA9.out]
        rw [e1, e2]
theorem whole_any (g off cap : Nat) (s : List Nat) (w : World) (hb : Bts w (.slice (some ⟨g, off, none⟩) 640 cap) s) (hbl : s.length = 640) :
    Calls Tryz.prog 70 #[.slice (some ⟨g, off, none⟩) 640 cap] w fun e w' => WhA s w e w' := callsIn_wide.1 (whole_in g off cap s w hb hbl)
end Go.Proofs.YtbpodmallknhfaaGreat
