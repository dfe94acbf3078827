/- A slotted body put together, and a text more in it: what stands while operations float. Conditions: none. -/
import Derived.Test.YtbfpmpomcaijcaaSlVal
import Derived.Test.YtbfpmpomcaijcaaVApp
import Derived.Test.YtbfpmpomcaijcaaOrd
namespace Go.Proofs.Ytbfpmpomcaijcaa
open Go.RowKit

theorem wth_self (D : Nat → Bool) (k : Nat) : Ord.wth D k k = true := if_pos rfl
theorem wth_ne (D : Nat → Bool) {k j : Nat} (h : j ≠ k) : Ord.wth D k j = D j := if_neg h
theorem oset_self (xs : Nat → Value) (k : Nat) (v : Value) : Ord.set xs k v k = v := if_pos rfl
theorem oset_ne (xs : Nat → Value) {k j : Nat} (v : Value) (h : j ≠ k) : Ord.set xs k v j = xs j := if_neg h
theorem _root_.Go.RowKit.Below.go1 {B0 : Nat} {a b : World} (h : Below B0 a b) : Below B0 a b.drew := ⟨h.os, h.tape, h.output, h.size, fun k hk => h.block k hk⟩
theorem below_new (w : World) (o : Obj) : Below w.heap.size w (w.alloc o) := (Below.refl _ _).alloc (Nat.le_refl _) _

/-- A row and a block of another type lie apart. -/
theorem row_ne_blk {w : World} {base n X s : Nat} {T T2 : TypeId} {v : Value} {xs : List Value} {arr : Array Value} {fr : Nat × Nat} (h : w.ownsRow base T s v n xs) (hx : w.heap[X]? = some (.cells arr T2 fr)) (hne : T ≠ T2) : v.ownBlock = none ∨ v.ownBlock ≠ some X := by
  rcases h.2 with ⟨h, _⟩ | ⟨g, cap, cur, hv, hb, hh, _⟩
  · exact Or.inl (by rw [h]; rfl)
  · refine Or.inr ?_
    rw [hv]
    intro e
    simp only [Value.ownBlock, Option.some.injEq] at e
    subst e
    rw [hx] at hh
    simp only [Option.some.injEq, Obj.cells.injEq] at hh
    exact hne hh.2.1.symm
/-- Rows of unlike elements lie apart. -/
theorem apart_rows {w : World} {a b n k s t : Nat} {e f : TypeId} {xs ys : List Value} {u v : Value} (h1 : w.ownsRow a e s u n xs) (h2 : w.ownsRow b f t v k ys) (hne : e ≠ f) : u.ownBlock = none ∨ u.ownBlock ≠ v.ownBlock := by
  rcases h2.2 with ⟨h, _⟩ | ⟨g, cap, cur, hv, hb, hh, _⟩
  · rcases h1.2 with ⟨h', _⟩ | ⟨g', cap', cur', hv', _⟩
    · exact Or.inl (by rw [h']; rfl)
    · exact Or.inr (by rw [h, hv']; simp [Value.ownBlock])
  · rw [hv]
    exact row_ne_blk h1 hh hne
/-- A block of four cells, one of them written. -/
theorem set4 {w : World} {B : Nat} {a b c d x : Value} {T : TypeId} (h : w.heap[B]? = some (.cells #[a, b, c, d] T (0, 0))) :
    (w.setCell ⟨B, 2, none⟩ x).heap[B]? = some (.cells #[a, b, x, d] T (0, 0)) ∧ (w.setCell ⟨B, 3, none⟩ x).heap[B]? = some (.cells #[a, b, c, x] T (0, 0)) := by
  have hlt := lt_of_block h
  have h' : w.heap[B] = .cells #[a, b, c, d] T (0, 0) := by simpa [Array.getElem?_eq_getElem hlt] using h
  constructor <;>
  · show (w.heap.modify B _)[B]? = _
    rw [Array.getElem?_eq_getElem (by simpa using hlt), Array.getElem_modify_self, h']
    rfl
theorem set4all {w : World} {B : Nat} {a b c d x y z u : Value} {T : TypeId} (h : w.heap[B]? = some (.cells #[a, b, c, d] T (0, 0))) :
    ((((w.setCell ⟨B, 0, none⟩ x).setCell ⟨B, 1, none⟩ y).setCell ⟨B, 2, none⟩ z).setCell ⟨B, 3, none⟩ u).heap[B]? = some (.cells #[x, y, z, u] T (0, 0)) ∧ w.grownBy ((((w.setCell ⟨B, 0, none⟩ x).setCell ⟨B, 1, none⟩ y).setCell ⟨B, 2, none⟩ z).setCell ⟨B, 3, none⟩ u) (some B) := by
  have hlt := lt_of_block h
  have h' : w.heap[B] = .cells #[a, b, c, d] T (0, 0) := by simpa [Array.getElem?_eq_getElem hlt] using h
  have e1 : (w.setCell ⟨B, 0, none⟩ x).heap[B]? = some (.cells #[x, b, c, d] T (0, 0)) := by
    show (w.heap.modify B _)[B]? = _
    rw [Array.getElem?_eq_getElem (by simpa using hlt), Array.getElem_modify_self, h']
    rfl
  have hlt2 := lt_of_block e1
  have h2' : (w.setCell ⟨B, 0, none⟩ x).heap[B] = .cells #[x, b, c, d] T (0, 0) := by simpa [Array.getElem?_eq_getElem hlt2] using e1
  have e2 : ((w.setCell ⟨B, 0, none⟩ x).setCell ⟨B, 1, none⟩ y).heap[B]? = some (.cells #[x, y, c, d] T (0, 0)) := by
    show ((w.setCell ⟨B, 0, none⟩ x).heap.modify B _)[B]? = _
    rw [Array.getElem?_eq_getElem (by simpa using hlt2), Array.getElem_modify_self, h2']
    rfl
  exact ⟨(set4 (set4 e2).1).2, grownBy_trans (grownBy_trans (grownBy_trans (grownBy_setCell _ _ _ _) (grownBy_setCell _ _ _ _)) (grownBy_setCell _ _ _ _)) (grownBy_setCell _ _ _ _)⟩
theorem four_free {w : World} {B : Nat} {a b c d : Value} {T : TypeId} (h : w.heap[B]? = some (.cells #[a, b, c, d] T (0, 0))) (o : Nat) : w.frozen? ⟨B, o, none⟩ = false := by simp [World.frozen?, h]
theorem DOwn.grown {base : Nat} {w w' : World} {dv : Value} {vs : List Value} {ls : List (List Nat)} {row : Option Nat} (h : DOwn base w dv vs ls) (hg : w.grownBy w' row) (h1 : dv.ownBlock = none ∨ dv.ownBlock ≠ row) (h2 : ∀ i, i < ls.length → (vs.getD i nilS).ownBlock = none ∨ (vs.getD i nilS).ownBlock ≠ row) : DOwn base w' dv vs ls :=
  ⟨h.own.grown hg h1, h.len, fun i hi => (h.each i hi).grown hg (h2 i hi)⟩
/-- A block of a body is written: its rows stay. -/
theorem DOwn.blk {base X : Nat} {w w' : World} {dv : Value} {vs : List Value} {ls : List (List Nat)} {arr : Array Value} {fr : Nat × Nat} (h : DOwn base w dv vs ls) (hx : w.heap[X]? = some (.cells arr 26 fr)) (hg : w.grownBy w' (some X)) : DOwn base w' dv vs ls :=
  h.grown hg (row_ne_blk h.own.own hx (by decide)) fun i hi => row_ne_blk (h.each i hi).own hx (by decide)
/-- A text more. -/
theorem DOwn.snoc {base : Nat} {w w' : World} {dv dv' u : Value} {vs : List Value} {ls : List (List Nat)} {b : List Nat} (h : DOwn base w dv vs ls) (hu : Own base w u b) (hO : Sv.Own base w' dv' (vs ++ [u])) (hg : w.grownBy w' dv.ownBlock) : DOwn base w' dv' (vs ++ [u]) (ls ++ [b]) where
  own := hO
  len := by simp [h.len]
  each := fun i hi => by
    rw [List.length_append, List.length_singleton] at hi
    by_cases e : i < ls.length
    · have e1 : (vs ++ [u]).getD i nilS = vs.getD i nilS := by simp only [List.getD_eq_getElem?_getD]; rw [List.getElem?_append_left (by rw [h.len]; exact e)]
      have e2 : (ls ++ [b]).getD i [] = ls.getD i [] := by simp only [List.getD_eq_getElem?_getD]; rw [List.getElem?_append_left e]
      rw [e1, e2]
      exact (h.each i e).grown hg (apart_rows (h.each i e).own h.own.own (by decide))
    · obtain rfl : i = ls.length := by omega
      have e1 : (vs ++ [u]).getD ls.length nilS = u := by rw [← h.len]; simp [List.getD_eq_getElem?_getD]
      have e2 : (ls ++ [b]).getD ls.length [] = b := by simp [List.getD_eq_getElem?_getD]
      rw [e1, e2]
      exact hu.grown hg (apart_rows hu.own h.own.own (by decide))
theorem down_nil (base : Nat) (w : World) : DOwn base w nilS [] [] := ⟨Sv.own_nil base w, rfl, fun _ hi => absurd hi (Nat.not_lt_zero _)⟩

/-- A body's kind, number and list of bools put together in a block of its own. -/
structure C1R (W : World) (k n : Nat) (l : List Bool) (D : Nat → Bool) (xs : Nat → Value) (w : World) : Prop where
  bel : Below W.heap.size W w
  a4 : D 4 = true → D 7 = false → Bo.Own W.heap.size w (xs 4) []
  a7 : D 7 = true → Bo.Own W.heap.size w (xs 7) (FB l)
  a8 : D 8 = true → xs 8 = SlV k n (xs 7) nilS
  a9 : D 9 = true → ∃ X, xs 9 = .pointer (some ⟨X, 0, none⟩) ∧ W.heap.size ≤ X ∧ (D 10 = false → w.heap[X]? = some (.cells #[.int .u8 0, .int .u32 0, nilS, nilS] 26 (0, 0))) ∧
    (D 10 = true → w.heap[X]? = some (.cells #[.int .u8 (k : Int), .int .u32 (n : Int), xs 7, nilS] 26 (0, 0)))
section
variable {W w w' : World} {k n : Nat} {l : List Bool} {D : Nat → Bool} {xs : Nat → Value} {u : Value}
theorem C1R.first (W : World) (k n : Nat) (l : List Bool) (xs : Nat → Value) : C1R W k n l (fun _ => false) xs W.drew := ⟨(Below.refl _ _).go1, fun h => (by cases h), fun h => (by cases h), fun h => (by cases h), fun h => (by cases h)⟩
theorem C1R.skip (h : C1R W k n l D xs w) (j : Nat) (hj : (j != 4 && j != 7 && j != 8 && j != 9 && j != 10) = true) : C1R W k n l (Ord.wth D j) (Ord.set xs j u) w := by
  simp only [Bool.and_eq_true, bne_iff_ne] at hj
  obtain ⟨⟨⟨⟨n4, n7⟩, n8⟩, n9⟩, n10⟩ := hj
  refine ⟨h.bel, ?_, ?_, ?_, ?_⟩
  · rw [wth_ne _ (Ne.symm n4), wth_ne _ (Ne.symm n7), oset_ne _ _ (Ne.symm n4)]; exact h.a4
  · rw [wth_ne _ (Ne.symm n7), oset_ne _ _ (Ne.symm n7)]; exact h.a7
  · rw [wth_ne _ (Ne.symm n8), oset_ne _ _ (Ne.symm n8), oset_ne _ _ (Ne.symm n7)]; exact h.a8
  · rw [wth_ne _ (Ne.symm n9), oset_ne _ _ (Ne.symm n9), wth_ne _ (Ne.symm n10), oset_ne _ _ (Ne.symm n7)]; exact h.a9
theorem C1R.op4 (h : C1R W k n l D xs w) (h7 : D 7 = false) (hu : u = .slice (some ⟨w.heap.size, 0, none⟩) 0 0) : C1R W k n l (Ord.wth D 4) (Ord.set xs 4 u) (w.alloc (.cells #[] 4)) := by
  have hb := below_new w (.cells #[] 4)
  refine ⟨h.bel.trans (hb.mono h.bel.size), ?_, ?_, ?_, ?_⟩
  · rw [oset_self, hu]; exact fun _ _ => (Bo.own_empty w W.heap.size 0 #[] h.bel.size (by decide) rfl)
  · rw [wth_ne _ (by decide), h7]; intro a; cases a
  · rw [wth_ne _ (by decide), oset_ne _ _ (by decide), oset_ne _ _ (by decide)]; exact h.a8
  · rw [wth_ne _ (by decide), oset_ne _ _ (by decide), wth_ne _ (by decide), oset_ne _ _ (by decide)]
    intro a
    obtain ⟨X, e, h1, h2, h3⟩ := h.a9 a
    exact ⟨X, e, h1, fun b => by rw [hb.block _ (lt_of_block (h2 b))]; exact h2 b, fun b => by rw [hb.block _ (lt_of_block (h3 b))]; exact h3 b⟩
theorem C1R.op7 (h : C1R W k n l D xs w) (h8 : D 8 = false) (h10 : D 10 = false) (hO : Bo.Own W.heap.size w' u (FB l)) (hg : w.grownBy w' (xs 4).ownBlock) (hb : Below W.heap.size w w') (h4 : D 4 = true) (hD : D 7 = false) : C1R W k n l (Ord.wth D 7) (Ord.set xs 7 u) w' := by
  refine ⟨h.bel.trans hb, ?_, ?_, ?_, ?_⟩
  · rw [wth_self]; intro _ a; cases a
  · rw [oset_self]; exact fun _ => hO
  · rw [wth_ne _ (by decide), h8]; intro a; cases a
  · rw [wth_ne _ (by decide), oset_ne _ _ (by decide), wth_ne _ (by decide), oset_self, h10]
    intro a
    obtain ⟨X, e, h1, h2, -⟩ := h.a9 a
    have hx := h2 h10
    refine ⟨X, e, h1, fun _ => ?_, fun b => by cases b⟩
    rw [hg.block _ (lt_of_block hx) (fun e2 => ?_)]
    · exact hx
    · rcases row_ne_blk (h.a4 h4 hD).own hx (by decide) with e3 | e3
      · rw [e3] at e2; cases e2
      · exact e3 e2.symm
theorem C1R.op8 (h : C1R W k n l D xs w) (hu : u = SlV k n (xs 7) nilS) : C1R W k n l (Ord.wth D 8) (Ord.set xs 8 u) w := by
  refine ⟨h.bel, ?_, ?_, ?_, ?_⟩
  · rw [wth_ne _ (by decide), wth_ne _ (by decide), oset_ne _ _ (by decide)]; exact h.a4
  · rw [wth_ne _ (by decide), oset_ne _ _ (by decide)]; exact h.a7
  · rw [oset_self, oset_ne _ _ (by decide)]; exact fun _ => hu
  · rw [wth_ne _ (by decide), oset_ne _ _ (by decide), wth_ne _ (by decide), oset_ne _ _ (by decide)]; exact h.a9
theorem C1R.op9 (h : C1R W k n l D xs w) (h10 : D 10 = false) (hu : u = .pointer (some ⟨w.heap.size, 0, none⟩)) : C1R W k n l (Ord.wth D 9) (Ord.set xs 9 u) (w.alloc (.cells #[.int .u8 0, .int .u32 0, nilS, nilS] 26)) := by
  have hb := below_new w (.cells #[.int .u8 0, .int .u32 0, nilS, nilS] 26)
  refine ⟨h.bel.trans (hb.mono h.bel.size), ?_, ?_, ?_, ?_⟩
  · rw [wth_ne _ (by decide), wth_ne _ (by decide), oset_ne _ _ (by decide)]; exact fun a b => (h.a4 a b).below hb
  · rw [wth_ne _ (by decide), oset_ne _ _ (by decide)]; exact fun a => (h.a7 a).below hb
  · rw [wth_ne _ (by decide), oset_ne _ _ (by decide), oset_ne _ _ (by decide)]; exact h.a8
  · rw [oset_self]
    refine fun _ => ⟨_, hu, h.bel.size, fun _ => heap_alloc_last _ _, fun b => ?_⟩
    rw [wth_ne _ (by decide), h10] at b
    cases b
theorem C1R.op10 (h : C1R W k n l D xs w) {X : Nat} (hX : xs 9 = .pointer (some ⟨X, 0, none⟩)) (h9 : D 9 = true) (h7 : D 7 = true) (h10 : D 10 = false) :
    C1R W k n l (Ord.wth D 10) (Ord.set xs 10 u) ((((w.setCell ⟨X, 0, none⟩ (.int .u8 (k : Int))).setCell ⟨X, 1, none⟩ (.int .u32 (n : Int))).setCell ⟨X, 2, none⟩ (xs 7)).setCell ⟨X, 3, none⟩ nilS) := by
  obtain ⟨X', e, h1, h2, -⟩ := h.a9 h9
  rw [hX] at e
  simp only [Value.pointer.injEq, Option.some.injEq, Addr.mk.injEq, and_true] at e
  subst e
  have hx := h2 h10
  have hlt := lt_of_block hx
  have h' : w.heap[X] = .cells #[.int .u8 0, .int .u32 0, nilS, nilS] 26 (0, 0) := by simpa [Array.getElem?_eq_getElem hlt] using hx
  have g1 := grownBy_setCell w X 0 (.int .u8 (k : Int))
  have g2 := grownBy_setCell (w.setCell ⟨X, 0, none⟩ (.int .u8 (k : Int))) X 1 (.int .u32 (n : Int))
  have g3 := grownBy_setCell ((w.setCell ⟨X, 0, none⟩ (.int .u8 (k : Int))).setCell ⟨X, 1, none⟩ (.int .u32 (n : Int))) X 2 (xs 7)
  have g4 := grownBy_setCell (((w.setCell ⟨X, 0, none⟩ (.int .u8 (k : Int))).setCell ⟨X, 1, none⟩ (.int .u32 (n : Int))).setCell ⟨X, 2, none⟩ (xs 7)) X 3 nilS
  have hg := grownBy_trans (grownBy_trans (grownBy_trans g1 g2) g3) g4
  refine ⟨below_grown h.bel hg h.bel.size h1, ?_, ?_, ?_, ?_⟩
  · rw [wth_ne _ (by decide), wth_ne _ (by decide), h7]; intro _ a; cases a
  · rw [wth_ne _ (by decide), oset_ne _ _ (by decide)]; exact fun a => (h.a7 a).grown hg (row_ne_blk (h.a7 a).own hx (by decide))
  · rw [wth_ne _ (by decide), oset_ne _ _ (by decide), oset_ne _ _ (by decide)]; exact h.a8
  · rw [wth_ne _ (by decide), oset_ne _ _ (by decide), wth_self, oset_ne _ _ (by decide)]
    refine fun _ => ⟨X, hX, h1, (fun b => by cases b), fun _ => ?_⟩
    have e1 : (w.setCell ⟨X, 0, none⟩ (.int .u8 (k : Int))).heap[X]? = some (.cells #[.int .u8 (k : Int), .int .u32 0, nilS, nilS] 26 (0, 0)) := by
      show (w.heap.modify X _)[X]? = _
      rw [Array.getElem?_eq_getElem (by simpa using hlt), Array.getElem_modify_self, h']
      rfl
    have e2 : ((w.setCell ⟨X, 0, none⟩ (.int .u8 (k : Int))).setCell ⟨X, 1, none⟩ (.int .u32 (n : Int))).heap[X]? = some (.cells #[.int .u8 (k : Int), .int .u32 (n : Int), nilS, nilS] 26 (0, 0)) := by
      have hlt2 := lt_of_block e1
      have h2' : (w.setCell ⟨X, 0, none⟩ (.int .u8 (k : Int))).heap[X] = .cells #[.int .u8 (k : Int), .int .u32 0, nilS, nilS] 26 (0, 0) := by simpa [Array.getElem?_eq_getElem hlt2] using e1
      show ((w.setCell ⟨X, 0, none⟩ (.int .u8 (k : Int))).heap.modify X _)[X]? = _
      rw [Array.getElem?_eq_getElem (by simpa using hlt2), Array.getElem_modify_self, h2']
      rfl
    exact (set4 (set4 e2).1).2
end

/-- A text copied, and put behind the others: what stands. -/
structure C5R (b0 X : Nat) (kv nv fv dv : Value) (l : List Bool) (vs : List Value) (ls : List (List Nat)) (b : List Nat) (W : World) (D : Nat → Bool) (xs : Nat → Value) (w : World) : Prop where
  bel : Below b0 W w
  big : b0 ≤ W.heap.size
  xb : b0 ≤ X
  lt : ∀ i, i < ls.length → ∀ g, (vs.getD i nilS).ownBlock = some g → g < W.heap.size
  full : Bo.Own b0 w fv (FB l)
  x0 : D 12 = false → w.heap[X]? = some (.cells #[kv, nv, fv, dv] 26 (0, 0))
  old : D 10 = false → DOwn b0 w dv vs ls
  a2 : D 2 = true → D 8 = false → Own W.heap.size w (xs 2) []
  a8 : D 8 = true → D 10 = false → Own W.heap.size w (xs 8) b
  a9 : D 9 = true → D 10 = false → Sv.Bts w (xs 9) [xs 8]
  a10 : D 10 = true → DOwn b0 w (xs 10) (vs ++ [xs 8]) (ls ++ [b])
  a12 : D 12 = true → w.heap[X]? = some (.cells #[kv, nv, fv, xs 10] 26 (0, 0))
section
variable {b0 X : Nat} {kv nv fv dv : Value} {l : List Bool} {vs : List Value} {ls : List (List Nat)} {b : List Nat} {W w w' : World} {D : Nat → Bool} {xs : Nat → Value} {u : Value}
theorem C5R.first (xs : Nat → Value) (h1 : b0 ≤ W.heap.size) (h2 : Bo.Own b0 W fv (FB l)) (hX : b0 ≤ X) (h3 : W.heap[X]? = some (.cells #[kv, nv, fv, dv] 26 (0, 0))) (h4 : DOwn b0 W dv vs ls) : C5R b0 X kv nv fv dv l vs ls b W (fun _ => false) xs W.drew := by
  have hb : Below W.heap.size W W.drew := (Below.refl _ _).go1
  exact ⟨(Below.refl _ _).go1, h1, hX, fun i hi g hg => ((h4.each i hi).own.lt g hg).2, h2.below hb, fun _ => h3, fun _ => h4.below hb, fun h => (by cases h), fun h => (by cases h), fun h => (by cases h), fun h => (by cases h), fun h => (by cases h)⟩
theorem C5R.skip (h : C5R b0 X kv nv fv dv l vs ls b W D xs w) (j : Nat) (hj : (j != 2 && j != 8 && j != 9 && j != 10 && j != 12) = true) : C5R b0 X kv nv fv dv l vs ls b W (Ord.wth D j) (Ord.set xs j u) w := by
  simp only [Bool.and_eq_true, bne_iff_ne] at hj
  obtain ⟨⟨⟨⟨n2, n8⟩, n9⟩, n10⟩, n12⟩ := hj
  refine ⟨h.bel, h.big, h.xb, h.lt, h.full, ?_, ?_, ?_, ?_, ?_, ?_, ?_⟩
  · rw [wth_ne _ (Ne.symm n12)]; exact h.x0
  · rw [wth_ne _ (Ne.symm n10)]; exact h.old
  · rw [wth_ne _ (Ne.symm n2), wth_ne _ (Ne.symm n8), oset_ne _ _ (Ne.symm n2)]; exact h.a2
  · rw [wth_ne _ (Ne.symm n8), wth_ne _ (Ne.symm n10), oset_ne _ _ (Ne.symm n8)]; exact h.a8
  · rw [wth_ne _ (Ne.symm n9), wth_ne _ (Ne.symm n10), oset_ne _ _ (Ne.symm n9), oset_ne _ _ (Ne.symm n8)]; exact h.a9
  · rw [wth_ne _ (Ne.symm n10), oset_ne _ _ (Ne.symm n10), oset_ne _ _ (Ne.symm n8)]; exact h.a10
  · rw [wth_ne _ (Ne.symm n12), oset_ne _ _ (Ne.symm n10)]; exact h.a12
theorem C5R.op2 (h : C5R b0 X kv nv fv dv l vs ls b W D xs w) (hu : u = .slice (some ⟨w.heap.size, 0, none⟩) 0 0) : C5R b0 X kv nv fv dv l vs ls b W (Ord.wth D 2) (Ord.set xs 2 u) (w.alloc (.cells #[] 5)) := by
  have hb := below_new w (.cells #[] 5)
  have hs := Nat.le_trans h.big h.bel.size
  refine ⟨h.bel.trans (hb.mono hs), h.big, h.xb, h.lt, h.full.below hb, ?_, ?_, ?_, ?_, ?_, ?_, ?_⟩
  · rw [wth_ne _ (by decide)]; exact fun a => by rw [hb.block _ (lt_of_block (h.x0 a))]; exact h.x0 a
  · rw [wth_ne _ (by decide)]; exact fun a => (h.old a).below hb
  · rw [oset_self, hu]; exact fun _ _ => own_empty w W.heap.size 0 #[] h.bel.size (by decide) rfl
  · rw [wth_ne _ (by decide), wth_ne _ (by decide), oset_ne _ _ (by decide)]; exact fun a c => (h.a8 a c).below hb
  · rw [wth_ne _ (by decide), wth_ne _ (by decide), oset_ne _ _ (by decide), oset_ne _ _ (by decide)]; exact fun a c => (h.a9 a c).below hb
  · rw [wth_ne _ (by decide), oset_ne _ _ (by decide), oset_ne _ _ (by decide)]; exact fun a => (h.a10 a).below hb
  · rw [wth_ne _ (by decide), oset_ne _ _ (by decide)]; exact fun a => by rw [hb.block _ (lt_of_block (h.a12 a))]; exact h.a12 a
theorem C5R.op8 (h : C5R b0 X kv nv fv dv l vs ls b W D xs w) (h2 : D 2 = true) (h8 : D 8 = false) (h9 : D 9 = false) (h10 : D 10 = false) (h12 : D 12 = false) (hO : Own W.heap.size w' u b) (hg : w.grownBy w' (xs 2).ownBlock) (hb : Below W.heap.size w w') : C5R b0 X kv nv fv dv l vs ls b W (Ord.wth D 8) (Ord.set xs 8 u) w' := by
  have hx := h.x0 h12
  have ho2 := h.a2 h2 h8
  refine ⟨h.bel.trans (hb.mono h.big), h.big, h.xb, h.lt, h.full.grown hg (apart_rows h.full.own ho2.own (by decide)), ?_, ?_, ?_, ?_, ?_, ?_, ?_⟩
  · intro _
    rw [hg.block _ (lt_of_block hx) (fun e2 => ?_)]
    · exact hx
    · rcases row_ne_blk ho2.own hx (by decide) with e3 | e3
      · rw [e3] at e2; cases e2
      · exact e3 e2.symm
  · intro _
    have hd := h.old h10
    refine hd.grown hg (apart_rows hd.own.own ho2.own (by decide)) fun i hi => ?_
    cases e : (vs.getD i nilS).ownBlock with
    | none => exact Or.inl rfl
    | some g =>
      refine Or.inr fun e2 => ?_
      have h1 := h.lt i hi g e
      have h3 := (ho2.own.lt g e2.symm).1
      omega
  · rw [wth_self]; intro _ a; cases a
  · rw [oset_self]; exact fun _ _ => hO
  · rw [wth_ne _ (by decide), h9]; intro a; cases a
  · rw [wth_ne _ (by decide), h10]; intro a; cases a
  · rw [wth_ne _ (by decide), h12]; intro a; cases a
theorem C5R.op9 (h : C5R b0 X kv nv fv dv l vs ls b W D xs w) (h8 : D 8 = true) (h10 : D 10 = false) (hu : u = .slice (some ⟨w.heap.size, 0, none⟩) 1 1) : C5R b0 X kv nv fv dv l vs ls b W (Ord.wth D 9) (Ord.set xs 9 u) (w.alloc (.cells #[xs 8] 30)) := by
  have hb := below_new w (.cells #[xs 8] 30)
  have hs := Nat.le_trans h.big h.bel.size
  have h8o := h.a8 h8 h10
  have hone : Sv.Okk (xs 8) := by
    obtain ⟨p, c, e, -⟩ := h8o.bts.form
    rw [e]; rfl
  refine ⟨h.bel.trans (hb.mono hs), h.big, h.xb, h.lt, h.full.below hb, ?_, ?_, ?_, ?_, ?_, ?_, ?_⟩
  · rw [wth_ne _ (by decide)]; exact fun a => by rw [hb.block _ (lt_of_block (h.x0 a))]; exact h.x0 a
  · rw [wth_ne _ (by decide)]; exact fun a => (h.old a).below hb
  · rw [wth_ne _ (by decide), wth_ne _ (by decide), oset_ne _ _ (by decide)]; exact fun a c => (h.a2 a c).below hb
  · rw [wth_ne _ (by decide), wth_ne _ (by decide), oset_ne _ _ (by decide)]; exact fun a c => (h.a8 a c).below hb
  · rw [oset_self, oset_ne _ _ (by decide), hu]
    exact fun _ _ => Sv.bts_alloc w [xs 8] 1 (by simp) 30 (0, 0) (by simpa using hone) (by simp)
  · rw [wth_ne _ (by decide), oset_ne _ _ (by decide), oset_ne _ _ (by decide)]; exact fun a => (h.a10 a).below hb
  · rw [wth_ne _ (by decide), oset_ne _ _ (by decide)]; exact fun a => by rw [hb.block _ (lt_of_block (h.a12 a))]; exact h.a12 a
theorem C5R.op10 (h : C5R b0 X kv nv fv dv l vs ls b W D xs w) (h8 : D 8 = true) (h10 : D 10 = false) (h12 : D 12 = false) (hO : Sv.Own b0 w' u (vs ++ [xs 8])) (hg : w.grownBy w' dv.ownBlock) (hb : Below b0 w w') : C5R b0 X kv nv fv dv l vs ls b W (Ord.wth D 10) (Ord.set xs 10 u) w' := by
  have hx := h.x0 h12
  have hd := h.old h10
  refine ⟨h.bel.trans hb, h.big, h.xb, h.lt, h.full.grown hg (apart_rows h.full.own hd.own.own (by decide)), ?_, ?_, ?_, ?_, ?_, ?_, ?_⟩
  · intro _
    rw [hg.block _ (lt_of_block hx) (fun e2 => ?_)]
    · exact hx
    · rcases row_ne_blk hd.own.own hx (by decide) with e3 | e3
      · rw [e3] at e2; cases e2
      · exact e3 e2.symm
  · rw [wth_self]; intro a; cases a
  · rw [wth_ne _ (by decide), wth_ne _ (by decide), h8]; intro _ a; cases a
  · rw [wth_self]; intro _ a; cases a
  · rw [wth_self]; intro _ a; cases a
  · rw [oset_self, oset_ne _ _ (by decide)]; exact fun _ => hd.snoc ((h.a8 h8 h10).from h.big) hO hg
  · rw [wth_ne _ (by decide), h12]; intro a; cases a
theorem C5R.op12 (h : C5R b0 X kv nv fv dv l vs ls b W D xs w) (h8 : D 8 = true) (h10 : D 10 = true) (h12 : D 12 = false) : C5R b0 X kv nv fv dv l vs ls b W (Ord.wth D 12) (Ord.set xs 12 u) (w.setCell ⟨X, 3, none⟩ (xs 10)) := by
  have hx := h.x0 h12
  have hg := grownBy_setCell w X 3 (xs 10)
  refine ⟨below_grown h.bel hg (Nat.le_trans h.big h.bel.size) h.xb, h.big, h.xb, h.lt, h.full.grown hg (row_ne_blk h.full.own hx (by decide)), ?_, ?_, ?_, ?_, ?_, ?_, ?_⟩
  · rw [wth_self]; intro a; cases a
  · rw [wth_ne _ (by decide), h10]; intro a; cases a
  · rw [wth_ne _ (by decide), wth_ne _ (by decide), h8]; intro _ a; cases a
  · rw [wth_ne _ (by decide), wth_ne _ (by decide), h10]; intro _ a; cases a
  · rw [wth_ne _ (by decide), wth_ne _ (by decide), h10]; intro _ a; cases a
  · rw [wth_ne _ (by decide), oset_ne _ _ (by decide), oset_ne _ _ (by decide)]; exact fun a => (h.a10 a).blk hx hg
  · rw [oset_ne _ _ (by decide)]; exact fun _ => (set4 hx).2
end
end Go.Proofs.Ytbfpmpomcaijcaa
