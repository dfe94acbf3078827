/- What stands while a slice with a marked byte behind it is made out of a field: which rows are there, and that they lie apart. Conditions: none. -/
import Derived.Test.YtkmkbjjpbodbfaaPageRefB
namespace Go.Proofs.Ytkmkbjjpbodbfaa
open Go.RowKit

structure InR (W : World) (l : List Nat) (D : Nat → Bool) (xs : Nat → Value) (w : World) : Prop where
  bel : Below W.heap.size W w
  a0 : D 0 = true → D 3 = false → Own W.heap.size w (xs 0) []
  a3 : D 3 = true → D 5 = false → Own W.heap.size w (xs 3) l
  m4 : D 4 = true → D 5 = false → Own W.heap.size w (xs 4) [77] ∧ (D 0 = true → D 3 = false → (xs 4).ownBlock ≠ (xs 0).ownBlock)
  a5 : D 5 = true → Own W.heap.size w (xs 5) (l ++ [77])
  s9 : D 9 = true → ∃ g c, xs 5 = .slice (some ⟨g, 0, none⟩) (l.length + 1) c ∧ xs 9 = .slice (some ⟨g, 0, none⟩) l.length c
  s10 : D 10 = true → xs 10 = xs 9

theorem ne_new {a b : Value} {w : World} {g : Nat} (hg : b.ownBlock = some g) (hl : g < w.heap.size) (hu : a.ownBlock = some w.heap.size) : b.ownBlock ≠ a.ownBlock := by
  rw [hg, hu]
  intro e
  simp only [Option.some.injEq] at e
  omega
theorem Own.old {base : Nat} {w : World} {a : Value} {l : List Nat} (h : Own base w a l) (h0 : 0 < l.length) : ∃ g, a.ownBlock = some g ∧ g < w.heap.size := by
  obtain ⟨g, c, hv, _, hl, _⟩ := own_some h h0
  exact ⟨g, by rw [hv]; rfl, hl⟩
theorem own_ne_new {base n : Nat} {T : TypeId} {xs' : List Value} {w : World} {a b : Value} (h : w.ownsRow base T 1 a n xs') (hu : b.ownBlock = some w.heap.size) : b.ownBlock ≠ a.ownBlock := by
  rw [hu]
  intro e
  have := (World.ownsRow.lt h _ e.symm).2
  omega
theorem own_one (w : World) (base : Nat) (x : Nat) (hb : base ≤ w.heap.size) (hx : x < 256) : Own base (w.alloc (.cells #[.int .u8 (x : Int)] 5)) (.slice (some ⟨w.heap.size, 0, none⟩) 1 1) [x] :=
  own_blk (l := [x]) (heap_alloc_last _ _) hb (by simpa using hx) (by simp)
theorem own_forms2 {base : Nat} {w : World} {x : Value} {l : List Nat} (h : Own base w x l) (h0 : 0 < l.length) : ∃ g c, x = .slice (some ⟨g, 0, none⟩) l.length c ∧ l.length ≤ c ∧ c ≤ 9223372036854775807 := by
  obtain ⟨g, c, e, _, _, h1, h2, _⟩ := own_some h h0
  exact ⟨g, c, e, h1, h2⟩
theorem own_slv {base : Nat} {w : World} {v : Value} {l : List Nat} (h : Own base w v l) : ∃ p c, v = .slice p l.length c := by
  obtain ⟨p, c, e, -⟩ := h.bts.form
  exact ⟨p, c, e⟩

section
variable {W : World} {l : List Nat} {D : Nat → Bool} {xs : Nat → Value} {w w' : World} {u : Value}

theorem InR.skip (h : InR W l D xs w) (j : Nat) (hj : (j != 0 && j != 3 && j != 4 && j != 5 && j != 9 && j != 10) = true) : InR W l (Ord.wth D j) (Ord.set xs j u) w := by
  simp only [Bool.and_eq_true, bne_iff_ne] at hj
  obtain ⟨⟨⟨⟨⟨n0, n3⟩, n4⟩, n5⟩, n9⟩, n10⟩ := hj
  have g : ∀ i, j ≠ i → Ord.wth D j i = D i ∧ Ord.set xs j u i = xs i := fun i hi => ⟨wth_ne D (Ne.symm hi), oset_ne xs u (Ne.symm hi)⟩
  constructor
  · exact h.bel
  · rw [(g 0 n0).1, (g 3 n3).1, (g 0 n0).2]; exact h.a0
  · rw [(g 3 n3).1, (g 5 n5).1, (g 3 n3).2]; exact h.a3
  · rw [(g 4 n4).1, (g 5 n5).1, (g 4 n4).2, (g 0 n0).1, (g 3 n3).1, (g 0 n0).2]; exact h.m4
  · rw [(g 5 n5).1, (g 5 n5).2]; exact h.a5
  · rw [(g 9 n9).1, (g 5 n5).2, (g 9 n9).2]; exact h.s9
  · rw [(g 10 n10).1, (g 10 n10).2, (g 9 n9).2]; exact h.s10
theorem InR.op0 (h : InR W l D xs w) (hb : Below w.heap.size w w') (hO : Own W.heap.size w' u []) (hu : u.ownBlock = some w.heap.size) : InR W l (Ord.wth D 0) (Ord.set xs 0 u) w' where
  bel := h.bel.trans (hb.mono h.bel.size)
  a0 := fun _ _ => hO
  a3 := fun a b => (h.a3 a b).below hb
  m4 := fun a b => ⟨(h.m4 a b).1.below hb, fun _ _ => by
    obtain ⟨g, hg, hl⟩ := (h.m4 a b).1.old (by decide)
    exact ne_new hg hl hu⟩
  a5 := fun a => (h.a5 a).below hb
  s9 := h.s9
  s10 := h.s10
theorem InR.op4 (h : InR W l D xs w) (hb : Below w.heap.size w w') (hO : Own W.heap.size w' u [77]) (hu : u.ownBlock = some w.heap.size) : InR W l (Ord.wth D 4) (Ord.set xs 4 u) w' where
  bel := h.bel.trans (hb.mono h.bel.size)
  a0 := fun a b => (h.a0 a b).below hb
  a3 := fun a b => (h.a3 a b).below hb
  m4 := fun _ _ => ⟨hO, fun a b => own_ne_new (h.a0 a b).own hu⟩
  a5 := fun a => (h.a5 a).below hb
  s9 := h.s9
  s10 := h.s10
theorem InR.op3 (h : InR W l D xs w) (h0 : D 0 = true) (h3 : D 3 = false) (h5 : D 5 = false) (h9 : D 9 = false) (hb : Below W.heap.size w w') (hg : w.grownBy w' (xs 0).ownBlock) (hO : Own W.heap.size w' u l) : InR W l (Ord.wth D 3) (Ord.set xs 3 u) w' where
  bel := h.bel.trans hb
  a0 := fun _ b => by rw [wth_self] at b; cases b
  a3 := fun _ _ => hO
  m4 := fun a b => ⟨(h.m4 a b).1.grown hg (Or.inr ((h.m4 a b).2 h0 h3)), fun _ b => by rw [wth_self] at b; cases b⟩
  a5 := fun (a : D 5 = true) => by rw [h5] at a; cases a
  s9 := fun (a : D 9 = true) => by rw [h9] at a; cases a
  s10 := h.s10
theorem InR.op5 (h : InR W l D xs w) (h3 : D 3 = true) (h9 : D 9 = false) (hb : Below W.heap.size w w') (hO : Own W.heap.size w' u (l ++ [77])) : InR W l (Ord.wth D 5) (Ord.set xs 5 u) w' where
  bel := h.bel.trans hb
  a0 := fun _ (b : D 3 = false) => by rw [h3] at b; cases b
  a3 := fun _ b => by rw [wth_self] at b; cases b
  m4 := fun _ b => by rw [wth_self] at b; cases b
  a5 := fun _ => hO
  s9 := fun (a : D 9 = true) => by rw [h9] at a; cases a
  s10 := h.s10
theorem InR.op9 (h : InR W l D xs w) (h10 : D 10 = false) (he : ∃ g c, xs 5 = .slice (some ⟨g, 0, none⟩) (l.length + 1) c ∧ u = .slice (some ⟨g, 0, none⟩) l.length c) : InR W l (Ord.wth D 9) (Ord.set xs 9 u) w where
  bel := h.bel
  a0 := h.a0
  a3 := h.a3
  m4 := h.m4
  a5 := h.a5
  s9 := fun _ => he
  s10 := fun (a : D 10 = true) => by rw [h10] at a; cases a
theorem InR.op10 (h : InR W l D xs w) : InR W l (Ord.wth D 10) (Ord.set xs 10 (xs 9)) w where
  bel := h.bel
  a0 := h.a0
  a3 := h.a3
  m4 := h.m4
  a5 := h.a5
  s9 := h.s9
  s10 := fun _ => rfl
theorem InR.first (W : World) (l : List Nat) (xs : Nat → Value) : InR W l (fun _ => false) xs W.drew := ⟨(Below.refl _ _).go1, fun h => (by cases h), fun h => (by cases h), fun h => (by cases h), fun h => (by cases h), fun h => (by cases h), fun h => (by cases h)⟩
/-- What is handed in in the end, and the byte behind it. -/
theorem InR.last (h : InR W l D xs w) (h5 : D 5 = true) (h9 : D 9 = true) (h10 : D 10 = true) : ∃ g c, xs 10 = .slice (some ⟨g, 0, none⟩) l.length c ∧ l.length + 1 ≤ c ∧ c ≤ 9223372036854775807 ∧ Bts w (.slice (some ⟨g, 0, none⟩) l.length c) l ∧ w.cell? ⟨g, l.length, none⟩ = some (.int .u8 77) := by
  obtain ⟨g, c, e5, e9⟩ := h.s9 h9
  have hO := h.a5 h5
  have hl1 : (l ++ [77]).length = l.length + 1 := by simp
  obtain ⟨g', c', e5', hc1, hc2⟩ := own_forms2 hO (by rw [hl1]; omega)
  rw [e5, hl1] at e5'
  simp only [Value.slice.injEq, Option.some.injEq, Addr.mk.injEq, and_true] at e5'
  obtain ⟨rfl, -, rfl⟩ := e5'
  rw [hl1] at hc1
  refine ⟨g, c, by rw [h.s10 h10, e9], hc1, hc2, ?_, ?_⟩
  · have hb := hO.bts
    rw [e5, ← hl1] at hb
    have := hb.take l.length (by simp)
    rwa [List.take_left' rfl] at this
  · have ho := hO.own
    rw [e5, hl1] at ho
    obtain ⟨_, _, _, _, h5⟩ := owns_cells ho
    rw [h5 l.length (by simp)]
    simp
end
end Go.Proofs.Ytkmkbjjpbodbfaa
