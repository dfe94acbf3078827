/- What stands while the document's Copy is under way: which rows are there, and that they lie apart. Conditions: none. -/
import Derived.Test.YtpliogkcfhcfpaaItemMay
import Derived.Test.YtpliogkcfhcfpaaI32App
import Derived.Test.YtpliogkcfhcfpaaOrd
namespace Go.Proofs.Ytpliogkcfhcfpaa
open Go.RowKit

structure CpR (W : World) (k : Nat) (v : List Int) (m : List Nat) (D : Nat → Bool) (xs : Nat → Value) (w : World) : Prop where
  bel : Below W.heap.size W w
  a2 : D 2 = true → D 5 = false → I32.Own W.heap.size w (xs 2) []
  a5 : D 5 = true → D 7 = false → I32.Own W.heap.size w (xs 5) v
  a7 : D 7 = true → I32.Own W.heap.size w (xs 7) (v ++ [77])
  m6 : D 6 = true → D 7 = false → I32.Own W.heap.size w (xs 6) [77] ∧ (D 2 = true → D 5 = false → (xs 6).ownBlock ≠ (xs 2).ownBlock)
  b12 : D 12 = true → D 15 = false → Own W.heap.size w (xs 12) []
  b15 : D 15 = true → D 17 = false → Own W.heap.size w (xs 15) m
  b17 : D 17 = true → Own W.heap.size w (xs 17) (m ++ [78])
  n16 : D 16 = true → D 17 = false → Own W.heap.size w (xs 16) [78] ∧ (D 12 = true → D 15 = false → (xs 16).ownBlock ≠ (xs 12).ownBlock)
  s11 : D 11 = true → ∃ g c, xs 7 = .slice (some ⟨g, 0, none⟩) (v.length + 1) c ∧ xs 11 = .slice (some ⟨g, 0, none⟩) v.length c
  s21 : D 21 = true → ∃ g c, xs 17 = .slice (some ⟨g, 0, none⟩) (m.length + 1) c ∧ xs 21 = .slice (some ⟨g, 0, none⟩) m.length c
  s22 : D 22 = true → xs 22 = ItemV k (xs 11) (xs 21)

section
variable {W : World} {k : Nat} {v : List Int} {m : List Nat} {D : Nat → Bool} {xs : Nat → Value} {w w' : World} {u : Value}

/-- What changes no row, and writes none of these slots. -/
theorem CpR.skip (h : CpR W k v m D xs w) (hb : Below w.heap.size w w') (j : Nat) (hj : (j != 2 && j != 5 && j != 6 && j != 7 && j != 11 && j != 12 && j != 15 && j != 16 && j != 17 && j != 21 && j != 22) = true) : CpR W k v m (Ord.wth D j) (Ord.set xs j u) w' := by
  simp only [Bool.and_eq_true, bne_iff_ne] at hj
  obtain ⟨⟨⟨⟨⟨⟨⟨⟨⟨⟨n2, n5⟩, n6⟩, n7⟩, n11⟩, n12⟩, n15⟩, n16⟩, n17⟩, n21⟩, n22⟩ := hj
  have g : ∀ i, j ≠ i → Ord.wth D j i = D i ∧ Ord.set xs j u i = xs i := fun i hi => by
    unfold Ord.wth Ord.set
    exact ⟨if_neg (Ne.symm hi), if_neg (Ne.symm hi)⟩
  have hbel : Below W.heap.size W w' := h.bel.trans (hb.mono h.bel.size)
  constructor
  · exact hbel
  · rw [(g 2 n2).1, (g 5 n5).1, (g 2 n2).2]; exact fun a b => (h.a2 a b).below hb
  · rw [(g 5 n5).1, (g 7 n7).1, (g 5 n5).2]; exact fun a b => (h.a5 a b).below hb
  · rw [(g 7 n7).1, (g 7 n7).2]; exact fun a => (h.a7 a).below hb
  · rw [(g 6 n6).1, (g 7 n7).1, (g 6 n6).2, (g 2 n2).1, (g 5 n5).1, (g 2 n2).2]; exact fun a b => ⟨(h.m6 a b).1.below hb, (h.m6 a b).2⟩
  · rw [(g 12 n12).1, (g 15 n15).1, (g 12 n12).2]; exact fun a b => (h.b12 a b).below hb
  · rw [(g 15 n15).1, (g 17 n17).1, (g 15 n15).2]; exact fun a b => (h.b15 a b).below hb
  · rw [(g 17 n17).1, (g 17 n17).2]; exact fun a => (h.b17 a).below hb
  · rw [(g 16 n16).1, (g 17 n17).1, (g 16 n16).2, (g 12 n12).1, (g 15 n15).1, (g 12 n12).2]; exact fun a b => ⟨(h.n16 a b).1.below hb, (h.n16 a b).2⟩
  · rw [(g 11 n11).1, (g 7 n7).2, (g 11 n11).2]; exact h.s11
  · rw [(g 21 n21).1, (g 17 n17).2, (g 21 n21).2]; exact h.s21
  · rw [(g 22 n22).1, (g 22 n22).2, (g 11 n11).2, (g 21 n21).2]; exact h.s22

theorem wth_self (D : Nat → Bool) (j : Nat) : Ord.wth D j j = true := if_pos rfl

theorem ne_new {a b : Value} {w : World} {g : Nat} (hg : b.ownBlock = some g) (hl : g < w.heap.size) (hu : a.ownBlock = some w.heap.size) : b.ownBlock ≠ a.ownBlock := by
  rw [hg, hu]
  intro e
  simp only [Option.some.injEq] at e
  omega

theorem I32.Own.old {base : Nat} {w : World} {a : Value} {l : List Int} (h : I32.Own base w a l) (h0 : 0 < l.length) : ∃ g, a.ownBlock = some g ∧ g < w.heap.size := by
  obtain ⟨g, c, hv, _, hl, _⟩ := I32.own_some h h0
  exact ⟨g, by rw [hv]; rfl, hl⟩
theorem Own.old {base : Nat} {w : World} {a : Value} {l : List Nat} (h : Own base w a l) (h0 : 0 < l.length) : ∃ g, a.ownBlock = some g ∧ g < w.heap.size := by
  obtain ⟨g, c, hv, _, hl, _⟩ := own_some h h0
  exact ⟨g, by rw [hv]; rfl, hl⟩
theorem own_ne_new {base n : Nat} {T : TypeId} {xs' : List Value} {w : World} {a b : Value} (h : w.ownsRow base T 1 a n xs') (hu : b.ownBlock = some w.heap.size) : b.ownBlock ≠ a.ownBlock := by
  rw [hu]
  intro e
  have := (World.ownsRow.lt h _ e.symm).2
  omega

theorem CpR.op2 (h : CpR W k v m D xs w) (hb : Below w.heap.size w w') (hO : I32.Own W.heap.size w' u []) (hu : u.ownBlock = some w.heap.size) : CpR W k v m (Ord.wth D 2) (Ord.set xs 2 u) w' where
  bel := h.bel.trans (hb.mono h.bel.size)
  a2 := fun _ _ => hO
  a5 := fun a b => (h.a5 a b).below hb
  a7 := fun a => (h.a7 a).below hb
  m6 := fun a b => ⟨(h.m6 a b).1.below hb, fun _ _ => by
    obtain ⟨g, hg, hl⟩ := (h.m6 a b).1.old (by decide)
    exact ne_new hg hl hu⟩
  b12 := fun a b => (h.b12 a b).below hb
  b15 := fun a b => (h.b15 a b).below hb
  b17 := fun a => (h.b17 a).below hb
  n16 := fun a b => ⟨(h.n16 a b).1.below hb, (h.n16 a b).2⟩
  s11 := h.s11
  s21 := h.s21
  s22 := h.s22

theorem CpR.op6 (h : CpR W k v m D xs w) (hb : Below w.heap.size w w') (hO : I32.Own W.heap.size w' u [77]) (hu : u.ownBlock = some w.heap.size) : CpR W k v m (Ord.wth D 6) (Ord.set xs 6 u) w' where
  bel := h.bel.trans (hb.mono h.bel.size)
  a2 := fun a b => (h.a2 a b).below hb
  a5 := fun a b => (h.a5 a b).below hb
  a7 := fun a => (h.a7 a).below hb
  m6 := fun _ _ => ⟨hO, fun a b => own_ne_new (h.a2 a b).own hu⟩
  b12 := fun a b => (h.b12 a b).below hb
  b15 := fun a b => (h.b15 a b).below hb
  b17 := fun a => (h.b17 a).below hb
  n16 := fun a b => ⟨(h.n16 a b).1.below hb, (h.n16 a b).2⟩
  s11 := h.s11
  s21 := h.s21
  s22 := h.s22

theorem CpR.op12 (h : CpR W k v m D xs w) (hb : Below w.heap.size w w') (hO : Own W.heap.size w' u []) (hu : u.ownBlock = some w.heap.size) : CpR W k v m (Ord.wth D 12) (Ord.set xs 12 u) w' where
  bel := h.bel.trans (hb.mono h.bel.size)
  a2 := fun a b => (h.a2 a b).below hb
  a5 := fun a b => (h.a5 a b).below hb
  a7 := fun a => (h.a7 a).below hb
  m6 := fun a b => ⟨(h.m6 a b).1.below hb, (h.m6 a b).2⟩
  b12 := fun _ _ => hO
  b15 := fun a b => (h.b15 a b).below hb
  b17 := fun a => (h.b17 a).below hb
  n16 := fun a b => ⟨(h.n16 a b).1.below hb, fun _ _ => by
    obtain ⟨g, hg, hl⟩ := (h.n16 a b).1.old (by decide)
    exact ne_new hg hl hu⟩
  s11 := h.s11
  s21 := h.s21
  s22 := h.s22

theorem CpR.op16 (h : CpR W k v m D xs w) (hb : Below w.heap.size w w') (hO : Own W.heap.size w' u [78]) (hu : u.ownBlock = some w.heap.size) : CpR W k v m (Ord.wth D 16) (Ord.set xs 16 u) w' where
  bel := h.bel.trans (hb.mono h.bel.size)
  a2 := fun a b => (h.a2 a b).below hb
  a5 := fun a b => (h.a5 a b).below hb
  a7 := fun a => (h.a7 a).below hb
  m6 := fun a b => ⟨(h.m6 a b).1.below hb, (h.m6 a b).2⟩
  b12 := fun a b => (h.b12 a b).below hb
  b15 := fun a b => (h.b15 a b).below hb
  b17 := fun a => (h.b17 a).below hb
  n16 := fun _ _ => ⟨hO, fun a b => own_ne_new (h.b12 a b).own hu⟩
  s11 := h.s11
  s21 := h.s21
  s22 := h.s22

theorem CpR.op5 (h : CpR W k v m D xs w) (h2 : D 2 = true) (h5 : D 5 = false) (h7 : D 7 = false) (h11 : D 11 = false) (hb : Below W.heap.size w w') (hg : w.grownBy w' (xs 2).ownBlock) (hO : I32.Own W.heap.size w' u v) : CpR W k v m (Ord.wth D 5) (Ord.set xs 5 u) w' where
  bel := h.bel.trans hb
  a2 := fun _ b => by rw [wth_self] at b; cases b
  a5 := fun _ _ => hO
  a7 := fun (a : D 7 = true) => by rw [h7] at a; cases a
  m6 := fun a b => ⟨(h.m6 a b).1.grown hg (Or.inr ((h.m6 a b).2 h2 h5)), fun _ b => by rw [wth_self] at b; cases b⟩
  b12 := fun a b => (h.b12 a b).grown hg (apart_rows2 (h.a2 h2 h5).own (h.b12 a b).own)
  b15 := fun a b => (h.b15 a b).grown hg (apart_rows2 (h.a2 h2 h5).own (h.b15 a b).own)
  b17 := fun a => (h.b17 a).grown hg (apart_rows2 (h.a2 h2 h5).own (h.b17 a).own)
  n16 := fun a b => ⟨(h.n16 a b).1.grown hg (apart_rows2 (h.a2 h2 h5).own (h.n16 a b).1.own), (h.n16 a b).2⟩
  s11 := fun (a : D 11 = true) => by rw [h11] at a; cases a
  s21 := h.s21
  s22 := h.s22

theorem CpR.op7 (h : CpR W k v m D xs w) (h5 : D 5 = true) (h7 : D 7 = false) (h11 : D 11 = false) (hb : Below W.heap.size w w') (hg : w.grownBy w' (xs 5).ownBlock) (hO : I32.Own W.heap.size w' u (v ++ [77])) : CpR W k v m (Ord.wth D 7) (Ord.set xs 7 u) w' where
  bel := h.bel.trans hb
  a2 := fun _ (b : D 5 = false) => by rw [h5] at b; cases b
  a5 := fun _ b => by rw [wth_self] at b; cases b
  a7 := fun _ => hO
  m6 := fun _ b => by rw [wth_self] at b; cases b
  b12 := fun a b => (h.b12 a b).grown hg (apart_rows2 (h.a5 h5 h7).own (h.b12 a b).own)
  b15 := fun a b => (h.b15 a b).grown hg (apart_rows2 (h.a5 h5 h7).own (h.b15 a b).own)
  b17 := fun a => (h.b17 a).grown hg (apart_rows2 (h.a5 h5 h7).own (h.b17 a).own)
  n16 := fun a b => ⟨(h.n16 a b).1.grown hg (apart_rows2 (h.a5 h5 h7).own (h.n16 a b).1.own), (h.n16 a b).2⟩
  s11 := fun (a : D 11 = true) => by rw [h11] at a; cases a
  s21 := h.s21
  s22 := h.s22

theorem CpR.op15 (h : CpR W k v m D xs w) (h7 : D 7 = true) (h12 : D 12 = true) (h15 : D 15 = false) (h17 : D 17 = false) (h21 : D 21 = false) (hb : Below W.heap.size w w') (hg : w.grownBy w' (xs 12).ownBlock) (hO : Own W.heap.size w' u m) : CpR W k v m (Ord.wth D 15) (Ord.set xs 15 u) w' where
  bel := h.bel.trans hb
  a2 := fun a b => (h.a2 a b).grown hg (apart_rows (h.a2 a b).own (h.b12 h12 h15).own)
  a5 := fun _ (b : D 7 = false) => by rw [h7] at b; cases b
  a7 := fun a => (h.a7 a).grown hg (apart_rows (h.a7 a).own (h.b12 h12 h15).own)
  m6 := fun _ (b : D 7 = false) => by rw [h7] at b; cases b
  b12 := fun _ b => by rw [wth_self] at b; cases b
  b15 := fun _ _ => hO
  b17 := fun (a : D 17 = true) => by rw [h17] at a; cases a
  n16 := fun a b => ⟨(h.n16 a b).1.grown hg (Or.inr ((h.n16 a b).2 h12 h15)), fun _ b => by rw [wth_self] at b; cases b⟩
  s11 := h.s11
  s21 := fun (a : D 21 = true) => by rw [h21] at a; cases a
  s22 := h.s22

theorem CpR.op17 (h : CpR W k v m D xs w) (h7 : D 7 = true) (h15 : D 15 = true) (h17 : D 17 = false) (h21 : D 21 = false) (hb : Below W.heap.size w w') (hg : w.grownBy w' (xs 15).ownBlock) (hO : Own W.heap.size w' u (m ++ [78])) : CpR W k v m (Ord.wth D 17) (Ord.set xs 17 u) w' where
  bel := h.bel.trans hb
  a2 := fun a b => (h.a2 a b).grown hg (apart_rows (h.a2 a b).own (h.b15 h15 h17).own)
  a5 := fun _ (b : D 7 = false) => by rw [h7] at b; cases b
  a7 := fun a => (h.a7 a).grown hg (apart_rows (h.a7 a).own (h.b15 h15 h17).own)
  m6 := fun _ (b : D 7 = false) => by rw [h7] at b; cases b
  b12 := fun _ (b : D 15 = false) => by rw [h15] at b; cases b
  b15 := fun _ b => by rw [wth_self] at b; cases b
  b17 := fun _ => hO
  n16 := fun _ b => by rw [wth_self] at b; cases b
  s11 := h.s11
  s21 := fun (a : D 21 = true) => by rw [h21] at a; cases a
  s22 := h.s22

theorem CpR.op11 (h : CpR W k v m D xs w) (h22 : D 22 = false) (he : ∃ g c, xs 7 = .slice (some ⟨g, 0, none⟩) (v.length + 1) c ∧ u = .slice (some ⟨g, 0, none⟩) v.length c) : CpR W k v m (Ord.wth D 11) (Ord.set xs 11 u) w where
  bel := h.bel
  a2 := h.a2
  a5 := h.a5
  a7 := h.a7
  m6 := h.m6
  b12 := h.b12
  b15 := h.b15
  b17 := h.b17
  n16 := h.n16
  s11 := fun _ => he
  s21 := h.s21
  s22 := fun (a : D 22 = true) => by rw [h22] at a; cases a

theorem CpR.op21 (h : CpR W k v m D xs w) (h22 : D 22 = false) (he : ∃ g c, xs 17 = .slice (some ⟨g, 0, none⟩) (m.length + 1) c ∧ u = .slice (some ⟨g, 0, none⟩) m.length c) : CpR W k v m (Ord.wth D 21) (Ord.set xs 21 u) w where
  bel := h.bel
  a2 := h.a2
  a5 := h.a5
  a7 := h.a7
  m6 := h.m6
  b12 := h.b12
  b15 := h.b15
  b17 := h.b17
  n16 := h.n16
  s11 := h.s11
  s21 := fun _ => he
  s22 := fun (a : D 22 = true) => by rw [h22] at a; cases a

theorem CpR.op22 (h : CpR W k v m D xs w) (he : u = ItemV k (xs 11) (xs 21)) : CpR W k v m (Ord.wth D 22) (Ord.set xs 22 u) w where
  bel := h.bel
  a2 := h.a2
  a5 := h.a5
  a7 := h.a7
  m6 := h.m6
  b12 := h.b12
  b15 := h.b15
  b17 := h.b17
  n16 := h.n16
  s11 := h.s11
  s21 := h.s21
  s22 := fun _ => he
end
end Go.Proofs.Ytpliogkcfhcfpaa
