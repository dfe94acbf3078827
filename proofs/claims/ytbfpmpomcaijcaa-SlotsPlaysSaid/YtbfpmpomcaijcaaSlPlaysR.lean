/- Bodies changed side by side: what stands while they are, and while operations float. Conditions: none. -/
import Derived.Test.YtbfpmpomcaijcaaSlOps
import Derived.Test.YtbfpmpomcaijcaaSlOk
import Derived.Test.YtbfpmpomcaijcaaSlIns
namespace Go.Proofs.Ytbfpmpomcaijcaa
open Go.RowKit

namespace Sl
theorem small_insR (s : S) (b : List Nat) : Small (insR s b).1 := by
  unfold insR
  by_cases h1 : May s
  · rw [ifP_pos h1]
    by_cases h2 : May (ins s b)
    · rw [ifP_pos h2]; exact h2.small
    · rw [ifP_neg h2]; exact small_none
  · rw [ifP_neg h1]; exact small_none
theorem small_putR (s : S) (a : Int) (b : List Nat) : Small (putR s a b).1 := by
  unfold putR
  by_cases h1 : May s
  · rw [ifP_pos h1]
    by_cases h3 : has s a
    · rw [ifP_pos h3]
      by_cases h2 : May (put s a.toNat b)
      · rw [ifP_pos h2]; exact h2.small
      · rw [ifP_neg h2]; exact small_none
    · rw [ifP_neg h3]; exact small_none
  · rw [ifP_neg h1]; exact small_none
theorem tot_set_le (ls : List (List Nat)) (i : Nat) : tot (ls.set i []) ≤ tot ls := by
  by_cases h : i < ls.length
  · have := tot_set (ls := ls) (i := i) [] h
    simp only [List.length_nil] at this
    omega
  · rw [List.set_eq_of_length_le (by omega)]; exact Nat.le_refl _
theorem small_delR {s : S} (hs : Small s) (a : Int) : Small (delR s a).1 := by
  unfold delR
  by_cases h1 : May s
  · rw [ifP_pos h1]
    by_cases h3 : has s a
    · rw [ifP_pos h3]
      refine ⟨?_, ?_, ?_⟩
      · show ((s.full.set _ _).take _).length ≤ _
        rw [List.length_take, List.length_set]; have := hs.f; omega
      · show ((s.data.set _ _).take _).length ≤ _
        simp only [List.length_take, List.length_set]; have := hs.d; omega
      · show tot ((s.data.set _ _).take _) ≤ _
        exact Nat.le_trans (tot_take_le _ _) (Nat.le_trans (tot_set_le _ _) hs.t)
    · rw [ifP_neg h3]; exact small_none
  · rw [ifP_neg h1]; exact small_none
end Sl

/-- A body in its block. -/
def Hs (w : World) (B : Nat) (s : Sl.S) (f d : Value) : Prop := w.heap[B]? = some (.cells #[.int .u8 (s.kind : Int), .int .u32 (s.next : Int), f, d] 26 (0, 0))
/-- It reads as the body wherever the blocks, but for some, are these. -/
def SlDep (A : Nat → Prop) (w : World) (f d : Value) (s : Sl.S) : Prop := ∀ w', (∀ k, ¬ A k → k < w.heap.size → w'.heap[k]? = w.heap[k]?) → SlAt w' f d s
section
variable {w w' : World} {B : Nat} {s : Sl.S} {f d : Value} {A A' : Nat → Prop}
theorem Hs.lt (h : Hs w B s f d) : B < w.heap.size := lt_of_block h
theorem Hs.below (h : Hs w B s f d) (hb : Below w.heap.size w w') : Hs w' B s f d := by
  unfold Hs
  rw [hb.block B h.lt]; exact h
theorem Hs.grown {g : Nat} (h : Hs w B s f d) (hg : w.grownBy w' (some g)) (hne : B ≠ g) : Hs w' B s f d := by
  unfold Hs
  rw [hg.block B h.lt (fun e => hne (Option.some.inj e))]; exact h
theorem SlDep.at (h : SlDep A w f d s) : SlAt w f d s := h w fun _ _ _ => rfl
theorem SlDep.below (h : SlDep A w f d s) (hb : Below w.heap.size w w') : SlDep A w' f d s := fun w2 h2 => h w2 fun k hk hl => by
  rw [h2 k hk (Nat.lt_of_lt_of_le hl hb.size), hb.block k hl]
theorem SlDep.grown {g : Nat} (h : SlDep A w f d s) (hg : w.grownBy w' (some g)) (hA : A g) : SlDep A w' f d s := fun w2 h2 => h w2 fun k hk hl => by
  rw [h2 k hk (Nat.lt_of_lt_of_le hl hg.size), hg.block k hl (fun e => by simp only [Option.some.injEq] at e; exact hk (e ▸ hA))]
theorem SlFar.dep {base : Nat} (h : SlFar base w f d s) (hA : ∀ k, A k → k < base) : SlDep A w f d s := fun w2 h2 => h w2 fun k hb hl => h2 k (fun ha => by have := hA k ha; omega) hl
/-- New blocks too may be written. -/
theorem SlDep.more (h : SlDep A w f d s) (hb : Below w.heap.size w w') (hA : ∀ k, A' k → A k ∨ w.heap.size ≤ k) : SlDep A' w' f d s := fun w2 h2 => h w2 fun k hk hl => by
  rw [h2 k (fun ha => by rcases hA k ha with e | e; exact hk e; omega) (Nat.lt_of_lt_of_le hl hb.size), hb.block k hl]
/-- A body of the call's own is none of a body's blocks. -/
theorem SlOwn.dep {base X Y : Nat} {vs : List Value} {s1 s2 : Sl.S} {f1 d1 f2 d2 : Value} (h : SlOwn base w f d vs s) (hx : Hs w X s1 f1 d1) (hy : Hs w Y s2 f2 d2) : SlDep (fun k => k = X ∨ k = Y) w f d s := by
  have hrow : ∀ {T : TypeId} {sz n : Nat} {v : Value} {xs : List Value} {w2 : World}, T ≠ 26 → (∀ k, ¬ (k = X ∨ k = Y) → k < w.heap.size → w2.heap[k]? = w.heap[k]?) → w.ownsRow base T sz v n xs → w2.ownsRow base T sz v n xs := by
    intro T sz n v xs w2 hT h2 hr
    refine ⟨hr.1, ?_⟩
    rcases hr.2 with e | ⟨g, cap, cur, hv, hb, hh, hre⟩
    · exact Or.inl e
    · refine Or.inr ⟨g, cap, cur, hv, hb, ?_, hre⟩
      rw [h2 g ?_ (lt_of_block hh)]
      · exact hh
      · rintro (e | e)
        · subst e
          unfold Hs at hx
          rw [hx] at hh
          simp only [Option.some.injEq, Obj.cells.injEq] at hh
          exact hT hh.2.1.symm
        · subst e
          unfold Hs at hy
          rw [hy] at hh
          simp only [Option.some.injEq, Obj.cells.injEq] at hh
          exact hT hh.2.1.symm
  intro w2 h2
  exact (SlOwn.mk (base := base) (vs := vs) ⟨hrow (by decide) h2 h.full.own, h.full.small, h.full.len⟩ ⟨⟨hrow (by decide) h2 h.data.own.own, h.data.own.small, h.data.own.len⟩, h.data.len, fun i hi => ⟨hrow (by decide) h2 (h.data.each i hi).own, (h.data.each i hi).small, (h.data.each i hi).len⟩⟩ h.kind h.next).at
end

/-- At the head of a round: both bodies stand. -/
structure PlS (w0 w : World) (X Y : Nat) (s : Sl.S) (fx dx fy dy : Value) : Prop where
  bel : Below w0.heap.size w0 w
  bx : Hs w X s fx dx
  by_ : Hs w Y s fy dy
  ex : SlDep (fun k => k = X ∨ k = Y) w fx dx s
  ey : SlDep (fun k => k = X ∨ k = Y) w fy dy s
  hx : w0.heap.size ≤ X
  hy : w0.heap.size ≤ Y
  ne : X ≠ Y
  small : Sl.Small s

/-- In a round: the bodies, what the first one was, and the change. -/
structure PlA (X Y V b o : Nat) (s : Sl.S) (fx dx fy dy fw dw : Value) (op : SOp) (w : World) : Prop where
  x : Hs w X s fx dx
  y : Hs w Y s fy dy
  v : Hs w V s fw dw
  ax : SlAt w fx dx s
  ay : SlAt w fy dy s
  av : SlAt w fw dw s
  c0 : w.cell? ⟨b, o, none⟩ = some (.int .i64 op.kind)
  c1 : w.cell? ⟨b, o + 1, none⟩ = some (.int .i64 op.at_)
  c2 : w.cell? ⟨b, o + 2, none⟩ = some op.bv
  bts : Bts w op.bv op.bs
theorem PlA.later {X Y V b o : Nat} {s : Sl.S} {fx dx fy dy fw dw : Value} {op : SOp} {w w' : World} (h : PlA X Y V b o s fx dx fy dy fw dw op w) (hb : Below w.heap.size w w') : PlA X Y V b o s fx dx fy dy fw dw op w' :=
  ⟨h.x.below hb, h.y.below hb, h.v.below hb, h.ax.below hb, h.ay.below hb, h.av.below hb, (hb.cell (block_lt_of_cell h.c0)).trans h.c0, (hb.cell (block_lt_of_cell h.c1)).trans h.c1, (hb.cell (block_lt_of_cell h.c2)).trans h.c2, h.bts.below hb⟩

/-- Behind the change: what was answered, by the program (C) and by the document (Z). -/
structure PlM (w8 : World) (X Y C Z gb : Nat) (t : Sl.S) (fc dc fz dz : Value) (w : World) : Prop where
  bel : Below w8.heap.size w8 w
  c : Hs w C t fc dc
  z : Hs w Z t fz dz
  ec : SlDep (fun k => k = X ∨ k = Y ∨ k = gb) w fc dc t
  ez : SlDep (fun k => k = X ∨ k = Y ∨ k = gb) w fz dz t
section
variable {w8 w w' : World} {X Y C Z gb : Nat} {t : Sl.S} {fc dc fz dz : Value}
theorem PlM.later (h : PlM w8 X Y C Z gb t fc dc fz dz w) (hb : Below w.heap.size w w') : PlM w8 X Y C Z gb t fc dc fz dz w' :=
  ⟨h.bel.trans (hb.mono h.bel.size), h.c.below hb, h.z.below hb, h.ec.below hb, h.ez.below hb⟩
theorem PlM.set {n : Nat} (h : PlM w8 X Y C Z gb t fc dc fz dz w) (hr : Row w gb n) (hg : w8.heap.size ≤ gb) (k x : Nat) : PlM w8 X Y C Z gb t fc dc fz dz (w.setCell ⟨gb, k, none⟩ (.int .u8 (x : Int))) := by
  have hw := grownBy_setCell w gb k (.int .u8 (x : Int))
  obtain ⟨cur, hh, -, -⟩ := hr
  have hne : ∀ {B : Nat} {f d : Value}, Hs w B t f d → B ≠ gb := by
    intro B f d hB e
    subst e
    unfold Hs at hB
    rw [hB] at hh
    simp only [Option.some.injEq, Obj.cells.injEq] at hh
    exact absurd hh.2.1 (by decide)
  exact ⟨below_grown h.bel hw h.bel.size hg, h.c.grown hw (hne h.c), h.z.grown hw (hne h.z), h.ec.grown hw (Or.inr (Or.inr rfl)), h.ez.grown hw (Or.inr (Or.inr rfl))⟩
end

/-- A call that answers a body, and its store: what stands while they float. -/
structure CsR (ci mi ei si Z : Nat) (tv : Value → Value → Value) (s0 t : Sl.S) (f0 d0 F G : Value) (W : World) (D : Nat → Bool) (xs : Nat → Value) (w : World) : Prop where
  gr : W.grownBy w (some Z)
  pre : D si = false → Below W.heap.size W w
  z0 : D si = false → Hs w Z s0 f0 d0
  a1 : D ci = true → xs ci = tv F G ∧ SlFar W.heap.size w F G t
  a2 : D mi = true → xs mi = tv F G
  a3 : D ei = true → xs ei = SlV t.kind t.next F G
  z1 : D si = true → Hs w Z t F G
  zl : Z < W.heap.size
section
variable {ci mi ei si Z : Nat} {tv : Value → Value → Value} {s0 t : Sl.S} {f0 d0 F G F' G' u : Value} {W w w' : World} {D : Nat → Bool} {xs : Nat → Value}
theorem CsR.first (xs : Nat → Value) (h : Hs W Z s0 f0 d0) : ∃ F G, CsR ci mi ei si Z tv s0 t f0 d0 F G W (fun _ => false) xs W.drew :=
  ⟨nilS, nilS, grownBy_drew _ _, fun _ => (Below.refl _ _).go1, fun _ => h.below (Below.refl _ _).go1, fun h => (by cases h), fun h => (by cases h), fun h => (by cases h), fun h => (by cases h), h.lt⟩
theorem CsR.skip (h : CsR ci mi ei si Z tv s0 t f0 d0 F G W D xs w) (j : Nat) (hj : (j != ci && j != mi && j != ei && j != si) = true) : CsR ci mi ei si Z tv s0 t f0 d0 F G W (Ord.wth D j) (Ord.set xs j u) w := by
  simp only [Bool.and_eq_true, bne_iff_ne] at hj
  obtain ⟨⟨⟨n1, n2⟩, n3⟩, n4⟩ := hj
  refine ⟨h.gr, ?_, ?_, ?_, ?_, ?_, ?_, h.zl⟩
  · rw [wth_ne _ (Ne.symm n4)]; exact h.pre
  · rw [wth_ne _ (Ne.symm n4)]; exact h.z0
  · rw [wth_ne _ (Ne.symm n1), oset_ne _ _ (Ne.symm n1)]; exact h.a1
  · rw [wth_ne _ (Ne.symm n2), oset_ne _ _ (Ne.symm n2)]; exact h.a2
  · rw [wth_ne _ (Ne.symm n3), oset_ne _ _ (Ne.symm n3)]; exact h.a3
  · rw [wth_ne _ (Ne.symm n4)]; exact h.z1
theorem CsR.call (h : CsR ci mi ei si Z tv s0 t f0 d0 F G W D xs w) (hn : (ci != mi && ci != ei && ci != si) = true) (h2 : D mi = false) (h3 : D ei = false) (h4 : D si = false) (hu : u = tv F' G') (hf : SlFar w.heap.size w' F' G' t) (hb : Below w.heap.size w w') :
    CsR ci mi ei si Z tv s0 t f0 d0 F' G' W (Ord.wth D ci) (Ord.set xs ci u) w' := by
  simp only [Bool.and_eq_true, bne_iff_ne] at hn
  obtain ⟨⟨n2, n3⟩, n4⟩ := hn
  have hbw := (h.pre h4).trans (hb.mono h.gr.size)
  refine ⟨grownBy_trans h.gr (grownBy_below hb _), fun _ => hbw, fun _ => (h.z0 h4).below hb, ?_, ?_, ?_, ?_, h.zl⟩
  · intro _
    rw [oset_self]
    exact ⟨hu, fun w2 ha => hf w2 (ha.from h.gr.size)⟩
  · rw [wth_ne _ (Ne.symm n2), h2]; intro a; cases a
  · rw [wth_ne _ (Ne.symm n3), h3]; intro a; cases a
  · rw [wth_ne _ (Ne.symm n4), h4]; intro a; cases a
theorem CsR.move (h : CsR ci mi ei si Z tv s0 t f0 d0 F G W D xs w) (hn : (mi != ci && mi != ei && mi != si) = true) (hu : u = tv F G) : CsR ci mi ei si Z tv s0 t f0 d0 F G W (Ord.wth D mi) (Ord.set xs mi u) w := by
  simp only [Bool.and_eq_true, bne_iff_ne] at hn
  obtain ⟨⟨n1, n3⟩, n4⟩ := hn
  refine ⟨h.gr, ?_, ?_, ?_, ?_, ?_, ?_, h.zl⟩
  · rw [wth_ne _ (Ne.symm n4)]; exact h.pre
  · rw [wth_ne _ (Ne.symm n4)]; exact h.z0
  · rw [wth_ne _ (Ne.symm n1), oset_ne _ _ (Ne.symm n1)]; exact h.a1
  · rw [oset_self]; exact fun _ => hu
  · rw [wth_ne _ (Ne.symm n3), oset_ne _ _ (Ne.symm n3)]; exact h.a3
  · rw [wth_ne _ (Ne.symm n4)]; exact h.z1
theorem CsR.ext (h : CsR ci mi ei si Z tv s0 t f0 d0 F G W D xs w) (hn : (ei != ci && ei != mi && ei != si) = true) (hu : u = SlV t.kind t.next F G) : CsR ci mi ei si Z tv s0 t f0 d0 F G W (Ord.wth D ei) (Ord.set xs ei u) w := by
  simp only [Bool.and_eq_true, bne_iff_ne] at hn
  obtain ⟨⟨n1, n2⟩, n4⟩ := hn
  refine ⟨h.gr, ?_, ?_, ?_, ?_, ?_, ?_, h.zl⟩
  · rw [wth_ne _ (Ne.symm n4)]; exact h.pre
  · rw [wth_ne _ (Ne.symm n4)]; exact h.z0
  · rw [wth_ne _ (Ne.symm n1), oset_ne _ _ (Ne.symm n1)]; exact h.a1
  · rw [wth_ne _ (Ne.symm n2), oset_ne _ _ (Ne.symm n2)]; exact h.a2
  · rw [oset_self]; exact fun _ => hu
  · rw [wth_ne _ (Ne.symm n4)]; exact h.z1
theorem CsR.store (h : CsR ci mi ei si Z tv s0 t f0 d0 F G W D xs w) (hn : (si != ci && si != mi && si != ei) = true) (h4 : D si = false) :
    CsR ci mi ei si Z tv s0 t f0 d0 F G W (Ord.wth D si) (Ord.set xs si u) ((((w.setCell ⟨Z, 0, none⟩ (.int .u8 (t.kind : Int))).setCell ⟨Z, 1, none⟩ (.int .u32 (t.next : Int))).setCell ⟨Z, 2, none⟩ F).setCell ⟨Z, 3, none⟩ G) := by
  simp only [Bool.and_eq_true, bne_iff_ne] at hn
  obtain ⟨⟨n1, n2⟩, n3⟩ := hn
  have hz := h.z0 h4
  unfold Hs at hz
  obtain ⟨e1, e2⟩ := set4all (x := .int .u8 (t.kind : Int)) (y := .int .u32 (t.next : Int)) (z := F) (u := G) hz
  refine ⟨grownBy_trans h.gr e2, ?_, ?_, ?_, ?_, ?_, ?_, h.zl⟩
  · rw [wth_self]; intro a; cases a
  · rw [wth_self]; intro a; cases a
  · rw [wth_ne _ (Ne.symm n1), oset_ne _ _ (Ne.symm n1)]; exact fun a => ⟨(h.a1 a).1, (h.a1 a).2.grown e2 h.zl⟩
  · rw [wth_ne _ (Ne.symm n2), oset_ne _ _ (Ne.symm n2)]; exact h.a2
  · rw [wth_ne _ (Ne.symm n3), oset_ne _ _ (Ne.symm n3)]; exact h.a3
  · exact fun _ => e1
end

/-- A call that answers bytes: what stands while it floats. -/
structure GtR (tv : Value → Value) (own : Bool) (l : List Nat) (U : Value) (W : World) (D : Nat → Bool) (xs : Nat → Value) (w : World) : Prop where
  bel : Below W.heap.size W w
  a6 : D 6 = true → xs 6 = tv U ∧ Bts w U l ∧ (own = true → Own W.heap.size w U l)
  a7 : D 7 = true → xs 7 = tv U
  a8 : D 8 = true → xs 8 = U
  a10 : D 10 = true → xs 10 = U
section
variable {tv : Value → Value} {own : Bool} {l : List Nat} {U U' u : Value} {W w w' : World} {D : Nat → Bool} {xs : Nat → Value}
theorem GtR.first (xs : Nat → Value) : ∃ U, GtR tv own l U W (fun _ => false) xs W.drew :=
  ⟨nilS, (Below.refl _ _).go1, fun h => (by cases h), fun h => (by cases h), fun h => (by cases h), fun h => (by cases h)⟩
theorem GtR.skip (h : GtR tv own l U W D xs w) (j : Nat) (hj : (j != 6 && j != 7 && j != 8 && j != 10) = true) : GtR tv own l U W (Ord.wth D j) (Ord.set xs j u) w := by
  simp only [Bool.and_eq_true, bne_iff_ne] at hj
  obtain ⟨⟨⟨n1, n2⟩, n3⟩, n4⟩ := hj
  refine ⟨h.bel, ?_, ?_, ?_, ?_⟩
  · rw [wth_ne _ (Ne.symm n1), oset_ne _ _ (Ne.symm n1)]; exact h.a6
  · rw [wth_ne _ (Ne.symm n2), oset_ne _ _ (Ne.symm n2)]; exact h.a7
  · rw [wth_ne _ (Ne.symm n3), oset_ne _ _ (Ne.symm n3)]; exact h.a8
  · rw [wth_ne _ (Ne.symm n4), oset_ne _ _ (Ne.symm n4)]; exact h.a10
theorem GtR.call (h : GtR tv own l U W D xs w) (h7 : D 7 = false) (h8 : D 8 = false) (h10 : D 10 = false) (hu : u = tv U') (hB : Bts w' U' l) (hO : own = true → Own w.heap.size w' U' l) (hb : Below w.heap.size w w') : GtR tv own l U' W (Ord.wth D 6) (Ord.set xs 6 u) w' := by
  refine ⟨h.bel.trans (hb.mono h.bel.size), ?_, ?_, ?_, ?_⟩
  · rw [oset_self]; exact fun _ => ⟨hu, hB, fun e => (hO e).from h.bel.size⟩
  · rw [wth_ne _ (by decide), h7]; intro a; cases a
  · rw [wth_ne _ (by decide), h8]; intro a; cases a
  · rw [wth_ne _ (by decide), h10]; intro a; cases a
theorem GtR.move (h : GtR tv own l U W D xs w) (hu : u = tv U) : GtR tv own l U W (Ord.wth D 7) (Ord.set xs 7 u) w := by
  refine ⟨h.bel, ?_, ?_, ?_, ?_⟩
  · rw [wth_ne _ (by decide), oset_ne _ _ (by decide)]; exact h.a6
  · rw [oset_self]; exact fun _ => hu
  · rw [wth_ne _ (by decide), oset_ne _ _ (by decide)]; exact h.a8
  · rw [wth_ne _ (by decide), oset_ne _ _ (by decide)]; exact h.a10
theorem GtR.ext (h : GtR tv own l U W D xs w) (hu : u = U) : GtR tv own l U W (Ord.wth D 8) (Ord.set xs 8 u) w := by
  refine ⟨h.bel, ?_, ?_, ?_, ?_⟩
  · rw [wth_ne _ (by decide), oset_ne _ _ (by decide)]; exact h.a6
  · rw [wth_ne _ (by decide), oset_ne _ _ (by decide)]; exact h.a7
  · rw [oset_self]; exact fun _ => hu
  · rw [wth_ne _ (by decide), oset_ne _ _ (by decide)]; exact h.a10
theorem GtR.last (h : GtR tv own l U W D xs w) (hu : u = U) : GtR tv own l U W (Ord.wth D 10) (Ord.set xs 10 u) w := by
  refine ⟨h.bel, ?_, ?_, ?_, ?_⟩
  · rw [wth_ne _ (by decide), oset_ne _ _ (by decide)]; exact h.a6
  · rw [wth_ne _ (by decide), oset_ne _ _ (by decide)]; exact h.a7
  · rw [wth_ne _ (by decide), oset_ne _ _ (by decide)]; exact h.a8
  · rw [oset_self]; exact fun _ => hu
end

/-- Both bodies are written over: what stands while the stores float. -/
structure MvR (b0 X Y : Nat) (s t : Sl.S) (fx dx fy dy fc dc fz dz : Value) (W : World) (D : Nat → Bool) (xs : Nat → Value) (w : World) : Prop where
  same : ∀ k, k ≠ X → k ≠ Y → k < W.heap.size → w.heap[k]? = W.heap[k]?
  big : W.heap.size ≤ w.heap.size
  bel : Below b0 W w
  b0x : b0 ≤ X
  b0y : b0 ≤ Y
  b0w : b0 ≤ W.heap.size
  ne : X ≠ Y
  x0 : D 2 = false → Hs w X s fx dx
  x1 : D 2 = true → Hs w X t fc dc
  y0 : D 3 = false → Hs w Y s fy dy
  y1 : D 3 = true → Hs w Y t fz dz
section
variable {b0 X Y : Nat} {s t : Sl.S} {fx dx fy dy fc dc fz dz u : Value} {W w : World} {D : Nat → Bool} {xs : Nat → Value}
theorem MvR.first (xs : Nat → Value) (h0 : b0 ≤ W.heap.size) (h1 : b0 ≤ X) (h2 : b0 ≤ Y) (hn : X ≠ Y) (hx : Hs W X s fx dx) (hy : Hs W Y s fy dy) : MvR b0 X Y s t fx dx fy dy fc dc fz dz W (fun _ => false) xs W.drew :=
  ⟨fun _ _ _ _ => rfl, Nat.le_refl _, (Below.refl _ _).go1, h1, h2, h0, hn, fun _ => hx.below (Below.refl _ _).go1, fun h => (by cases h), fun _ => hy.below (Below.refl _ _).go1, fun h => (by cases h)⟩
theorem MvR.skip (h : MvR b0 X Y s t fx dx fy dy fc dc fz dz W D xs w) (j : Nat) (hj : (j != 2 && j != 3) = true) : MvR b0 X Y s t fx dx fy dy fc dc fz dz W (Ord.wth D j) (Ord.set xs j u) w := by
  simp only [Bool.and_eq_true, bne_iff_ne] at hj
  obtain ⟨n2, n3⟩ := hj
  refine ⟨h.same, h.big, h.bel, h.b0x, h.b0y, h.b0w, h.ne, ?_, ?_, ?_, ?_⟩
  · rw [wth_ne _ (Ne.symm n2)]; exact h.x0
  · rw [wth_ne _ (Ne.symm n2)]; exact h.x1
  · rw [wth_ne _ (Ne.symm n3)]; exact h.y0
  · rw [wth_ne _ (Ne.symm n3)]; exact h.y1
theorem MvR.op2 (h : MvR b0 X Y s t fx dx fy dy fc dc fz dz W D xs w) (hD : D 2 = false) : MvR b0 X Y s t fx dx fy dy fc dc fz dz W (Ord.wth D 2) (Ord.set xs 2 u) ((((w.setCell ⟨X, 0, none⟩ (.int .u8 (t.kind : Int))).setCell ⟨X, 1, none⟩ (.int .u32 (t.next : Int))).setCell ⟨X, 2, none⟩ fc).setCell ⟨X, 3, none⟩ dc) := by
  have hz := h.x0 hD
  unfold Hs at hz
  obtain ⟨e1, e2⟩ := set4all (x := .int .u8 (t.kind : Int)) (y := .int .u32 (t.next : Int)) (z := fc) (u := dc) hz
  refine ⟨fun k k1 k2 kl => ?_, Nat.le_trans h.big e2.size, below_grown h.bel e2 (Nat.le_trans h.b0w h.big) h.b0x, h.b0x, h.b0y, h.b0w, h.ne, ?_, fun _ => e1, ?_, ?_⟩
  · rw [e2.block k (Nat.lt_of_lt_of_le kl h.big) (fun e => k1 (Option.some.inj e))]; exact h.same k k1 k2 kl
  · rw [wth_self]; intro a; cases a
  · rw [wth_ne _ (by decide)]; exact fun a => (h.y0 a).grown e2 (Ne.symm h.ne)
  · rw [wth_ne _ (by decide)]; exact fun a => (h.y1 a).grown e2 (Ne.symm h.ne)
theorem MvR.op3 (h : MvR b0 X Y s t fx dx fy dy fc dc fz dz W D xs w) (hD : D 3 = false) : MvR b0 X Y s t fx dx fy dy fc dc fz dz W (Ord.wth D 3) (Ord.set xs 3 u) ((((w.setCell ⟨Y, 0, none⟩ (.int .u8 (t.kind : Int))).setCell ⟨Y, 1, none⟩ (.int .u32 (t.next : Int))).setCell ⟨Y, 2, none⟩ fz).setCell ⟨Y, 3, none⟩ dz) := by
  have hz := h.y0 hD
  unfold Hs at hz
  obtain ⟨e1, e2⟩ := set4all (x := .int .u8 (t.kind : Int)) (y := .int .u32 (t.next : Int)) (z := fz) (u := dz) hz
  refine ⟨fun k k1 k2 kl => ?_, Nat.le_trans h.big e2.size, below_grown h.bel e2 (Nat.le_trans h.b0w h.big) h.b0y, h.b0x, h.b0y, h.b0w, h.ne, ?_, ?_, ?_, fun _ => e1⟩
  · rw [e2.block k (Nat.lt_of_lt_of_le kl h.big) (fun e => k2 (Option.some.inj e))]; exact h.same k k1 k2 kl
  · rw [wth_ne _ (by decide)]; exact fun a => (h.x0 a).grown e2 h.ne
  · rw [wth_ne _ (by decide)]; exact fun a => (h.x1 a).grown e2 h.ne
  · rw [wth_self]; intro a; cases a
/-- Both stand written over: the next round's head. -/
theorem MvR.done {w0 w8 : World} {C Z gb : Nat} (h : MvR w0.heap.size X Y s t fx dx fy dy fc dc fz dz W D xs w) (h2 : D 2 = true) (h3 : D 3 = true) (hm : PlM w8 X Y C Z gb t fc dc fz dz W) (hb : Below w0.heap.size w0 W) (hs : Sl.Small t) : PlS w0 w X Y t fc dc fz dz where
  bel := hb.trans h.bel
  bx := h.x1 h2
  by_ := h.y1 h3
  ex := fun w2 ha => hm.ec w2 fun k hk hl => by
    rw [ha k (fun e => hk (by rcases e with e | e; exact Or.inl e; exact Or.inr (Or.inl e))) (Nat.lt_of_lt_of_le hl h.big)]
    exact h.same k (fun e => hk (Or.inl e)) (fun e => hk (Or.inr (Or.inl e))) hl
  ey := fun w2 ha => hm.ez w2 fun k hk hl => by
    rw [ha k (fun e => hk (by rcases e with e | e; exact Or.inl e; exact Or.inr (Or.inl e))) (Nat.lt_of_lt_of_le hl h.big)]
    exact h.same k (fun e => hk (Or.inl e)) (fun e => hk (Or.inr (Or.inl e))) hl
  hx := h.b0x
  hy := h.b0y
  ne := h.ne
  small := hs
end

/-- Two copies are made, and stored: what stands while they float. -/
structure CpR (s : Sl.S) (F1 G1 F2 G2 : Value) (v1 v2 : List Value) (X Y : Nat) (W : World) (D : Nat → Bool) (xs : Nat → Value) (w : World) : Prop where
  bel : Below W.heap.size W w
  a1 : D 1 = true → xs 1 = SlV s.kind s.next F1 G1 ∧ SlOwn W.heap.size w F1 G1 v1 s
  a3 : D 3 = true → xs 3 = SlV s.kind s.next F2 G2 ∧ SlOwn W.heap.size w F2 G2 v2 s
  b4 : D 4 = true → xs 4 = .pointer (some ⟨X, 0, none⟩) ∧ W.heap.size ≤ X ∧ X < w.heap.size
  b5 : D 5 = true → xs 5 = .pointer (some ⟨Y, 0, none⟩) ∧ W.heap.size ≤ Y ∧ Y < w.heap.size
  x0 : D 4 = true → D 6 = false → w.heap[X]? = some (.cells #[.int .u8 0, .int .u32 0, nilS, nilS] 26 (0, 0))
  y0 : D 5 = true → D 7 = false → w.heap[Y]? = some (.cells #[.int .u8 0, .int .u32 0, nilS, nilS] 26 (0, 0))
  x1 : D 6 = true → Hs w X s F1 G1
  y1 : D 7 = true → Hs w Y s F2 G2
  ne : (D 4 = true ∨ D 6 = true) → (D 5 = true ∨ D 7 = true) → X ≠ Y
section
variable {s : Sl.S} {F1 G1 F2 G2 F' G' u : Value} {v1 v2 v' : List Value} {X Y : Nat} {W w w' : World} {D : Nat → Bool} {xs : Nat → Value}
theorem CpR.first (s : Sl.S) (W : World) (xs : Nat → Value) : ∃ F1 G1 F2 G2 v1 v2 X Y, CpR s F1 G1 F2 G2 v1 v2 X Y W (fun _ => false) xs W.drew :=
  ⟨nilS, nilS, nilS, nilS, [], [], 0, 0, (Below.refl _ _).go1, fun h => (by cases h), fun h => (by cases h), fun h => (by cases h), fun h => (by cases h), fun h => (by cases h), fun h => (by cases h), fun h => (by cases h), fun h => (by cases h), fun h => (by rcases h with h | h <;> cases h)⟩
theorem CpR.skip (h : CpR s F1 G1 F2 G2 v1 v2 X Y W D xs w) (j : Nat) (hj : (j == 0 || j == 2) = true) : CpR s F1 G1 F2 G2 v1 v2 X Y W (Ord.wth D j) (Ord.set xs j u) w := by
  have hn : ∀ i, (i == 1 || i == 3 || i == 4 || i == 5 || i == 6 || i == 7) = true → i ≠ j := by
    intro i hi e
    subst e
    simp only [Bool.or_eq_true, beq_iff_eq] at hi hj
    omega
  refine ⟨h.bel, ?_, ?_, ?_, ?_, ?_, ?_, ?_, ?_, ?_⟩
  · rw [wth_ne _ (hn 1 (by decide)), oset_ne _ _ (hn 1 (by decide))]; exact h.a1
  · rw [wth_ne _ (hn 3 (by decide)), oset_ne _ _ (hn 3 (by decide))]; exact h.a3
  · rw [wth_ne _ (hn 4 (by decide)), oset_ne _ _ (hn 4 (by decide))]; exact h.b4
  · rw [wth_ne _ (hn 5 (by decide)), oset_ne _ _ (hn 5 (by decide))]; exact h.b5
  · rw [wth_ne _ (hn 4 (by decide)), wth_ne _ (hn 6 (by decide))]; exact h.x0
  · rw [wth_ne _ (hn 5 (by decide)), wth_ne _ (hn 7 (by decide))]; exact h.y0
  · rw [wth_ne _ (hn 6 (by decide))]; exact h.x1
  · rw [wth_ne _ (hn 7 (by decide))]; exact h.y1
  · rw [wth_ne _ (hn 4 (by decide)), wth_ne _ (hn 5 (by decide)), wth_ne _ (hn 6 (by decide)), wth_ne _ (hn 7 (by decide))]; exact h.ne
theorem row_below {w w' : World} {B : Nat} {o : Obj} (h : w.heap[B]? = some o) (hb : Below w.heap.size w w') (hl : B < w.heap.size) : w'.heap[B]? = some o := by rw [hb.block B hl]; exact h
theorem CpR.call1 (h : CpR s F1 G1 F2 G2 v1 v2 X Y W D xs w) (h6 : D 6 = false) (hu : u = SlV s.kind s.next F' G') (hO : SlOwn w.heap.size w' F' G' v' s) (hb : Below w.heap.size w w') : CpR s F' G' F2 G2 v' v2 X Y W (Ord.wth D 1) (Ord.set xs 1 u) w' := by
  refine ⟨h.bel.trans (hb.mono h.bel.size), ?_, ?_, ?_, ?_, ?_, ?_, ?_, ?_, ?_⟩
  · rw [oset_self]; exact fun _ => ⟨hu, hO.from h.bel.size⟩
  · rw [wth_ne _ (by decide), oset_ne _ _ (by decide)]; exact fun a => ⟨(h.a3 a).1, (h.a3 a).2.below hb⟩
  · rw [wth_ne _ (by decide), oset_ne _ _ (by decide)]; exact fun a => ⟨(h.b4 a).1, (h.b4 a).2.1, Nat.lt_of_lt_of_le (h.b4 a).2.2 hb.size⟩
  · rw [wth_ne _ (by decide), oset_ne _ _ (by decide)]; exact fun a => ⟨(h.b5 a).1, (h.b5 a).2.1, Nat.lt_of_lt_of_le (h.b5 a).2.2 hb.size⟩
  · rw [wth_ne _ (by decide), wth_ne _ (by decide)]; exact fun a c => row_below (h.x0 a c) hb (h.b4 a).2.2
  · rw [wth_ne _ (by decide), wth_ne _ (by decide)]; exact fun a c => row_below (h.y0 a c) hb (h.b5 a).2.2
  · rw [wth_ne _ (by decide), h6]; intro a; cases a
  · rw [wth_ne _ (by decide)]; exact fun a => (h.y1 a).below hb
  · rw [wth_ne _ (by decide), wth_ne _ (by decide), wth_ne _ (by decide), wth_ne _ (by decide)]; exact h.ne
theorem CpR.call3 (h : CpR s F1 G1 F2 G2 v1 v2 X Y W D xs w) (h7 : D 7 = false) (hu : u = SlV s.kind s.next F' G') (hO : SlOwn w.heap.size w' F' G' v' s) (hb : Below w.heap.size w w') : CpR s F1 G1 F' G' v1 v' X Y W (Ord.wth D 3) (Ord.set xs 3 u) w' := by
  refine ⟨h.bel.trans (hb.mono h.bel.size), ?_, ?_, ?_, ?_, ?_, ?_, ?_, ?_, ?_⟩
  · rw [wth_ne _ (by decide), oset_ne _ _ (by decide)]; exact fun a => ⟨(h.a1 a).1, (h.a1 a).2.below hb⟩
  · rw [oset_self]; exact fun _ => ⟨hu, hO.from h.bel.size⟩
  · rw [wth_ne _ (by decide), oset_ne _ _ (by decide)]; exact fun a => ⟨(h.b4 a).1, (h.b4 a).2.1, Nat.lt_of_lt_of_le (h.b4 a).2.2 hb.size⟩
  · rw [wth_ne _ (by decide), oset_ne _ _ (by decide)]; exact fun a => ⟨(h.b5 a).1, (h.b5 a).2.1, Nat.lt_of_lt_of_le (h.b5 a).2.2 hb.size⟩
  · rw [wth_ne _ (by decide), wth_ne _ (by decide)]; exact fun a c => row_below (h.x0 a c) hb (h.b4 a).2.2
  · rw [wth_ne _ (by decide), wth_ne _ (by decide)]; exact fun a c => row_below (h.y0 a c) hb (h.b5 a).2.2
  · rw [wth_ne _ (by decide)]; exact fun a => (h.x1 a).below hb
  · rw [wth_ne _ (by decide), h7]; intro a; cases a
  · rw [wth_ne _ (by decide), wth_ne _ (by decide), wth_ne _ (by decide), wth_ne _ (by decide)]; exact h.ne
theorem CpR.mk4 (h : CpR s F1 G1 F2 G2 v1 v2 X Y W D xs w) (h6 : D 6 = false) (hu : u = .pointer (some ⟨w.heap.size, 0, none⟩)) (hb : Below w.heap.size w w') (hr : w'.heap[w.heap.size]? = some (.cells #[.int .u8 0, .int .u32 0, nilS, nilS] 26 (0, 0))) : CpR s F1 G1 F2 G2 v1 v2 w.heap.size Y W (Ord.wth D 4) (Ord.set xs 4 u) w' := by
  refine ⟨h.bel.trans (hb.mono h.bel.size), ?_, ?_, ?_, ?_, ?_, ?_, ?_, ?_, ?_⟩
  · rw [wth_ne _ (by decide), oset_ne _ _ (by decide)]; exact fun a => ⟨(h.a1 a).1, (h.a1 a).2.below hb⟩
  · rw [wth_ne _ (by decide), oset_ne _ _ (by decide)]; exact fun a => ⟨(h.a3 a).1, (h.a3 a).2.below hb⟩
  · rw [oset_self]; exact fun _ => ⟨hu, h.bel.size, lt_of_block hr⟩
  · rw [wth_ne _ (by decide), oset_ne _ _ (by decide)]; exact fun a => ⟨(h.b5 a).1, (h.b5 a).2.1, Nat.lt_of_lt_of_le (h.b5 a).2.2 hb.size⟩
  · exact fun _ _ => hr
  · rw [wth_ne _ (by decide), wth_ne _ (by decide)]; exact fun a c => row_below (h.y0 a c) hb (h.b5 a).2.2
  · rw [wth_ne _ (by decide), h6]; intro a; cases a
  · rw [wth_ne _ (by decide)]; exact fun a => (h.y1 a).below hb
  · rw [wth_ne _ (by decide : (5 : Nat) ≠ 4), wth_ne _ (by decide : (7 : Nat) ≠ 4)]
    rintro _ (a | a) e
    · have := (h.b5 a).2.2; omega
    · have := (h.y1 a).lt; omega
theorem CpR.mk5 (h : CpR s F1 G1 F2 G2 v1 v2 X Y W D xs w) (h7 : D 7 = false) (hu : u = .pointer (some ⟨w.heap.size, 0, none⟩)) (hb : Below w.heap.size w w') (hr : w'.heap[w.heap.size]? = some (.cells #[.int .u8 0, .int .u32 0, nilS, nilS] 26 (0, 0))) : CpR s F1 G1 F2 G2 v1 v2 X w.heap.size W (Ord.wth D 5) (Ord.set xs 5 u) w' := by
  refine ⟨h.bel.trans (hb.mono h.bel.size), ?_, ?_, ?_, ?_, ?_, ?_, ?_, ?_, ?_⟩
  · rw [wth_ne _ (by decide), oset_ne _ _ (by decide)]; exact fun a => ⟨(h.a1 a).1, (h.a1 a).2.below hb⟩
  · rw [wth_ne _ (by decide), oset_ne _ _ (by decide)]; exact fun a => ⟨(h.a3 a).1, (h.a3 a).2.below hb⟩
  · rw [wth_ne _ (by decide), oset_ne _ _ (by decide)]; exact fun a => ⟨(h.b4 a).1, (h.b4 a).2.1, Nat.lt_of_lt_of_le (h.b4 a).2.2 hb.size⟩
  · rw [oset_self]; exact fun _ => ⟨hu, h.bel.size, lt_of_block hr⟩
  · rw [wth_ne _ (by decide), wth_ne _ (by decide)]; exact fun a c => row_below (h.x0 a c) hb (h.b4 a).2.2
  · exact fun _ _ => hr
  · rw [wth_ne _ (by decide)]; exact fun a => (h.x1 a).below hb
  · rw [wth_ne _ (by decide), h7]; intro a; cases a
  · rw [wth_ne _ (by decide : (4 : Nat) ≠ 5), wth_ne _ (by decide : (6 : Nat) ≠ 5)]
    rintro (a | a) _ e
    · have := (h.b4 a).2.2; omega
    · have := (h.x1 a).lt; omega
theorem CpR.st6 (h : CpR s F1 G1 F2 G2 v1 v2 X Y W D xs w) (h4 : D 4 = true) (h6 : D 6 = false) : CpR s F1 G1 F2 G2 v1 v2 X Y W (Ord.wth D 6) (Ord.set xs 6 u) ((((w.setCell ⟨X, 0, none⟩ (.int .u8 (s.kind : Int))).setCell ⟨X, 1, none⟩ (.int .u32 (s.next : Int))).setCell ⟨X, 2, none⟩ F1).setCell ⟨X, 3, none⟩ G1) := by
  have hx := h.x0 h4 h6
  obtain ⟨e1, e2⟩ := set4all (x := .int .u8 (s.kind : Int)) (y := .int .u32 (s.next : Int)) (z := F1) (u := G1) hx
  refine ⟨below_grown h.bel e2 h.bel.size (h.b4 h4).2.1, ?_, ?_, ?_, ?_, ?_, ?_, fun _ => e1, ?_, ?_⟩
  · rw [wth_ne _ (by decide), oset_ne _ _ (by decide)]; exact fun a => ⟨(h.a1 a).1, (h.a1 a).2.blk hx e2⟩
  · rw [wth_ne _ (by decide), oset_ne _ _ (by decide)]; exact fun a => ⟨(h.a3 a).1, (h.a3 a).2.blk hx e2⟩
  · rw [wth_ne _ (by decide), oset_ne _ _ (by decide)]; exact fun a => ⟨(h.b4 a).1, (h.b4 a).2.1, Nat.lt_of_lt_of_le (h.b4 a).2.2 e2.size⟩
  · rw [wth_ne _ (by decide), oset_ne _ _ (by decide)]; exact fun a => ⟨(h.b5 a).1, (h.b5 a).2.1, Nat.lt_of_lt_of_le (h.b5 a).2.2 e2.size⟩
  · rw [wth_self]; intro _ a; cases a
  · rw [wth_ne _ (by decide), wth_ne _ (by decide)]; exact fun a c => by rw [e2.block Y (h.b5 a).2.2 (fun e => h.ne (Or.inl h4) (Or.inl a) (Option.some.inj e).symm)]; exact h.y0 a c
  · rw [wth_ne _ (by decide)]; exact fun a => (h.y1 a).grown e2 (Ne.symm (h.ne (Or.inl h4) (Or.inr a)))
  · rw [wth_ne _ (by decide : (4 : Nat) ≠ 6), wth_ne _ (by decide : (5 : Nat) ≠ 6), wth_ne _ (by decide : (7 : Nat) ≠ 6)]; exact fun _ a => h.ne (Or.inl h4) a
theorem CpR.st7 (h : CpR s F1 G1 F2 G2 v1 v2 X Y W D xs w) (h5 : D 5 = true) (h7 : D 7 = false) : CpR s F1 G1 F2 G2 v1 v2 X Y W (Ord.wth D 7) (Ord.set xs 7 u) ((((w.setCell ⟨Y, 0, none⟩ (.int .u8 (s.kind : Int))).setCell ⟨Y, 1, none⟩ (.int .u32 (s.next : Int))).setCell ⟨Y, 2, none⟩ F2).setCell ⟨Y, 3, none⟩ G2) := by
  have hx := h.y0 h5 h7
  obtain ⟨e1, e2⟩ := set4all (x := .int .u8 (s.kind : Int)) (y := .int .u32 (s.next : Int)) (z := F2) (u := G2) hx
  refine ⟨below_grown h.bel e2 h.bel.size (h.b5 h5).2.1, ?_, ?_, ?_, ?_, ?_, ?_, ?_, fun _ => e1, ?_⟩
  · rw [wth_ne _ (by decide), oset_ne _ _ (by decide)]; exact fun a => ⟨(h.a1 a).1, (h.a1 a).2.blk hx e2⟩
  · rw [wth_ne _ (by decide), oset_ne _ _ (by decide)]; exact fun a => ⟨(h.a3 a).1, (h.a3 a).2.blk hx e2⟩
  · rw [wth_ne _ (by decide), oset_ne _ _ (by decide)]; exact fun a => ⟨(h.b4 a).1, (h.b4 a).2.1, Nat.lt_of_lt_of_le (h.b4 a).2.2 e2.size⟩
  · rw [wth_ne _ (by decide), oset_ne _ _ (by decide)]; exact fun a => ⟨(h.b5 a).1, (h.b5 a).2.1, Nat.lt_of_lt_of_le (h.b5 a).2.2 e2.size⟩
  · rw [wth_ne _ (by decide), wth_ne _ (by decide)]; exact fun a c => by rw [e2.block X (h.b4 a).2.2 (fun e => h.ne (Or.inl a) (Or.inl h5) (Option.some.inj e))]; exact h.x0 a c
  · rw [wth_self]; intro _ a; cases a
  · rw [wth_ne _ (by decide)]; exact fun a => (h.x1 a).grown e2 (h.ne (Or.inr a) (Or.inl h5))
  · rw [wth_ne _ (by decide : (4 : Nat) ≠ 7), wth_ne _ (by decide : (5 : Nat) ≠ 7), wth_ne _ (by decide : (6 : Nat) ≠ 7)]; exact fun a _ => h.ne a (Or.inl h5)
end
end Go.Proofs.Ytbfpmpomcaijcaa
