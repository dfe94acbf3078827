/- A function of the document's slots that has a body, an answer's block, and another body in work: what stands. Conditions: none. -/
import Derived.Test.YtbfpmpomcaijcaaSlHas
namespace Go.Proofs.Ytbfpmpomcaijcaa
open Go.RowKit

abbrev zobj : Obj := .cells #[.int .u8 0, .int .u32 0, nilS, nilS] 26
/-- The body that came in (P), and the answer's block (R). -/
structure St (w W : World) (P R : Nat) (s : Sl.S) (fv dv : Value) : Prop where
  par : W.heap[P]? = some (.cells #[.int .u8 (s.kind : Int), .int .u32 (s.next : Int), fv, dv] 26 (0, 0))
  ans : W.heap[R]? = some (.cells #[.int .u8 0, .int .u32 0, nilS, nilS] 26 (0, 0))
  at_ : SlAt W fv dv s
  bel : Below w.heap.size w W
  p : w.heap.size ≤ P
  r : w.heap.size ≤ R
section
variable {w W W' : World} {P R : Nat} {s : Sl.S} {fv dv x y z u : Value}
theorem st_of (h : SlAt w fv dv s) : St w ((w.alloc (sobj s.kind s.next fv dv)).alloc zobj) w.heap.size (w.heap.size + 1) s fv dv := by
  have hb0 := below_new w (sobj s.kind s.next fv dv)
  have hb1 := below_new (w.alloc (sobj s.kind s.next fv dv)) zobj
  have hs : (w.alloc (sobj s.kind s.next fv dv)).heap.size = w.heap.size + 1 := by simp
  have hr := sblk w s.kind s.next fv dv
  refine ⟨by rw [hb1.block _ (lt_of_block hr)]; exact hr, ?_, (h.below hb0).below hb1, hb0.trans (hb1.mono hb0.size), Nat.le_refl _, by omega⟩
  have := heap_alloc_last (w.alloc (sobj s.kind s.next fv dv)) zobj
  rw [hs] at this
  exact this
theorem St.later (h : St w W P R s fv dv) (hb : Below W.heap.size W W') : St w W' P R s fv dv :=
  ⟨by rw [hb.block _ (lt_of_block h.par)]; exact h.par, by rw [hb.block _ (lt_of_block h.ans)]; exact h.ans, h.at_.below hb, h.bel.trans (hb.mono h.bel.size), h.p, h.r⟩
theorem St.done (h : St w W P R s fv dv) (x y z u : Value) :
    ((((W.setCell ⟨R, 0, none⟩ x).setCell ⟨R, 1, none⟩ y).setCell ⟨R, 2, none⟩ z).setCell ⟨R, 3, none⟩ u).heap[R]? = some (.cells #[x, y, z, u] 26 (0, 0)) ∧
      W.grownBy ((((W.setCell ⟨R, 0, none⟩ x).setCell ⟨R, 1, none⟩ y).setCell ⟨R, 2, none⟩ z).setCell ⟨R, 3, none⟩ u) (some R) ∧
      Below w.heap.size w ((((W.setCell ⟨R, 0, none⟩ x).setCell ⟨R, 1, none⟩ y).setCell ⟨R, 2, none⟩ z).setCell ⟨R, 3, none⟩ u) := by
  obtain ⟨h1, h2⟩ := set4all (x := x) (y := y) (z := z) (u := u) h.ans
  exact ⟨h1, h2, below_grown h.bel h2 h.bel.size h.r⟩
end

/-- A slice of texts, one of them written over. -/
theorem DOwn.set {base g c : Nat} {w : World} {vs : List Value} {ls : List (List Nat)} {u : Value} {b : List Nat} {n : Nat} (h : DOwn base w (.slice (some ⟨g, 0, none⟩) n c) vs ls) (i : Nat) (hu : Own base w u b) :
    DOwn base (w.setCell ⟨g, i, none⟩ u) (.slice (some ⟨g, 0, none⟩) n c) (vs.set i u) (ls.set i b) := by
  have hw := h.own.own
  have hn : n = vs.length := by
    rcases hw.2 with ⟨e, _⟩ | ⟨g', c', cur, e, _⟩
    · cases e
    · simp only [Value.slice.injEq] at e; exact e.2.1
  subst hn
  obtain ⟨h1, h2⟩ := World.ownsRow.stored hw i u
  have hone : Sv.Okk u := by
    obtain ⟨p, c, e⟩ := own_slv hu
    rw [e]; rfl
  refine ⟨⟨?_, ?_, by rw [List.length_set]; exact h.own.len⟩, by rw [List.length_set, List.length_set, h.len], fun j hj => ?_⟩
  · rw [List.length_set]; exact h1
  · intro x hx
    rcases List.mem_or_eq_of_mem_set hx with hx | rfl
    · exact h.own.small x hx
    · exact hone
  · rw [List.length_set] at hj
    by_cases e : i = j
    · subst e
      rw [Sl.getD_set_self _ _ (by rw [h.len]; exact hj), Sl.getD_set_self _ _ hj]
      exact hu.grown h2 (apart_rows (v := .slice (some ⟨g, 0, none⟩) vs.length c) hu.own hw (by decide))
    · rw [Sl.getD_set_ne _ _ _ e, Sl.getD_set_ne _ _ _ e]
      exact (h.each j hj).grown h2 (apart_rows (v := .slice (some ⟨g, 0, none⟩) vs.length c) (h.each j hj).own hw (by decide))
theorem Bo.Own.set {base g c n : Nat} {w : World} {l : List Bool} (h : Bo.Own base w (.slice (some ⟨g, 0, none⟩) n c) (FB l)) (i : Nat) (x : Bool) :
    Bo.Own base (w.setCell ⟨g, i, none⟩ (.bool x)) (.slice (some ⟨g, 0, none⟩) n c) (FB (l.set i x)) ∧ w.grownBy (w.setCell ⟨g, i, none⟩ (.bool x)) (some g) := by
  have hw := h.own
  have hn : n = (FB l).length := by
    rcases hw.2 with ⟨e, _⟩ | ⟨g', c', cur, e, _⟩
    · cases e
    · simp only [Value.slice.injEq] at e; exact e.2.1
  subst hn
  obtain ⟨h1, h2⟩ := World.ownsRow.stored hw i (.bool x)
  have e : (FB l).set i (.bool x) = FB (l.set i x) := by unfold FB; rw [List.map_set]
  rw [show Bo.bytesV (FB l) = FB l from rfl, e] at h1
  refine ⟨⟨?_, ?_, ?_⟩, h2⟩
  · have hl : (FB (l.set i x)).length = (FB l).length := by simp [FB]
    rw [hl]; exact h1
  · intro y hy
    unfold FB at hy
    obtain ⟨z, -, rfl⟩ := List.mem_map.1 hy
    rfl
  · have hl : (FB (l.set i x)).length = (FB l).length := by simp [FB]
    rw [hl]; exact h.len

theorem down_some {base : Nat} {w : World} {p : Option Addr} {n c : Nat} {vs : List Value} {ls : List (List Nat)} (h : DOwn base w (.slice p n c) vs ls) (h0 : 0 < ls.length) : ∃ g, p = some ⟨g, 0, none⟩ ∧ base ≤ g ∧ n = ls.length := by
  rcases h.own.own.2 with ⟨_, e⟩ | ⟨g, c', cur, e, hg, _⟩
  · have := h.len; omega
  · simp only [Value.slice.injEq] at e
    exact ⟨g, e.1, hg, by rw [e.2.1]; exact h.len⟩
theorem DOwn.cellAt {base g n c : Nat} {w : World} {vs : List Value} {ls : List (List Nat)} (h : DOwn base w (.slice (some ⟨g, 0, none⟩) n c) vs ls) {i : Nat} (hi : i < ls.length) : w.cell? ⟨g, i, none⟩ = some (vs.getD i nilS) ∧ w.frozen? ⟨g, i, none⟩ = false := by
  have hw := h.own.own
  have hn : n = vs.length := by
    rcases hw.2 with ⟨e, _⟩ | ⟨g', c', cur, e, _⟩
    · cases e
    · simp only [Value.slice.injEq] at e; exact e.2.1
  subst hn
  obtain ⟨-, -, -, -, hc⟩ := Sv.owns_cells hw
  exact ⟨hc i (by rw [h.len]; exact hi), World.ownsRow.frozenAt hw i⟩
theorem bown_some {base : Nat} {w : World} {p : Option Addr} {n c : Nat} {l : List Bool} (h : Bo.Own base w (.slice p n c) (FB l)) (h0 : 0 < l.length) : ∃ g, p = some ⟨g, 0, none⟩ ∧ base ≤ g ∧ n = l.length := by
  rcases h.own.2 with ⟨_, e⟩ | ⟨g, c', cur, e, hg, _⟩
  · rw [fb_length] at e; omega
  · simp only [Value.slice.injEq] at e
    exact ⟨g, e.1, hg, by rw [e.2.1, fb_length]⟩
theorem bown_cell {base g n c : Nat} {w : World} {l : List Bool} (h : Bo.Own base w (.slice (some ⟨g, 0, none⟩) n c) (FB l)) {i : Nat} (hi : i < l.length) : w.cell? ⟨g, i, none⟩ = some (.bool (l.getD i false)) ∧ w.frozen? ⟨g, i, none⟩ = false := by
  have hw := h.own
  have hn : n = (FB l).length := by
    rcases hw.2 with ⟨e, _⟩ | ⟨g', c', cur, e, _⟩
    · cases e
    · simp only [Value.slice.injEq] at e; exact e.2.1
  subst hn
  obtain ⟨-, -, -, -, hc⟩ := Bo.owns_cells hw
  exact ⟨by rw [hc i (by rw [fb_length]; exact hi), fb_getD], World.ownsRow.frozenAt hw i⟩
theorem fat_take {w : World} {p : Option Addr} {n c m : Nat} {l : List Bool} (h : Bo.Bts w (.slice p n c) (FB l)) (hn : n = l.length) (hm : m ≤ n) : Bo.Bts w (.slice p m c) (FB (l.take m)) := by
  have hl : n = (FB l).length := by rw [fb_length]; exact hn
  subst hl
  have h2 := h.take m (by rw [fb_length]; rw [fb_length] at hm; exact hm)
  have e : (FB l).take m = FB (l.take m) := by unfold FB; rw [List.map_take]
  rwa [e] at h2
theorem DAt.take {w : World} {p : Option Addr} {n c m : Nat} {ls : List (List Nat)} (h : DAt w (.slice p n c) ls) (hn : n = ls.length) (hm : m ≤ n) : DAt w (.slice p m c) (ls.take m) := by
  obtain ⟨vs, h1, h2, h3⟩ := h.form
  have e : n = vs.length := by rw [h2]; exact hn
  subst e
  refine ⟨vs.take m, h1.take m hm, by rw [List.length_take, List.length_take, h2], fun i hi => ?_⟩
  rw [List.length_take] at hi
  have e1 : (vs.take m).getD i nilS = vs.getD i nilS := by simp only [List.getD_eq_getElem?_getD]; rw [List.getElem?_take, if_pos (by omega)]
  have e2 : (ls.take m).getD i [] = ls.getD i [] := by simp only [List.getD_eq_getElem?_getD]; rw [List.getElem?_take, if_pos (by omega)]
  rw [e1, e2]
  exact h3 i (by omega)
theorem SlOwn.blk {base X : Nat} {w w' : World} {fv dv : Value} {vs : List Value} {s : Sl.S} {arr : Array Value} {fr : Nat × Nat} (h : SlOwn base w fv dv vs s) (hx : w.heap[X]? = some (.cells arr 26 fr)) (hg : w.grownBy w' (some X)) : SlOwn base w' fv dv vs s :=
  ⟨h.full.grown hg (row_ne_blk h.full.own hx (by decide)), h.data.blk hx hg, h.kind, h.next⟩

/-- A text is copied and put in another's place: what stands while operations float. -/
structure P6R (b0 O at_ : Nat) (kv nv fv : Value) (g n c : Nat) (l : List Bool) (vs : List Value) (ls : List (List Nat)) (b : List Nat) (W : World) (D : Nat → Bool) (xs : Nat → Value) (w : World) : Prop where
  bel : Below b0 W w
  big : b0 ≤ W.heap.size
  full : Bo.Own b0 w fv (FB l)
  blk : w.heap[O]? = some (.cells #[kv, nv, fv, .slice (some ⟨g, 0, none⟩) n c] 26 (0, 0))
  lt : ∀ i, i < ls.length → ∀ g', (vs.getD i nilS).ownBlock = some g' → g' < W.heap.size
  old : D 7 = false → DOwn b0 w (.slice (some ⟨g, 0, none⟩) n c) vs ls
  a3 : D 3 = true → D 5 = false → Own W.heap.size w (xs 3) []
  a5 : D 5 = true → D 7 = false → Own W.heap.size w (xs 5) b
  a7 : D 7 = true → DOwn b0 w (.slice (some ⟨g, 0, none⟩) n c) (vs.set at_ (xs 5)) (ls.set at_ b)
section
variable {b0 O at_ : Nat} {kv nv fv : Value} {g n c : Nat} {l : List Bool} {vs : List Value} {ls : List (List Nat)} {b : List Nat} {W w w' : World} {D : Nat → Bool} {xs : Nat → Value} {u : Value}
theorem P6R.first (xs : Nat → Value) (h1 : b0 ≤ W.heap.size) (h2 : Bo.Own b0 W fv (FB l)) (h3 : W.heap[O]? = some (.cells #[kv, nv, fv, .slice (some ⟨g, 0, none⟩) n c] 26 (0, 0))) (h4 : DOwn b0 W (.slice (some ⟨g, 0, none⟩) n c) vs ls) : P6R b0 O at_ kv nv fv g n c l vs ls b W (fun _ => false) xs W.drew := by
  have hb : Below W.heap.size W W.drew := (Below.refl _ _).go1
  exact ⟨(Below.refl _ _).go1, h1, h2.below hb, h3, fun i hi g' hg => ((h4.each i hi).own.lt g' hg).2, fun _ => h4.below hb, fun h => (by cases h), fun h => (by cases h), fun h => (by cases h)⟩
theorem P6R.skip (h : P6R b0 O at_ kv nv fv g n c l vs ls b W D xs w) (j : Nat) (hj : (j != 3 && j != 5 && j != 7) = true) : P6R b0 O at_ kv nv fv g n c l vs ls b W (Ord.wth D j) (Ord.set xs j u) w := by
  simp only [Bool.and_eq_true, bne_iff_ne] at hj
  obtain ⟨⟨n3, n5⟩, n7⟩ := hj
  refine ⟨h.bel, h.big, h.full, h.blk, h.lt, ?_, ?_, ?_, ?_⟩
  · rw [wth_ne _ (Ne.symm n7)]; exact h.old
  · rw [wth_ne _ (Ne.symm n3), wth_ne _ (Ne.symm n5), oset_ne _ _ (Ne.symm n3)]; exact h.a3
  · rw [wth_ne _ (Ne.symm n5), wth_ne _ (Ne.symm n7), oset_ne _ _ (Ne.symm n5)]; exact h.a5
  · rw [wth_ne _ (Ne.symm n7), oset_ne _ _ (Ne.symm n5)]; exact h.a7
theorem P6R.op3 (h : P6R b0 O at_ kv nv fv g n c l vs ls b W D xs w) (hu : u = .slice (some ⟨w.heap.size, 0, none⟩) 0 0) : P6R b0 O at_ kv nv fv g n c l vs ls b W (Ord.wth D 3) (Ord.set xs 3 u) (w.alloc (.cells #[] 5)) := by
  have hb := below_new w (.cells #[] 5)
  have hs := Nat.le_trans h.big h.bel.size
  refine ⟨h.bel.trans (hb.mono hs), h.big, h.full.below hb, by rw [hb.block _ (lt_of_block h.blk)]; exact h.blk, h.lt, ?_, ?_, ?_, ?_⟩
  · rw [wth_ne _ (by decide)]; exact fun a => (h.old a).below hb
  · rw [oset_self, hu]; exact fun _ _ => own_empty w W.heap.size 0 #[] h.bel.size (by decide) rfl
  · rw [wth_ne _ (by decide), wth_ne _ (by decide), oset_ne _ _ (by decide)]; exact fun a d => (h.a5 a d).below hb
  · rw [wth_ne _ (by decide), oset_ne _ _ (by decide)]; exact fun a => (h.a7 a).below hb
theorem P6R.op5 (h : P6R b0 O at_ kv nv fv g n c l vs ls b W D xs w) (h3 : D 3 = true) (h5 : D 5 = false) (h7 : D 7 = false) (hO : Own W.heap.size w' u b) (hg : w.grownBy w' (xs 3).ownBlock) (hb : Below W.heap.size w w') : P6R b0 O at_ kv nv fv g n c l vs ls b W (Ord.wth D 5) (Ord.set xs 5 u) w' := by
  have ho3 := h.a3 h3 h5
  have hx := h.blk
  refine ⟨h.bel.trans (hb.mono h.big), h.big, h.full.grown hg (apart_rows h.full.own ho3.own (by decide)), ?_, h.lt, ?_, ?_, ?_, ?_⟩
  · rw [hg.block _ (lt_of_block hx) (fun e2 => ?_)]
    · exact hx
    · rcases row_ne_blk ho3.own hx (by decide) with e3 | e3
      · rw [e3] at e2; cases e2
      · exact e3 e2.symm
  · intro _
    have hd := h.old h7
    refine hd.grown hg (apart_rows hd.own.own ho3.own (by decide)) fun i hi => ?_
    cases e : (vs.getD i nilS).ownBlock with
    | none => exact Or.inl rfl
    | some g' =>
      refine Or.inr fun e2 => ?_
      have h1 := h.lt i hi g' e
      have h3' := (ho3.own.lt g' e2.symm).1
      omega
  · rw [wth_self]; intro _ a; cases a
  · rw [oset_self]; exact fun _ _ => hO
  · rw [wth_ne _ (by decide), h7]; intro a; cases a
theorem P6R.op7 (h : P6R b0 O at_ kv nv fv g n c l vs ls b W D xs w) (h5 : D 5 = true) (h7 : D 7 = false) (hg0 : b0 ≤ g) : P6R b0 O at_ kv nv fv g n c l vs ls b W (Ord.wth D 7) (Ord.set xs 7 u) (w.setCell ⟨g, at_, none⟩ (xs 5)) := by
  have hd := h.old h7
  have ho := (h.a5 h5 h7).from h.big
  have hg := grownBy_setCell w g at_ (xs 5)
  refine ⟨below_grown h.bel hg (Nat.le_trans h.big h.bel.size) hg0, h.big, h.full.grown hg (apart_rows (v := .slice (some ⟨g, 0, none⟩) n c) h.full.own hd.own.own (by decide)), ?_, h.lt, ?_, ?_, ?_, ?_⟩
  · rw [hg.block _ (lt_of_block h.blk) (fun e2 => ?_)]
    · exact h.blk
    · rcases row_ne_blk hd.own.own h.blk (by decide) with e3 | e3
      · cases e3
      · exact e3 e2.symm
  · rw [wth_self]; intro a; cases a
  · rw [wth_ne _ (by decide), wth_ne _ (by decide), h5]; intro _ a; cases a
  · rw [wth_self]; intro _ a; cases a
  · rw [oset_ne _ _ (by decide)]; exact fun _ => hd.set at_ ho
end
end Go.Proofs.Ytbfpmpomcaijcaa
