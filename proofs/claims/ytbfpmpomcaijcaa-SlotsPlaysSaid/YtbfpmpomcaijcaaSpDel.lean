/- What the program's Delete of slots answers. Conditions: the values read as a body; few slots and bytes. -/
import Derived.Test.YtbfpmpomcaijcaaSpPutR
namespace Go.Proofs.Ytbfpmpomcaijcaa
open Go.RowKit

/-- A slot is made to have nothing: what stands while operations float. -/
structure DsR (b0 at_ : Nat) (gf nf cf g n c : Nat) (l : List Bool) (vs : List Value) (ls : List (List Nat)) (W : World) (D : Nat → Bool) (xs : Nat → Value) (w : World) : Prop where
  bel : Below b0 W w
  big : b0 ≤ W.heap.size
  hgf : b0 ≤ gf
  hgd : b0 ≤ g
  f0 : D 7 = false → Bo.Own b0 w (.slice (some ⟨gf, 0, none⟩) nf cf) (FB l)
  f1 : D 7 = true → Bo.Own b0 w (.slice (some ⟨gf, 0, none⟩) nf cf) (FB (l.set at_ false))
  old : D 9 = false → DOwn b0 w (.slice (some ⟨g, 0, none⟩) n c) vs ls
  new : D 9 = true → DOwn b0 w (.slice (some ⟨g, 0, none⟩) n c) (vs.set at_ nilS) (ls.set at_ [])
section
variable {b0 at_ gf nf cf g n c : Nat} {l : List Bool} {vs : List Value} {ls : List (List Nat)} {W w w' : World} {D : Nat → Bool} {xs : Nat → Value} {u : Value}
theorem DsR.first (xs : Nat → Value) (h1 : b0 ≤ W.heap.size) (hgf : b0 ≤ gf) (hgd : b0 ≤ g) (h2 : Bo.Own b0 W (.slice (some ⟨gf, 0, none⟩) nf cf) (FB l)) (h4 : DOwn b0 W (.slice (some ⟨g, 0, none⟩) n c) vs ls) : DsR b0 at_ gf nf cf g n c l vs ls W (fun _ => false) xs W.drew := by
  have hb : Below W.heap.size W W.drew := (Below.refl _ _).go1
  exact ⟨(Below.refl _ _).go1, h1, hgf, hgd, fun _ => h2.below hb, fun h => (by cases h), fun _ => h4.below hb, fun h => (by cases h)⟩
theorem DsR.skip (h : DsR b0 at_ gf nf cf g n c l vs ls W D xs w) (j : Nat) (hj : (j != 7 && j != 9) = true) : DsR b0 at_ gf nf cf g n c l vs ls W (Ord.wth D j) (Ord.set xs j u) w := by
  simp only [Bool.and_eq_true, bne_iff_ne] at hj
  obtain ⟨n2, n3⟩ := hj
  refine ⟨h.bel, h.big, h.hgf, h.hgd, ?_, ?_, ?_, ?_⟩
  · rw [wth_ne _ (Ne.symm n2)]; exact h.f0
  · rw [wth_ne _ (Ne.symm n2)]; exact h.f1
  · rw [wth_ne _ (Ne.symm n3)]; exact h.old
  · rw [wth_ne _ (Ne.symm n3)]; exact h.new
theorem DsR.flag (h : DsR b0 at_ gf nf cf g n c l vs ls W D xs w) (hD : D 7 = false) : DsR b0 at_ gf nf cf g n c l vs ls W (Ord.wth D 7) (Ord.set xs 7 u) (w.setCell ⟨gf, at_, none⟩ (.bool false)) := by
  have hf := h.f0 hD
  obtain ⟨hs, hg⟩ := hf.set at_ false
  refine ⟨below_grown h.bel hg (Nat.le_trans h.big h.bel.size) h.hgf, h.big, h.hgf, h.hgd, ?_, ?_, ?_, ?_⟩
  · rw [wth_self]; intro a; cases a
  · exact fun _ => hs
  · rw [wth_ne _ (by decide)]
    exact fun a => (h.old a).grown hg (apart_rows (v := .slice (some ⟨gf, 0, none⟩) nf cf) (h.old a).own.own hf.own (by decide)) (fun i hi => apart_rows (v := .slice (some ⟨gf, 0, none⟩) nf cf) ((h.old a).each i hi).own hf.own (by decide))
  · rw [wth_ne _ (by decide)]
    exact fun a => (h.new a).grown hg (apart_rows (v := .slice (some ⟨gf, 0, none⟩) nf cf) (h.new a).own.own hf.own (by decide)) (fun i hi => apart_rows (v := .slice (some ⟨gf, 0, none⟩) nf cf) ((h.new a).each i hi).own hf.own (by decide))
theorem DsR.text (h : DsR b0 at_ gf nf cf g n c l vs ls W D xs w) (hD : D 9 = false) : DsR b0 at_ gf nf cf g n c l vs ls W (Ord.wth D 9) (Ord.set xs 9 u) (w.setCell ⟨g, at_, none⟩ nilS) := by
  have hd := h.old hD
  have hg := grownBy_setCell w g at_ nilS
  refine ⟨below_grown h.bel hg (Nat.le_trans h.big h.bel.size) h.hgd, h.big, h.hgf, h.hgd, ?_, ?_, ?_, ?_⟩
  · rw [wth_ne _ (by decide)]; exact fun a => (h.f0 a).grown hg (apart_rows (v := .slice (some ⟨g, 0, none⟩) n c) (h.f0 a).own hd.own.own (by decide))
  · rw [wth_ne _ (by decide)]; exact fun a => (h.f1 a).grown hg (apart_rows (v := .slice (some ⟨g, 0, none⟩) n c) (h.f1 a).own hd.own.own (by decide))
  · rw [wth_self]; intro a; cases a
  · exact fun _ => hd.set at_ (own_nil _ _)
end

/-- Two slices in P are cut. -/
structure CtR (P : Nat) (kv nv f0 d0 f1 d1 : Value) (W : World) (D : Nat → Bool) (xs : Nat → Value) (w : World) : Prop where
  gr : W.grownBy w (some P)
  blk : w.heap[P]? = some (.cells #[kv, nv, (if D 9 then f1 else f0), (if D 11 then d1 else d0)] 26 (0, 0))
section
variable {P : Nat} {kv nv f0 d0 f1 d1 : Value} {W w w' : World} {D : Nat → Bool} {xs : Nat → Value} {u : Value}
theorem CtR.first (xs : Nat → Value) (h : W.heap[P]? = some (.cells #[kv, nv, f0, d0] 26 (0, 0))) : CtR P kv nv f0 d0 f1 d1 W (fun _ => false) xs W.drew :=
  ⟨grownBy_drew _ _, by rw [if_neg (by decide), if_neg (by decide)]; exact h⟩
theorem CtR.skip (h : CtR P kv nv f0 d0 f1 d1 W D xs w) (j : Nat) (hj : (j != 9 && j != 11) = true) : CtR P kv nv f0 d0 f1 d1 W (Ord.wth D j) (Ord.set xs j u) w := by
  simp only [Bool.and_eq_true, bne_iff_ne] at hj
  obtain ⟨n2, n3⟩ := hj
  refine ⟨h.gr, ?_⟩
  rw [wth_ne _ (Ne.symm n2), wth_ne _ (Ne.symm n3)]; exact h.blk
theorem CtR.full (h : CtR P kv nv f0 d0 f1 d1 W D xs w) : CtR P kv nv f0 d0 f1 d1 W (Ord.wth D 9) (Ord.set xs 9 u) (w.setCell ⟨P, 2, none⟩ f1) := by
  refine ⟨grownBy_trans h.gr (grownBy_setCell _ _ _ _), ?_⟩
  rw [wth_self, wth_ne _ (by decide), if_pos rfl]
  exact (set4 h.blk).1
theorem CtR.data (h : CtR P kv nv f0 d0 f1 d1 W D xs w) : CtR P kv nv f0 d0 f1 d1 W (Ord.wth D 11) (Ord.set xs 11 u) (w.setCell ⟨P, 3, none⟩ d1) := by
  refine ⟨grownBy_trans h.gr (grownBy_setCell _ _ _ _), ?_⟩
  rw [wth_self, wth_ne _ (by decide), if_pos rfl]
  exact (set4 h.blk).2
end

/-- What the operations left. -/
def DsF (P : Nat) (a : Int) (k gf nf cf g n c : Nat) (i : Nat) (v : Value) (_ : World) : Prop :=
  match i with
  | 0 => v = .pointer (some ⟨P, 2, none⟩)
  | 1 => v = .slice (some ⟨gf, 0, none⟩) nf cf
  | 2 => v = .int .i64 a
  | 3 => v = .pointer (some ⟨P, 3, none⟩)
  | 4 => v = .slice (some ⟨g, 0, none⟩) n c
  | 5 => v = .int .i64 a
  | 6 => v = .pointer (some ⟨gf, k, none⟩)
  | 8 => v = .pointer (some ⟨g, k, none⟩)
  | _ => True
def CuF (P gf nf cf g n c m : Nat) (i : Nat) (v : Value) (_ : World) : Prop :=
  match i with
  | 0 => v = .pointer (some ⟨P, 2, none⟩)
  | 1 => v = .slice (some ⟨gf, 0, none⟩) nf cf
  | 2 => v = .int .i64 (m : Int)
  | 3 => v = .slice (some ⟨gf, 0, none⟩) m cf
  | 4 => v = .pointer (some ⟨P, 3, none⟩)
  | 5 => v = .slice (some ⟨g, 0, none⟩) n c
  | 6 => v = .int .i64 (m : Int)
  | 7 => v = .slice (some ⟨g, 0, none⟩) m c
  | 8 => v = .pointer (some ⟨P, 2, none⟩)
  | 10 => v = .pointer (some ⟨P, 3, none⟩)
  | _ => True

set_option maxHeartbeats 3200000 in
set_option maxRecDepth 20000 in
theorem pDelete_far (fv dv : Value) (s : Sl.S) (a : Int) (w : World) (h : SlAt w fv dv s) (hs : Sl.Small s) :
    Calls Try.prog 23 #[SlV s.kind s.next fv dv, .int .i64 a] w fun e w' => ∃ fv' dv', e = .returned (.tuple #[SlV (Sl.delR s a).1.kind (Sl.delR s a).1.next fv' dv', .int .i64 ((Sl.delR s a).2 : Int)]) ∧ SlFar w.heap.size w' fv' dv' (Sl.delR s a).1 ∧ Below w.heap.size w w' := by
  obtain ⟨V, hV⟩ : ∃ V, V = (w.alloc (sobj s.kind s.next fv dv)).alloc zobj := ⟨_, rfl⟩
  have hst := st_of h
  rw [← hV] at hst
  obtain ⟨p1, c1, p2, c2, rfl, rfl⟩ := slv_slices h
  unfold sobj zobj nilS at hV
  have HST := Lib.hid hst
  obtain ⟨P, hP⟩ : ∃ P, P = w.heap.size := ⟨_, rfl⟩
  obtain ⟨R, hR⟩ : ∃ R, R = P + 1 := ⟨_, rfl⟩
  have HNE : Hid (P ≠ R) := show P ≠ R by omega
  rw [← hP, ← hR] at HST
  obtain ⟨q0, q1, q2, q3⟩ := four_cell HST.out.par
  have HSM := Lib.hid hs
  have HSD := Lib.hid (fun W' (hb : Below V.heap.size V W') => stands_any _ _ s a W' (HST.out.later hb).at_ hs)
  obtain ⟨rr, hrr⟩ : ∃ rr, rr = Sl.delR s a := ⟨_, rfl⟩
  rw [← hrr]
  have HRR := Lib.hid hrr
  clear h hs hst hrr
  go_enter Try.func23, Try.ntmps23
  go_upto_region 1 with (fail)
  rw [← hV, ← hP, ← hR]
  clear hV hP hR
  by_cases hok : Sl.May s ∧ Sl.has s a
  · obtain ⟨hmy, hh⟩ := hok
    have HMY := Lib.hid hmy
    have HH := Lib.hid hh
    obtain ⟨hlt, h0, hi, hif⟩ := Sl.has_in hmy hh
    have hsd := HSD.out V (Below.refl _ _)
    rw [Sl.stand_ok hmy hh] at hsd
    have HV : Hid (rr = (Sl.del s a.toNat, 0)) := by
      show rr = _
      rw [HRR.out]
      unfold Sl.delR
      rw [Sl.ifP_pos hmy, Sl.ifP_pos hh]
    clear hmy hh HSD
    go_wp2_with fail
    refine hsd.mono ?_
    rintro e W3 ⟨rfl, hb2⟩
    have HST3 := Lib.hid (HST.out.later hb2)
    have HLT := Lib.hid hlt
    have HI := Lib.hid hi
    have HIF := Lib.hid hif
    clear hsd hb2 q0 q1 q2 q3 hlt hi hif
    obtain ⟨q0, q1, q2, q3⟩ := four_cell HST3.out.par
    have HTW := Lib.hid (twin_any _ _ s W3 HST3.out.at_ HSM.out)
    go_wp2_with fail
    refine (HTW.out).mono ?_
    rintro e w4 ⟨fv4, dv4, vs4, rfl, hso, hb4⟩
    have HSO := Lib.hid hso
    have HST4 := Lib.hid (HST3.out.later hb4)
    obtain ⟨pf, cf, rfl⟩ := bo_slice hso.full
    obtain ⟨pd, nd, cd, rfl⟩ := sv_slice hso.data.own
    obtain ⟨gd, rfl, hgd, rfl⟩ := down_some HSO.out.data (by have := HLT.out; omega)
    obtain ⟨gf, rfl, hgf, hnf⟩ := bown_some HSO.out.full (by have := HIF.out; omega)
    clear hso HTW q0 q1 q2 q3 hnf
    obtain ⟨q0, q1, q2, q3⟩ := four_cell HST4.out.par
    obtain ⟨f0, f1, f2, f3⟩ : _ ∧ _ ∧ _ ∧ _ := ⟨four_free HST4.out.par 0, four_free HST4.out.par 1, four_free HST4.out.par 2, four_free HST4.out.par 3⟩
    obtain ⟨hst5, hso5, hg5⟩ := HST4.out.own HNE.out HSO.out
    have hg2 : W3.heap.size ≤ w4.heap.size := hb4.size
    obtain ⟨W5, hW5⟩ : ∃ W5, W5 = ((((w4.setCell ⟨P, 0, none⟩ (.int .u8 (s.kind : Int))).setCell ⟨P, 1, none⟩ (.int .u32 (s.next : Int))).setCell ⟨P, 2, none⟩ (.slice (some ⟨gf, 0, none⟩) (FB s.full).length cf)).setCell ⟨P, 3, none⟩ (.slice (some ⟨gd, 0, none⟩) s.data.length cd)) := ⟨_, rfl⟩
    rw [← hW5] at hst5 hso5 hg5
    have HST5 := Lib.hid hst5
    have HSO5 := Lib.hid hso5
    have HGF : Hid (W3.heap.size ≤ gf) := hgf
    have HGD : Hid (W3.heap.size ≤ gd) := hgd
    have HBIG : Hid (W3.heap.size ≤ W5.heap.size) := Nat.le_trans hg2 hg5.size
    have HPR : Hid (P < W3.heap.size ∧ R < W3.heap.size) := ⟨lt_of_block HST3.out.par, lt_of_block HST3.out.ans⟩
    have HW5 : Hid (∀ w', Below W3.heap.size W5 w' → Below w.heap.size w w') := fun w' hb => HST5.out.bel.trans (hb.mono HST3.out.bel.size)
    have HX5 : Hid (∀ w', Below W3.heap.size W5 w' → w'.heap[P]? = some (.cells #[.int .u8 (s.kind : Int), .int .u32 (s.next : Int), .slice (some ⟨gf, 0, none⟩) (FB s.full).length cf, .slice (some ⟨gd, 0, none⟩) s.data.length cd] 26 (0, 0))) := fun w' hb => by rw [hb.block _ HPR.out.1]; exact HST5.out.par
    have HSTL : Hid (∀ w', Below W3.heap.size W5 w' → w'.heap[P]? = W5.heap[P]? ∧ w'.heap[R]? = W5.heap[R]?) := fun w' hb => ⟨hb.block _ HPR.out.1, hb.block _ HPR.out.2⟩
    clear hb4 hg2 hgf hgd hst5 hso5 hg5
    go_upto_region 5 with (fail)
    rw [← hW5]
    clear hW5 q0 q1 q2 q3 f0 f1 f2 f3
    refine Ord.walk (DsF P a a.toNat gf (FB s.full).length cf gd s.data.length cd) (DsR W3.heap.size a.toNat gf (FB s.full).length cf gd s.data.length cd s.full vs4 s.data W5) (fun _ _ => True)
      (by kernel_rfl) (by kernel_rfl) ?fr ?hfr (fun _ _ _ _ _ h => h) (fun xs => DsR.first xs HBIG.out HGF.out HGD.out HSO5.out.full HSO5.out.data) ?he ?hend
    case hfr =>
      intro xs
      simp only [Ord.fill, Act.put, List.setIfInBounds_toArray, List.set_cons_zero, List.set_cons_succ]
      rfl
    case he =>
      refine Ord.each_cons (fun D xs w2 hD hC hP hR hA K hK => ?_) ?_
      · -- 0
        clear hA
        go_simp
        exact hK _ _ ⟨_, rfl, trivial, hR.skip _ (by decide), rfl⟩
      refine Ord.each_cons (fun D xs w2 hD hC hP hR hA K hK => ?_) ?_
      · -- 1
        have q0 := Ord.ahead_get _ hA 0 (by decide)
        simp only [DsF] at q0
        simp only [q0] at hK
        clear hA
        obtain ⟨x0, x1, x2, x3⟩ := four_cell (HX5.out w2 hR.bel)
        go_simp
        exact hK _ _ ⟨_, rfl, trivial, hR.skip _ (by decide), rfl⟩
      refine Ord.each_cons (fun D xs w2 hD hC hP hR hA K hK => ?_) ?_
      · -- 2
        clear hA
        go_simp
        exact hK _ _ ⟨_, rfl, trivial, hR.skip _ (by decide), rfl⟩
      refine Ord.each_cons (fun D xs w2 hD hC hP hR hA K hK => ?_) ?_
      · -- 3
        clear hA
        go_simp
        exact hK _ _ ⟨_, rfl, trivial, hR.skip _ (by decide), rfl⟩
      refine Ord.each_cons (fun D xs w2 hD hC hP hR hA K hK => ?_) ?_
      · -- 4
        have q3 := Ord.ahead_get _ hA 3 (by decide)
        simp only [DsF] at q3
        simp only [q3] at hK
        clear hA
        obtain ⟨x0, x1, x2, x3⟩ := four_cell (HX5.out w2 hR.bel)
        go_simp
        exact hK _ _ ⟨_, rfl, trivial, hR.skip _ (by decide), rfl⟩
      refine Ord.each_cons (fun D xs w2 hD hC hP hR hA K hK => ?_) ?_
      · -- 5
        clear hA
        go_simp
        exact hK _ _ ⟨_, rfl, trivial, hR.skip _ (by decide), rfl⟩
      refine Ord.each_cons (fun D xs w2 hD hC hP hR hA K hK => ?_) ?_
      · -- 6
        have q1 := Ord.ahead_get _ hA 1 (by decide)
        simp only [DsF] at q1
        have q2 := Ord.ahead_get _ hA 2 (by decide)
        simp only [DsF] at q2
        simp only [q1, q2] at hK
        clear hA
        have hk1 : (0 : Int) ≤ a := HH.out.1
        have hk2 : a < ((FB s.full).length : Int) := by rw [fb_length]; exact HIF.out
        go_simp
        exact hK _ _ ⟨_, rfl, trivial, hR.skip _ (by decide), rfl⟩
      refine Ord.each_cons (fun D xs w2 hD hC hP hR hA K hK => ?_) ?_
      · -- 7
        have q6 := Ord.ahead_get _ hA 6 (by decide)
        simp only [DsF] at q6
        simp only [q6] at hK
        clear hA
        obtain ⟨c0, f0⟩ := bown_cell (hR.f0 hD) (by have := HIF.out; have := HH.out.1; omega : a.toNat < s.full.length)
        go_simp
        exact hK _ _ ⟨_, rfl, trivial, hR.flag (u := undef) hD, trivial⟩
      refine Ord.each_cons (fun D xs w2 hD hC hP hR hA K hK => ?_) ?_
      · -- 8
        have q4 := Ord.ahead_get _ hA 4 (by decide)
        simp only [DsF] at q4
        have q5 := Ord.ahead_get _ hA 5 (by decide)
        simp only [DsF] at q5
        simp only [q4, q5] at hK
        clear hA
        have hk1 : (0 : Int) ≤ a := HH.out.1
        have hk2 : a < (s.data.length : Int) := HI.out
        go_simp
        exact hK _ _ ⟨_, rfl, trivial, hR.skip _ (by decide), rfl⟩
      refine Ord.each_cons (fun D xs w2 hD hC hP hR hA K hK => ?_) ?_
      · -- 9
        have q8 := Ord.ahead_get _ hA 8 (by decide)
        simp only [DsF] at q8
        simp only [q8] at hK
        clear hA
        obtain ⟨c0, f0⟩ := (hR.old hD).cellAt HLT.out
        go_simp
        exact hK _ _ ⟨_, rfl, trivial, hR.text (u := undef) hD, trivial⟩
      exact Ord.each_nil
    case hend =>
      intro D6 xs6 w6 hR6 hF6
      have hd6 := hR6.new (hF6 9 (by decide)).1
      have hb6 := hR6.bel
      have hf6 := hR6.f1 (hF6 7 (by decide)).1
      have HS6 : Hid (SlOwn W3.heap.size w6 (.slice (some ⟨gf, 0, none⟩) (FB s.full).length cf) (.slice (some ⟨gd, 0, none⟩) s.data.length cd) (vs4.set a.toNat nilS) ⟨s.kind, s.next, s.full.set a.toNat false, s.data.set a.toNat []⟩) := ⟨hf6, hd6, HSO5.out.kind, HSO5.out.next⟩
      have HST6 := Lib.hid (HST5.out.turn (s' := ⟨s.kind, s.next, s.full.set a.toNat false, s.data.set a.toNat []⟩) rfl rfl (HSTL.out w6 hb6).1 (HSTL.out w6 hb6).2 HS6.out.at (HW5.out w6 hb6))
      have HX6 := Lib.hid (HX5.out w6 hb6)
      clear hd6 hb6 hf6 hR6 hF6
      generalize xs6 0 = t0 at *
      generalize xs6 1 = t1 at *
      generalize xs6 2 = t2 at *
      generalize xs6 3 = t3 at *
      generalize xs6 4 = t4 at *
      generalize xs6 5 = t5 at *
      generalize xs6 6 = t6 at *
      generalize xs6 7 = t7 at *
      generalize xs6 8 = t8 at *
      generalize xs6 9 = t9 at *
      obtain ⟨q0, q1, q2, q3⟩ := four_cell HX6.out
      obtain ⟨tn, htn⟩ : ∃ tn, tn = Sl.trimN (s.full.set a.toNat false) (s.full.set a.toNat false).length := ⟨_, rfl⟩
      have HTN := Lib.hid htn
      have HTC : Hid (tn ≤ (FB s.full).length) := by
        have h1 := Sl.trimN_le (s.full.set a.toNat false) (s.full.set a.toNat false).length
        rw [List.length_set] at h1 htn
        show tn ≤ _
        rw [fb_length, htn]; exact h1
      have HTD : Hid (tn ≤ s.data.length) := by have h1 := HTC.out; rw [fb_length, HMY.out.len] at h1; exact h1
      have HTC2 : Hid (tn ≤ cf) := by
        obtain ⟨p, cap, e, hc, -, -⟩ := HSO5.out.full.bts.form
        simp only [Value.slice.injEq] at e
        obtain ⟨-, -, rfl⟩ := e
        exact Nat.le_trans HTC.out hc.1
      have HTD2 : Hid (tn ≤ cd) := by
        obtain ⟨p, cap, e, hc, -, -⟩ := HSO5.out.data.at.form2
        simp only [Value.slice.injEq] at e
        obtain ⟨-, -, rfl⟩ := e
        exact Nat.le_trans HTD.out hc.1
      have htr := trimmed_any _ _ w6 HS6.out.full.bts
      change Calls _ _ _ _ (fun e w' => e = .returned (.int .i64 (Sl.trimN (s.full.set a.toNat false) (s.full.set a.toNat false).length : Nat)) ∧ _) at htr
      rw [← htn] at htr
      have HTR := Lib.hid htr
      clear htr htn
      go_wp2_with fail
      refine HTR.out.mono ?_
      rintro e w7 ⟨rfl, rfl⟩
      clear HTR
      go_upto_region 7 with (fail)
      clear q0 q1 q2 q3
      refine Ord.walk (CuF P gf (FB s.full).length cf gd s.data.length cd tn) (CtR P (.int .u8 (s.kind : Int)) (.int .u32 (s.next : Int)) (.slice (some ⟨gf, 0, none⟩) (FB s.full).length cf) (.slice (some ⟨gd, 0, none⟩) s.data.length cd) (.slice (some ⟨gf, 0, none⟩) tn cf) (.slice (some ⟨gd, 0, none⟩) tn cd) w6) (fun _ _ => True)
        (by kernel_rfl) (by kernel_rfl) ?fr7 ?hfr7 (fun _ _ _ _ _ h => h) (fun xs => CtR.first xs HX6.out) ?he7 ?hend7
      case hfr7 =>
        intro xs
        simp only [Ord.fill, Act.put, List.setIfInBounds_toArray, List.set_cons_zero, List.set_cons_succ]
        rfl
      case he7 =>
        refine Ord.each_cons (fun D xs w2 hD hC hP hR hA K hK => ?_) ?_
        · -- 0
          clear hA
          go_simp
          exact hK _ _ ⟨_, rfl, trivial, hR.skip _ (by decide), rfl⟩
        refine Ord.each_cons (fun D xs w2 hD hC hP hR hA K hK => ?_) ?_
        · -- 1
          have q0 := Ord.ahead_get _ hA 0 (by decide)
          simp only [CuF] at q0
          simp only [q0] at hK
          clear hA
          have h9 : D 9 = false := by
            cases h : D 9
            · rfl
            · have := Ord.closed_at hC 9 1 (by kernel_rfl) h
              rw [hD] at this; cases this
          obtain ⟨x0, x1, x2, x3⟩ := four_cell hR.blk
          rw [h9] at x2
          go_simp
          exact hK _ _ ⟨_, rfl, trivial, hR.skip _ (by decide), rfl⟩
        refine Ord.each_cons (fun D xs w2 hD hC hP hR hA K hK => ?_) ?_
        · -- 2
          clear hA
          go_simp
          exact hK _ _ ⟨_, rfl, trivial, hR.skip _ (by decide), rfl⟩
        refine Ord.each_cons (fun D xs w2 hD hC hP hR hA K hK => ?_) ?_
        · -- 3
          have q1 := Ord.ahead_get _ hA 1 (by decide)
          simp only [CuF] at q1
          have q2 := Ord.ahead_get _ hA 2 (by decide)
          simp only [CuF] at q2
          simp only [q1, q2] at hK
          clear hA
          have hk1 : (0 : Int) ≤ (tn : Int) := by omega
          have hk2 := HTC2.out
          go_simp
          exact hK _ _ ⟨_, rfl, trivial, hR.skip _ (by decide), rfl⟩
        refine Ord.each_cons (fun D xs w2 hD hC hP hR hA K hK => ?_) ?_
        · -- 4
          clear hA
          go_simp
          exact hK _ _ ⟨_, rfl, trivial, hR.skip _ (by decide), rfl⟩
        refine Ord.each_cons (fun D xs w2 hD hC hP hR hA K hK => ?_) ?_
        · -- 5
          have q4 := Ord.ahead_get _ hA 4 (by decide)
          simp only [CuF] at q4
          simp only [q4] at hK
          clear hA
          have h11 : D 11 = false := by
            cases h : D 11
            · rfl
            · have := Ord.closed_at hC 11 5 (by kernel_rfl) h
              rw [hD] at this; cases this
          obtain ⟨x0, x1, x2, x3⟩ := four_cell hR.blk
          rw [h11] at x3
          go_simp
          exact hK _ _ ⟨_, rfl, trivial, hR.skip _ (by decide), rfl⟩
        refine Ord.each_cons (fun D xs w2 hD hC hP hR hA K hK => ?_) ?_
        · -- 6
          clear hA
          go_simp
          exact hK _ _ ⟨_, rfl, trivial, hR.skip _ (by decide), rfl⟩
        refine Ord.each_cons (fun D xs w2 hD hC hP hR hA K hK => ?_) ?_
        · -- 7
          have q5 := Ord.ahead_get _ hA 5 (by decide)
          simp only [CuF] at q5
          have q6 := Ord.ahead_get _ hA 6 (by decide)
          simp only [CuF] at q6
          simp only [q5, q6] at hK
          clear hA
          have hk1 : (0 : Int) ≤ (tn : Int) := by omega
          have hk2 := HTD2.out
          go_simp
          exact hK _ _ ⟨_, rfl, trivial, hR.skip _ (by decide), rfl⟩
        refine Ord.each_cons (fun D xs w2 hD hC hP hR hA K hK => ?_) ?_
        · -- 8
          clear hA
          go_simp
          exact hK _ _ ⟨_, rfl, trivial, hR.skip _ (by decide), rfl⟩
        refine Ord.each_cons (fun D xs w2 hD hC hP hR hA K hK => ?_) ?_
        · -- 9
          have q3 := Ord.ahead_get _ hA 3 (by decide)
          simp only [CuF] at q3
          have q8 := Ord.ahead_get _ hA 8 (by decide)
          simp only [CuF] at q8
          simp only [q3, q8] at hK
          clear hA
          obtain ⟨x0, x1, x2, x3⟩ := four_cell hR.blk
          have ff := four_free hR.blk 2
          go_simp
          exact hK _ _ ⟨_, rfl, trivial, hR.full (u := undef), trivial⟩
        refine Ord.each_cons (fun D xs w2 hD hC hP hR hA K hK => ?_) ?_
        · -- 10
          clear hA
          go_simp
          exact hK _ _ ⟨_, rfl, trivial, hR.skip _ (by decide), rfl⟩
        refine Ord.each_cons (fun D xs w2 hD hC hP hR hA K hK => ?_) ?_
        · -- 11
          have q7 := Ord.ahead_get _ hA 7 (by decide)
          simp only [CuF] at q7
          have q10 := Ord.ahead_get _ hA 10 (by decide)
          simp only [CuF] at q10
          simp only [q7, q10] at hK
          clear hA
          obtain ⟨x0, x1, x2, x3⟩ := four_cell hR.blk
          have ff := four_free hR.blk 3
          go_simp
          exact hK _ _ ⟨_, rfl, trivial, hR.data (u := undef), trivial⟩
        exact Ord.each_nil
      case hend7 =>
          intro D7 xs7 w8 hR7 hF7
          have hx8 := hR7.blk
          rw [(hF7 9 (by decide)).1, (hF7 11 (by decide)).1, if_pos rfl, if_pos rfl] at hx8
          have hg8 := hR7.gr
          clear hR7 hF7
          generalize xs7 0 = z0 at *
          generalize xs7 1 = z1 at *
          generalize xs7 2 = z2 at *
          generalize xs7 3 = z3 at *
          generalize xs7 4 = z4 at *
          generalize xs7 5 = z5 at *
          generalize xs7 6 = z6 at *
          generalize xs7 7 = z7 at *
          generalize xs7 8 = z8 at *
          generalize xs7 9 = z9 at *
          generalize xs7 10 = z10 at *
          generalize xs7 11 = z11 at *
          have HS8 : Hid (SlOwn W3.heap.size w8 (.slice (some ⟨gf, 0, none⟩) (FB s.full).length cf) (.slice (some ⟨gd, 0, none⟩) s.data.length cd) (vs4.set a.toNat nilS) ⟨s.kind, s.next, s.full.set a.toNat false, s.data.set a.toNat []⟩) := HS6.out.blk HX6.out hg8
          have HCUT : Hid (∀ w', SlOwn W3.heap.size w' (.slice (some ⟨gf, 0, none⟩) (FB s.full).length cf) (.slice (some ⟨gd, 0, none⟩) s.data.length cd) (vs4.set a.toNat nilS) ⟨s.kind, s.next, s.full.set a.toNat false, s.data.set a.toNat []⟩ → SlAt w' (.slice (some ⟨gf, 0, none⟩) tn cf) (.slice (some ⟨gd, 0, none⟩) tn cd) (Sl.del s a.toNat)) := fun w' hS => by
            have hfl : s.full.length = (s.full.set a.toNat false).length := by rw [List.length_set]
            have hdl : s.data.length = (s.data.set a.toNat ([] : List Nat)).length := by rw [List.length_set]
            refine ⟨?_, ?_, HSO5.out.kind, HSO5.out.next⟩
            · have h1 := fat_take (m := tn) hS.full.bts (by rw [fb_length]; exact hfl) HTC.out
              show Bo.Bts w' _ (FB ((s.full.set a.toNat false).take (Sl.trimN (s.full.set a.toNat false) (s.full.set a.toNat false).length)))
              rw [← HTN.out]; exact h1
            · have h1 := DAt.take (m := tn) hS.data.at hdl HTD.out
              show DAt w' _ ((s.data.set a.toNat []).take (Sl.trimN (s.full.set a.toNat false) (s.full.set a.toNat false).length))
              rw [← HTN.out]; exact h1
          have hr8 : w8.heap[R]? = w6.heap[R]? := hg8.block _ (lt_of_block HST6.out.ans) (fun e => HNE.out (Option.some.inj e).symm)
          have HST8 : Hid (St w w8 P R (Sl.del s a.toNat) (.slice (some ⟨gf, 0, none⟩) tn cf) (.slice (some ⟨gd, 0, none⟩) tn cd)) := ⟨hx8, by rw [hr8]; exact HST6.out.ans, HCUT.out w8 HS8.out, below_grown HST6.out.bel hg8 HST6.out.bel.size HST6.out.p, HST6.out.p, HST6.out.r⟩
          clear hx8 hg8 hr8
          obtain ⟨q0, q1, q2, q3⟩ := four_cell HST8.out.par
          change _ = some (Value.int .u8 (s.kind : Int)) at q0
          change _ = some (Value.int .u32 (s.next : Int)) at q1
          obtain ⟨f0, f1, f2, f3⟩ : _ ∧ _ ∧ _ ∧ _ := ⟨four_free (HST8.out).ans 0, four_free (HST8.out).ans 1, four_free (HST8.out).ans 2, four_free (HST8.out).ans 3⟩
          obtain ⟨g0, g1, g2, g3⟩ := four_cell (HST8.out).ans
          obtain ⟨d1, d2, d3⟩ := (HST8.out).done (.int .u8 (s.kind : Int)) (.int .u32 (s.next : Int)) (.slice (some ⟨gf, 0, none⟩) tn cf) (.slice (some ⟨gd, 0, none⟩) tn cd)
          obtain ⟨r0, r1, r2, r3⟩ := four_cell d1
          have D2 := Lib.hid d2
          have D3 := Lib.hid d3
          clear d1 d2 d3
          go_wp2_with fail
          refine bodyPost_ret (v := .tuple #[SlV s.kind s.next (.slice (some ⟨gf, 0, none⟩) tn cf) (.slice (some ⟨gd, 0, none⟩) tn cd), .int .i64 0]) (by simp [results, Try.results23, go_sem, r0, r1, r2, r3]) rfl ?_
          refine ⟨_, _, by rw [HV.out]; rfl, ?_, D3.out⟩
          rw [HV.out]
          exact fun wz hz => HCUT.out _ ((HS8.out.blk HST8.out.ans D2.out).alike (hz.from HST3.out.bel.size))
  · obtain ⟨er, her, hrr⟩ : ∃ er : Nat, Sl.standN s a = er ∧ rr = (Sl.none_, er) ∧ er ≠ 0 := by
      rw [HRR.out]
      by_cases hmy : Sl.May s
      · have hh : ¬ Sl.has s a := fun hh => hok ⟨hmy, hh⟩
        refine ⟨7, Sl.stand_none hmy hh, ?_, by decide⟩
        unfold Sl.delR
        rw [Sl.ifP_pos hmy, Sl.ifP_neg hh]
      · refine ⟨2, Sl.stand_arg hmy, ?_, by decide⟩
        unfold Sl.delR
        rw [Sl.ifP_neg hmy]
    obtain ⟨hr1, hr2⟩ := hrr
    have HV := Lib.hid hr1
    have hx : ((er : Int) != 0) = true := by simp; omega
    have hsd := HSD.out V (Below.refl _ _)
    rw [her] at hsd
    clear her hok hr1 hr2
    go_wp2_with fail
    refine hsd.mono ?_
    rintro e w2 ⟨rfl, hb2⟩
    have HB3 := Lib.hid hb2
    clear hsd hb2 q0 q1 q2 q3
    obtain ⟨f0, f1, f2, f3⟩ : _ ∧ _ ∧ _ ∧ _ := ⟨four_free (HST.out.later HB3.out).ans 0, four_free (HST.out.later HB3.out).ans 1, four_free (HST.out.later HB3.out).ans 2, four_free (HST.out.later HB3.out).ans 3⟩
    obtain ⟨g0, g1, g2, g3⟩ := four_cell (HST.out.later HB3.out).ans
    obtain ⟨d1, d2, d3⟩ := (HST.out.later HB3.out).done (.int .u8 0) (.int .u32 0) nilS nilS
    obtain ⟨r0, r1, r2, r3⟩ := four_cell d1
    have D2 := Lib.hid d2
    have D3 := Lib.hid d3
    clear d1 d2 d3
    go_wp2_with fail
    refine bodyPost_ret (v := .tuple #[SlV 0 0 nilS nilS, .int .i64 (er : Int)]) (by simp [results, Try.results23, go_sem, r0, r1, r2, r3]) rfl ?_
    refine ⟨nilS, nilS, by rw [HV.out]; rfl, ?_, D3.out⟩
    rw [HV.out]
    exact slfar_none _ _
theorem pDelete_any (fv dv : Value) (s : Sl.S) (a : Int) (w : World) (h : SlAt w fv dv s) (hs : Sl.Small s) :
    Calls Try.prog 23 #[SlV s.kind s.next fv dv, .int .i64 a] w fun e w' => ∃ fv' dv', e = .returned (.tuple #[SlV (Sl.delR s a).1.kind (Sl.delR s a).1.next fv' dv', .int .i64 ((Sl.delR s a).2 : Int)]) ∧ SlAt w' fv' dv' (Sl.delR s a).1 ∧ Below w.heap.size w w' :=
  (pDelete_far fv dv s a w h hs).mono fun _ _ ⟨f, d, h1, h2, h3⟩ => ⟨f, d, h1, h2.at, h3⟩
end Go.Proofs.Ytbfpmpomcaijcaa
