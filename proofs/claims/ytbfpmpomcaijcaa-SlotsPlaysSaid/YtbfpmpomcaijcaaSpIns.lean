/- What the program's Insert of slots answers. Conditions: the values read as a body and bytes; few slots and bytes. -/
import Derived.Test.YtbfpmpomcaijcaaSpInsR
namespace Go.Proofs.Ytbfpmpomcaijcaa
open Go.RowKit

/-- A text cloned and put in its place: what the operations left. -/
def IpF (P kk gf nf cf g n c : Nat) (bv : Value) (i : Nat) (v : Value) (_ : World) : Prop :=
  match i with
  | 0 => v = .pointer (some ⟨P, 2, none⟩)
  | 1 => v = .slice (some ⟨gf, 0, none⟩) nf cf
  | 2 => v = .int .i64 (kk : Int)
  | 3 => v = .pointer (some ⟨P, 3, none⟩)
  | 4 => v = .slice (some ⟨g, 0, none⟩) n c
  | 5 => v = .int .i64 (kk : Int)
  | 6 => v = bv
  | 8 => v = .pointer (some ⟨gf, kk, none⟩)
  | 10 => v = .pointer (some ⟨g, kk, none⟩)
  | _ => True
def AnF (P : Nat) (fv dv : Value) (i : Nat) (v : Value) (_ : World) : Prop :=
  match i with
  | 0 => v = .pointer (some ⟨P, 2, none⟩)
  | 1 => v = fv
  | 4 => v = .pointer (some ⟨P, 3, none⟩)
  | 5 => v = dv
  | 8 => v = .pointer (some ⟨P, 2, none⟩)
  | 10 => v = .pointer (some ⟨P, 3, none⟩)
  | _ => True

set_option maxHeartbeats 6400000 in
set_option maxRecDepth 20000 in
theorem pInsert_far (fv dv m : Value) (s : Sl.S) (b : List Nat) (w : World) (h : SlAt w fv dv s) (hs : Sl.Small s) (hB : Bts w m b) (hb : b.length ≤ 1000) :
    Calls Try.prog 19 #[SlV s.kind s.next fv dv, m] w fun e w' => ∃ fv' dv', e = .returned (.tuple #[SlV (Sl.insR s b).1.kind (Sl.insR s b).1.next fv' dv', .int .i64 ((Sl.insR s b).2.1 : Int), .int .i64 ((Sl.insR s b).2.2 : Int)]) ∧ SlFar w.heap.size w' fv' dv' (Sl.insR s b).1 ∧ Below w.heap.size w w' := by
  obtain ⟨V, hV⟩ : ∃ V, V = (w.alloc (sobj s.kind s.next fv dv)).alloc zobj := ⟨_, rfl⟩
  have hst := st_of h
  rw [← hV] at hst
  obtain ⟨p1, c1, p2, c2, rfl, rfl⟩ := slv_slices h
  unfold sobj zobj nilS at hV
  have HST := Lib.hid hst
  obtain ⟨P, hP⟩ : ∃ P, P = w.heap.size := ⟨_, rfl⟩
  obtain ⟨R, hR⟩ : ∃ R, R = P + 1 := ⟨_, rfl⟩
  have HNE : Hid (P ≠ R) := show P ≠ R by omega
  rw [← hP, ← hR] at HST
  obtain ⟨q0, q1, q2, q3⟩ := four_cell HST.out.par
  have HBV := Lib.hid hB
  have HKN : Hid (s.kind < 256 ∧ s.next < 4294967296) := ⟨h.kind, h.next⟩
  obtain ⟨pm, cm, rfl, -, -, -⟩ := hB.form
  have HSM := Lib.hid hs
  have HBL := Lib.hid hb
  have hma := pMay_any _ _ s V HST.out.at_ hs
  obtain ⟨rr, hrr⟩ : ∃ rr, rr = Sl.insR s b := ⟨_, rfl⟩
  rw [← hrr]
  have HRR := Lib.hid hrr
  clear h hs hb hB hst hrr
  go_enter Try.func19, Try.ntmps19
  go_upto_region 1 with (fail)
  rw [← hV, ← hP, ← hR]
  clear hV hP hR
  by_cases hmy : Sl.May s
  · have HMY := Lib.hid hmy
    rw [Sl.may_true hmy] at hma
    clear hmy
    go_wp2_with fail
    refine hma.mono ?_
    rintro e w2 ⟨rfl, hb2⟩
    have HST2 := Lib.hid (HST.out.later hb2)
    clear hma hb2 q0 q1 q2 q3
    obtain ⟨q0, q1, q2, q3⟩ := four_cell HST2.out.par
    have HSP := Lib.hid (fun n => calls_quiet (spare_any _ _ (w2.drewN n) (HST2.out.at_.drewN n).data (by have := HSM.out.d; omega) (by have := HSM.out.t; omega)))
    have HIX := Lib.hid (fun n => calls_quiet (index_any _ _ (w2.drewN n) (HST2.out.at_.drewN n).full))
    rw [Sl.spare_ge HMY.out.fit] at HSP
    have HSTN : Hid (∀ n, St w (w2.drewN n) P R s (.slice p1 s.full.length c1) (.slice p2 s.data.length c2)) := fun n => HST2.out.later (below_drewN _ _ n)
    have hft := HMY.out.fit
    have hbl := HBL.out
    have htk := Sl.took_ins HMY.out b
    have hmi := Sl.May.inss HMY.out b
    have HFL : Hid (s.full.length ≤ 4000 ∧ s.full.length = s.data.length) := ⟨HSM.out.f, HMY.out.len⟩
    have HFR := Lib.hid (Sl.free_le s.full)
    by_cases hfr : Sl.free s.full = s.full.length
    · rw [Sl.idx_none hfr] at HIX
      rw [if_pos hfr] at htk
      have hw1 := IntWalk.i64_in (500 - (Sl.took s : Int) - 2) (by omega)
      have HFQ := Lib.hid hfr
      by_cases hfit : (b.length : Int) ≤ 500 - (Sl.took s : Int) - 2
      · have HV : Hid (rr = (Sl.ins s b, Sl.free s.full, 0)) := by
          show rr = _
          rw [HRR.out]
          unfold Sl.insR
          rw [Sl.ifP_pos HMY.out, Sl.ifP_pos (hmi.2 (by omega))]
        have hfi : ¬ 500 - (Sl.took s : Int) - 2 < (b.length : Int) := by omega
        clear hfit hft hbl htk hmi hfr
        generalize Sl.took s = tk at *
        go_upto_region 3 with (fail)
        go_quiet ((with_reducible first | (go_at_call 30; exact HSP.out _) | (go_at_call 43; exact HIX.out _)))
        have HST3 := Lib.hid (HSTN.out nq)
        clear HSP HIX HSTN q0 q1 q2 q3
        generalize w2.drewN nq = W3 at *
        obtain ⟨q0, q1, q2, q3⟩ := four_cell HST3.out.par
        have HTW := Lib.hid (twin_any _ _ s W3 HST3.out.at_ HSM.out)
        go_wp2_with fail
        refine (HTW.out).mono ?_
        rintro e w4 ⟨fv4, dv4, vs4, rfl, hso, hb4⟩
        have HSO := Lib.hid hso
        have HST4 := Lib.hid (HST3.out.later hb4)
        obtain ⟨pf, c3, rfl⟩ := bo_slice hso.full
        obtain ⟨pd, n3, c4, rfl⟩ := sv_slice hso.data.own
        clear hso HTW q0 q1 q2 q3
        obtain ⟨q0, q1, q2, q3⟩ := four_cell HST4.out.par
        obtain ⟨f0, f1, f2, f3⟩ : _ ∧ _ ∧ _ ∧ _ := ⟨four_free HST4.out.par 0, four_free HST4.out.par 1, four_free HST4.out.par 2, four_free HST4.out.par 3⟩
        obtain ⟨hst5, hso5, hg5⟩ := HST4.out.own HNE.out HSO.out
        have hg2 : W3.heap.size ≤ w4.heap.size := hb4.size
        obtain ⟨W5, hW5⟩ : ∃ W5, W5 = ((((w4.setCell ⟨P, 0, none⟩ (.int .u8 (s.kind : Int))).setCell ⟨P, 1, none⟩ (.int .u32 (s.next : Int))).setCell ⟨P, 2, none⟩ (.slice pf (FB s.full).length c3)).setCell ⟨P, 3, none⟩ (.slice pd n3 c4)) := ⟨_, rfl⟩
        rw [← hW5] at hst5 hso5 hg5
        have HPR : Hid (P < W3.heap.size ∧ R < W3.heap.size) := ⟨lt_of_block HST3.out.par, lt_of_block HST3.out.ans⟩
        have HBIG : Hid (W3.heap.size ≤ W5.heap.size) := Nat.le_trans hg2 hg5.size
        have HST5 := Lib.hid hst5
        have HSO5 := Lib.hid hso5
        have HSZ : Hid (w.heap.size ≤ W3.heap.size) := HST3.out.bel.size
        clear hb4 hg2 hst5 hso5 hg5
        go_upto_region 11 with (fail)
        rw [← hW5]
        clear hW5 q0 q1 q2 q3 f0 f1 f2 f3
        refine Ord.walk (AnF P (.slice pf (FB s.full).length c3) (.slice pd n3 c4)) (AnR w W3.heap.size P R (.int .u8 (s.kind : Int)) (.int .u32 (s.next : Int)) (.slice pf (FB s.full).length c3) (.slice pd n3 c4) s.full vs4 s.data) (fun _ _ => True)
          (by kernel_rfl) (by kernel_rfl) ?fr11 ?hfr11 (fun _ _ _ _ _ h => h) (fun xs => AnR.first xs HST5.out.bel HBIG.out HSZ.out HST3.out.p HNE.out HST5.out.par HST5.out.ans HSO5.out.full HSO5.out.data) ?he11 ?hend11
        case hfr11 =>
          intro xs
          simp only [Ord.fill, Act.put, List.setIfInBounds_toArray, List.set_cons_zero, List.set_cons_succ]
          rfl
        case he11 =>
          refine Ord.each_cons (fun D xs w2 hD hC hP hR hA K hK => ?_) ?_
          · -- 0
            clear hA
            go_simp
            exact hK _ _ ⟨_, rfl, trivial, hR.skip _ (by decide), rfl⟩
          refine Ord.each_cons (fun D xs w2 hD hC hP hR hA K hK => ?_) ?_
          · -- 1
            have q0 := Ord.ahead_get _ hA 0 (by decide)
            simp only [AnF] at q0
            simp only [q0] at hK
            clear hA
            have h9 : D 9 = false := by
              cases h : D 9
              · rfl
              · have := Ord.closed_at hC 9 1 (by kernel_rfl) h
                rw [hD] at this; cases this
            obtain ⟨x0, x1, x2, x3⟩ := four_cell hR.blk
            rw [h9] at x2
            go_simp
            exact hK _ _ ⟨_, rfl, trivial, hR.skip _ (by decide), rfl⟩
          refine Ord.each_cons (fun D xs w2 hD hC hP hR hA K hK => ?_) ?_
          · -- 2
            clear hA
            have hst := hR.op2 (u := .slice (some ⟨w2.heap.size, 0, none⟩) 1 1) rfl
            go_simp
            exact hK _ _ ⟨_, rfl, trivial, hst, trivial⟩
          refine Ord.each_cons (fun D xs w2 hD hC hP hR hA K hK => ?_) ?_
          · -- 3
            have q1 := Ord.ahead_get _ hA 1 (by decide)
            simp only [AnF] at q1
            clear hA
            have h9 : D 9 = false := by
              cases h : D 9
              · rfl
              · have := Ord.closed_at hC 9 3 (by kernel_rfl) h
                rw [hD] at this; cases this
            have h2 : D 2 = true := hP { on := 2, ground := .data } (by simp) rfl
            refine Bo.wp_append_Own (.tmp 37) (.tmp 38) rfl W3.heap.size (.slice pf (FB s.full).length c3) (FB s.full) (by rw [← q1]; rfl) (hR.full0 hD) (xs 2) [.bool true] rfl (hR.a2 h2 hD).bts (by rw [fb_length]; have := HFL.out.1; simp; omega) hR.sz ?_
            intro u w' hO2 hb2 hg2
            exact hK _ _ ⟨_, rfl, trivial, hR.op3 hD h9 hO2 hb2 hg2, trivial⟩
          refine Ord.each_cons (fun D xs w2 hD hC hP hR hA K hK => ?_) ?_
          · -- 4
            clear hA
            go_simp
            exact hK _ _ ⟨_, rfl, trivial, hR.skip _ (by decide), rfl⟩
          refine Ord.each_cons (fun D xs w2 hD hC hP hR hA K hK => ?_) ?_
          · -- 5
            have q4 := Ord.ahead_get _ hA 4 (by decide)
            simp only [AnF] at q4
            simp only [q4] at hK
            clear hA
            have h11 : D 11 = false := by
              cases h : D 11
              · rfl
              · have := Ord.closed_at hC 11 5 (by kernel_rfl) h
                rw [hD] at this; cases this
            obtain ⟨x0, x1, x2, x3⟩ := four_cell hR.blk
            rw [h11] at x3
            go_simp
            exact hK _ _ ⟨_, rfl, trivial, hR.skip _ (by decide), rfl⟩
          refine Ord.each_cons (fun D xs w2 hD hC hP hR hA K hK => ?_) ?_
          · -- 6
            clear hA
            have hst := hR.op6 (u := .slice (some ⟨w2.heap.size, 0, none⟩) 1 1) rfl
            go_simp
            exact hK _ _ ⟨_, rfl, trivial, hst, trivial⟩
          refine Ord.each_cons (fun D xs w2 hD hC hP hR hA K hK => ?_) ?_
          · -- 7
            have q5 := Ord.ahead_get _ hA 5 (by decide)
            simp only [AnF] at q5
            clear hA
            have h11 : D 11 = false := by
              cases h : D 11
              · rfl
              · have := Ord.closed_at hC 11 7 (by kernel_rfl) h
                rw [hD] at this; cases this
            have h6 : D 6 = true := hP { on := 6, ground := .data } (by simp) rfl
            refine Sv.wp_append_Own (.tmp 41) (.tmp 42) rfl W3.heap.size (.slice pd n3 c4) vs4 (by rw [← q5]; rfl) (hR.data0 hD).own (xs 6) [nilS] rfl (hR.a6 h6 hD).bts (by rw [(hR.data0 hD).len]; have h1 := HFL.out.1; have h2 := HFL.out.2; simp; omega) hR.sz ?_
            intro u w' hO2 hb2 hg2
            exact hK _ _ ⟨_, rfl, trivial, hR.op7 hD h11 hO2 hb2 hg2, trivial⟩
          refine Ord.each_cons (fun D xs w2 hD hC hP hR hA K hK => ?_) ?_
          · -- 8
            clear hA
            go_simp
            exact hK _ _ ⟨_, rfl, trivial, hR.skip _ (by decide), rfl⟩
          refine Ord.each_cons (fun D xs w2 hD hC hP hR hA K hK => ?_) ?_
          · -- 9
            have q8 := Ord.ahead_get _ hA 8 (by decide)
            simp only [AnF] at q8
            simp only [q8] at hK
            clear hA
            have h3 : D 3 = true := hP { on := 3, ground := .data } (by simp) rfl
            obtain ⟨p3, c3', e3⟩ := bo_slice (hR.full1 h3)
            have hst := hR.op9 (u := undef) h3
            rw [e3] at hst
            simp only [e3] at hK
            obtain ⟨x0, x1, x2, x3⟩ := four_cell hR.blk
            have ff := four_free hR.blk 2
            go_simp
            exact hK _ _ ⟨_, rfl, trivial, hst, trivial⟩
          refine Ord.each_cons (fun D xs w2 hD hC hP hR hA K hK => ?_) ?_
          · -- 10
            clear hA
            go_simp
            exact hK _ _ ⟨_, rfl, trivial, hR.skip _ (by decide), rfl⟩
          refine Ord.each_cons (fun D xs w2 hD hC hP hR hA K hK => ?_) ?_
          · -- 11
            have q10 := Ord.ahead_get _ hA 10 (by decide)
            simp only [AnF] at q10
            simp only [q10] at hK
            clear hA
            have h7 : D 7 = true := hP { on := 7, ground := .data } (by simp) rfl
            obtain ⟨p7, n7, c7, e7⟩ := sv_slice (hR.data1 h7).own
            have hst := hR.op11 (u := undef) h7
            rw [e7] at hst
            simp only [e7] at hK
            obtain ⟨x0, x1, x2, x3⟩ := four_cell hR.blk
            have ff := four_free hR.blk 3
            go_simp
            exact hK _ _ ⟨_, rfl, trivial, hst, trivial⟩
          exact Ord.each_nil
        case hend11 =>
          intro D5 xs5 WW hR5 hF5
          have hx := hR5.blk
          rw [(hF5 9 (by decide)).1, (hF5 11 (by decide)).1, if_pos rfl, if_pos rfl] at hx
          have hf := hR5.full1 (hF5 3 (by decide)).1
          have hd := hR5.data1 (hF5 7 (by decide)).1
          have HAN6 := Lib.hid hR5.ans
          have HBB := Lib.hid hR5.bel
          have HBIG2 : Hid (W3.heap.size ≤ WW.heap.size) := hR5.sz
          clear hR5 hF5
          generalize xs5 3 = fv5 at *
          generalize xs5 7 = dv5 at *
          generalize xs5 0 = y0 at *
          generalize xs5 1 = y1 at *
          generalize xs5 2 = y2 at *
          generalize xs5 4 = y4 at *
          generalize xs5 5 = y5 at *
          generalize xs5 6 = y6 at *
          generalize xs5 8 = y8 at *
          generalize xs5 9 = y9 at *
          generalize xs5 10 = y10 at *
          generalize xs5 11 = y11 at *
          obtain ⟨pf5, cf, rfl⟩ := bo_slice hf
          obtain ⟨pd5, nd, cd, rfl⟩ := sv_slice hd.own
          obtain ⟨gf, rfl, hgf, hnf⟩ := bown_some hf (by simp)
          obtain ⟨gd, rfl, hgd, hnd⟩ := down_some hd (by simp)
          have HGF : Hid (W3.heap.size ≤ gf) := hgf
          have HGD : Hid (W3.heap.size ≤ gd) := hgd
          obtain ⟨nf, hnf2⟩ : ∃ nf, nf = (FB (s.full ++ [true])).length := ⟨_, rfl⟩
          rw [← hnf2] at hx hf hnf ⊢
          have HSO6 : Hid (Bo.Own W3.heap.size WW (.slice (some ⟨gf, 0, none⟩) nf cf) (FB (s.full ++ [true])) ∧ DOwn W3.heap.size WW (.slice (some ⟨gd, 0, none⟩) nd cd) (vs4 ++ [nilS]) (s.data ++ [[]])) := ⟨hf, hd⟩
          have HW6 : Hid (∀ w', Below W3.heap.size WW w' → Below w.heap.size w w') := fun w' hb => HBB.out.trans (hb.mono HSZ.out)
          have HAN7 : Hid (∀ w', Below W3.heap.size WW w' → w'.heap[R]? = some (.cells #[.int .u8 0, .int .u32 0, nilS, nilS] 26 (0, 0))) := fun w' hb => by rw [hb.block _ HPR.out.2]; exact HAN6.out
          have HX6 : Hid (∀ w', Below W3.heap.size WW w' → w'.heap[P]? = some (.cells #[.int .u8 (s.kind : Int), .int .u32 (s.next : Int), .slice (some ⟨gf, 0, none⟩) nf cf, .slice (some ⟨gd, 0, none⟩) nd cd] 26 (0, 0))) := fun w' hb => by rw [hb.block _ HPR.out.1]; exact hx
          obtain ⟨kk, hkk⟩ : ∃ kk, kk = s.full.length := ⟨_, rfl⟩
          have HKE : Hid (kk = Sl.free s.full) := by show kk = _; rw [HFQ.out]; exact hkk
          have HKF : Hid (kk < nf) := by show kk < nf; rw [hnf]; simp; omega
          have HKD : Hid (kk < nd) := by show kk < nd; have h2 := HFL.out.2; rw [hnd]; simp; omega
          have HKL : Hid (kk < (s.full ++ [true]).length) := by show kk < _; simp; omega
          have HKS : Hid (kk < (s.data ++ [([] : List Nat)]).length) := by show kk < _; have h2 := HFL.out.2; simp; omega
          have HIN : Hid (Sl.ins s b = ⟨s.kind, s.next, (s.full ++ [true]).set kk true, (s.data ++ [[]]).set kk b⟩) := by
            show _ = _
            have e1 : (s.full ++ [true]).set kk true = s.full ++ [true] := by rw [hkk, List.set_append_right _ _ (Nat.le_refl _), Nat.sub_self]; rfl
            have e2 : (s.data ++ [([] : List Nat)]).set kk b = s.data ++ [b] := by rw [hkk, HFL.out.2, List.set_append_right _ _ (Nat.le_refl _), Nat.sub_self]; rfl
            unfold Sl.ins
            rw [if_pos HFQ.out, e1, e2]
          rw [← hkk]
          clear hx hf hd hgf hgd hnf hnd hnf2 HBIG HSO5 HAN6 HBB hkk
          go_upto_region 12 with (fail)
          refine Ord.walk (IpF P kk gf nf cf gd nd cd (.slice pm b.length cm)) (PsR 7 9 11 W3.heap.size kk true gf nf cf gd nd cd (s.full ++ [true]) (vs4 ++ [nilS]) (s.data ++ [[]]) b WW) (fun _ _ => True)
            (by kernel_rfl) (by kernel_rfl) ?fr12 ?hfr12 (fun _ _ _ _ _ h => h) (fun xs => PsR.first xs HBIG2.out HGF.out HGD.out HSO6.out.1 HSO6.out.2) ?he12 ?hend12
          case hfr12 =>
            intro xs
            simp only [Ord.fill, Act.put, List.setIfInBounds_toArray, List.set_cons_zero, List.set_cons_succ]
            rfl
          case he12 =>
            refine Ord.each_cons (fun D xs w2 hD hC hP hR hA K hK => ?_) ?_
            · -- 0
              clear hA
              go_simp
              exact hK _ _ ⟨_, rfl, trivial, hR.skip _ (by decide), rfl⟩
            refine Ord.each_cons (fun D xs w2 hD hC hP hR hA K hK => ?_) ?_
            · -- 1
              have q0 := Ord.ahead_get _ hA 0 (by decide)
              simp only [IpF] at q0
              simp only [q0] at hK
              clear hA
              obtain ⟨x0, x1, x2, x3⟩ := four_cell (HX6.out w2 hR.bel)
              go_simp
              exact hK _ _ ⟨_, rfl, trivial, hR.skip _ (by decide), rfl⟩
            refine Ord.each_cons (fun D xs w2 hD hC hP hR hA K hK => ?_) ?_
            · -- 2
              clear hA
              go_simp
              exact hK _ _ ⟨_, rfl, trivial, hR.skip _ (by decide), rfl⟩
            refine Ord.each_cons (fun D xs w2 hD hC hP hR hA K hK => ?_) ?_
            · -- 3
              clear hA
              go_simp
              exact hK _ _ ⟨_, rfl, trivial, hR.skip _ (by decide), rfl⟩
            refine Ord.each_cons (fun D xs w2 hD hC hP hR hA K hK => ?_) ?_
            · -- 4
              have q3 := Ord.ahead_get _ hA 3 (by decide)
              simp only [IpF] at q3
              simp only [q3] at hK
              clear hA
              obtain ⟨x0, x1, x2, x3⟩ := four_cell (HX6.out w2 hR.bel)
              go_simp
              exact hK _ _ ⟨_, rfl, trivial, hR.skip _ (by decide), rfl⟩
            refine Ord.each_cons (fun D xs w2 hD hC hP hR hA K hK => ?_) ?_
            · -- 5
              clear hA
              go_simp
              exact hK _ _ ⟨_, rfl, trivial, hR.skip _ (by decide), rfl⟩
            refine Ord.each_cons (fun D xs w2 hD hC hP hR hA K hK => ?_) ?_
            · -- 6
              clear hA
              go_simp
              exact hK _ _ ⟨_, rfl, trivial, hR.skip _ (by decide), rfl⟩
            refine Ord.each_cons (fun D xs w2 hD hC hP hR hA K hK => ?_) ?_
            · -- 7
              have q6 := Ord.ahead_get _ hA 6 (by decide)
              simp only [IpF] at q6
              simp only [q6] at hK
              clear hA
              have h11 : D 11 = false := by
                cases h : D 11
                · rfl
                · have := Ord.closed_at hC 11 7 (by kernel_rfl) h
                  rw [hD] at this; cases this
              go_simp
              refine (clone_any _ _ w2 (HBV.out.below (HW6.out w2 hR.bel))).mono ?_
              rintro e w' ⟨u, rfl, hO, hb⟩
              exact hK _ _ ⟨_, rfl, trivial, hR.call (by decide) h11 hO hb, trivial⟩
            refine Ord.each_cons (fun D xs w2 hD hC hP hR hA K hK => ?_) ?_
            · -- 8
              have q1 := Ord.ahead_get _ hA 1 (by decide)
              simp only [IpF] at q1
              have q2 := Ord.ahead_get _ hA 2 (by decide)
              simp only [IpF] at q2
              simp only [q1, q2] at hK
              clear hA
              have hk1 : (0 : Int) ≤ (kk : Int) := by omega
              have hk2 : (kk : Int) < (nf : Int) := by have := HKF.out; omega
              go_simp
              exact hK _ _ ⟨_, rfl, trivial, hR.skip _ (by decide), rfl⟩
            refine Ord.each_cons (fun D xs w2 hD hC hP hR hA K hK => ?_) ?_
            · -- 9
              have q8 := Ord.ahead_get _ hA 8 (by decide)
              simp only [IpF] at q8
              simp only [q8] at hK
              clear hA
              obtain ⟨c0, f0⟩ := bown_cell (hR.f0 hD) HKL.out
              go_simp
              exact hK _ _ ⟨_, rfl, trivial, hR.flag (u := undef) (by decide) hD, trivial⟩
            refine Ord.each_cons (fun D xs w2 hD hC hP hR hA K hK => ?_) ?_
            · -- 10
              have q4 := Ord.ahead_get _ hA 4 (by decide)
              simp only [IpF] at q4
              have q5 := Ord.ahead_get _ hA 5 (by decide)
              simp only [IpF] at q5
              simp only [q4, q5] at hK
              clear hA
              have hk1 : (0 : Int) ≤ (kk : Int) := by omega
              have hk2 : (kk : Int) < (nd : Int) := by have := HKD.out; omega
              go_simp
              exact hK _ _ ⟨_, rfl, trivial, hR.skip _ (by decide), rfl⟩
            refine Ord.each_cons (fun D xs w2 hD hC hP hR hA K hK => ?_) ?_
            · -- 11
              have q10 := Ord.ahead_get _ hA 10 (by decide)
              simp only [IpF] at q10
              simp only [q10] at hK
              clear hA
              have h7 : D 7 = true := hP { on := 7, ground := .data } (by simp) rfl
              obtain ⟨p5, n5, e5⟩ := own_slv (hR.cl h7 hD)
              obtain ⟨c0, f0⟩ := (hR.old hD).cellAt HKS.out
              have hst := hR.text (u := undef) (by decide) h7 hD
              rw [e5] at hst
              simp only [e5] at hK
              go_simp
              exact hK _ _ ⟨_, rfl, trivial, hst, trivial⟩
            exact Ord.each_nil
          case hend12 =>
            intro D6 xs6 w6 hR6 hF6
            have hd6 := hR6.new (hF6 11 (by decide)).1
            have hb6 := hR6.bel
            have hf6 := hR6.f1 (hF6 9 (by decide)).1
            have HS6 : Hid (SlOwn W3.heap.size w6 (.slice (some ⟨gf, 0, none⟩) nf cf) (.slice (some ⟨gd, 0, none⟩) nd cd) ((vs4 ++ [nilS]).set kk (xs6 7)) (Sl.ins s b)) := by
              rw [HIN.out]
              exact ⟨hf6, hd6, HKN.out.1, HKN.out.2⟩
            have HX66 := Lib.hid (HX6.out w6 hb6)
            have HST6 : Hid (St w w6 P R (Sl.ins s b) (.slice (some ⟨gf, 0, none⟩) nf cf) (.slice (some ⟨gd, 0, none⟩) nd cd)) := ⟨by rw [HIN.out]; exact HX66.out, HAN7.out w6 hb6, HS6.out.at, HW6.out w6 hb6, HST3.out.p, HST3.out.r⟩
            clear hd6 hb6 hf6 hR6 hF6
            generalize xs6 0 = t0 at *
            generalize xs6 1 = t1 at *
            generalize xs6 2 = t2 at *
            generalize xs6 3 = t3 at *
            generalize xs6 4 = t4 at *
            generalize xs6 5 = t5 at *
            generalize xs6 6 = t6 at *
            generalize xs6 7 = t7 at *
            generalize xs6 8 = t8 at *
            generalize xs6 9 = t9 at *
            generalize xs6 10 = t10 at *
            generalize xs6 11 = t11 at *
            obtain ⟨q0, q1, q2, q3⟩ := four_cell HX66.out
            obtain ⟨f0, f1, f2, f3⟩ : _ ∧ _ ∧ _ ∧ _ := ⟨four_free (HST6.out).ans 0, four_free (HST6.out).ans 1, four_free (HST6.out).ans 2, four_free (HST6.out).ans 3⟩
            obtain ⟨g0, g1, g2, g3⟩ := four_cell (HST6.out).ans
            obtain ⟨d1, d2, d3⟩ := (HST6.out).done (.int .u8 (s.kind : Int)) (.int .u32 (s.next : Int)) (.slice (some ⟨gf, 0, none⟩) nf cf) (.slice (some ⟨gd, 0, none⟩) nd cd)
            obtain ⟨r0, r1, r2, r3⟩ := four_cell d1
            have D2 := Lib.hid d2
            have D3 := Lib.hid d3
            clear d1 d2 d3
            go_wp2_with fail
            refine bodyPost_ret (v := .tuple #[SlV s.kind s.next (.slice (some ⟨gf, 0, none⟩) nf cf) (.slice (some ⟨gd, 0, none⟩) nd cd), .int .i64 (kk : Int), .int .i64 0]) (by simp [results, Try.results19, go_sem, r0, r1, r2, r3]) rfl ?_
            refine ⟨_, _, by rw [HV.out, ← HKE.out, HIN.out]; rfl, ?_, D3.out⟩
            rw [HV.out]
            exact (HS6.out.blk HST6.out.ans D2.out).frm HST3.out.bel.size
      · have HV : Hid (rr = (Sl.none_, 0, 5)) := by
          show rr = _
          rw [HRR.out]
          unfold Sl.insR
          rw [Sl.ifP_pos HMY.out, Sl.ifP_neg (fun hh => by have := hmi.1 hh; omega)]
        have hfi : 500 - (Sl.took s : Int) - 2 < (b.length : Int) := by omega
        clear hfit hft hbl htk hmi hfr
        generalize Sl.took s = tk at *
        go_upto_region 3 with (fail)
        go_quiet ((with_reducible first | (go_at_call 30; exact HSP.out _) | (go_at_call 43; exact HIX.out _)))
        have HST3 := Lib.hid (HSTN.out nq)
        clear HSP HIX HSTN q0 q1 q2 q3
        generalize w2.drewN nq = W3 at *
        obtain ⟨q0, q1, q2, q3⟩ := four_cell HST3.out.par
        obtain ⟨f0, f1, f2, f3⟩ : _ ∧ _ ∧ _ ∧ _ := ⟨four_free (HST3.out).ans 0, four_free (HST3.out).ans 1, four_free (HST3.out).ans 2, four_free (HST3.out).ans 3⟩
        obtain ⟨g0, g1, g2, g3⟩ := four_cell (HST3.out).ans
        obtain ⟨d1, d2, d3⟩ := (HST3.out).done (.int .u8 0) (.int .u32 0) nilS nilS
        obtain ⟨r0, r1, r2, r3⟩ := four_cell d1
        have D2 := Lib.hid d2
        have D3 := Lib.hid d3
        clear d1 d2 d3
        go_wp2_with fail
        refine bodyPost_ret (v := .tuple #[SlV 0 0 nilS nilS, .int .i64 0, .int .i64 5]) (by simp [results, Try.results19, go_sem, r0, r1, r2, r3]) rfl ?_
        refine ⟨nilS, nilS, by rw [HV.out]; rfl, ?_, D3.out⟩
        rw [HV.out]
        exact slfar_none _ _
    · rw [Sl.idx_some hfr] at HIX
      rw [if_neg hfr] at htk
      obtain ⟨kk, hkk⟩ : ∃ kk, kk = Sl.free s.full := ⟨_, rfl⟩
      have HKE := Lib.hid hkk
      rw [← hkk] at HIX
      have hk0 : ¬ (kk : Int) < 0 := by omega
      have HKL : Hid (kk < s.full.length) := by show kk < _; have := HFR.out; omega
      by_cases hfit : (b.length : Int) ≤ 500 - (Sl.took s : Int)
      · have HV : Hid (rr = (Sl.ins s b, Sl.free s.full, 0)) := by
          show rr = _
          rw [HRR.out]
          unfold Sl.insR
          rw [Sl.ifP_pos HMY.out, Sl.ifP_pos (hmi.2 (by omega))]
        have hfi : ¬ 500 - (Sl.took s : Int) < (b.length : Int) := by omega
        have HIN : Hid (Sl.ins s b = ⟨s.kind, s.next, s.full.set kk true, s.data.set kk b⟩) := by
          show _ = _
          unfold Sl.ins
          rw [if_neg hfr, ← hkk]
        clear hfit hft hbl htk hmi hfr hkk
        generalize Sl.took s = tk at *
        go_upto_region 3 with (fail)
        go_quiet ((with_reducible first | (go_at_call 30; exact HSP.out _) | (go_at_call 43; exact HIX.out _)))
        have HST3 := Lib.hid (HSTN.out nq)
        clear HSP HIX HSTN q0 q1 q2 q3
        generalize w2.drewN nq = W3 at *
        obtain ⟨q0, q1, q2, q3⟩ := four_cell HST3.out.par
        have HTW := Lib.hid (twin_any _ _ s W3 HST3.out.at_ HSM.out)
        go_wp2_with fail
        refine (HTW.out).mono ?_
        rintro e w4 ⟨fv4, dv4, vs4, rfl, hso, hb4⟩
        have HSO := Lib.hid hso
        have HST4 := Lib.hid (HST3.out.later hb4)
        obtain ⟨pf, cf, rfl⟩ := bo_slice hso.full
        obtain ⟨pd, nd, cd, rfl⟩ := sv_slice hso.data.own
        obtain ⟨gd, rfl, hgd, rfl⟩ := down_some HSO.out.data (by have h1 := HKL.out; have h2 := HFL.out.2; omega)
        obtain ⟨gf, rfl, hgf, hnf⟩ := bown_some HSO.out.full (by have := HKL.out; omega)
        clear hso HTW q0 q1 q2 q3
        obtain ⟨q0, q1, q2, q3⟩ := four_cell HST4.out.par
        obtain ⟨f0, f1, f2, f3⟩ : _ ∧ _ ∧ _ ∧ _ := ⟨four_free HST4.out.par 0, four_free HST4.out.par 1, four_free HST4.out.par 2, four_free HST4.out.par 3⟩
        obtain ⟨hst5, hso5, hg5⟩ := HST4.out.own HNE.out HSO.out
        have hg2 : W3.heap.size ≤ w4.heap.size := hb4.size
        obtain ⟨W5, hW5⟩ : ∃ W5, W5 = ((((w4.setCell ⟨P, 0, none⟩ (.int .u8 (s.kind : Int))).setCell ⟨P, 1, none⟩ (.int .u32 (s.next : Int))).setCell ⟨P, 2, none⟩ (.slice (some ⟨gf, 0, none⟩) (FB s.full).length cf)).setCell ⟨P, 3, none⟩ (.slice (some ⟨gd, 0, none⟩) s.data.length cd)) := ⟨_, rfl⟩
        rw [← hW5] at hst5 hso5 hg5
        have HPR : Hid (P < W3.heap.size ∧ R < W3.heap.size) := ⟨lt_of_block HST3.out.par, lt_of_block HST3.out.ans⟩
        have HBIG : Hid (W3.heap.size ≤ W5.heap.size) := Nat.le_trans hg2 hg5.size
        have HST5 := Lib.hid hst5
        have HSO5 : Hid (Bo.Own W3.heap.size W5 (.slice (some ⟨gf, 0, none⟩) (FB s.full).length cf) (FB s.full) ∧ DOwn W3.heap.size W5 (.slice (some ⟨gd, 0, none⟩) s.data.length cd) vs4 s.data) := ⟨hso5.full, hso5.data⟩
        have HGF : Hid (W3.heap.size ≤ gf) := hgf
        have HGD : Hid (W3.heap.size ≤ gd) := hgd
        have HW5 : Hid (∀ w', Below W3.heap.size W5 w' → Below w.heap.size w w') := fun w' hb => HST5.out.bel.trans (hb.mono HST3.out.bel.size)
        have HAN5 : Hid (∀ w', Below W3.heap.size W5 w' → w'.heap[R]? = some (.cells #[.int .u8 0, .int .u32 0, nilS, nilS] 26 (0, 0))) := fun w' hb => by rw [hb.block _ HPR.out.2]; exact HST5.out.ans
        obtain ⟨nf, hnf2⟩ : ∃ nf, nf = (FB s.full).length := ⟨_, rfl⟩
        obtain ⟨nd, hnd⟩ : ∃ nd, nd = s.data.length := ⟨_, rfl⟩
        have HX5 : Hid (∀ w', Below W3.heap.size W5 w' → w'.heap[P]? = some (.cells #[.int .u8 (s.kind : Int), .int .u32 (s.next : Int), .slice (some ⟨gf, 0, none⟩) nf cf, .slice (some ⟨gd, 0, none⟩) nd cd] 26 (0, 0))) := fun w' hb => by rw [hb.block _ HPR.out.1, hnf2, hnd]; exact HST5.out.par
        have HKF : Hid (kk < nf) := by show kk < nf; rw [hnf2, fb_length]; exact HKL.out
        have HKD : Hid (kk < nd) := by show kk < nd; have h1 := HKL.out; have h2 := HFL.out.2; omega
        have HKS : Hid (kk < s.data.length) := by show kk < _; have h1 := HKL.out; have h2 := HFL.out.2; omega
        rw [← hnf2, ← hnd] at HSO5
        clear hb4 hg2 hgf hgd hst5 hso5 hg5 hnf
        go_upto_region 12 with (fail)
        rw [← hW5, ← hnf2, ← hnd]
        clear hW5 q0 q1 q2 q3 f0 f1 f2 f3 hnf2 hnd
        refine Ord.walk (IpF P kk gf nf cf gd nd cd (.slice pm b.length cm)) (PsR 7 9 11 W3.heap.size kk true gf nf cf gd nd cd s.full vs4 s.data b W5) (fun _ _ => True)
          (by kernel_rfl) (by kernel_rfl) ?fr13 ?hfr13 (fun _ _ _ _ _ h => h) (fun xs => PsR.first xs HBIG.out HGF.out HGD.out HSO5.out.1 HSO5.out.2) ?he13 ?hend13
        case hfr13 =>
          intro xs
          simp only [Ord.fill, Act.put, List.setIfInBounds_toArray, List.set_cons_zero, List.set_cons_succ]
          rfl
        case he13 =>
          refine Ord.each_cons (fun D xs w2 hD hC hP hR hA K hK => ?_) ?_
          · -- 0
            clear hA
            go_simp
            exact hK _ _ ⟨_, rfl, trivial, hR.skip _ (by decide), rfl⟩
          refine Ord.each_cons (fun D xs w2 hD hC hP hR hA K hK => ?_) ?_
          · -- 1
            have q0 := Ord.ahead_get _ hA 0 (by decide)
            simp only [IpF] at q0
            simp only [q0] at hK
            clear hA
            obtain ⟨x0, x1, x2, x3⟩ := four_cell (HX5.out w2 hR.bel)
            go_simp
            exact hK _ _ ⟨_, rfl, trivial, hR.skip _ (by decide), rfl⟩
          refine Ord.each_cons (fun D xs w2 hD hC hP hR hA K hK => ?_) ?_
          · -- 2
            clear hA
            go_simp
            exact hK _ _ ⟨_, rfl, trivial, hR.skip _ (by decide), rfl⟩
          refine Ord.each_cons (fun D xs w2 hD hC hP hR hA K hK => ?_) ?_
          · -- 3
            clear hA
            go_simp
            exact hK _ _ ⟨_, rfl, trivial, hR.skip _ (by decide), rfl⟩
          refine Ord.each_cons (fun D xs w2 hD hC hP hR hA K hK => ?_) ?_
          · -- 4
            have q3 := Ord.ahead_get _ hA 3 (by decide)
            simp only [IpF] at q3
            simp only [q3] at hK
            clear hA
            obtain ⟨x0, x1, x2, x3⟩ := four_cell (HX5.out w2 hR.bel)
            go_simp
            exact hK _ _ ⟨_, rfl, trivial, hR.skip _ (by decide), rfl⟩
          refine Ord.each_cons (fun D xs w2 hD hC hP hR hA K hK => ?_) ?_
          · -- 5
            clear hA
            go_simp
            exact hK _ _ ⟨_, rfl, trivial, hR.skip _ (by decide), rfl⟩
          refine Ord.each_cons (fun D xs w2 hD hC hP hR hA K hK => ?_) ?_
          · -- 6
            clear hA
            go_simp
            exact hK _ _ ⟨_, rfl, trivial, hR.skip _ (by decide), rfl⟩
          refine Ord.each_cons (fun D xs w2 hD hC hP hR hA K hK => ?_) ?_
          · -- 7
            have q6 := Ord.ahead_get _ hA 6 (by decide)
            simp only [IpF] at q6
            simp only [q6] at hK
            clear hA
            have h11 : D 11 = false := by
              cases h : D 11
              · rfl
              · have := Ord.closed_at hC 11 7 (by kernel_rfl) h
                rw [hD] at this; cases this
            go_simp
            refine (clone_any _ _ w2 (HBV.out.below (HW5.out w2 hR.bel))).mono ?_
            rintro e w' ⟨u, rfl, hO, hb⟩
            exact hK _ _ ⟨_, rfl, trivial, hR.call (by decide) h11 hO hb, trivial⟩
          refine Ord.each_cons (fun D xs w2 hD hC hP hR hA K hK => ?_) ?_
          · -- 8
            have q1 := Ord.ahead_get _ hA 1 (by decide)
            simp only [IpF] at q1
            have q2 := Ord.ahead_get _ hA 2 (by decide)
            simp only [IpF] at q2
            simp only [q1, q2] at hK
            clear hA
            have hk1 : (0 : Int) ≤ (kk : Int) := by omega
            have hk2 : (kk : Int) < (nf : Int) := by have := HKF.out; omega
            go_simp
            exact hK _ _ ⟨_, rfl, trivial, hR.skip _ (by decide), rfl⟩
          refine Ord.each_cons (fun D xs w2 hD hC hP hR hA K hK => ?_) ?_
          · -- 9
            have q8 := Ord.ahead_get _ hA 8 (by decide)
            simp only [IpF] at q8
            simp only [q8] at hK
            clear hA
            obtain ⟨c0, f0⟩ := bown_cell (hR.f0 hD) HKL.out
            go_simp
            exact hK _ _ ⟨_, rfl, trivial, hR.flag (u := undef) (by decide) hD, trivial⟩
          refine Ord.each_cons (fun D xs w2 hD hC hP hR hA K hK => ?_) ?_
          · -- 10
            have q4 := Ord.ahead_get _ hA 4 (by decide)
            simp only [IpF] at q4
            have q5 := Ord.ahead_get _ hA 5 (by decide)
            simp only [IpF] at q5
            simp only [q4, q5] at hK
            clear hA
            have hk1 : (0 : Int) ≤ (kk : Int) := by omega
            have hk2 : (kk : Int) < (nd : Int) := by have := HKD.out; omega
            go_simp
            exact hK _ _ ⟨_, rfl, trivial, hR.skip _ (by decide), rfl⟩
          refine Ord.each_cons (fun D xs w2 hD hC hP hR hA K hK => ?_) ?_
          · -- 11
            have q10 := Ord.ahead_get _ hA 10 (by decide)
            simp only [IpF] at q10
            simp only [q10] at hK
            clear hA
            have h7 : D 7 = true := hP { on := 7, ground := .data } (by simp) rfl
            obtain ⟨p5, n5, e5⟩ := own_slv (hR.cl h7 hD)
            obtain ⟨c0, f0⟩ := (hR.old hD).cellAt HKS.out
            have hst := hR.text (u := undef) (by decide) h7 hD
            rw [e5] at hst
            simp only [e5] at hK
            go_simp
            exact hK _ _ ⟨_, rfl, trivial, hst, trivial⟩
          exact Ord.each_nil
        case hend13 =>
          intro D6 xs6 w6 hR6 hF6
          have hd6 := hR6.new (hF6 11 (by decide)).1
          have hb6 := hR6.bel
          have hf6 := hR6.f1 (hF6 9 (by decide)).1
          have HS6 : Hid (SlOwn W3.heap.size w6 (.slice (some ⟨gf, 0, none⟩) nf cf) (.slice (some ⟨gd, 0, none⟩) nd cd) (vs4.set kk (xs6 7)) (Sl.ins s b)) := by
            rw [HIN.out]
            exact ⟨hf6, hd6, HKN.out.1, HKN.out.2⟩
          have HX6 := Lib.hid (HX5.out w6 hb6)
          have HST6 : Hid (St w w6 P R (Sl.ins s b) (.slice (some ⟨gf, 0, none⟩) nf cf) (.slice (some ⟨gd, 0, none⟩) nd cd)) := ⟨by rw [HIN.out]; exact HX6.out, HAN5.out w6 hb6, HS6.out.at, HW5.out w6 hb6, HST3.out.p, HST3.out.r⟩
          clear hd6 hb6 hf6 hR6 hF6
          generalize xs6 0 = t0 at *
          generalize xs6 1 = t1 at *
          generalize xs6 2 = t2 at *
          generalize xs6 3 = t3 at *
          generalize xs6 4 = t4 at *
          generalize xs6 5 = t5 at *
          generalize xs6 6 = t6 at *
          generalize xs6 7 = t7 at *
          generalize xs6 8 = t8 at *
          generalize xs6 9 = t9 at *
          generalize xs6 10 = t10 at *
          generalize xs6 11 = t11 at *
          obtain ⟨q0, q1, q2, q3⟩ := four_cell HX6.out
          obtain ⟨f0, f1, f2, f3⟩ : _ ∧ _ ∧ _ ∧ _ := ⟨four_free (HST6.out).ans 0, four_free (HST6.out).ans 1, four_free (HST6.out).ans 2, four_free (HST6.out).ans 3⟩
          obtain ⟨g0, g1, g2, g3⟩ := four_cell (HST6.out).ans
          obtain ⟨d1, d2, d3⟩ := (HST6.out).done (.int .u8 (s.kind : Int)) (.int .u32 (s.next : Int)) (.slice (some ⟨gf, 0, none⟩) nf cf) (.slice (some ⟨gd, 0, none⟩) nd cd)
          obtain ⟨r0, r1, r2, r3⟩ := four_cell d1
          have D2 := Lib.hid d2
          have D3 := Lib.hid d3
          clear d1 d2 d3
          go_wp2_with fail
          refine bodyPost_ret (v := .tuple #[SlV s.kind s.next (.slice (some ⟨gf, 0, none⟩) nf cf) (.slice (some ⟨gd, 0, none⟩) nd cd), .int .i64 (kk : Int), .int .i64 0]) (by simp [results, Try.results19, go_sem, r0, r1, r2, r3]) rfl ?_
          refine ⟨_, _, by rw [HV.out, ← HKE.out, HIN.out]; rfl, ?_, D3.out⟩
          rw [HV.out]
          exact (HS6.out.blk HST6.out.ans D2.out).frm HST3.out.bel.size
      · have HV : Hid (rr = (Sl.none_, 0, 5)) := by
          show rr = _
          rw [HRR.out]
          unfold Sl.insR
          rw [Sl.ifP_pos HMY.out, Sl.ifP_neg (fun hh => by have := hmi.1 hh; omega)]
        have hfi : 500 - (Sl.took s : Int) < (b.length : Int) := by omega
        clear hfit hft hbl htk hmi hfr hkk
        generalize Sl.took s = tk at *
        go_upto_region 3 with (fail)
        go_quiet ((with_reducible first | (go_at_call 30; exact HSP.out _) | (go_at_call 43; exact HIX.out _)))
        have HST3 := Lib.hid (HSTN.out nq)
        clear HSP HIX HSTN q0 q1 q2 q3
        generalize w2.drewN nq = W3 at *
        obtain ⟨q0, q1, q2, q3⟩ := four_cell HST3.out.par
        obtain ⟨f0, f1, f2, f3⟩ : _ ∧ _ ∧ _ ∧ _ := ⟨four_free (HST3.out).ans 0, four_free (HST3.out).ans 1, four_free (HST3.out).ans 2, four_free (HST3.out).ans 3⟩
        obtain ⟨g0, g1, g2, g3⟩ := four_cell (HST3.out).ans
        obtain ⟨d1, d2, d3⟩ := (HST3.out).done (.int .u8 0) (.int .u32 0) nilS nilS
        obtain ⟨r0, r1, r2, r3⟩ := four_cell d1
        have D2 := Lib.hid d2
        have D3 := Lib.hid d3
        clear d1 d2 d3
        go_wp2_with fail
        refine bodyPost_ret (v := .tuple #[SlV 0 0 nilS nilS, .int .i64 0, .int .i64 5]) (by simp [results, Try.results19, go_sem, r0, r1, r2, r3]) rfl ?_
        refine ⟨nilS, nilS, by rw [HV.out]; rfl, ?_, D3.out⟩
        rw [HV.out]
        exact slfar_none _ _
  · have HV : Hid (rr = (Sl.none_, 0, 2)) := by
      show rr = _
      rw [HRR.out]
      unfold Sl.insR
      rw [Sl.ifP_neg hmy]
    rw [Sl.may_false hmy] at hma
    clear hmy
    go_wp2_with fail
    refine hma.mono ?_
    rintro e w2 ⟨rfl, hb2⟩
    have HB3 := Lib.hid hb2
    clear hma hb2 q0 q1 q2 q3
    obtain ⟨f0, f1, f2, f3⟩ : _ ∧ _ ∧ _ ∧ _ := ⟨four_free (HST.out.later HB3.out).ans 0, four_free (HST.out.later HB3.out).ans 1, four_free (HST.out.later HB3.out).ans 2, four_free (HST.out.later HB3.out).ans 3⟩
    obtain ⟨g0, g1, g2, g3⟩ := four_cell (HST.out.later HB3.out).ans
    obtain ⟨d1, d2, d3⟩ := (HST.out.later HB3.out).done (.int .u8 0) (.int .u32 0) nilS nilS
    obtain ⟨r0, r1, r2, r3⟩ := four_cell d1
    have D2 := Lib.hid d2
    have D3 := Lib.hid d3
    clear d1 d2 d3
    go_wp2_with fail
    refine bodyPost_ret (v := .tuple #[SlV 0 0 nilS nilS, .int .i64 0, .int .i64 2]) (by simp [results, Try.results19, go_sem, r0, r1, r2, r3]) rfl ?_
    refine ⟨nilS, nilS, by rw [HV.out]; rfl, ?_, D3.out⟩
    rw [HV.out]
    exact slfar_none _ _
theorem pInsert_any (fv dv m : Value) (s : Sl.S) (b : List Nat) (w : World) (h : SlAt w fv dv s) (hs : Sl.Small s) (hB : Bts w m b) (hb : b.length ≤ 1000) :
    Calls Try.prog 19 #[SlV s.kind s.next fv dv, m] w fun e w' => ∃ fv' dv', e = .returned (.tuple #[SlV (Sl.insR s b).1.kind (Sl.insR s b).1.next fv' dv', .int .i64 ((Sl.insR s b).2.1 : Int), .int .i64 ((Sl.insR s b).2.2 : Int)]) ∧ SlAt w' fv' dv' (Sl.insR s b).1 ∧ Below w.heap.size w w' :=
  (pInsert_far fv dv m s b w h hs hB hb).mono fun _ _ ⟨f, d, h1, h2, h3⟩ => ⟨f, d, h1, h2.at, h3⟩
end Go.Proofs.Ytbfpmpomcaijcaa
