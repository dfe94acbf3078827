/- What the program's Put of slots answers. Conditions: the values read as a body and bytes; few slots and bytes. -/
import Derived.Test.YtbfpmpomcaijcaaSpPutR
namespace Go.Proofs.Ytbfpmpomcaijcaa
open Go.RowKit

namespace Sl
theorem May.puts {s : S} (hs : May s) {a : Int} (hh : has s a) (b : List Nat) : May (put s a.toNat b) ↔ took (put s a.toNat b) ≤ 500 := by
  refine ⟨fun h => h.fit, fun h => ⟨?_, hs.most, hs.last, fun i hi hf => ?_, h⟩⟩
  · show s.full.length = (s.data.set a.toNat b).length
    rw [List.length_set]; exact hs.len
  · have hne : a.toNat ≠ i := fun e => by
      have h1 := hh.2.2
      have h2 : fa s i = false := hf
      rw [e, h2] at h1; cases h1
    show (s.data.set a.toNat b).getD i [] = []
    rw [getD_set_ne _ _ _ hne]
    exact hs.none i hi hf
end Sl

/-- A text cloned and put in another's place: what the operations left. -/
def PpF (P : Nat) (a : Int) (k g n c : Nat) (bv : Value) (i : Nat) (v : Value) (_ : World) : Prop :=
  match i with
  | 0 => v = .pointer (some ⟨P, 3, none⟩)
  | 1 => v = .slice (some ⟨g, 0, none⟩) n c
  | 2 => v = .int .i64 a
  | 3 => v = bv
  | 5 => v = .pointer (some ⟨g, k, none⟩)
  | _ => True

set_option maxHeartbeats 3200000 in
set_option maxRecDepth 20000 in
theorem pPut_far (fv dv m : Value) (s : Sl.S) (a : Int) (b : List Nat) (w : World) (h : SlAt w fv dv s) (hs : Sl.Small s) (hB : Bts w m b) (hb : b.length ≤ 1000) :
    Calls Try.prog 21 #[SlV s.kind s.next fv dv, .int .i64 a, m] w fun e w' => ∃ fv' dv', e = .returned (.tuple #[SlV (Sl.putR s a b).1.kind (Sl.putR s a b).1.next fv' dv', .int .i64 ((Sl.putR s a b).2 : Int)]) ∧ SlFar w.heap.size w' fv' dv' (Sl.putR s a b).1 ∧ Below w.heap.size w w' := by
  obtain ⟨V, hV⟩ : ∃ V, V = (w.alloc (sobj s.kind s.next fv dv)).alloc zobj := ⟨_, rfl⟩
  have hst := st_of h
  rw [← hV] at hst
  obtain ⟨p1, c1, p2, c2, rfl, rfl⟩ := slv_slices h
  unfold sobj zobj nilS at hV
  have HST := Lib.hid hst
  obtain ⟨P, hP⟩ : ∃ P, P = w.heap.size := ⟨_, rfl⟩
  obtain ⟨R, hR⟩ : ∃ R, R = P + 1 := ⟨_, rfl⟩
  have HNE : Hid (P ≠ R) := show P ≠ R by omega
  rw [← hP, ← hR] at HST
  obtain ⟨q0, q1, q2, q3⟩ := four_cell HST.out.par
  have HBV := Lib.hid hB
  obtain ⟨pm, cm, rfl, -, -, -⟩ := hB.form
  have HSM := Lib.hid hs
  have HBL := Lib.hid hb
  have HSD := Lib.hid (fun W' (hb : Below V.heap.size V W') => stands_any _ _ s a W' (HST.out.later hb).at_ hs)
  obtain ⟨rr, hrr⟩ : ∃ rr, rr = Sl.putR s a b := ⟨_, rfl⟩
  rw [← hrr]
  have HRR := Lib.hid hrr
  clear h hs hb hB hst hrr
  go_enter Try.func21, Try.ntmps21
  go_upto_region 1 with (fail)
  rw [← hV, ← hP, ← hR]
  clear hV hP hR
  by_cases hok : Sl.May s ∧ Sl.has s a
  · obtain ⟨hmy, hh⟩ := hok
    have HMY := Lib.hid hmy
    have HH := Lib.hid hh
    obtain ⟨hlt, h0, hi, hif⟩ := Sl.has_in hmy hh
    have hsd := HSD.out V (Below.refl _ _)
    rw [Sl.stand_ok hmy hh] at hsd
    clear hmy hh HSD
    go_wp2_with fail
    refine hsd.mono ?_
    rintro e w2 ⟨rfl, hb2⟩
    have HST2 := Lib.hid (HST.out.later hb2)
    clear hsd hb2 q0 q1 q2 q3
    obtain ⟨q0, q1, q2, q3⟩ := four_cell HST2.out.par
    have HSP := Lib.hid (fun n => calls_quiet (spare_any _ _ (w2.drewN n) (HST2.out.at_.drewN n).data (by have := HSM.out.d; omega) (by have := HSM.out.t; omega)))
    rw [Sl.spare_ge HMY.out.fit] at HSP
    obtain ⟨p, cap, hpc, -, -, hform⟩ := HST2.out.at_.data.form2
    simp only [Value.slice.injEq] at hpc
    obtain ⟨rfl, -, rfl⟩ := hpc
    obtain ⟨bd, od, rfl, hc⟩ := hform (by omega)
    obtain ⟨q, c, hu, hbt⟩ := hc a.toNat hlt
    have htp := Sl.took_put (s := s) (a := a.toNat) b hlt
    have hda : Sl.da s a.toNat = s.data.getD a.toNat [] := rfl
    have hft := HMY.out.fit
    have hbl := HBL.out
    have hdl : (s.data.getD a.toNat []).length ≤ 500 := by have h1 := Sl.tot_ge hlt; unfold Sl.took at hft; omega
    rw [hda] at htp
    have hw1 := IntWalk.i64_in (500 - (Sl.took s : Int) + ((s.data.getD a.toNat []).length : Int)) (by omega)
    have HSTN : Hid (∀ n, St w (w2.drewN n) P R s (.slice p1 s.full.length c1) (.slice (some ⟨bd, od, none⟩) s.data.length c2)) := fun n => HST2.out.later (below_drewN _ _ n)
    have HLT := Lib.hid hlt
    have HI := Lib.hid hi
    have HIF := Lib.hid hif
    clear hform hc hbt hda
    by_cases hfit : (b.length : Int) ≤ 500 - (Sl.took s : Int) + ((s.data.getD a.toNat []).length : Int)
    · have HV : Hid (rr = (Sl.put s a.toNat b, 0)) := by
        show rr = _
        rw [HRR.out]
        unfold Sl.putR
        rw [Sl.ifP_pos HMY.out, Sl.ifP_pos HH.out, Sl.ifP_pos ((Sl.May.puts HMY.out HH.out b).2 (by omega))]
      have hfi : ¬ 500 - (Sl.took s : Int) + ((s.data.getD a.toNat []).length : Int) < (b.length : Int) := by omega
      clear hfit htp hlt hif hft hdl hbl
      generalize (s.data.getD a.toNat []).length = dl at *
      generalize Sl.took s = tk at *
      go_upto_region 4 with (fail)
      go_quiet ((with_reducible first | (go_at_call 30; exact HSP.out _)))
      have HST3 := Lib.hid (HSTN.out nq)
      clear hu HSP HSTN q0 q1 q2 q3 hw1
      generalize w2.drewN nq = W3 at *
      obtain ⟨q0, q1, q2, q3⟩ := four_cell HST3.out.par
      have HTW := Lib.hid (twin_any _ _ s W3 HST3.out.at_ HSM.out)
      go_wp2_with fail
      refine (HTW.out).mono ?_
      rintro e w4 ⟨fv4, dv4, vs4, rfl, hso, hb4⟩
      have HSO := Lib.hid hso
      have HST4 := Lib.hid (HST3.out.later hb4)
      obtain ⟨pf, cf, rfl⟩ := bo_slice hso.full
      obtain ⟨pd, nd, cd, rfl⟩ := sv_slice hso.data.own
      obtain ⟨gd, rfl, hgd, rfl⟩ := down_some HSO.out.data (by have := HLT.out; omega)
      obtain ⟨gf, rfl, hgf, hnf⟩ := bown_some HSO.out.full (by have := HIF.out; omega)
      clear hso HTW q0 q1 q2 q3 hnf
      obtain ⟨q0, q1, q2, q3⟩ := four_cell HST4.out.par
      obtain ⟨f0, f1, f2, f3⟩ : _ ∧ _ ∧ _ ∧ _ := ⟨four_free HST4.out.par 0, four_free HST4.out.par 1, four_free HST4.out.par 2, four_free HST4.out.par 3⟩
      obtain ⟨hst5, hso5, hg5⟩ := HST4.out.own HNE.out HSO.out
      have hg2 : W3.heap.size ≤ w4.heap.size := hb4.size
      obtain ⟨W5, hW5⟩ : ∃ W5, W5 = ((((w4.setCell ⟨P, 0, none⟩ (.int .u8 (s.kind : Int))).setCell ⟨P, 1, none⟩ (.int .u32 (s.next : Int))).setCell ⟨P, 2, none⟩ (.slice (some ⟨gf, 0, none⟩) (FB s.full).length cf)).setCell ⟨P, 3, none⟩ (.slice (some ⟨gd, 0, none⟩) s.data.length cd)) := ⟨_, rfl⟩
      rw [← hW5] at hst5 hso5 hg5
      have HST5 := Lib.hid hst5
      have HSO5 := Lib.hid hso5
      have HGF : Hid (W3.heap.size ≤ gf) := hgf
      have HGD : Hid (W3.heap.size ≤ gd) := hgd
      have HBIG : Hid (W3.heap.size ≤ W5.heap.size) := Nat.le_trans hg2 hg5.size
      have HPR : Hid (P < W3.heap.size ∧ R < W3.heap.size) := ⟨lt_of_block HST3.out.par, lt_of_block HST3.out.ans⟩
      have HW5 : Hid (∀ w', Below W3.heap.size W5 w' → Below w.heap.size w w') := fun w' hb => HST5.out.bel.trans (hb.mono HST3.out.bel.size)
      have HX5 : Hid (∀ w', Below W3.heap.size W5 w' → w'.heap[P]? = some (.cells #[.int .u8 (s.kind : Int), .int .u32 (s.next : Int), .slice (some ⟨gf, 0, none⟩) (FB s.full).length cf, .slice (some ⟨gd, 0, none⟩) s.data.length cd] 26 (0, 0))) := fun w' hb => by rw [hb.block _ HPR.out.1]; exact HST5.out.par
      have HSTL : Hid (∀ w', Below W3.heap.size W5 w' → w'.heap[P]? = W5.heap[P]? ∧ w'.heap[R]? = W5.heap[R]?) := fun w' hb => ⟨hb.block _ HPR.out.1, hb.block _ HPR.out.2⟩
      clear hb4 hg2 hgf hgd hst5 hso5 hg5
      go_upto_region 7 with (fail)
      rw [← hW5]
      clear hW5 q0 q1 q2 q3 f0 f1 f2 f3
      refine Ord.walk (PpF P a a.toNat gd s.data.length cd (.slice pm b.length cm)) (PsR 4 99 6 W3.heap.size a.toNat true gf (FB s.full).length cf gd s.data.length cd s.full vs4 s.data b W5) (fun _ _ => True)
        (by kernel_rfl) (by kernel_rfl) ?fr ?hfr (fun _ _ _ _ _ h => h) (fun xs => PsR.first xs HBIG.out HGF.out HGD.out HSO5.out.full HSO5.out.data) ?he ?hend
      case hfr =>
        intro xs
        simp only [Ord.fill, Act.put, List.setIfInBounds_toArray, List.set_cons_zero, List.set_cons_succ]
        rfl
      case he =>
        refine Ord.each_cons (fun D xs w2 hD hC hP hR hA K hK => ?_) ?_
        · -- 0
          clear hA
          go_simp
          exact hK _ _ ⟨_, rfl, trivial, hR.skip _ (by decide), rfl⟩
        refine Ord.each_cons (fun D xs w2 hD hC hP hR hA K hK => ?_) ?_
        · -- 1
          have q0 := Ord.ahead_get _ hA 0 (by decide)
          simp only [PpF] at q0
          simp only [q0] at hK
          clear hA
          obtain ⟨x0, x1, x2, x3⟩ := four_cell (HX5.out w2 hR.bel)
          go_simp
          exact hK _ _ ⟨_, rfl, trivial, hR.skip _ (by decide), rfl⟩
        refine Ord.each_cons (fun D xs w2 hD hC hP hR hA K hK => ?_) ?_
        · -- 2
          clear hA
          go_simp
          exact hK _ _ ⟨_, rfl, trivial, hR.skip _ (by decide), rfl⟩
        refine Ord.each_cons (fun D xs w2 hD hC hP hR hA K hK => ?_) ?_
        · -- 3
          clear hA
          go_simp
          exact hK _ _ ⟨_, rfl, trivial, hR.skip _ (by decide), rfl⟩
        refine Ord.each_cons (fun D xs w2 hD hC hP hR hA K hK => ?_) ?_
        · -- 4
          have q3 := Ord.ahead_get _ hA 3 (by decide)
          simp only [PpF] at q3
          simp only [q3] at hK
          clear hA
          have h6 : D 6 = false := by
            cases h : D 6
            · rfl
            · have := Ord.closed_at hC 6 4 (by kernel_rfl) h
              rw [hD] at this; cases this
          go_simp
          refine (clone_any _ _ w2 (HBV.out.below (HW5.out w2 hR.bel))).mono ?_
          rintro e w' ⟨u, rfl, hO, hb⟩
          exact hK _ _ ⟨_, rfl, trivial, hR.call (by decide) h6 hO hb, trivial⟩
        refine Ord.each_cons (fun D xs w2 hD hC hP hR hA K hK => ?_) ?_
        · -- 5
          have q1 := Ord.ahead_get _ hA 1 (by decide)
          simp only [PpF] at q1
          have q2 := Ord.ahead_get _ hA 2 (by decide)
          simp only [PpF] at q2
          simp only [q1, q2] at hK
          clear hA
          have hk1 : (0 : Int) ≤ a := HH.out.1
          have hk2 : a < (s.data.length : Int) := HI.out
          go_simp
          exact hK _ _ ⟨_, rfl, trivial, hR.skip _ (by decide), rfl⟩
        refine Ord.each_cons (fun D xs w2 hD hC hP hR hA K hK => ?_) ?_
        · -- 6
          have q5 := Ord.ahead_get _ hA 5 (by decide)
          simp only [PpF] at q5
          simp only [q5] at hK
          clear hA
          have h4 : D 4 = true := hP { on := 4, ground := .data } (by simp) rfl
          obtain ⟨p5, n5, e5⟩ := own_slv (hR.cl h4 hD)
          obtain ⟨c0, f0⟩ := (hR.old hD).cellAt HLT.out
          have hst := hR.text (u := undef) (by decide) h4 hD
          rw [e5] at hst
          simp only [e5] at hK
          go_simp
          exact hK _ _ ⟨_, rfl, trivial, hst, trivial⟩
        exact Ord.each_nil
      case hend =>
        intro D6 xs6 w6 hR6 hF6
        have hd6 := hR6.new (hF6 6 (by decide)).1
        have hb6 := hR6.bel
        have hf6 := hR6.f0 (hR6.never rfl)
        have HS6 : Hid (SlOwn W3.heap.size w6 (.slice (some ⟨gf, 0, none⟩) (FB s.full).length cf) (.slice (some ⟨gd, 0, none⟩) s.data.length cd) (vs4.set a.toNat (xs6 4)) (Sl.put s a.toNat b)) := ⟨hf6, hd6, HSO5.out.kind, HSO5.out.next⟩
        have HST6 := Lib.hid (HST5.out.turn (s' := Sl.put s a.toNat b) rfl rfl (HSTL.out w6 hb6).1 (HSTL.out w6 hb6).2 HS6.out.at (HW5.out w6 hb6))
        clear hd6 hb6 hf6 hR6 hF6
        generalize xs6 0 = t0 at *
        generalize xs6 1 = t1 at *
        generalize xs6 2 = t2 at *
        generalize xs6 3 = t3 at *
        generalize xs6 4 = t4 at *
        generalize xs6 5 = t5 at *
        generalize xs6 6 = t6 at *
        obtain ⟨q0, q1, q2, q3⟩ := four_cell HST6.out.par
        change _ = some (Value.int .u8 (s.kind : Int)) at q0
        change _ = some (Value.int .u32 (s.next : Int)) at q1
        obtain ⟨f0, f1, f2, f3⟩ : _ ∧ _ ∧ _ ∧ _ := ⟨four_free (HST6.out).ans 0, four_free (HST6.out).ans 1, four_free (HST6.out).ans 2, four_free (HST6.out).ans 3⟩
        obtain ⟨g0, g1, g2, g3⟩ := four_cell (HST6.out).ans
        obtain ⟨d1, d2, d3⟩ := (HST6.out).done (.int .u8 (s.kind : Int)) (.int .u32 (s.next : Int)) (.slice (some ⟨gf, 0, none⟩) (FB s.full).length cf) (.slice (some ⟨gd, 0, none⟩) s.data.length cd)
        obtain ⟨r0, r1, r2, r3⟩ := four_cell d1
        have D2 := Lib.hid d2
        have D3 := Lib.hid d3
        clear d1 d2 d3
        go_wp2_with fail
        refine bodyPost_ret (v := .tuple #[SlV s.kind s.next (.slice (some ⟨gf, 0, none⟩) (FB s.full).length cf) (.slice (some ⟨gd, 0, none⟩) s.data.length cd), .int .i64 0]) (by simp [results, Try.results21, go_sem, r0, r1, r2, r3]) rfl ?_
        refine ⟨_, _, by rw [HV.out]; rfl, ?_, D3.out⟩
        rw [HV.out]
        exact (HS6.out.blk HST6.out.ans D2.out).frm HST3.out.bel.size
    · have HV : Hid (rr = (Sl.none_, 5)) := by
        show rr = _
        rw [HRR.out]
        unfold Sl.putR
        rw [Sl.ifP_pos HMY.out, Sl.ifP_pos HH.out, Sl.ifP_neg (fun hh => by have := (Sl.May.puts HMY.out HH.out b).1 hh; omega)]
      have hfi : 500 - (Sl.took s : Int) + ((s.data.getD a.toNat []).length : Int) < (b.length : Int) := by omega
      clear hfit htp hlt hif hft hdl hbl
      generalize (s.data.getD a.toNat []).length = dl at *
      generalize Sl.took s = tk at *
      go_upto_region 4 with (fail)
      go_quiet ((with_reducible first | (go_at_call 30; exact HSP.out _)))
      have HST3 := Lib.hid (HSTN.out nq)
      clear hu HSP HSTN q0 q1 q2 q3 hw1
      generalize w2.drewN nq = W3 at *
      obtain ⟨f0, f1, f2, f3⟩ : _ ∧ _ ∧ _ ∧ _ := ⟨four_free (HST3.out).ans 0, four_free (HST3.out).ans 1, four_free (HST3.out).ans 2, four_free (HST3.out).ans 3⟩
      obtain ⟨g0, g1, g2, g3⟩ := four_cell (HST3.out).ans
      obtain ⟨d1, d2, d3⟩ := (HST3.out).done (.int .u8 0) (.int .u32 0) nilS nilS
      obtain ⟨r0, r1, r2, r3⟩ := four_cell d1
      have D2 := Lib.hid d2
      have D3 := Lib.hid d3
      clear d1 d2 d3
      go_wp2_with fail
      refine bodyPost_ret (v := .tuple #[SlV 0 0 nilS nilS, .int .i64 5]) (by simp [results, Try.results21, go_sem, r0, r1, r2, r3]) rfl ?_
      refine ⟨nilS, nilS, by rw [HV.out]; rfl, ?_, D3.out⟩
      rw [HV.out]
      exact slfar_none _ _
  · obtain ⟨er, her, hrr⟩ : ∃ er : Nat, Sl.standN s a = er ∧ rr = (Sl.none_, er) ∧ er ≠ 0 := by
      rw [HRR.out]
      by_cases hmy : Sl.May s
      · have hh : ¬ Sl.has s a := fun hh => hok ⟨hmy, hh⟩
        refine ⟨7, Sl.stand_none hmy hh, ?_, by decide⟩
        unfold Sl.putR
        rw [Sl.ifP_pos hmy, Sl.ifP_neg hh]
      · refine ⟨2, Sl.stand_arg hmy, ?_, by decide⟩
        unfold Sl.putR
        rw [Sl.ifP_neg hmy]
    obtain ⟨hr1, hr2⟩ := hrr
    have HV := Lib.hid hr1
    have hx : ((er : Int) != 0) = true := by simp; omega
    have hsd := HSD.out V (Below.refl _ _)
    rw [her] at hsd
    clear her hok hr1 hr2
    go_wp2_with fail
    refine hsd.mono ?_
    rintro e w2 ⟨rfl, hb2⟩
    have HB3 := Lib.hid hb2
    clear hsd hb2 q0 q1 q2 q3
    obtain ⟨f0, f1, f2, f3⟩ : _ ∧ _ ∧ _ ∧ _ := ⟨four_free (HST.out.later HB3.out).ans 0, four_free (HST.out.later HB3.out).ans 1, four_free (HST.out.later HB3.out).ans 2, four_free (HST.out.later HB3.out).ans 3⟩
    obtain ⟨g0, g1, g2, g3⟩ := four_cell (HST.out.later HB3.out).ans
    obtain ⟨d1, d2, d3⟩ := (HST.out.later HB3.out).done (.int .u8 0) (.int .u32 0) nilS nilS
    obtain ⟨r0, r1, r2, r3⟩ := four_cell d1
    have D2 := Lib.hid d2
    have D3 := Lib.hid d3
    clear d1 d2 d3
    go_wp2_with fail
    refine bodyPost_ret (v := .tuple #[SlV 0 0 nilS nilS, .int .i64 (er : Int)]) (by simp [results, Try.results21, go_sem, r0, r1, r2, r3]) rfl ?_
    refine ⟨nilS, nilS, by rw [HV.out]; rfl, ?_, D3.out⟩
    rw [HV.out]
    exact slfar_none _ _
theorem pPut_any (fv dv m : Value) (s : Sl.S) (a : Int) (b : List Nat) (w : World) (h : SlAt w fv dv s) (hs : Sl.Small s) (hB : Bts w m b) (hb : b.length ≤ 1000) :
    Calls Try.prog 21 #[SlV s.kind s.next fv dv, .int .i64 a, m] w fun e w' => ∃ fv' dv', e = .returned (.tuple #[SlV (Sl.putR s a b).1.kind (Sl.putR s a b).1.next fv' dv', .int .i64 ((Sl.putR s a b).2 : Int)]) ∧ SlAt w' fv' dv' (Sl.putR s a b).1 ∧ Below w.heap.size w w' :=
  (pPut_far fv dv m s a b w h hs hB hb).mono fun _ _ ⟨f, d, h1, h2, h3⟩ => ⟨f, d, h1, h2.at, h3⟩
end Go.Proofs.Ytbfpmpomcaijcaa
