/- What the document's Put of slots answers. Conditions: the values read as a body and bytes. -/
import Derived.Test.YtbfpmpomcaijcaaSlFar
namespace Go.Proofs.Ytbfpmpomcaijcaa
open Go.RowKit

theorem slat_none (w : World) : SlAt w nilS nilS Sl.none_ := ⟨(Bo.own_nil 0 w).bts, (down_nil 0 w).at, by decide, by decide⟩

/-- A text copied and put in another's place: what the operations left. -/
def P6F (O : Nat) (a : Int) (k g n c : Nat) (pb : Option Addr) (bl cp : Nat) (i : Nat) (v : Value) (_ : World) : Prop :=
  match i with
  | 0 => v = .pointer (some ⟨O, 3, none⟩)
  | 1 => v = .slice (some ⟨g, 0, none⟩) n c
  | 2 => v = .int .i64 a
  | 4 => v = .slice pb bl cp
  | 6 => v = .pointer (some ⟨g, k, none⟩)
  | _ => True

set_option maxHeartbeats 3200000 in
set_option maxRecDepth 20000 in
theorem refPut_far (fv dv m : Value) (s : Sl.S) (a : Int) (b : List Nat) (w : World) (h : SlAt w fv dv s) (hs : Sl.Small s) (hB : Bts w m b) (hb : b.length ≤ 1000) :
    Calls Try.prog 22 #[SlV s.kind s.next fv dv, .int .i64 a, m] w fun e w' => ∃ fv' dv', e = .returned (.tuple #[SlV (Sl.putR s a b).1.kind (Sl.putR s a b).1.next fv' dv', .int .i64 ((Sl.putR s a b).2 : Int)]) ∧ SlFar w.heap.size w' fv' dv' (Sl.putR s a b).1 ∧ Below w.heap.size w w' := by
  have hBl := hB.len
  obtain ⟨V, hV⟩ : ∃ V, V = (w.alloc (sobj s.kind s.next fv dv)).alloc zobj := ⟨_, rfl⟩
  have hst := st_of h
  rw [← hV] at hst
  obtain ⟨p1, c1, p2, c2, rfl, rfl⟩ := slv_slices h
  unfold sobj zobj nilS at hV
  have HST := Lib.hid hst
  obtain ⟨P, hP⟩ : ∃ P, P = w.heap.size := ⟨_, rfl⟩
  obtain ⟨R, hR⟩ : ∃ R, R = P + 1 := ⟨_, rfl⟩
  rw [← hP, ← hR] at HST
  obtain ⟨q0, q1, q2, q3⟩ := four_cell HST.out.par
  have HBV := Lib.hid (hB.below hst.bel)
  obtain ⟨pm, cm, rfl, -, -, -⟩ := hB.form
  have HSM := Lib.hid hs
  have HBL := Lib.hid hb
  have HMA := Lib.hid (fun W' (hb : Below V.heap.size V W') => refMay_any _ _ s W' (HST.out.later hb).at_ hs.took hs.full)
  have HHA := Lib.hid (fun W' (hb : Below V.heap.size V W') => refHas_any _ _ s a W' (HST.out.later hb).at_)
  have HCA := Lib.hid (fun W' (hb : Below V.heap.size V W') => refCopy_any _ _ s W' (HST.out.later hb).at_ hs.took hs.full)
  have HP := Lib.hid hP
  have HR := Lib.hid hR
  obtain ⟨rr, hrr⟩ : ∃ rr, rr = Sl.putR s a b := ⟨_, rfl⟩
  rw [← hrr]
  have HRR := Lib.hid hrr
  clear h hs hb hB hst hrr hBl
  go_enter Try.func22, Try.ntmps22
  go_upto_region 1 with (fail)
  rw [← hV, ← hP, ← hR]
  clear hV hP hR
  by_cases hmy : Sl.May s
  · have HMY := Lib.hid hmy
    have hma := HMA.out V (Below.refl _ _)
    rw [Sl.may_true hmy] at hma
    clear hmy HMA
    go_wp2_with fail
    refine hma.mono ?_
    rintro e w2 ⟨rfl, hb2⟩
    clear hma q0 q1 q2 q3
    obtain ⟨q0, q1, q2, q3⟩ := four_cell (HST.out.later hb2).par
    have HB2 := Lib.hid hb2
    clear hb2
    go_wp2_with fail
    refine (HHA.out w2 HB2.out).mono ?_
    rintro e w3 ⟨rfl, hb3⟩
    have HB3 := Lib.hid (HB2.out.trans (hb3.mono HB2.out.size))
    clear hb3 HHA q0 q1 q2 q3
    obtain ⟨q0, q1, q2, q3⟩ := four_cell (HST.out.later HB3.out).par
    by_cases hh : Sl.has s a
    · rw [decide_eq_true hh]
      have HH := Lib.hid hh
      clear hh
      go_wp2_with fail
      refine (HCA.out w3 HB3.out).mono ?_
      rintro e w4 ⟨fv4, dv4, vs4, rfl, hso, hb4⟩
      have HSO := Lib.hid hso
      have HB4 := Lib.hid hb4
      have HW4 := Lib.hid (HB3.out.trans (hb4.mono HB3.out.size))
      obtain ⟨pf, cf, rfl⟩ := bo_slice hso.full
      obtain ⟨pd, nd, cd, rfl⟩ := sv_slice hso.data.own
      clear hso hb4 HCA q0 q1 q2 q3
      have hk1 : a.toNat < s.data.length := by have h1 := HMY.out.len; have h2 := HH.out.1; have h3 := HH.out.2.1; omega
      obtain ⟨gd, rfl, hgd, rfl⟩ := down_some HSO.out.data (by omega)
      have HGD : Hid (w3.heap.size ≤ gd) := hgd
      obtain ⟨k, hkk⟩ : ∃ k, k = a.toNat := ⟨_, rfl⟩
      rw [← hkk] at hk1
      have HKK := Lib.hid hkk
      have HK1 := Lib.hid hk1
      clear hgd hkk hk1
      obtain ⟨W5, hW5⟩ : ∃ W5, W5 = w4.alloc (.cells #[.int .u8 (s.kind : Int), .int .u32 (s.next : Int), .slice pf (FB s.full).length cf, .slice (some ⟨gd, 0, none⟩) s.data.length cd] 26) := ⟨_, rfl⟩
      have hb5 : Below w4.heap.size w4 W5 := by rw [hW5]; exact below_new _ _
      have hx5 : W5.heap[w4.heap.size]? = some (.cells #[.int .u8 (s.kind : Int), .int .u32 (s.next : Int), .slice pf (FB s.full).length cf, .slice (some ⟨gd, 0, none⟩) s.data.length cd] 26 (0, 0)) := by rw [hW5]; exact heap_alloc_last _ _
      have HSO5 := Lib.hid (HSO.out.below hb5)
      have HW5 := Lib.hid (HW4.out.trans (hb5.mono HW4.out.size))
      have HS35 : Hid (w3.heap.size ≤ W5.heap.size) := Nat.le_trans HB4.out.size hb5.size
      go_upto_region 6 with (fail)
      rw [← hW5]
      obtain ⟨O, hO⟩ : ∃ O, O = w4.heap.size := ⟨_, rfl⟩
      rw [← hO] at hx5 ⊢
      have HX5 := Lib.hid hx5
      clear hW5 hb5 hx5 hO
      refine Ord.walk (P6F O a k gd s.data.length cd pm b.length cm) (P6R w3.heap.size O k (.int .u8 (s.kind : Int)) (.int .u32 (s.next : Int)) (.slice pf (FB s.full).length cf) gd s.data.length cd s.full vs4 s.data b W5) (fun _ _ => True)
        (by kernel_rfl) (by kernel_rfl) ?fr ?hfr (fun _ _ _ _ _ h => h) (fun xs => P6R.first xs HS35.out HSO5.out.full HX5.out HSO5.out.data) ?he ?hend
      case hfr =>
        intro xs
        simp only [Ord.fill, Act.put, List.setIfInBounds_toArray, List.set_cons_zero, List.set_cons_succ]
        rfl
      case he =>
        refine Ord.each_cons (fun D xs w2 hD hC hP hR hA K hK => ?_) ?_
        · -- 0
          clear hA
          go_simp
          exact hK _ _ ⟨_, rfl, trivial, hR.skip _ (by decide), rfl⟩
        refine Ord.each_cons (fun D xs w2 hD hC hP hR hA K hK => ?_) ?_
        · -- 1
          have q0 := Ord.ahead_get _ hA 0 (by decide)
          simp only [P6F] at q0
          simp only [q0] at hK
          clear hA
          obtain ⟨x0, x1, x2, x3⟩ := four_cell hR.blk
          go_simp
          exact hK _ _ ⟨_, rfl, trivial, hR.skip _ (by decide), rfl⟩
        refine Ord.each_cons (fun D xs w2 hD hC hP hR hA K hK => ?_) ?_
        · -- 2
          clear hA
          go_simp
          exact hK _ _ ⟨_, rfl, trivial, hR.skip _ (by decide), rfl⟩
        refine Ord.each_cons (fun D xs w2 hD hC hP hR hA K hK => ?_) ?_
        · -- 3
          clear hA
          have h5 : D 5 = false := by
            cases h : D 5
            · rfl
            · have := Ord.closed_at hC 5 3 (by kernel_rfl) h
              rw [hD] at this; cases this
          go_simp
          exact hK _ _ ⟨_, rfl, trivial, hR.op3 rfl, trivial⟩
        refine Ord.each_cons (fun D xs w2 hD hC hP hR hA K hK => ?_) ?_
        · -- 4
          clear hA
          go_simp
          exact hK _ _ ⟨_, rfl, trivial, hR.skip _ (by decide), rfl⟩
        refine Ord.each_cons (fun D xs w2 hD hC hP hR hA K hK => ?_) ?_
        · -- 5
          have q4 := Ord.ahead_get _ hA 4 (by decide)
          simp only [P6F] at q4
          clear hA
          have h3 : D 3 = true := hP { on := 3, ground := .data } (by simp) rfl
          have h7 : D 7 = false := by
            cases h : D 7
            · rfl
            · have := Ord.closed_at hC 7 5 (by kernel_rfl) h
              rw [hD] at this; cases this
          refine wp_append_Own (.tmp 25) (.tmp 26) rfl W5.heap.size (xs 3) [] rfl (hR.a3 h3 hD) _ b (by rw [← q4]; rfl) (HBV.out.below (HW5.out.trans (hR.bel.mono (Nat.le_trans HB3.out.size (Nat.le_refl _))))) (by rw [List.length_nil]; have := HBL.out; omega) hR.bel.size ?_
          intro u w' hO2 hb2 hg2
          rw [List.nil_append] at hO2
          exact hK _ _ ⟨_, rfl, trivial, hR.op5 h3 hD h7 hO2 hg2 hb2, trivial⟩
        refine Ord.each_cons (fun D xs w2 hD hC hP hR hA K hK => ?_) ?_
        · -- 6
          have q1 := Ord.ahead_get _ hA 1 (by decide)
          simp only [P6F] at q1
          have q2 := Ord.ahead_get _ hA 2 (by decide)
          simp only [P6F] at q2
          simp only [q1, q2] at hK
          clear hA
          have hk1 : (0 : Int) ≤ a := HH.out.1
          have hk2 : a < (s.data.length : Int) := by have h1 := HK1.out; have h2 := HKK.out; omega
          have hk3 : a.toNat = k := HKK.out.symm
          go_simp
          try rw [hk3]
          exact hK _ _ ⟨_, rfl, trivial, hR.skip _ (by decide), rfl⟩
        refine Ord.each_cons (fun D xs w2 hD hC hP hR hA K hK => ?_) ?_
        · -- 7
          have q6 := Ord.ahead_get _ hA 6 (by decide)
          simp only [P6F] at q6
          simp only [q6] at hK
          clear hA
          have h5 : D 5 = true := hP { on := 5, ground := .data } (by simp) rfl
          obtain ⟨p5, n5, e5⟩ := own_slv (hR.a5 h5 hD)
          obtain ⟨c0, f0⟩ := (hR.old hD).cellAt HK1.out
          have hst := hR.op7 (u := undef) h5 hD HGD.out
          rw [e5] at hst
          simp only [e5] at hK
          go_simp
          exact hK _ _ ⟨_, rfl, trivial, hst, trivial⟩
        exact Ord.each_nil
      case hend =>
        intro D6 xs6 w6 hR6 hF6
        have hd6 := hR6.a7 (hF6 7 (by decide)).1
        have hb6 := hR6.bel
        have HX6 := Lib.hid hR6.blk
        have HS6 : Hid (SlOwn w3.heap.size w6 (.slice pf (FB s.full).length cf) (.slice (some ⟨gd, 0, none⟩) s.data.length cd) (vs4.set k (xs6 5)) (Sl.put s k b)) := ⟨hR6.full, hd6, HSO5.out.kind, HSO5.out.next⟩
        have HW6 := Lib.hid (HW5.out.trans (hb6.mono (Nat.le_trans HB3.out.size (Nat.le_refl _))))
        clear hd6 hb6 hR6 hF6
        generalize xs6 0 = t0 at *
        generalize xs6 1 = t1 at *
        generalize xs6 2 = t2 at *
        generalize xs6 3 = t3 at *
        generalize xs6 4 = t4 at *
        generalize xs6 5 = t5 at *
        generalize xs6 6 = t6 at *
        generalize xs6 7 = t7 at *
        have htk := Sl.took_put (s := s) (a := k) b HK1.out
        have hsm : Sl.took (Sl.put s k b) ≤ 1000000 := by
          have h1 := HSM.out.d
          have h2 := HSM.out.t
          have h3 := HBL.out
          have h4 : Sl.took s = 6 + 2 * s.data.length + Sl.tot s.data := rfl
          omega
        have hmc := refMay_any _ _ _ w6 HS6.out.at hsm HSM.out.full
        have HMC := Lib.hid hmc
        obtain ⟨q0, q1, q2, q3⟩ := four_cell HX6.out
        have hlen : (Sl.put s k b).full.length = s.full.length := rfl
        clear htk hsm hmc hlen
        by_cases hm2 : Sl.May (Sl.put s k b)
        · have HV : Hid (rr = (Sl.put s k b, 0)) := by
            show rr = _
            rw [HRR.out]
            unfold Sl.putR
            rw [Sl.ifP_pos HMY.out, Sl.ifP_pos HH.out, ← HKK.out, Sl.ifP_pos hm2]
          rw [Sl.may_true hm2] at HMC
          clear hm2
          go_wp2_with fail
          refine HMC.out.mono ?_
          rintro e w7 ⟨rfl, hb7⟩
          clear q0 q1 q2 q3
          have hx7 := hb7.block O (lt_of_block HX6.out)
          rw [HX6.out] at hx7
          obtain ⟨q0, q1, q2, q3⟩ := four_cell hx7
          have HS7 := Lib.hid (HS6.out.below hb7)
          have HW7 := Lib.hid (HW6.out.trans (hb7.mono HW6.out.size))
          have HR7 := Lib.hid (HST.out.later HW7.out).ans
          clear hb7 hx7 HMC
          obtain ⟨f0, f1, f2, f3⟩ : _ ∧ _ ∧ _ ∧ _ := ⟨four_free (HST.out.later HW7.out).ans 0, four_free (HST.out.later HW7.out).ans 1, four_free (HST.out.later HW7.out).ans 2, four_free (HST.out.later HW7.out).ans 3⟩
          obtain ⟨g0, g1, g2, g3⟩ := four_cell (HST.out.later HW7.out).ans
          obtain ⟨d1, d2, d3⟩ := (HST.out.later HW7.out).done (.int .u8 (s.kind : Int)) (.int .u32 (s.next : Int)) (.slice pf (FB s.full).length cf) (.slice (some ⟨gd, 0, none⟩) s.data.length cd)
          obtain ⟨r0, r1, r2, r3⟩ := four_cell d1
          have D2 := Lib.hid d2
          have D3 := Lib.hid d3
          clear d1 d2 d3
          go_wp2_with fail
          refine bodyPost_ret (v := .tuple #[SlV s.kind s.next (.slice pf (FB s.full).length cf) (.slice (some ⟨gd, 0, none⟩) s.data.length cd), .int .i64 0]) (by simp [results, Try.results22, go_sem, r0, r1, r2, r3]) rfl ?_
          refine ⟨_, _, by rw [HV.out]; rfl, ?_, D3.out⟩
          rw [HV.out]
          exact (HS7.out.blk HR7.out D2.out).frm (Nat.le_trans HST.out.bel.size HB3.out.size)
        · have HV : Hid (rr = (Sl.none_, 5)) := by
            show rr = _
            rw [HRR.out]
            unfold Sl.putR
            rw [Sl.ifP_pos HMY.out, Sl.ifP_pos HH.out, ← HKK.out, Sl.ifP_neg hm2]
          rw [Sl.may_false hm2] at HMC
          clear hm2
          go_wp2_with fail
          refine HMC.out.mono ?_
          rintro e w7 ⟨rfl, hb7⟩
          have HW7 := Lib.hid (HW6.out.trans (hb7.mono HW6.out.size))
          clear hb7 HMC q0 q1 q2 q3
          obtain ⟨f0, f1, f2, f3⟩ : _ ∧ _ ∧ _ ∧ _ := ⟨four_free (HST.out.later HW7.out).ans 0, four_free (HST.out.later HW7.out).ans 1, four_free (HST.out.later HW7.out).ans 2, four_free (HST.out.later HW7.out).ans 3⟩
          obtain ⟨g0, g1, g2, g3⟩ := four_cell (HST.out.later HW7.out).ans
          obtain ⟨d1, d2, d3⟩ := (HST.out.later HW7.out).done (.int .u8 0) (.int .u32 0) nilS nilS
          obtain ⟨r0, r1, r2, r3⟩ := four_cell d1
          have D2 := Lib.hid d2
          have D3 := Lib.hid d3
          clear d1 d2 d3
          go_wp2_with fail
          refine bodyPost_ret (v := .tuple #[SlV 0 0 nilS nilS, .int .i64 5]) (by simp [results, Try.results22, go_sem, r0, r1, r2, r3]) rfl ?_
          refine ⟨nilS, nilS, by rw [HV.out]; rfl, ?_, D3.out⟩
          rw [HV.out]
          exact slfar_none _ _
    · rw [decide_eq_false hh]
      have HV : Hid (rr = (Sl.none_, 7)) := by
        show rr = _
        rw [HRR.out]
        unfold Sl.putR
        rw [Sl.ifP_pos HMY.out, Sl.ifP_neg hh]
      clear hh
      obtain ⟨f0, f1, f2, f3⟩ : _ ∧ _ ∧ _ ∧ _ := ⟨four_free (HST.out.later HB3.out).ans 0, four_free (HST.out.later HB3.out).ans 1, four_free (HST.out.later HB3.out).ans 2, four_free (HST.out.later HB3.out).ans 3⟩
      obtain ⟨g0, g1, g2, g3⟩ := four_cell (HST.out.later HB3.out).ans
      obtain ⟨d1, d2, d3⟩ := (HST.out.later HB3.out).done (.int .u8 0) (.int .u32 0) nilS nilS
      obtain ⟨r0, r1, r2, r3⟩ := four_cell d1
      have D2 := Lib.hid d2
      have D3 := Lib.hid d3
      clear d1 d2 d3
      go_wp2_with fail
      refine bodyPost_ret (v := .tuple #[SlV 0 0 nilS nilS, .int .i64 7]) (by simp [results, Try.results22, go_sem, r0, r1, r2, r3]) rfl ?_
      refine ⟨nilS, nilS, by rw [HV.out]; rfl, ?_, D3.out⟩
      rw [HV.out]
      exact slfar_none _ _
  · have HV : Hid (rr = (Sl.none_, 2)) := by
      show rr = _
      rw [HRR.out]
      unfold Sl.putR
      rw [Sl.ifP_neg hmy]
    have hma := HMA.out V (Below.refl _ _)
    rw [Sl.may_false hmy] at hma
    clear hmy HMA
    go_wp2_with fail
    refine hma.mono ?_
    rintro e w2 ⟨rfl, hb2⟩
    have HB3 := Lib.hid hb2
    clear hma hb2 q0 q1 q2 q3
    obtain ⟨f0, f1, f2, f3⟩ : _ ∧ _ ∧ _ ∧ _ := ⟨four_free (HST.out.later HB3.out).ans 0, four_free (HST.out.later HB3.out).ans 1, four_free (HST.out.later HB3.out).ans 2, four_free (HST.out.later HB3.out).ans 3⟩
    obtain ⟨g0, g1, g2, g3⟩ := four_cell (HST.out.later HB3.out).ans
    obtain ⟨d1, d2, d3⟩ := (HST.out.later HB3.out).done (.int .u8 0) (.int .u32 0) nilS nilS
    obtain ⟨r0, r1, r2, r3⟩ := four_cell d1
    have D2 := Lib.hid d2
    have D3 := Lib.hid d3
    clear d1 d2 d3
    go_wp2_with fail
    refine bodyPost_ret (v := .tuple #[SlV 0 0 nilS nilS, .int .i64 2]) (by simp [results, Try.results22, go_sem, r0, r1, r2, r3]) rfl ?_
    refine ⟨nilS, nilS, by rw [HV.out]; rfl, ?_, D3.out⟩
    rw [HV.out]
    exact slfar_none _ _
theorem refPut_any (fv dv m : Value) (s : Sl.S) (a : Int) (b : List Nat) (w : World) (h : SlAt w fv dv s) (hs : Sl.Small s) (hB : Bts w m b) (hb : b.length ≤ 1000) :
    Calls Try.prog 22 #[SlV s.kind s.next fv dv, .int .i64 a, m] w fun e w' => ∃ fv' dv', e = .returned (.tuple #[SlV (Sl.putR s a b).1.kind (Sl.putR s a b).1.next fv' dv', .int .i64 ((Sl.putR s a b).2 : Int)]) ∧ SlAt w' fv' dv' (Sl.putR s a b).1 ∧ Below w.heap.size w w' :=
  (refPut_far fv dv m s a b w h hs hB hb).mono fun _ _ ⟨f, d, h1, h2, h3⟩ => ⟨f, d, h1, h2.at, h3⟩
end Go.Proofs.Ytbfpmpomcaijcaa
