/- What the document's Insert of slots answers. Conditions: the values read as a body and bytes. -/
import Derived.Test.YtbfpmpomcaijcaaSlDel
namespace Go.Proofs.Ytbfpmpomcaijcaa
open Go.RowKit

set_option maxHeartbeats 6400000 in
set_option maxRecDepth 20000 in
theorem refInsert_far (fv dv m : Value) (s : Sl.S) (b : List Nat) (w : World) (h : SlAt w fv dv s) (hs : Sl.Small s) (hB : Bts w m b) (hb : b.length ≤ 1000) :
    Calls Try.prog 20 #[SlV s.kind s.next fv dv, m] w fun e w' => ∃ fv' dv', e = .returned (.tuple #[SlV (Sl.insR s b).1.kind (Sl.insR s b).1.next fv' dv', .int .i64 ((Sl.insR s b).2.1 : Int), .int .i64 ((Sl.insR s b).2.2 : Int)]) ∧ SlFar w.heap.size w' fv' dv' (Sl.insR s b).1 ∧ Below w.heap.size w w' := by
  obtain ⟨V, hV⟩ : ∃ V, V = (w.alloc (sobj s.kind s.next fv dv)).alloc zobj := ⟨_, rfl⟩
  have hst := st_of h
  rw [← hV] at hst
  obtain ⟨p1, c1, p2, c2, rfl, rfl⟩ := slv_slices h
  unfold sobj zobj nilS at hV
  have HST := Lib.hid hst
  obtain ⟨P, hP⟩ : ∃ P, P = w.heap.size := ⟨_, rfl⟩
  obtain ⟨R, hR⟩ : ∃ R, R = P + 1 := ⟨_, rfl⟩
  rw [← hP, ← hR] at HST
  obtain ⟨q0, q1, q2, q3⟩ := four_cell HST.out.par
  have HBV := Lib.hid (hB.below hst.bel)
  obtain ⟨pm, cm, rfl, -, -, -⟩ := hB.form
  have HSM := Lib.hid hs
  have HBL := Lib.hid hb
  have HMA := Lib.hid (fun W' (hb : Below V.heap.size V W') => refMay_any _ _ s W' (HST.out.later hb).at_ hs.took hs.full)
  have HCA := Lib.hid (fun W' (hb : Below V.heap.size V W') => refCopy_any _ _ s W' (HST.out.later hb).at_ hs.took hs.full)
  have HP := Lib.hid hP
  have HR := Lib.hid hR
  obtain ⟨rr, hrr⟩ : ∃ rr, rr = Sl.insR s b := ⟨_, rfl⟩
  rw [← hrr]
  have HRR := Lib.hid hrr
  clear h hs hb hB hst hrr
  go_enter Try.func20, Try.ntmps20
  go_upto_region 1 with (fail)
  rw [← hV, ← hP, ← hR]
  clear hV hP hR
  by_cases hmy : Sl.May s
  · have HMY := Lib.hid hmy
    have hma := HMA.out V (Below.refl _ _)
    rw [Sl.may_true hmy] at hma
    clear hmy HMA
    go_wp2_with fail
    refine hma.mono ?_
    rintro e w3 ⟨rfl, hb3⟩
    clear hma q0 q1 q2 q3
    obtain ⟨q0, q1, q2, q3⟩ := four_cell (HST.out.later hb3).par
    have HB3 := Lib.hid hb3
    clear hb3
    go_wp2_with fail
    refine (HCA.out w3 HB3.out).mono ?_
    rintro e w4 ⟨fv4, dv4, vs4, rfl, hso, hb4⟩
    have HSO := Lib.hid hso
    have HB4 := Lib.hid hb4
    have HW4 := Lib.hid (HB3.out.trans (hb4.mono HB3.out.size))
    obtain ⟨pf, nf, cf, hfe⟩ := bo_slice3 hso.full
    obtain ⟨pd, nd, cd, hde⟩ := sv_slice hso.data.own
    have hnf : nf = s.full.length := by
      obtain ⟨p, c, e, -⟩ := hso.full.bts.form
      rw [hfe, fb_length] at e
      simp only [Value.slice.injEq] at e
      exact e.2.1
    have hnd : nd = s.data.length := by
      obtain ⟨p, c, e, -⟩ := hso.data.at.form2
      rw [hde] at e
      simp only [Value.slice.injEq] at e
      exact e.2.1
    subst hfe hde hnf hnd
    have HLEN := Lib.hid HMY.out.len
    clear hso hb4 HCA q0 q1 q2 q3
    obtain ⟨W5, hW5⟩ : ∃ W5, W5 = w4.alloc (.cells #[.int .u8 (s.kind : Int), .int .u32 (s.next : Int), .slice pf s.full.length cf, .slice pd s.data.length cd] 26) := ⟨_, rfl⟩
    have hb5 : Below w4.heap.size w4 W5 := by rw [hW5]; exact below_new _ _
    have hx5 : W5.heap[w4.heap.size]? = some (.cells #[.int .u8 (s.kind : Int), .int .u32 (s.next : Int), .slice pf s.full.length cf, .slice pd s.data.length cd] 26 (0, 0)) := by rw [hW5]; exact heap_alloc_last _ _
    have HSO5 := Lib.hid (HSO.out.below hb5)
    have HW5 := Lib.hid (HW4.out.trans (hb5.mono HW4.out.size))
    have HS35 : Hid (w3.heap.size ≤ W5.heap.size) := Nat.le_trans HB4.out.size hb5.size
    have hO34 : w3.heap.size ≤ w4.heap.size := HB4.out.size
    go_upto_region 4 with (fail)
    rw [← hW5]
    obtain ⟨O, hO⟩ : ∃ O, O = w4.heap.size := ⟨_, rfl⟩
    rw [← hO] at hx5 hO34 ⊢
    have HX5 := Lib.hid hx5
    have HO34 : Hid (w3.heap.size ≤ O) := hO34
    obtain ⟨x0, x1, x2, x3⟩ := four_cell hx5
    clear hW5 hb5 hx5 hO hO34
    go_wp2_with fail
    go_loopw [8] (fun i wr => ∃ k : Nat, k ≤ s.full.length ∧ i = .int .i64 k ∧ (∀ j, j < k → Sl.fa s j = true) ∧ W5 = wr) (fun i _ => s.full.length - (intOf i).toNat)
    case atStart => exact ⟨0, Nat.zero_le _, rfl, fun j hj => absurd hj (Nat.not_lt_zero _), rfl⟩
    case round =>
      obtain ⟨k, hk, rfl, hall, rfl⟩ := hrel
      have HALL := Lib.hid hall
      clear hall
      have hkb : k ≤ 1000000 := Nat.le_trans hk HSM.out.full
      by_cases hlt : k < s.full.length
      · have HLT := Lib.hid hlt
        have hi : (k : Int) < (s.full.length : Int) := by omega
        obtain ⟨gf, rfl, hgf, -⟩ := bown_some HSO5.out.full (by omega)
        obtain ⟨gd, rfl, hgd, -⟩ := down_some HSO5.out.data (by have := HLEN.out; omega)
        have HGD : Hid (w3.heap.size ≤ gd ∧ w3.heap.size ≤ gf) := ⟨hgd, hgf⟩
        obtain ⟨c0, -⟩ := bown_cell HSO5.out.full hlt
        cases hx : s.full.getD k false with
        | true =>
          rw [hx] at c0
          have HALL2 : Hid (∀ j, j < k + 1 → Sl.fa s j = true) := fun j hj => by
            by_cases e : j = k
            · rw [e]; exact hx
            · exact HALL.out j (by omega)
          have hw1 := IntWalk.i64_in ((k : Int) + 1) (by omega)
          clear hx hlt hgf hgd
          go_wp2_with fail
          go_roundw
          case rel => exact ⟨k + 1, by have := HLT.out; omega, by go_num, HALL2.out, by first | rfl | trivial⟩
          case measure => have := HLT.out; simp [intOf]; omega
        | false =>
          rw [hx] at c0
          have HFR : Hid (Sl.free s.full = k) := Sl.free_of (fun j hj => HALL.out j hj) (by have := HLT.out; omega) hx
          have hne : ¬ (k : Int) = (s.full.length : Int) := by omega
          have HK1 : Hid (k < s.data.length ∧ k < s.full.length) := ⟨by have h1 := HLEN.out; omega, hlt⟩
          clear hx hlt hgf hgd
          go_upto_region 10 with (fail)
          clear x0 x1 x2 x3 c0
          obtain ⟨W8, hW8⟩ : ∃ W8, W8 = W5 := ⟨_, rfl⟩
          obtain ⟨l1, hl1⟩ : ∃ l1, l1 = s.full := ⟨_, rfl⟩
          obtain ⟨ls1, hls1⟩ : ∃ ls1, ls1 = s.data := ⟨_, rfl⟩
          have HIN : Hid (Sl.ins s b = ⟨s.kind, s.next, l1.set k true, ls1.set k b⟩) := by
            show _ = _
            unfold Sl.ins
            rw [HFR.out, if_neg (by have := HK1.out.2; omega), hl1, hls1]
          have HXX : Hid (W8.heap[O]? = some (.cells #[.int .u8 (s.kind : Int), .int .u32 (s.next : Int), .slice (some ⟨gf, 0, none⟩) l1.length cf, .slice (some ⟨gd, 0, none⟩) ls1.length cd] 26 (0, 0))) := by rw [hW8, hl1, hls1]; exact HX5.out
          have HFX : Hid (Bo.Own w3.heap.size W8 (.slice (some ⟨gf, 0, none⟩) l1.length cf) (FB l1)) := by rw [hW8, hl1]; exact HSO5.out.full
          have HDX : Hid (DOwn w3.heap.size W8 (.slice (some ⟨gd, 0, none⟩) ls1.length cd) vs4 ls1) := by rw [hW8, hls1]; exact HSO5.out.data
          have HBX : Hid (Below w3.heap.size W5 W8) := by rw [hW8]; exact Below.refl _ _
          have HKX : Hid (k < ls1.length ∧ k < l1.length) := by rw [hl1, hls1]; exact HK1.out
          have HTX : Hid (Sl.took (Sl.ins s b) ≤ 1000000 ∧ (Sl.ins s b).full.length ≤ 1000000) := by
            have h1 := Sl.took_ins HMY.out b
            have h2 := (Sl.ins_len HMY.out b).2
            have h3 := HMY.out.fit
            have h4 := HMY.out.most
            have h5 := HBL.out
            constructor
            · split at h1 <;> omega
            · split at h2 <;> omega
          rw [← hW8]
          rw [← hl1, ← hls1]
          clear hW8 hl1 hls1 HALL hne
          obtain ⟨x0, x1, x2, x3⟩ := four_cell HXX.out
          obtain ⟨c0, f0⟩ := bown_cell HFX.out HKX.out.2
          obtain ⟨hsf, hg1⟩ := HFX.out.set k true
          have hy1 : (0 : Int) ≤ (k : Int) := by omega
          have hy2 : (k : Int) < (l1.length : Int) := by have := HKX.out.2; omega
          obtain ⟨W9, hW9⟩ : ∃ W9, W9 = W8.setCell ⟨gf, k, none⟩ (.bool true) := ⟨_, rfl⟩
          rw [← hW9] at hsf hg1
          have hd9 := HDX.out.grown hg1 (apart_rows (v := .slice (some ⟨gf, 0, none⟩) l1.length cf) HDX.out.own.own HFX.out.own (by decide)) fun i hi => apart_rows (v := .slice (some ⟨gf, 0, none⟩) l1.length cf) (HDX.out.each i hi).own HFX.out.own (by decide)
          have hx9 : W9.heap[O]? = _ := (hg1.block O (lt_of_block HXX.out) (fun e2 => by
            rcases row_ne_blk HFX.out.own HXX.out (by decide) with e3 | e3
            · cases e3
            · exact e3 e2.symm)).trans HXX.out
          have hs9 : w3.heap.size ≤ W9.heap.size := Nat.le_trans (Nat.le_trans HS35.out HBX.out.size) hg1.size
          have hbel9 : Below w3.heap.size W5 W9 := below_grown HBX.out hg1 (Nat.le_trans HS35.out HBX.out.size) HGD.out.2
          have HS9 := Lib.hid hs9
          have HF9 := Lib.hid hsf
          have HD9 := Lib.hid hd9
          have HX9 := Lib.hid hx9
          have HW9 := Lib.hid (HW5.out.trans (hbel9.mono HB3.out.size))
          clear hsf hd9 hx9 hs9 hbel9 hg1
          go_upto_region 11 with (fail)
          rw [← hW9]
          clear hW9 x0 x1 x2 x3 c0 f0
          refine Ord.walk (P6F O (k : Int) k gd ls1.length cd pm b.length cm) (P6R w3.heap.size O k (.int .u8 (s.kind : Int)) (.int .u32 (s.next : Int)) (.slice (some ⟨gf, 0, none⟩) l1.length cf) gd ls1.length cd (l1.set k true) vs4 ls1 b W9) (fun _ _ => True)
            (by kernel_rfl) (by kernel_rfl) ?fra ?hfra (fun _ _ _ _ _ h => h) (fun xs => P6R.first xs HS9.out HF9.out HX9.out HD9.out) ?hea ?henda
          case hfra =>
            intro xs
            simp only [Ord.fill, Act.put, List.setIfInBounds_toArray, List.set_cons_zero, List.set_cons_succ]
            rfl
          case hea =>
            refine Ord.each_cons (fun D xs w2 hD hC hP hR hA K hK => ?_) ?_
            · -- 0
              clear hA
              go_simp
              exact hK _ _ ⟨_, rfl, trivial, hR.skip _ (by decide), rfl⟩
            refine Ord.each_cons (fun D xs w2 hD hC hP hR hA K hK => ?_) ?_
            · -- 1
              have q0 := Ord.ahead_get _ hA 0 (by decide)
              simp only [P6F] at q0
              simp only [q0] at hK
              clear hA
              obtain ⟨x0, x1, x2, x3⟩ := four_cell hR.blk
              go_simp
              exact hK _ _ ⟨_, rfl, trivial, hR.skip _ (by decide), rfl⟩
            refine Ord.each_cons (fun D xs w2 hD hC hP hR hA K hK => ?_) ?_
            · -- 2
              clear hA
              go_simp
              exact hK _ _ ⟨_, rfl, trivial, hR.skip _ (by decide), rfl⟩
            refine Ord.each_cons (fun D xs w2 hD hC hP hR hA K hK => ?_) ?_
            · -- 3
              clear hA
              have h5 : D 5 = false := by
                cases h : D 5
                · rfl
                · have := Ord.closed_at hC 5 3 (by kernel_rfl) h
                  rw [hD] at this; cases this
              go_simp
              exact hK _ _ ⟨_, rfl, trivial, hR.op3 rfl, trivial⟩
            refine Ord.each_cons (fun D xs w2 hD hC hP hR hA K hK => ?_) ?_
            · -- 4
              clear hA
              go_simp
              exact hK _ _ ⟨_, rfl, trivial, hR.skip _ (by decide), rfl⟩
            refine Ord.each_cons (fun D xs w2 hD hC hP hR hA K hK => ?_) ?_
            · -- 5
              have q4 := Ord.ahead_get _ hA 4 (by decide)
              simp only [P6F] at q4
              clear hA
              have h3 : D 3 = true := hP { on := 3, ground := .data } (by simp) rfl
              have h7 : D 7 = false := by
                cases h : D 7
                · rfl
                · have := Ord.closed_at hC 7 5 (by kernel_rfl) h
                  rw [hD] at this; cases this
              refine wp_append_Own (.tmp 51) (.tmp 52) rfl W9.heap.size (xs 3) [] rfl (hR.a3 h3 hD) _ b (by rw [← q4]; rfl) (HBV.out.below (HW9.out.trans (hR.bel.mono HB3.out.size))) (by rw [List.length_nil]; have := HBL.out; omega) hR.bel.size ?_
              intro u w' hO2 hb2 hg2
              rw [List.nil_append] at hO2
              exact hK _ _ ⟨_, rfl, trivial, hR.op5 h3 hD h7 hO2 hg2 hb2, trivial⟩
            refine Ord.each_cons (fun D xs w2 hD hC hP hR hA K hK => ?_) ?_
            · -- 6
              have q1 := Ord.ahead_get _ hA 1 (by decide)
              simp only [P6F] at q1
              have q2 := Ord.ahead_get _ hA 2 (by decide)
              simp only [P6F] at q2
              simp only [q1, q2] at hK
              clear hA
              have hk1 : (0 : Int) ≤ (k : Int) := by omega
              have hk2 : (k : Int) < (ls1.length : Int) := by have h1 := HKX.out.1; omega
              go_simp
              exact hK _ _ ⟨_, rfl, trivial, hR.skip _ (by decide), rfl⟩
            refine Ord.each_cons (fun D xs w2 hD hC hP hR hA K hK => ?_) ?_
            · -- 7
              have q6 := Ord.ahead_get _ hA 6 (by decide)
              simp only [P6F] at q6
              simp only [q6] at hK
              clear hA
              have h5 : D 5 = true := hP { on := 5, ground := .data } (by simp) rfl
              obtain ⟨p5, n5, e5⟩ := own_slv (hR.a5 h5 hD)
              obtain ⟨c0, f0⟩ := (hR.old hD).cellAt HKX.out.1
              have hst := hR.op7 (u := undef) h5 hD HGD.out.1
              rw [e5] at hst
              simp only [e5] at hK
              go_simp
              exact hK _ _ ⟨_, rfl, trivial, hst, trivial⟩
            exact Ord.each_nil
          case henda =>
            intro D6 xs6 w6 hR6 hF6
            have hd6 := hR6.a7 (hF6 7 (by decide)).1
            have hb6 := hR6.bel
            have HX6 := Lib.hid hR6.blk
            obtain ⟨t, ht⟩ : ∃ t : Sl.S, t = ⟨s.kind, s.next, l1.set k true, ls1.set k b⟩ := ⟨_, rfl⟩
            have HT := Lib.hid ht
            have hs6 : SlOwn w3.heap.size w6 (.slice (some ⟨gf, 0, none⟩) l1.length cf) (.slice (some ⟨gd, 0, none⟩) ls1.length cd) (vs4.set k (xs6 5)) t := by rw [ht]; exact ⟨hR6.full, hd6, HSO5.out.kind, HSO5.out.next⟩
            have HS6 := Lib.hid hs6
            have HW6 := Lib.hid (HW9.out.trans (hb6.mono HB3.out.size))
            have hit : Sl.ins s b = t := by rw [ht]; exact HIN.out
            have hkn : t.kind = s.kind ∧ t.next = s.next := by rw [ht]; exact ⟨rfl, rfl⟩
            have HIT := Lib.hid hit
            have htx := HTX.out
            rw [hit] at htx
            have hmc := refMay_any _ _ _ w6 hs6.at htx.1 htx.2
            rw [hkn.1, hkn.2] at hmc
            have HMC := Lib.hid hmc
            have HKN := Lib.hid hkn
            obtain ⟨q0, q1, q2, q3⟩ := four_cell HX6.out
            clear hd6 hb6 hR6 hF6 hs6 hit htx hmc hkn ht
            generalize xs6 0 = t0 at *
            generalize xs6 1 = t1 at *
            generalize xs6 2 = t2 at *
            generalize xs6 3 = t3 at *
            generalize xs6 4 = t4 at *
            generalize xs6 5 = t5 at *
            generalize xs6 6 = t6 at *
            generalize xs6 7 = t7 at *
            by_cases hm2 : Sl.May t
            · have HV : Hid (rr = (t, k, 0)) := by
                show rr = _
                rw [HRR.out]
                unfold Sl.insR
                rw [Sl.ifP_pos HMY.out, HIT.out, Sl.ifP_pos hm2, HFR.out]
              rw [Sl.may_true hm2] at HMC
              clear hm2
              go_wp2_with fail
              refine HMC.out.mono ?_
              rintro e w7 ⟨rfl, hb7⟩
              clear q0 q1 q2 q3
              have hx7 := hb7.block O (lt_of_block HX6.out)
              rw [HX6.out] at hx7
              obtain ⟨q0, q1, q2, q3⟩ := four_cell hx7
              have HS7 := Lib.hid (HS6.out.below hb7)
              have HW7 := Lib.hid (HW6.out.trans (hb7.mono HW6.out.size))
              have HR7 := Lib.hid (HST.out.later HW7.out).ans
              clear hb7 hx7 HMC
              obtain ⟨f0, f1, f2, f3⟩ : _ ∧ _ ∧ _ ∧ _ := ⟨four_free (HST.out.later HW7.out).ans 0, four_free (HST.out.later HW7.out).ans 1, four_free (HST.out.later HW7.out).ans 2, four_free (HST.out.later HW7.out).ans 3⟩
              obtain ⟨g0, g1, g2, g3⟩ := four_cell (HST.out.later HW7.out).ans
              obtain ⟨d1, d2, d3⟩ := (HST.out.later HW7.out).done (.int .u8 (s.kind : Int)) (.int .u32 (s.next : Int)) (.slice (some ⟨gf, 0, none⟩) l1.length cf) (.slice (some ⟨gd, 0, none⟩) ls1.length cd)
              obtain ⟨r0, r1, r2, r3⟩ := four_cell d1
              have D2 := Lib.hid d2
              have D3 := Lib.hid d3
              clear d1 d2 d3
              go_wp2_with fail
              refine bodyPost_ret (v := .tuple #[SlV s.kind s.next (.slice (some ⟨gf, 0, none⟩) l1.length cf) (.slice (some ⟨gd, 0, none⟩) ls1.length cd), .int .i64 (k : Int), .int .i64 0]) (by simp [results, Try.results20, go_sem, r0, r1, r2, r3]) rfl ?_
              refine ⟨_, _, by rw [HV.out, HKN.out.1, HKN.out.2]; rfl, ?_, D3.out⟩
              rw [HV.out]
              exact (HS7.out.blk HR7.out D2.out).frm (Nat.le_trans HST.out.bel.size HB3.out.size)
            · have HV : Hid (rr = (Sl.none_, 0, 5)) := by
                show rr = _
                rw [HRR.out]
                unfold Sl.insR
                rw [Sl.ifP_pos HMY.out, HIT.out, Sl.ifP_neg hm2]
              rw [Sl.may_false hm2] at HMC
              clear hm2
              go_wp2_with fail
              refine HMC.out.mono ?_
              rintro e w7 ⟨rfl, hb7⟩
              have HW7 := Lib.hid (HW6.out.trans (hb7.mono HW6.out.size))
              clear hb7 HMC q0 q1 q2 q3
              obtain ⟨f0, f1, f2, f3⟩ : _ ∧ _ ∧ _ ∧ _ := ⟨four_free (HST.out.later HW7.out).ans 0, four_free (HST.out.later HW7.out).ans 1, four_free (HST.out.later HW7.out).ans 2, four_free (HST.out.later HW7.out).ans 3⟩
              obtain ⟨g0, g1, g2, g3⟩ := four_cell (HST.out.later HW7.out).ans
              obtain ⟨d1, d2, d3⟩ := (HST.out.later HW7.out).done (.int .u8 0) (.int .u32 0) nilS nilS
              obtain ⟨r0, r1, r2, r3⟩ := four_cell d1
              have D2 := Lib.hid d2
              have D3 := Lib.hid d3
              clear d1 d2 d3
              go_wp2_with fail
              refine bodyPost_ret (v := .tuple #[SlV 0 0 nilS nilS, .int .i64 0, .int .i64 5]) (by simp [results, Try.results20, go_sem, r0, r1, r2, r3]) rfl ?_
              refine ⟨nilS, nilS, by rw [HV.out]; rfl, ?_, D3.out⟩
              rw [HV.out]
              exact slfar_none _ _
      · obtain rfl : k = s.full.length := by omega
        have HFR : Hid (Sl.free s.full = s.full.length) := Sl.free_of (fun j hj => HALL.out j hj) (Nat.le_refl _) (Sl.getD_out _ _ (Nat.le_refl _))
        have hl47 := HMY.out.most
        have HL47 : Hid (s.full.length ≤ 247) := hl47
        clear hlt hk HALL hl47
        go_upto_region 8 with (fail)
        obtain ⟨Wa, hWa⟩ : ∃ Wa, Wa = W5.alloc (.cells #[.bool true] 4) := ⟨_, rfl⟩
        have hba : Below W5.heap.size W5 Wa := by rw [hWa]; exact below_new _ _
        have hbt : Bo.Bts Wa (.slice (some ⟨W5.heap.size, 0, none⟩) 1 1) [.bool true] := by
          rw [hWa]
          exact Bo.bts_alloc W5 [.bool true] 1 (by simp) 4 (0, 0) (by intro x hx; simp only [List.mem_singleton] at hx; rw [hx]; rfl) (by simp)
        have hfa := HSO5.out.full.below hba
        iterate 10 go_step
        rw [← hWa]
        refine Bo.wpList_append_Own rfl (.tmp 35) (.tmp 36) rfl w3.heap.size (.slice pf s.full.length cf) (FB s.full) rfl hfa _ [.bool true] rfl hbt (by rw [fb_length]; have := HL47.out; simp; omega) (Nat.le_trans HS35.out hba.size) ?_
        intro u8 w8 hO8 hb8 hg8
        rw [show FB s.full ++ [.bool true] = FB (s.full ++ [true]) by simp [FB]] at hO8
        have hxa : Wa.heap[O]? = _ := (hba.block O (lt_of_block HX5.out)).trans HX5.out
        have hx8 : w8.heap[O]? = _ := (hg8.block O (lt_of_block hxa) (fun e2 => by
          rcases row_ne_blk hfa.own hxa (by decide) with e3 | e3
          · rw [e3] at e2; cases e2
          · exact e3 e2.symm)).trans hxa
        have hda := HSO5.out.data.below hba
        have hd8 := hda.grown hg8 (apart_rows hda.own.own hfa.own (by decide)) fun i hi => apart_rows (hda.each i hi).own hfa.own (by decide)
        have hbe8 : Below w3.heap.size W5 w8 := (hba.mono HS35.out).trans hb8
        obtain ⟨pf8, nf8, cf8, hu8⟩ := bo_slice3 hO8
        obtain ⟨gf, hpf8, hgf, hnf8⟩ := bown_some (hu8 ▸ hO8) (by simp)
        have hnf8' : nf8 = s.full.length + 1 := by rw [hnf8]; simp
        clear hnf8
        subst hpf8 hnf8' hu8
        have HX8 := Lib.hid hx8
        have HF8 := Lib.hid hO8
        have HD8 := Lib.hid hd8
        have HBE8 := Lib.hid hbe8
        have HGF : Hid (w3.heap.size ≤ gf) := hgf
        have f2 := four_free hx8 2
        obtain ⟨z0, z1, z2, z3⟩ := four_cell hx8
        clear hba hbt hfa hO8 hb8 hg8 hxa hx8 hda hd8 hbe8 hWa x0 x1 x2 x3 hgf
        go_upto_region 9 with (fail)
        -- .. and a text more
        obtain ⟨wB, hwB⟩ : ∃ wB, wB = w8.setCell ⟨O, 2, none⟩ (.slice (some ⟨gf, 0, none⟩) (s.full.length + 1) cf8) := ⟨_, rfl⟩
        have hxB := (set4 (x := .slice (some ⟨gf, 0, none⟩) (s.full.length + 1) cf8) HX8.out).1
        have hgB := grownBy_setCell w8 O 2 (.slice (some ⟨gf, 0, none⟩) (s.full.length + 1) cf8)
        rw [← hwB] at hxB hgB
        have hfB := HF8.out.grown hgB (row_ne_blk HF8.out.own HX8.out (by decide))
        have hdB := HD8.out.blk HX8.out hgB
        have hbeB := below_grown HBE8.out hgB (Nat.le_trans HS35.out HBE8.out.size) HO34.out
        have HXB := Lib.hid hxB
        have HFB := Lib.hid hfB
        have HDB := Lib.hid hdB
        have HBEB := Lib.hid hbeB
        clear hxB hgB hfB hdB hbeB z0 z1 z2 z3 f2
        obtain ⟨z0, z1, z2, z3⟩ := four_cell HXB.out
        obtain ⟨Wc, hWc⟩ : ∃ Wc, Wc = wB.alloc (.cells #[nilS] 30) := ⟨_, rfl⟩
        have hbc : Below wB.heap.size wB Wc := by rw [hWc]; exact below_new _ _
        have hbt : Sv.Bts Wc (.slice (some ⟨wB.heap.size, 0, none⟩) 1 1) [nilS] := by
          rw [hWc]
          exact Sv.bts_alloc wB [nilS] 1 (by simp) 30 (0, 0) (by intro x hx; simp only [List.mem_singleton] at hx; rw [hx]; rfl) (by simp)
        have hdc := HDB.out.below hbc
        have hfc := HFB.out.below hbc
        rw [← hwB]
        clear hwB
        iterate 10 go_step
        rw [← hWc]
        refine Sv.wpList_append_Own rfl (.tmp 40) (.tmp 41) rfl w3.heap.size (.slice pd s.data.length cd) vs4 rfl hdc.own _ [nilS] rfl hbt (by rw [hdc.len]; have h1 := HL47.out; have h2 := HLEN.out; simp; omega) (Nat.le_trans (Nat.le_trans HS35.out HBEB.out.size) hbc.size) ?_
        intro u9 w9 hO9 hb9 hg9
        have hd9 := hdc.snoc (own_nil w3.heap.size Wc) hO9 hg9
        have hf9 := hfc.grown hg9 (apart_rows hfc.own hdc.own.own (by decide))
        have hxc : Wc.heap[O]? = _ := (hbc.block O (lt_of_block HXB.out)).trans HXB.out
        have hx9 : w9.heap[O]? = _ := (hg9.block O (lt_of_block hxc) (fun e2 => by
          rcases row_ne_blk hdc.own.own hxc (by decide) with e3 | e3
          · rw [e3] at e2; cases e2
          · exact e3 e2.symm)).trans hxc
        have hbe9 : Below w3.heap.size W5 w9 := (HBEB.out.trans (hbc.mono (Nat.le_trans HS35.out HBEB.out.size))).trans hb9
        obtain ⟨pd9, nd9, cd9, hu9⟩ := sv_slice hO9
        obtain ⟨gd, hpd9, hgd, hnd9⟩ := down_some (hu9 ▸ hd9) (by simp)
        have hnd9' : nd9 = s.data.length + 1 := by rw [hnd9]; simp
        clear hnd9
        subst hpd9 hnd9' hu9
        have HGD : Hid (w3.heap.size ≤ gd ∧ w3.heap.size ≤ gf) := ⟨hgd, HGF.out⟩
        obtain ⟨k, hk⟩ : ∃ k, k = s.full.length := ⟨_, rfl⟩
        obtain ⟨l1, hl1⟩ : ∃ l1, l1 = s.full ++ [true] := ⟨_, rfl⟩
        obtain ⟨ls1, hls1⟩ : ∃ ls1, ls1 = s.data ++ [[]] := ⟨_, rfl⟩
        obtain ⟨vs9, hvs9⟩ : ∃ vs9, vs9 = vs4 ++ [nilS] := ⟨_, rfl⟩
        have hm1 : l1.length = s.full.length + 1 := by rw [hl1]; simp
        have hm2 : ls1.length = s.data.length + 1 := by rw [hls1]; simp
        rw [← hm1] at hf9
        rw [← hl1] at hf9
        rw [← hm2, ← hls1, ← hvs9] at hd9
        rw [← hm1] at hx9
        have f3 := four_free hx9 3
        obtain ⟨y0, y1, y2, y3⟩ := four_cell hx9
        have hn1 : l1.length = k + 1 := by rw [hl1, hk]; simp
        have hn2 : ls1.length = k + 1 := by rw [hls1, hk, HLEN.out]; simp
        have HFR2 : Hid (Sl.free s.full = k) := by rw [hk]; exact HFR.out
        have HIN : Hid (Sl.ins s b = ⟨s.kind, s.next, l1.set k true, ls1.set k b⟩) := by
          show _ = _
          unfold Sl.ins
          rw [if_pos HFR.out, hl1, hls1, hk]
          rw [List.set_append_right _ _ (Nat.le_refl _), Nat.sub_self, HLEN.out, List.set_append_right _ _ (Nat.le_refl _), Nat.sub_self]
          rfl
        have HTX : Hid (Sl.took (Sl.ins s b) ≤ 1000000 ∧ (Sl.ins s b).full.length ≤ 1000000) := by
          have h1 := Sl.took_ins HMY.out b
          have h2 := (Sl.ins_len HMY.out b).2
          have h3 := HMY.out.fit
          have h4 := HMY.out.most
          have h5 := HBL.out
          constructor
          · split at h1 <;> omega
          · split at h2 <;> omega
        have hkb : k ≤ 1000000 := by rw [hk]; exact HSM.out.full
        have HKX : Hid (k < ls1.length ∧ k < l1.length) := ⟨by omega, by omega⟩
        have HX9a := Lib.hid hx9
        have HF9a := Lib.hid hf9
        have HD9a := Lib.hid hd9
        have HBE9a := Lib.hid hbe9
        rw [← hm1, ← hm2, ← hk]
        clear hm1 hm2 hbc hbt hdc hfc hO9 hb9 hg9 hd9 hf9 hxc hx9 hbe9 hWc z0 z1 z2 z3 hgd hk hl1 hls1 hvs9 hn1 hn2 HFR
        have HFR := HFR2
        go_upto_region 10 with (fail)
        obtain ⟨W8, hW8⟩ : ∃ W8, W8 = w9.setCell ⟨O, 3, none⟩ (.slice (some ⟨gd, 0, none⟩) ls1.length cd9) := ⟨_, rfl⟩
        have hx8 := (set4 (x := .slice (some ⟨gd, 0, none⟩) ls1.length cd9) HX9a.out).2
        have hg8 := grownBy_setCell w9 O 3 (.slice (some ⟨gd, 0, none⟩) ls1.length cd9)
        rw [← hW8] at hx8 hg8
        have HXX := Lib.hid hx8
        have HFX := Lib.hid (HF9a.out.grown hg8 (row_ne_blk HF9a.out.own HX9a.out (by decide)))
        have HDX := Lib.hid (HD9a.out.blk HX9a.out hg8)
        have HBX := Lib.hid (below_grown HBE9a.out hg8 (Nat.le_trans HS35.out HBE9a.out.size) HO34.out)
        rw [← hW8]
        clear hx8 hg8 hW8 y0 y1 y2 y3 f3
        obtain ⟨x0, x1, x2, x3⟩ := four_cell HXX.out
        obtain ⟨c0, f0⟩ := bown_cell HFX.out HKX.out.2
        obtain ⟨hsf, hg1⟩ := HFX.out.set k true
        have hy1 : (0 : Int) ≤ (k : Int) := by omega
        have hy2 : (k : Int) < (l1.length : Int) := by have := HKX.out.2; omega
        obtain ⟨W9, hW9⟩ : ∃ W9, W9 = W8.setCell ⟨gf, k, none⟩ (.bool true) := ⟨_, rfl⟩
        rw [← hW9] at hsf hg1
        have hd9 := HDX.out.grown hg1 (apart_rows (v := .slice (some ⟨gf, 0, none⟩) l1.length cf8) HDX.out.own.own HFX.out.own (by decide)) fun i hi => apart_rows (v := .slice (some ⟨gf, 0, none⟩) l1.length cf8) (HDX.out.each i hi).own HFX.out.own (by decide)
        have hx9 : W9.heap[O]? = _ := (hg1.block O (lt_of_block HXX.out) (fun e2 => by
          rcases row_ne_blk HFX.out.own HXX.out (by decide) with e3 | e3
          · cases e3
          · exact e3 e2.symm)).trans HXX.out
        have hs9 : w3.heap.size ≤ W9.heap.size := Nat.le_trans (Nat.le_trans HS35.out HBX.out.size) hg1.size
        have hbel9 : Below w3.heap.size W5 W9 := below_grown HBX.out hg1 (Nat.le_trans HS35.out HBX.out.size) HGD.out.2
        have HS9 := Lib.hid hs9
        have HF9 := Lib.hid hsf
        have HD9 := Lib.hid hd9
        have HX9 := Lib.hid hx9
        have HW9 := Lib.hid (HW5.out.trans (hbel9.mono HB3.out.size))
        clear hsf hd9 hx9 hs9 hbel9 hg1
        go_upto_region 11 with (fail)
        rw [← hW9]
        clear hW9 x0 x1 x2 x3 c0 f0
        refine Ord.walk (P6F O (k : Int) k gd ls1.length cd9 pm b.length cm) (P6R w3.heap.size O k (.int .u8 (s.kind : Int)) (.int .u32 (s.next : Int)) (.slice (some ⟨gf, 0, none⟩) l1.length cf8) gd ls1.length cd9 (l1.set k true) vs9 ls1 b W9) (fun _ _ => True)
          (by kernel_rfl) (by kernel_rfl) ?frb ?hfrb (fun _ _ _ _ _ h => h) (fun xs => P6R.first xs HS9.out HF9.out HX9.out HD9.out) ?heb ?hendb
        case hfrb =>
          intro xs
          simp only [Ord.fill, Act.put, List.setIfInBounds_toArray, List.set_cons_zero, List.set_cons_succ]
          rfl
        case heb =>
          refine Ord.each_cons (fun D xs w2 hD hC hP hR hA K hK => ?_) ?_
          · -- 0
            clear hA
            go_simp
            exact hK _ _ ⟨_, rfl, trivial, hR.skip _ (by decide), rfl⟩
          refine Ord.each_cons (fun D xs w2 hD hC hP hR hA K hK => ?_) ?_
          · -- 1
            have q0 := Ord.ahead_get _ hA 0 (by decide)
            simp only [P6F] at q0
            simp only [q0] at hK
            clear hA
            obtain ⟨x0, x1, x2, x3⟩ := four_cell hR.blk
            go_simp
            exact hK _ _ ⟨_, rfl, trivial, hR.skip _ (by decide), rfl⟩
          refine Ord.each_cons (fun D xs w2 hD hC hP hR hA K hK => ?_) ?_
          · -- 2
            clear hA
            go_simp
            exact hK _ _ ⟨_, rfl, trivial, hR.skip _ (by decide), rfl⟩
          refine Ord.each_cons (fun D xs w2 hD hC hP hR hA K hK => ?_) ?_
          · -- 3
            clear hA
            have h5 : D 5 = false := by
              cases h : D 5
              · rfl
              · have := Ord.closed_at hC 5 3 (by kernel_rfl) h
                rw [hD] at this; cases this
            go_simp
            exact hK _ _ ⟨_, rfl, trivial, hR.op3 rfl, trivial⟩
          refine Ord.each_cons (fun D xs w2 hD hC hP hR hA K hK => ?_) ?_
          · -- 4
            clear hA
            go_simp
            exact hK _ _ ⟨_, rfl, trivial, hR.skip _ (by decide), rfl⟩
          refine Ord.each_cons (fun D xs w2 hD hC hP hR hA K hK => ?_) ?_
          · -- 5
            have q4 := Ord.ahead_get _ hA 4 (by decide)
            simp only [P6F] at q4
            clear hA
            have h3 : D 3 = true := hP { on := 3, ground := .data } (by simp) rfl
            have h7 : D 7 = false := by
              cases h : D 7
              · rfl
              · have := Ord.closed_at hC 7 5 (by kernel_rfl) h
                rw [hD] at this; cases this
            refine wp_append_Own (.tmp 51) (.tmp 52) rfl W9.heap.size (xs 3) [] rfl (hR.a3 h3 hD) _ b (by rw [← q4]; rfl) (HBV.out.below (HW9.out.trans (hR.bel.mono HB3.out.size))) (by rw [List.length_nil]; have := HBL.out; omega) hR.bel.size ?_
            intro u w' hO2 hb2 hg2
            rw [List.nil_append] at hO2
            exact hK _ _ ⟨_, rfl, trivial, hR.op5 h3 hD h7 hO2 hg2 hb2, trivial⟩
          refine Ord.each_cons (fun D xs w2 hD hC hP hR hA K hK => ?_) ?_
          · -- 6
            have q1 := Ord.ahead_get _ hA 1 (by decide)
            simp only [P6F] at q1
            have q2 := Ord.ahead_get _ hA 2 (by decide)
            simp only [P6F] at q2
            simp only [q1, q2] at hK
            clear hA
            have hk1 : (0 : Int) ≤ (k : Int) := by omega
            have hk2 : (k : Int) < (ls1.length : Int) := by have h1 := HKX.out.1; omega
            go_simp
            exact hK _ _ ⟨_, rfl, trivial, hR.skip _ (by decide), rfl⟩
          refine Ord.each_cons (fun D xs w2 hD hC hP hR hA K hK => ?_) ?_
          · -- 7
            have q6 := Ord.ahead_get _ hA 6 (by decide)
            simp only [P6F] at q6
            simp only [q6] at hK
            clear hA
            have h5 : D 5 = true := hP { on := 5, ground := .data } (by simp) rfl
            obtain ⟨p5, n5, e5⟩ := own_slv (hR.a5 h5 hD)
            obtain ⟨c0, f0⟩ := (hR.old hD).cellAt HKX.out.1
            have hst := hR.op7 (u := undef) h5 hD HGD.out.1
            rw [e5] at hst
            simp only [e5] at hK
            go_simp
            exact hK _ _ ⟨_, rfl, trivial, hst, trivial⟩
          exact Ord.each_nil
        case hendb =>
          intro D6 xs6 w6 hR6 hF6
          have hd6 := hR6.a7 (hF6 7 (by decide)).1
          have hb6 := hR6.bel
          have HX6 := Lib.hid hR6.blk
          obtain ⟨t, ht⟩ : ∃ t : Sl.S, t = ⟨s.kind, s.next, l1.set k true, ls1.set k b⟩ := ⟨_, rfl⟩
          have HT := Lib.hid ht
          have hs6 : SlOwn w3.heap.size w6 (.slice (some ⟨gf, 0, none⟩) l1.length cf8) (.slice (some ⟨gd, 0, none⟩) ls1.length cd9) (vs9.set k (xs6 5)) t := by rw [ht]; exact ⟨hR6.full, hd6, HSO5.out.kind, HSO5.out.next⟩
          have HS6 := Lib.hid hs6
          have HW6 := Lib.hid (HW9.out.trans (hb6.mono HB3.out.size))
          have hit : Sl.ins s b = t := by rw [ht]; exact HIN.out
          have hkn : t.kind = s.kind ∧ t.next = s.next := by rw [ht]; exact ⟨rfl, rfl⟩
          have HIT := Lib.hid hit
          have htx := HTX.out
          rw [hit] at htx
          have hmc := refMay_any _ _ _ w6 hs6.at htx.1 htx.2
          rw [hkn.1, hkn.2] at hmc
          have HMC := Lib.hid hmc
          have HKN := Lib.hid hkn
          obtain ⟨q0, q1, q2, q3⟩ := four_cell HX6.out
          clear hd6 hb6 hR6 hF6 hs6 hit htx hmc hkn ht
          generalize xs6 0 = t0 at *
          generalize xs6 1 = t1 at *
          generalize xs6 2 = t2 at *
          generalize xs6 3 = t3 at *
          generalize xs6 4 = t4 at *
          generalize xs6 5 = t5 at *
          generalize xs6 6 = t6 at *
          generalize xs6 7 = t7 at *
          by_cases hm2 : Sl.May t
          · have HV : Hid (rr = (t, k, 0)) := by
              show rr = _
              rw [HRR.out]
              unfold Sl.insR
              rw [Sl.ifP_pos HMY.out, HIT.out, Sl.ifP_pos hm2, HFR.out]
            rw [Sl.may_true hm2] at HMC
            clear hm2
            go_wp2_with fail
            refine HMC.out.mono ?_
            rintro e w7 ⟨rfl, hb7⟩
            clear q0 q1 q2 q3
            have hx7 := hb7.block O (lt_of_block HX6.out)
            rw [HX6.out] at hx7
            obtain ⟨q0, q1, q2, q3⟩ := four_cell hx7
            have HS7 := Lib.hid (HS6.out.below hb7)
            have HW7 := Lib.hid (HW6.out.trans (hb7.mono HW6.out.size))
            have HR7 := Lib.hid (HST.out.later HW7.out).ans
            clear hb7 hx7 HMC
            obtain ⟨f0, f1, f2, f3⟩ : _ ∧ _ ∧ _ ∧ _ := ⟨four_free (HST.out.later HW7.out).ans 0, four_free (HST.out.later HW7.out).ans 1, four_free (HST.out.later HW7.out).ans 2, four_free (HST.out.later HW7.out).ans 3⟩
            obtain ⟨g0, g1, g2, g3⟩ := four_cell (HST.out.later HW7.out).ans
            obtain ⟨d1, d2, d3⟩ := (HST.out.later HW7.out).done (.int .u8 (s.kind : Int)) (.int .u32 (s.next : Int)) (.slice (some ⟨gf, 0, none⟩) l1.length cf8) (.slice (some ⟨gd, 0, none⟩) ls1.length cd9)
            obtain ⟨r0, r1, r2, r3⟩ := four_cell d1
            have D2 := Lib.hid d2
            have D3 := Lib.hid d3
            clear d1 d2 d3
            go_wp2_with fail
            refine bodyPost_ret (v := .tuple #[SlV s.kind s.next (.slice (some ⟨gf, 0, none⟩) l1.length cf8) (.slice (some ⟨gd, 0, none⟩) ls1.length cd9), .int .i64 (k : Int), .int .i64 0]) (by simp [results, Try.results20, go_sem, r0, r1, r2, r3]) rfl ?_
            refine ⟨_, _, by rw [HV.out, HKN.out.1, HKN.out.2]; rfl, ?_, D3.out⟩
            rw [HV.out]
            exact (HS7.out.blk HR7.out D2.out).frm (Nat.le_trans HST.out.bel.size HB3.out.size)
          · have HV : Hid (rr = (Sl.none_, 0, 5)) := by
              show rr = _
              rw [HRR.out]
              unfold Sl.insR
              rw [Sl.ifP_pos HMY.out, HIT.out, Sl.ifP_neg hm2]
            rw [Sl.may_false hm2] at HMC
            clear hm2
            go_wp2_with fail
            refine HMC.out.mono ?_
            rintro e w7 ⟨rfl, hb7⟩
            have HW7 := Lib.hid (HW6.out.trans (hb7.mono HW6.out.size))
            clear hb7 HMC q0 q1 q2 q3
            obtain ⟨f0, f1, f2, f3⟩ : _ ∧ _ ∧ _ ∧ _ := ⟨four_free (HST.out.later HW7.out).ans 0, four_free (HST.out.later HW7.out).ans 1, four_free (HST.out.later HW7.out).ans 2, four_free (HST.out.later HW7.out).ans 3⟩
            obtain ⟨g0, g1, g2, g3⟩ := four_cell (HST.out.later HW7.out).ans
            obtain ⟨d1, d2, d3⟩ := (HST.out.later HW7.out).done (.int .u8 0) (.int .u32 0) nilS nilS
            obtain ⟨r0, r1, r2, r3⟩ := four_cell d1
            have D2 := Lib.hid d2
            have D3 := Lib.hid d3
            clear d1 d2 d3
            go_wp2_with fail
            refine bodyPost_ret (v := .tuple #[SlV 0 0 nilS nilS, .int .i64 0, .int .i64 5]) (by simp [results, Try.results20, go_sem, r0, r1, r2, r3]) rfl ?_
            refine ⟨nilS, nilS, by rw [HV.out]; rfl, ?_, D3.out⟩
            rw [HV.out]
            exact slfar_none _ _
  · have HV : Hid (rr = (Sl.none_, 0, 2)) := by
      show rr = _
      rw [HRR.out]
      unfold Sl.insR
      rw [Sl.ifP_neg hmy]
    have hma := HMA.out V (Below.refl _ _)
    rw [Sl.may_false hmy] at hma
    clear hmy HMA
    go_wp2_with fail
    refine hma.mono ?_
    rintro e w2 ⟨rfl, hb2⟩
    have HB3 := Lib.hid hb2
    clear hma hb2 q0 q1 q2 q3
    obtain ⟨f0, f1, f2, f3⟩ : _ ∧ _ ∧ _ ∧ _ := ⟨four_free (HST.out.later HB3.out).ans 0, four_free (HST.out.later HB3.out).ans 1, four_free (HST.out.later HB3.out).ans 2, four_free (HST.out.later HB3.out).ans 3⟩
    obtain ⟨g0, g1, g2, g3⟩ := four_cell (HST.out.later HB3.out).ans
    obtain ⟨d1, d2, d3⟩ := (HST.out.later HB3.out).done (.int .u8 0) (.int .u32 0) nilS nilS
    obtain ⟨r0, r1, r2, r3⟩ := four_cell d1
    have D2 := Lib.hid d2
    have D3 := Lib.hid d3
    clear d1 d2 d3
    go_wp2_with fail
    refine bodyPost_ret (v := .tuple #[SlV 0 0 nilS nilS, .int .i64 0, .int .i64 2]) (by simp [results, Try.results20, go_sem, r0, r1, r2, r3]) rfl ?_
    refine ⟨nilS, nilS, by rw [HV.out]; rfl, ?_, D3.out⟩
    rw [HV.out]
    exact slfar_none _ _
theorem refInsert_any (fv dv m : Value) (s : Sl.S) (b : List Nat) (w : World) (h : SlAt w fv dv s) (hs : Sl.Small s) (hB : Bts w m b) (hb : b.length ≤ 1000) :
    Calls Try.prog 20 #[SlV s.kind s.next fv dv, m] w fun e w' => ∃ fv' dv', e = .returned (.tuple #[SlV (Sl.insR s b).1.kind (Sl.insR s b).1.next fv' dv', .int .i64 ((Sl.insR s b).2.1 : Int), .int .i64 ((Sl.insR s b).2.2 : Int)]) ∧ SlAt w' fv' dv' (Sl.insR s b).1 ∧ Below w.heap.size w w' :=
  (refInsert_far fv dv m s b w h hs hB hb).mono fun _ _ ⟨f, d, h1, h2, h3⟩ => ⟨f, d, h1, h2.at, h3⟩
end Go.Proofs.Ytbfpmpomcaijcaa
