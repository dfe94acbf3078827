/- What the document's Delete of slots answers. Conditions: the values read as a body. -/
import Derived.Test.YtbfpmpomcaijcaaSlPutR
namespace Go.Proofs.Ytbfpmpomcaijcaa
open Go.RowKit

/-- How long the slice in a cell is. -/
def slen (c : Option Value) : Nat := match c with | some (.slice _ n _) => n | _ => 0
theorem bo_slice3 {base : Nat} {w : World} {v : Value} {l : List Value} (h : Bo.Own base w v l) : ∃ p z c, v = .slice p z c := by
  obtain ⟨p, c, e, -⟩ := h.bts.form
  exact ⟨p, _, c, e⟩
theorem Sl.trim_step {l : List Bool} {m : Nat} (h : 0 < m) (hf : l.getD (m - 1) false = false) : Sl.trimN l m = Sl.trimN l (m - 1) := by
  obtain ⟨k, rfl⟩ : ∃ k, m = k + 1 := ⟨m - 1, by omega⟩
  rw [Nat.add_sub_cancel] at hf ⊢
  show (if l.getD k false then k + 1 else Sl.trimN l k) = _
  rw [if_neg (by rw [hf]; decide)]
theorem Sl.trim_stop {l : List Bool} {m : Nat} (h : 0 < m → l.getD (m - 1) false = true) : Sl.trimN l m = m := by
  cases m with
  | zero => rfl
  | succ k =>
    show (if l.getD k false then k + 1 else Sl.trimN l k) = _
    rw [if_pos (by simpa using h (by omega))]

set_option maxHeartbeats 3200000 in
set_option maxRecDepth 20000 in
theorem refDelete_far (fv dv : Value) (s : Sl.S) (a : Int) (w : World) (h : SlAt w fv dv s) (hs : Sl.Small s) :
    Calls Try.prog 24 #[SlV s.kind s.next fv dv, .int .i64 a] w fun e w' => ∃ fv' dv', e = .returned (.tuple #[SlV (Sl.delR s a).1.kind (Sl.delR s a).1.next fv' dv', .int .i64 ((Sl.delR s a).2 : Int)]) ∧ SlFar w.heap.size w' fv' dv' (Sl.delR s a).1 ∧ Below w.heap.size w w' := by
  obtain ⟨V, hV⟩ : ∃ V, V = (w.alloc (sobj s.kind s.next fv dv)).alloc zobj := ⟨_, rfl⟩
  have hst := st_of h
  rw [← hV] at hst
  obtain ⟨p1, c1, p2, c2, rfl, rfl⟩ := slv_slices h
  unfold sobj zobj nilS at hV
  have HST := Lib.hid hst
  obtain ⟨P, hP⟩ : ∃ P, P = w.heap.size := ⟨_, rfl⟩
  obtain ⟨R, hR⟩ : ∃ R, R = P + 1 := ⟨_, rfl⟩
  rw [← hP, ← hR] at HST
  obtain ⟨q0, q1, q2, q3⟩ := four_cell HST.out.par
  have HSM := Lib.hid hs
  have HMA := Lib.hid (fun W' (hb : Below V.heap.size V W') => refMay_any _ _ s W' (HST.out.later hb).at_ hs.took hs.full)
  have HHA := Lib.hid (fun W' (hb : Below V.heap.size V W') => refHas_any _ _ s a W' (HST.out.later hb).at_)
  have HCA := Lib.hid (fun W' (hb : Below V.heap.size V W') => refCopy_any _ _ s W' (HST.out.later hb).at_ hs.took hs.full)
  have HP := Lib.hid hP
  have HR := Lib.hid hR
  obtain ⟨rr, hrr⟩ : ∃ rr, rr = Sl.delR s a := ⟨_, rfl⟩
  rw [← hrr]
  have HRR := Lib.hid hrr
  clear h hs hst hrr
  go_enter Try.func24, Try.ntmps24
  go_upto_region 1 with (fail)
  rw [← hV, ← hP, ← hR]
  clear hV hP hR
  by_cases hmy : Sl.May s
  · have HMY := Lib.hid hmy
    have hma := HMA.out V (Below.refl _ _)
    rw [Sl.may_true hmy] at hma
    clear hmy HMA
    go_wp2_with fail
    refine hma.mono ?_
    rintro e w2 ⟨rfl, hb2⟩
    clear hma q0 q1 q2 q3
    obtain ⟨q0, q1, q2, q3⟩ := four_cell (HST.out.later hb2).par
    have HB2 := Lib.hid hb2
    clear hb2
    go_wp2_with fail
    refine (HHA.out w2 HB2.out).mono ?_
    rintro e w3 ⟨rfl, hb3⟩
    have HB3 := Lib.hid (HB2.out.trans (hb3.mono HB2.out.size))
    clear hb3 HHA q0 q1 q2 q3
    obtain ⟨q0, q1, q2, q3⟩ := four_cell (HST.out.later HB3.out).par
    by_cases hh : Sl.has s a
    · rw [decide_eq_true hh]
      have HH := Lib.hid hh
      clear hh
      go_wp2_with fail
      refine (HCA.out w3 HB3.out).mono ?_
      rintro e w4 ⟨fv4, dv4, vs4, rfl, hso, hb4⟩
      have HSO := Lib.hid hso
      have HB4 := Lib.hid hb4
      have HW4 := Lib.hid (HB3.out.trans (hb4.mono HB3.out.size))
      obtain ⟨pf, nf, cf, rfl⟩ := bo_slice3 hso.full
      obtain ⟨pd, nd, cd, rfl⟩ := sv_slice hso.data.own
      clear hso hb4 HCA q0 q1 q2 q3
      have hk0 : a.toNat < s.full.length := by have h2 := HH.out.1; have h3 := HH.out.2.1; omega
      have hk1 : a.toNat < s.data.length := by have h1 := HMY.out.len; omega
      obtain ⟨gd, rfl, hgd, rfl⟩ := down_some HSO.out.data (by omega)
      obtain ⟨gf, rfl, hgf, rfl⟩ := bown_some HSO.out.full (by omega)
      have HGD : Hid (w3.heap.size ≤ gd ∧ w3.heap.size ≤ gf) := ⟨hgd, hgf⟩
      obtain ⟨k, hkk⟩ : ∃ k, k = a.toNat := ⟨_, rfl⟩
      rw [← hkk] at hk0 hk1
      have HKK := Lib.hid hkk
      have HK1 : Hid (k < s.data.length ∧ k < s.full.length) := ⟨hk1, hk0⟩
      have HLEN := Lib.hid HMY.out.len
      clear hgd hgf hkk hk1 hk0
      obtain ⟨W5, hW5⟩ : ∃ W5, W5 = w4.alloc (.cells #[.int .u8 (s.kind : Int), .int .u32 (s.next : Int), .slice (some ⟨gf, 0, none⟩) s.full.length cf, .slice (some ⟨gd, 0, none⟩) s.data.length cd] 26) := ⟨_, rfl⟩
      have hb5 : Below w4.heap.size w4 W5 := by rw [hW5]; exact below_new _ _
      have hx5 : W5.heap[w4.heap.size]? = some (.cells #[.int .u8 (s.kind : Int), .int .u32 (s.next : Int), .slice (some ⟨gf, 0, none⟩) s.full.length cf, .slice (some ⟨gd, 0, none⟩) s.data.length cd] 26 (0, 0)) := by rw [hW5]; exact heap_alloc_last _ _
      have hso5 := HSO.out.below hb5
      have HW5 := Lib.hid (HW4.out.trans (hb5.mono HW4.out.size))
      have HS35 : Hid (w3.heap.size ≤ W5.heap.size) := Nat.le_trans HB4.out.size hb5.size
      have HO34 : Hid (w3.heap.size ≤ w4.heap.size) := HB4.out.size
      go_upto_region 6 with (fail)
      rw [← hW5]
      obtain ⟨O, hO⟩ : ∃ O, O = w4.heap.size := ⟨_, rfl⟩
      rw [← hO] at hx5 HO34 ⊢
      obtain ⟨x0, x1, x2, x3⟩ := four_cell hx5
      obtain ⟨c0, f0⟩ := bown_cell hso5.full HK1.out.2
      obtain ⟨hsf, hg1⟩ := hso5.full.set k false
      -- the slot has nothing
      obtain ⟨W6, hW6⟩ : ∃ W6, W6 = W5.setCell ⟨gf, k, none⟩ (.bool false) := ⟨_, rfl⟩
      rw [← hW6] at hsf hg1
      have hd6 := hso5.data.grown hg1 (apart_rows (v := .slice (some ⟨gf, 0, none⟩) s.full.length cf) hso5.data.own.own hso5.full.own (by decide)) fun i hi => apart_rows (v := .slice (some ⟨gf, 0, none⟩) s.full.length cf) (hso5.data.each i hi).own hso5.full.own (by decide)
      have hx6 : W6.heap[O]? = _ := (hg1.block O (lt_of_block hx5) (fun e2 => by
        rcases row_ne_blk hso5.full.own hx5 (by decide) with e3 | e3
        · cases e3
        · exact e3 e2.symm)).trans hx5
      have hbel6 : Below w3.heap.size W5 W6 := below_grown (Below.refl _ _) hg1 HS35.out HGD.out.2
      have hk1 : (0 : Int) ≤ a := HH.out.1
      have hk2 : a < (s.full.length : Int) := HH.out.2.1
      have hk4 : a < (s.data.length : Int) := by have := HLEN.out; omega
      have hk3 : a.toNat = k := HKK.out.symm
      have HD6 := Lib.hid hd6
      have HF6 := Lib.hid hsf
      have HX6 := Lib.hid hx6
      have HBE6 := Lib.hid hbel6
      clear hd6 hsf hx6 hbel6 hg1 hb5 hx5 hso5 hW5 hO
      go_upto_region 7 with (fail)
      rw [← hW6]
      clear x0 x1 x2 x3 c0 f0 hW6
      obtain ⟨x0, x1, x2, x3⟩ := four_cell HX6.out
      obtain ⟨c0, f0⟩ := HD6.out.cellAt HK1.out.1
      have hsd := HD6.out.set k (u := nilS) (b := []) (own_nil w3.heap.size W6)
      have hg2 := grownBy_setCell W6 gd k nilS
      obtain ⟨W7, hW7⟩ : ∃ W7, W7 = W6.setCell ⟨gd, k, none⟩ nilS := ⟨_, rfl⟩
      rw [← hW7] at hsd hg2
      have hf7 := HF6.out.grown hg2 (apart_rows (v := .slice (some ⟨gd, 0, none⟩) s.data.length cd) HF6.out.own HD6.out.own.own (by decide))
      have hx7 : W7.heap[O]? = _ := (hg2.block O (lt_of_block HX6.out) (fun e2 => by
        rcases row_ne_blk HD6.out.own.own HX6.out (by decide) with e3 | e3
        · cases e3
        · exact e3 e2.symm)).trans HX6.out
      have hbel7 : Below w3.heap.size W5 W7 := below_grown HBE6.out hg2 (Nat.le_trans HS35.out HBE6.out.size) HGD.out.1
      have HD7 := Lib.hid hsd
      have HF7 := Lib.hid hf7
      have HX7 := Lib.hid hx7
      have HBE7 := Lib.hid hbel7
      clear hsd hf7 hx7 hbel7 hg2
      have HK3 : Hid (a.toNat = k) := hk3
      go_upto_region 8 with (fail)
      rw [← hW7]
      clear x0 x1 x2 x3 c0 f0 hW7 hk1 hk2 hk3 hk4
      go_loopw [30] (fun _ wr => ∃ m : Nat, m ≤ s.full.length ∧ wr.heap[O]? = some (.cells #[.int .u8 (s.kind : Int), .int .u32 (s.next : Int), .slice (some ⟨gf, 0, none⟩) m cf, .slice (some ⟨gd, 0, none⟩) m cd] 26 (0, 0)) ∧ Sl.trimN (s.full.set k false) s.full.length = Sl.trimN (s.full.set k false) m ∧ Bo.Own w3.heap.size wr (.slice (some ⟨gf, 0, none⟩) s.full.length cf) (FB (s.full.set k false)) ∧ DOwn w3.heap.size wr (.slice (some ⟨gd, 0, none⟩) s.data.length cd) (vs4.set k nilS) (s.data.set k []) ∧ Below w3.heap.size W5 wr) (fun _ wr => slen (wr.cell? ⟨O, 2, none⟩))
      case atStart => exact ⟨s.full.length, Nat.le_refl _, by rw [HX7.out, HLEN.out], rfl, HF7.out, HD7.out, HBE7.out⟩
      case round =>
        obtain ⟨m, hm, hx, htr, hf, hd, hb⟩ := hrel
        obtain ⟨x0, x1, x2, x3⟩ := four_cell hx
        have HXW := Lib.hid hx
        have HM : Hid (m ≤ s.full.length) := hm
        have HTM := Lib.hid htr
        have HFW := Lib.hid hf
        have HDW := Lib.hid hd
        have HBW := Lib.hid hb
        have hcf : s.full.length ≤ cf := by
          obtain ⟨p, c, e, h2, -⟩ := hf.bts.form
          simp only [Value.slice.injEq] at e
          rw [fb_length, List.length_set] at h2
          have := e.2.2; omega
        have hcd : s.data.length ≤ cd := by
          obtain ⟨p, c, e, h2, -⟩ := hd.at.form2
          simp only [Value.slice.injEq] at e
          rw [List.length_set] at e
          have := e.2.2; rw [List.length_set] at h2; omega
        have HCC : Hid (s.full.length ≤ cf ∧ s.data.length ≤ cd) := ⟨hcf, hcd⟩
        have hm1 : m ≤ 1000000 := Nat.le_trans hm HSM.out.full
        clear hx htr hf hd hb hcf hcd
        rcases Nat.eq_zero_or_pos m with h0 | h0
        · subst h0
          clear hm hm1
          have HTR : Hid (Sl.trimN (s.full.set k false) (s.full.set k false).length = 0) := by
            show _ = _
            rw [List.length_set]
            exact by rw [HTM.out]; rfl
          have HV : Hid (rr = (Sl.del s k, 0)) := by
            show rr = _
            rw [HRR.out]
            unfold Sl.delR
            rw [Sl.ifP_pos HMY.out, Sl.ifP_pos HH.out, ← HKK.out]
          have HDE : Hid (Sl.del s k = ⟨s.kind, s.next, (s.full.set k false).take 0, (s.data.set k []).take 0⟩) := by
            show _ = _
            unfold Sl.del Sl.cut
            rw [HTR.out]
          have hstw := HST.out.later (HW5.out.trans (HBW.out.mono HB3.out.size))
          have HSTW := Lib.hid hstw
          clear hstw
          obtain ⟨f0, f1, f2, f3⟩ : _ ∧ _ ∧ _ ∧ _ := ⟨four_free HSTW.out.ans 0, four_free HSTW.out.ans 1, four_free HSTW.out.ans 2, four_free HSTW.out.ans 3⟩
          obtain ⟨g0, g1, g2, g3⟩ := four_cell HSTW.out.ans
          obtain ⟨d1, d2, d3⟩ := HSTW.out.done (.int .u8 (s.kind : Int)) (.int .u32 (s.next : Int)) (.slice (some ⟨gf, 0, none⟩) 0 cf) (.slice (some ⟨gd, 0, none⟩) 0 cd)
          obtain ⟨r0, r1, r2, r3⟩ := four_cell d1
          have D2 := Lib.hid d2
          have D3 := Lib.hid d3
          clear d1 d2 d3
          go_wp2_with fail
          refine bodyPost_ret (v := .tuple #[SlV s.kind s.next (.slice (some ⟨gf, 0, none⟩) 0 cf) (.slice (some ⟨gd, 0, none⟩) 0 cd), .int .i64 0]) (by simp [results, Try.results24, go_sem, r0, r1, r2, r3]) rfl ?_
          refine ⟨_, _, by rw [HV.out, HDE.out]; rfl, ?_, D3.out⟩
          rw [HV.out, HDE.out]
          have hf2 := HFW.out.grown D2.out (row_ne_blk HFW.out.own HSTW.out.ans (by decide))
          have hd2 := HDW.out.blk HSTW.out.ans D2.out
          exact fun wz hz => ⟨fat_take (bo_alike hf2 (hz.from (Nat.le_trans HST.out.bel.size HB3.out.size))).bts (by rw [List.length_set]) HM.out, (hd2.alike (hz.from (Nat.le_trans HST.out.bel.size HB3.out.size))).at.take (by rw [List.length_set]) (by have h1 := HM.out; have h2 := HLEN.out; omega), HSO.out.kind, HSO.out.next⟩
        · have hi0 : (0 : Int) < (m : Int) := by omega
          have hw1 := IntWalk.i64_in ((m : Int) - 1) (by omega)
          have hz1 : (0 : Int) ≤ (m : Int) - 1 := by omega
          have hz2 : (m : Int) - 1 < (m : Int) := by omega
          have HM0 := Lib.hid h0
          obtain ⟨c0, -⟩ := bown_cell HFW.out (i := m - 1) (by rw [List.length_set]; omega)
          cases hl : (s.full.set k false).getD (m - 1) false with
          | true =>
            rw [hl] at c0
            have HL := Lib.hid hl
            clear hl hm h0
            have HTR : Hid (Sl.trimN (s.full.set k false) (s.full.set k false).length = m) := by
              show _ = _
              rw [List.length_set]
              exact by rw [HTM.out]; exact Sl.trim_stop (fun _ => HL.out)
            have HV : Hid (rr = (Sl.del s k, 0)) := by
              show rr = _
              rw [HRR.out]
              unfold Sl.delR
              rw [Sl.ifP_pos HMY.out, Sl.ifP_pos HH.out, ← HKK.out]
            have HDE : Hid (Sl.del s k = ⟨s.kind, s.next, (s.full.set k false).take m, (s.data.set k []).take m⟩) := by
              show _ = _
              unfold Sl.del Sl.cut
              rw [HTR.out]
            have hstw := HST.out.later (HW5.out.trans (HBW.out.mono HB3.out.size))
            have HSTW := Lib.hid hstw
            clear hstw
            obtain ⟨f0, f1, f2, f3⟩ : _ ∧ _ ∧ _ ∧ _ := ⟨four_free HSTW.out.ans 0, four_free HSTW.out.ans 1, four_free HSTW.out.ans 2, four_free HSTW.out.ans 3⟩
            obtain ⟨g0, g1, g2, g3⟩ := four_cell HSTW.out.ans
            obtain ⟨d1, d2, d3⟩ := HSTW.out.done (.int .u8 (s.kind : Int)) (.int .u32 (s.next : Int)) (.slice (some ⟨gf, 0, none⟩) m cf) (.slice (some ⟨gd, 0, none⟩) m cd)
            obtain ⟨r0, r1, r2, r3⟩ := four_cell d1
            have D2 := Lib.hid d2
            have D3 := Lib.hid d3
            clear d1 d2 d3
            go_wp2_with fail
            refine bodyPost_ret (v := .tuple #[SlV s.kind s.next (.slice (some ⟨gf, 0, none⟩) m cf) (.slice (some ⟨gd, 0, none⟩) m cd), .int .i64 0]) (by simp [results, Try.results24, go_sem, r0, r1, r2, r3]) rfl ?_
            refine ⟨_, _, by rw [HV.out, HDE.out]; rfl, ?_, D3.out⟩
            rw [HV.out, HDE.out]
            have hf2 := HFW.out.grown D2.out (row_ne_blk HFW.out.own HSTW.out.ans (by decide))
            have hd2 := HDW.out.blk HSTW.out.ans D2.out
            exact fun wz hz => ⟨fat_take (bo_alike hf2 (hz.from (Nat.le_trans HST.out.bel.size HB3.out.size))).bts (by rw [List.length_set]) HM.out, (hd2.alike (hz.from (Nat.le_trans HST.out.bel.size HB3.out.size))).at.take (by rw [List.length_set]) (by have h1 := HM.out; have h2 := HLEN.out; omega), HSO.out.kind, HSO.out.next⟩
          | false =>
            rw [hl] at c0
            have HL := Lib.hid hl
            have hy1 : (m : Int) - 1 ≤ (cf : Int) := by have := HCC.out.1; omega
            have hy2 : (m : Int) - 1 ≤ (cd : Int) := by have h1 := HCC.out.2; have h2 := HLEN.out; omega
            have hfr := four_free HXW.out
            have f2 := hfr 2
            clear hl hm h0 hfr
            go_upto_region 10 with (fail)
            obtain ⟨wA, hwA⟩ : ∃ wA, wA = wr.setCell ⟨O, 2, none⟩ (.slice (some ⟨gf, 0, none⟩) (m - 1) cf) := ⟨_, rfl⟩
            have hxA := (set4 (x := .slice (some ⟨gf, 0, none⟩) (m - 1) cf) HXW.out).1
            have hgA := grownBy_setCell wr O 2 (.slice (some ⟨gf, 0, none⟩) (m - 1) cf)
            rw [← hwA] at hxA hgA ⊢
            obtain ⟨y0, y1, y2, y3⟩ := four_cell hxA
            have f3 := four_free hxA 3
            obtain ⟨wB, hwB⟩ : ∃ wB, wB = wA.setCell ⟨O, 3, none⟩ (.slice (some ⟨gd, 0, none⟩) (m - 1) cd) := ⟨_, rfl⟩
            have hxB := (set4 (x := .slice (some ⟨gd, 0, none⟩) (m - 1) cd) hxA).2
            have hgB := grownBy_trans hgA (grownBy_setCell wA O 3 (.slice (some ⟨gd, 0, none⟩) (m - 1) cd))
            rw [← hwB] at hxB hgB
            have HXB := Lib.hid hxB
            have HFB := Lib.hid (HFW.out.grown hgB (row_ne_blk HFW.out.own HXW.out (by decide)))
            have HDB := Lib.hid (HDW.out.blk HXW.out hgB)
            have HBB := Lib.hid (below_grown HBW.out hgB (Nat.le_trans HS35.out HBW.out.size) HO34.out)
            have X2 := Lib.hid x2
            clear hwA hxA hgA hxB hgB x0 x1 x2 x3 f2 c0
            go_wp2_with fail
            rw [← hwB]
            go_roundw
            case rel => exact ⟨m - 1, by have := HM.out; omega, HXB.out, by rw [HTM.out]; exact Sl.trim_step HM0.out HL.out, HFB.out, HDB.out, HBB.out⟩
            case measure =>
              rw [(four_cell HXB.out).2.2.1, X2.out]
              show m - 1 < m
              have := HM0.out
              omega
    · rw [decide_eq_false hh]
      have HV : Hid (rr = (Sl.none_, 7)) := by
        show rr = _
        rw [HRR.out]
        unfold Sl.delR
        rw [Sl.ifP_pos HMY.out, Sl.ifP_neg hh]
      clear hh
      obtain ⟨f0, f1, f2, f3⟩ : _ ∧ _ ∧ _ ∧ _ := ⟨four_free (HST.out.later HB3.out).ans 0, four_free (HST.out.later HB3.out).ans 1, four_free (HST.out.later HB3.out).ans 2, four_free (HST.out.later HB3.out).ans 3⟩
      obtain ⟨g0, g1, g2, g3⟩ := four_cell (HST.out.later HB3.out).ans
      obtain ⟨d1, d2, d3⟩ := (HST.out.later HB3.out).done (.int .u8 0) (.int .u32 0) nilS nilS
      obtain ⟨r0, r1, r2, r3⟩ := four_cell d1
      have D2 := Lib.hid d2
      have D3 := Lib.hid d3
      clear d1 d2 d3
      go_wp2_with fail
      refine bodyPost_ret (v := .tuple #[SlV 0 0 nilS nilS, .int .i64 7]) (by simp [results, Try.results24, go_sem, r0, r1, r2, r3]) rfl ?_
      refine ⟨nilS, nilS, by rw [HV.out]; rfl, ?_, D3.out⟩
      rw [HV.out]
      exact slfar_none _ _
  · have HV : Hid (rr = (Sl.none_, 2)) := by
      show rr = _
      rw [HRR.out]
      unfold Sl.delR
      rw [Sl.ifP_neg hmy]
    have hma := HMA.out V (Below.refl _ _)
    rw [Sl.may_false hmy] at hma
    clear hmy HMA
    go_wp2_with fail
    refine hma.mono ?_
    rintro e w2 ⟨rfl, hb2⟩
    have HB3 := Lib.hid hb2
    clear hma hb2 q0 q1 q2 q3
    obtain ⟨f0, f1, f2, f3⟩ : _ ∧ _ ∧ _ ∧ _ := ⟨four_free (HST.out.later HB3.out).ans 0, four_free (HST.out.later HB3.out).ans 1, four_free (HST.out.later HB3.out).ans 2, four_free (HST.out.later HB3.out).ans 3⟩
    obtain ⟨g0, g1, g2, g3⟩ := four_cell (HST.out.later HB3.out).ans
    obtain ⟨d1, d2, d3⟩ := (HST.out.later HB3.out).done (.int .u8 0) (.int .u32 0) nilS nilS
    obtain ⟨r0, r1, r2, r3⟩ := four_cell d1
    have D2 := Lib.hid d2
    have D3 := Lib.hid d3
    clear d1 d2 d3
    go_wp2_with fail
    refine bodyPost_ret (v := .tuple #[SlV 0 0 nilS nilS, .int .i64 2]) (by simp [results, Try.results24, go_sem, r0, r1, r2, r3]) rfl ?_
    refine ⟨nilS, nilS, by rw [HV.out]; rfl, ?_, D3.out⟩
    rw [HV.out]
    exact slfar_none _ _
theorem refDelete_any (fv dv : Value) (s : Sl.S) (a : Int) (w : World) (h : SlAt w fv dv s) (hs : Sl.Small s) :
    Calls Try.prog 24 #[SlV s.kind s.next fv dv, .int .i64 a] w fun e w' => ∃ fv' dv', e = .returned (.tuple #[SlV (Sl.delR s a).1.kind (Sl.delR s a).1.next fv' dv', .int .i64 ((Sl.delR s a).2 : Int)]) ∧ SlAt w' fv' dv' (Sl.delR s a).1 ∧ Below w.heap.size w w' :=
  (refDelete_far fv dv s a w h hs).mono fun _ _ ⟨f, d, h1, h2, h3⟩ => ⟨f, d, h1, h2.at, h3⟩
end Go.Proofs.Ytbfpmpomcaijcaa
