/- What the law SlotsPuts answers, for every body, number and bytes. Conditions: the values read as a body and bytes. -/
import Derived.Test.YtbfpmpomcaijcaaSlLarge
namespace Go.Proofs.Ytbfpmpomcaijcaa
open Go.RowKit

namespace Sl
theorem May.put {s : S} (hs : May s) {a : Int} (hh : has s a) (b : List Nat) : May (put s a.toNat b) ↔ took (put s a.toNat b) ≤ 500 := by
  refine ⟨fun h => h.fit, fun h => ⟨?_, hs.most, hs.last, fun i hi hf => ?_, h⟩⟩
  · show s.full.length = (s.data.set a.toNat b).length
    rw [List.length_set]; exact hs.len
  · have hne : a.toNat ≠ i := fun e => by
      have h1 := hh.2.2
      have h2 : fa s i = false := hf
      rw [e, h2] at h1; cases h1
    show (s.data.set a.toNat b).getD i [] = []
    rw [getD_set_ne _ _ _ hne]
    exact hs.none i hi hf
theorem put_at {s : S} {k : Nat} (h : k < s.data.length) (b : List Nat) : da (put s k b) k = b := getD_set_self _ _ h
theorem has_lt {s : S} (hs : May s) {a : Int} (hh : has s a) : a.toNat < s.data.length := by
  have h1 := hs.len
  have h2 := hh.1
  have h3 := hh.2.1
  omega
end Sl

/-- What is put is held against what was: what the operations left. -/
def PuF (bl : Int) (rt rs dl : Nat) (S : ByteArray) (nw mv wv uv sv tv : Value) (i : Nat) (v : Value) (_ : World) : Prop :=
  match i with
  | 0 => v = .int .i64 0
  | 1 => v = .bool true
  | 2 => v = .bool true
  | 3 => v = .int .i64 0
  | 4 => v = .bool true
  | 5 => v = .bool true
  | 6 => v = .bool true
  | 7 => v = nw
  | 8 => v = .string S
  | 9 => v = mv
  | 10 => v = .string S
  | 11 => v = .bool true
  | 12 => v = .bool true
  | 13 => v = .bool true
  | 14 => v = uv
  | 15 => v = sv
  | 16 => v = .bool true
  | 17 => v = .bool true
  | 18 => v = .bool true
  | 19 => v = tv
  | 20 => v = .int .i64 (rt : Int)
  | 21 => v = sv
  | 22 => v = .int .i64 (rs : Int)
  | 23 => v = wv
  | 24 => v = .int .i64 (dl : Int)
  | 25 => v = .int .i64 ((rs : Int) + (dl : Int))
  | 26 => v = mv
  | 27 => v = .int .i64 bl
  | 28 => v = .int .i64 ((rs : Int) + (dl : Int) - bl)
  | 29 => v = .bool true
  | 30 => v = .bool true
  | 31 => v = .bool true
  | 32 => v = .bool true
  | 33 => v = .bool true
  | 34 => v = .bool true
  | _ => True

set_option maxHeartbeats 3200000 in
set_option maxRecDepth 20000 in
theorem slotsPuts_any (A : SlApi) (fv dv m : Value) (s : Sl.S) (a : Int) (b : List Nat) (w : World) (h : SlAt w fv dv s) (hB : Bts w m b) :
    Calls Try.prog 7 #[SlV s.kind s.next fv dv, .int .i64 a, m] w fun e w' => e = .returned (.bool true) ∧ Below w.heap.size w w' := by
  have HA := Lib.hid A
  obtain ⟨pm, cm, rfl, -, -, -⟩ := hB.form
  have hbl := hB.len
  obtain ⟨p1, c1, p2, c2, rfl, rfl⟩ := slv_slices h
  obtain ⟨W, hW⟩ : ∃ W, W = w.alloc (sobj s.kind s.next (.slice p1 s.full.length c1) (.slice p2 s.data.length c2)) := ⟨_, rfl⟩
  have hb0 : Below w.heap.size w W := by rw [hW]; exact below_new _ _
  have hrow := sblk w s.kind s.next (.slice p1 s.full.length c1) (.slice p2 s.data.length c2)
  rw [← hW] at hrow
  obtain ⟨q0, q1, q2, q3⟩ := four_cell hrow
  unfold sobj at hW
  have HB0 := Lib.hid hb0
  have HROW := Lib.hid hrow
  have HS := Lib.hid (h.below hb0)
  have HM := Lib.hid (hB.below hb0)
  have HLG := Lib.hid (large_any _ _ s W HS.out)
  have HBL := Lib.hid hbl
  clear hb0 hrow h hB hbl
  go_enter Try.func7, Try.ntmps7
  go_upto_region 1 with (fail)
  rw [← hW]
  clear hW
  obtain ⟨P, hP⟩ : ∃ P, P = w.heap.size := ⟨_, rfl⟩
  rw [← hP] at q0 q1 q2 q3 HROW ⊢
  clear hP
  go_wp2_with fail
  refine HLG.out.mono ?_
  rintro e w2 ⟨r, rfl, hsm, hb2⟩
  have HB2 := Lib.hid hb2
  clear HLG hb2 q0 q1 q2 q3
  have HBW : Hid (Below w.heap.size w w2) := HB0.out.trans (HB2.out.mono HB0.out.size)
  cases r with
  | true =>
    clear hsm
    go_wp2_with fail
    refine (known_any HA.out _).mono ?_
    rintro e wk ⟨rfl, hbk⟩
    have HBK := Lib.hid ((HBW.out).trans (hbk.mono (HBW.out).size))
    clear hbk
    go_wp2_with fail
    go_ret
    exact ⟨rfl, HBK.out⟩
  | false =>
    have HSM := Lib.hid (hsm rfl)
    clear hsm
    have hx2 := HB2.out.block P (lt_of_block HROW.out)
    rw [HROW.out] at hx2
    have HX2 := Lib.hid hx2
    obtain ⟨q0, q1, q2, q3⟩ := four_cell hx2
    have HS2 := Lib.hid (HS.out.below HB2.out)
    have HM2 := Lib.hid (HM.out.below HB2.out)
    clear hx2
    by_cases hb1 : b.length ≤ 1000
    · have hi1 : ¬ (1000 : Int) < (b.length : Int) := by omega
      have HB1 := Lib.hid hb1
      clear hb1
      go_wp2_with fail
      refine (HA.out.may HS2.out HSM.out).mono ?_
      rintro e w3 ⟨rfl, hb3⟩
      have HB3 := Lib.hid hb3
      have HBW3 := Lib.hid (HBW.out.trans (hb3.mono HBW.out.size))
      have hx3 := hb3.block P (lt_of_block HX2.out)
      rw [HX2.out] at hx3
      have HX3 := Lib.hid hx3
      have HS3 := Lib.hid (HS2.out.below hb3)
      have HM3 := Lib.hid (HM2.out.below hb3)
      clear hb3 hx3 q0 q1 q2 q3
      by_cases hmy : Sl.May s
      · have HMY := Lib.hid hmy
        rw [Sl.may_true hmy]
        obtain ⟨q0, q1, q2, q3⟩ := four_cell HX3.out
        clear hmy
        go_wp2_with fail
        have hge := HA.out.get a HS3.out HSM.out
        obtain ⟨wz, hwz⟩ : ∃ wz, wz = Sl.getR s a := ⟨_, rfl⟩
        rw [← hwz] at hge
        refine hge.mono ?_
        rintro e w4 ⟨u4, rfl, hO4, hb4⟩
        obtain ⟨p4, c4, e4⟩ := own_slv hO4
        subst e4
        have HO4 := Lib.hid hO4
        have HWZ := Lib.hid hwz
        have HBW4 := Lib.hid (HBW3.out.trans (hb4.mono HBW3.out.size))
        have hx4 := hb4.block P (lt_of_block HX3.out)
        rw [HX3.out] at hx4
        have HX4 := Lib.hid hx4
        have HS4 := Lib.hid (HS3.out.below hb4)
        have HM4 := Lib.hid (HM3.out.below hb4)
        clear hge hO4 hb4 hx4 hwz q0 q1 q2 q3
        obtain ⟨q0, q1, q2, q3⟩ := four_cell HX4.out
        go_wp2_with fail
        have hpu := HA.out.put a HS4.out HSM.out HM4.out HB1.out
        obtain ⟨pz, hpz⟩ : ∃ pz, pz = Sl.putR s a b := ⟨_, rfl⟩
        rw [← hpz] at hpu
        refine hpu.mono ?_
        rintro e w5 ⟨f5, d5, rfl, hs5, hb5⟩
        obtain ⟨p5, c5, p6, c6, rfl, rfl⟩ := slv_slices hs5
        have HPZ := Lib.hid hpz
        have HS5 := Lib.hid hs5
        have HBW5 := Lib.hid (HBW4.out.trans (hb5.mono HBW4.out.size))
        have hx5 := hb5.block P (lt_of_block HX4.out)
        rw [HX4.out] at hx5
        have HX5 := Lib.hid hx5
        have HO5 := Lib.hid (HO4.out.below hb5)
        have HM5 := Lib.hid (HM4.out.below hb5)
        have HSS5 := Lib.hid (HS4.out.below hb5)
        obtain ⟨w6, hw6⟩ : ∃ w6, w6 = w5.alloc (sobj pz.1.kind pz.1.next (.slice p5 pz.1.full.length c5) (.slice p6 pz.1.data.length c6)) := ⟨_, rfl⟩
        have hb6 : Below w5.heap.size w5 w6 := by rw [hw6]; exact below_new _ _
        have ht6 := sblk w5 pz.1.kind pz.1.next (.slice p5 pz.1.full.length c5) (.slice p6 pz.1.data.length c6)
        rw [← hw6] at ht6
        have hx6 := hb6.block P (lt_of_block HX5.out)
        rw [HX5.out] at hx6
        have HX6 := Lib.hid hx6
        have HT6 := Lib.hid ht6
        have HBW6 := Lib.hid (HBW5.out.trans (hb6.mono HBW5.out.size))
        have HO6 := Lib.hid (HO5.out.below hb6)
        have HM6 := Lib.hid (HM5.out.below hb6)
        have HSS6 := Lib.hid (HSS5.out.below hb6)
        have HS6 := Lib.hid (HS5.out.below hb6)
        unfold sobj at hw6
        have HGW := Lib.hid hw6
        clear hpu hs5 hb5 hx5 hpz q0 q1 q2 q3 hb6 ht6 hx6 hw6
        by_cases hh : Sl.has s a
        · have hwv : wz = (Sl.da s a.toNat, 0) := by rw [HWZ.out]; unfold Sl.getR; rw [Sl.ifP_pos HMY.out, Sl.ifP_pos hh]
          have HH := Lib.hid hh
          have hkl := Sl.has_lt HMY.out hh
          have HKL := Lib.hid hkl
          have htp := Sl.took_put (s := s) (a := a.toNat) b hkl
          have hdl : (Sl.da s a.toNat).length ≤ 1000 := by
            have h1 := Sl.tot_ge (ls := s.data) hkl
            have h2 := HMY.out.fit
            unfold Sl.took at h2
            show (s.data.getD a.toNat []).length ≤ 1000
            omega
          have hts := HMY.out.fit
          by_cases hmp : Sl.May (Sl.put s a.toNat b)
          · have hpv : pz = (Sl.put s a.toNat b, 0) := by rw [HPZ.out]; unfold Sl.putR; rw [Sl.ifP_pos HMY.out, Sl.ifP_pos hh, Sl.ifP_pos hmp]
            subst hwv hpv
            have HMP := Lib.hid hmp
            have HTP := Lib.hid htp
            have HDL := Lib.hid hdl
            have HTS := Lib.hid hts
            have hg2 : Sl.getR (Sl.put s a.toNat b) a = (b, 0) := by
              unfold Sl.getR
              rw [Sl.ifP_pos hmp, Sl.ifP_pos (show Sl.has (Sl.put s a.toNat b) a from hh), Sl.put_at hkl]
            have hp2 : Sl.putR (Sl.put s a.toNat b) a (Sl.da s a.toNat) = (s, 0) := by
              unfold Sl.putR
              rw [Sl.ifP_pos hmp, Sl.ifP_pos (show Sl.has (Sl.put s a.toNat b) a from hh), Sl.put_put b hkl, Sl.ifP_pos HMY.out]
            have HG2 := Lib.hid hg2
            have HP2 := Lib.hid hp2
            clear hmp htp hdl hts hg2 hp2 hkl hh
            obtain ⟨q0, q1, q2, q3⟩ := four_cell HX6.out
            obtain ⟨t0, t1, t2, t3⟩ := four_cell HT6.out
            have hw6 := HGW.out.symm
            go_wp2_with fail
            try rw [hw6]
            clear hw6
            have hge := HA.out.get a HS6.out HMP.out.small
            rw [HG2.out] at hge
            refine hge.mono ?_
            rintro e w7 ⟨u7, rfl, hO7, hb7⟩
            obtain ⟨p7, c7, e7⟩ := own_slv hO7
            subst e7
            have HO7 := Lib.hid hO7
            have HBW7 := Lib.hid (HBW6.out.trans (hb7.mono HBW6.out.size))
            have hx7 := hb7.block P (lt_of_block HX6.out)
            rw [HX6.out] at hx7
            have ht7 := hb7.block w5.heap.size (lt_of_block HT6.out)
            rw [HT6.out] at ht7
            have HX7 := Lib.hid hx7
            have HT7 := Lib.hid ht7
            have HM7 := Lib.hid (HM6.out.below hb7)
            have HSS7 := Lib.hid (HSS6.out.below hb7)
            have HS7 := Lib.hid (HS6.out.below hb7)
            have HW7 := Lib.hid (HO6.out.below hb7)
            clear hge hO7 hb7 hx7 ht7 q0 q1 q2 q3 t0 t1 t2 t3
            obtain ⟨q0, q1, q2, q3⟩ := four_cell HX7.out
            obtain ⟨t0, t1, t2, t3⟩ := four_cell HT7.out
            go_wp2_with fail
            have hpu := HA.out.put a HS7.out HMP.out.small HW7.out.bts HDL.out
            rw [HP2.out] at hpu
            refine hpu.mono ?_
            rintro e w8 ⟨f8, d8, rfl, hs8, hb8⟩
            obtain ⟨p8, c8, p9, c9, rfl, rfl⟩ := slv_slices hs8
            obtain ⟨w9, hw9⟩ : ∃ w9, w9 = w8.alloc (sobj s.kind s.next (.slice p8 s.full.length c8) (.slice p9 s.data.length c9)) := ⟨_, rfl⟩
            have hb9 : Below w8.heap.size w8 w9 := by rw [hw9]; exact below_new _ _
            have hbt9 : Below w7.heap.size w7 w9 := hb8.trans (hb9.mono hb8.size)
            have hu9 := sblk w8 s.kind s.next (.slice p8 s.full.length c8) (.slice p9 s.data.length c9)
            rw [← hw9] at hu9
            have hx9 := hbt9.block P (lt_of_block HX7.out)
            rw [HX7.out] at hx9
            have ht9 := hbt9.block w5.heap.size (lt_of_block HT7.out)
            rw [HT7.out] at ht9
            have HX9 := Lib.hid hx9
            have HT9 := Lib.hid ht9
            have HU9 := Lib.hid hu9
            have HBW9 := Lib.hid (HBW7.out.trans (hbt9.mono HBW7.out.size))
            have HM9 := Lib.hid (HM7.out.below hbt9)
            have HSS9 := Lib.hid (HSS7.out.below hbt9)
            have HS9 := Lib.hid (HS7.out.below hbt9)
            have HN9 := Lib.hid (HO7.out.below hbt9)
            have HU8 := Lib.hid (hs8.below hb9)
            unfold sobj at hw9
            have hw9' := hw9.symm
            clear hpu hs8 hb8 hb9 hbt9 hu9 hx9 ht9 hw9 q0 q1 q2 q3 t0 t1 t2 t3
            obtain ⟨q0, q1, q2, q3⟩ := four_cell HX9.out
            obtain ⟨t0, t1, t2, t3⟩ := four_cell HT9.out
            obtain ⟨y0, y1, y2, y3⟩ := four_cell HU9.out
            obtain ⟨S, hS⟩ : ∃ S, S = strOfNums (b.map fun x : Nat => (x : Int)) := ⟨_, rfl⟩
            have HCS := Lib.hid hS
            obtain ⟨rt, hrt⟩ : ∃ rt, rt = 500 - Sl.took (Sl.put s a.toNat b) := ⟨_, rfl⟩
            obtain ⟨rs, hrs⟩ : ∃ rs, rs = 500 - Sl.took s := ⟨_, rfl⟩
            obtain ⟨dl, hdl⟩ : ∃ dl, dl = (Sl.da s a.toNat).length := ⟨_, rfl⟩
            have HNU : Hid ((rt : Int) = (rs : Int) + (dl : Int) - (b.length : Int) ∧ rs ≤ 500 ∧ dl ≤ 1000) := by
              have h1 := HTP.out
              have h2 := HMP.out.fit
              have h3 := HTS.out
              have h4 := HDL.out
              exact ⟨by omega, by omega, by omega⟩
            have hrot := HA.out.room HS9.out HMP.out.small
            rw [Sl.ifP_pos HMP.out, ← hrt] at hrot
            have hros := fun (W' : World) (hb : Below w9.heap.size w9 W') => HA.out.room (HSS9.out.below hb) HSM.out
            rw [Sl.ifP_pos HMY.out, ← hrs] at hros
            have hrott := fun (W' : World) (hb : Below w9.heap.size w9 W') => HA.out.room (HS9.out.below hb) HMP.out.small
            rw [Sl.ifP_pos HMP.out, ← hrt] at hrott
            have HROS := Lib.hid hros
            have HROT := Lib.hid hrott
            have HX9L : Hid (P < w9.heap.size) := lt_of_block HX9.out
            have HT9L : Hid (w5.heap.size < w9.heap.size) := lt_of_block HT9.out
            have HU9L : Hid (w8.heap.size < w9.heap.size) := lt_of_block HU9.out
            have HDLE := Lib.hid hdl
            rw [← hdl]
            clear hS hrt hrs hrot hros hrott hdl q0 q1 q2 q3 t0 t1 t2 t3 y0 y1 y2 y3
            go_upto_region 11 with (fail)
            try rw [hw9']
            clear hw9'
            refine Ord.walk (PuF (b.length : Int) rt rs dl S (.slice p7 b.length c7) (.slice pm b.length cm) (.slice p4 dl c4) (SlV s.kind s.next (.slice p8 s.full.length c8) (.slice p9 s.data.length c9)) (SlV s.kind s.next (.slice p1 s.full.length c1) (.slice p2 s.data.length c2)) (SlV (Sl.put s a.toNat b).kind (Sl.put s a.toNat b).next (.slice p5 (Sl.put s a.toNat b).full.length c5) (.slice p6 (Sl.put s a.toNat b).data.length c6))) (fun _ _ w' => Below w9.heap.size w9 w') (fun _ _ => True)
              (by kernel_rfl) (by kernel_rfl) ?fr ?hfr (fun _ _ _ _ _ h => h) (fun xs => (Below.refl _ _).go1) ?he ?hend
            case hfr =>
              intro xs
              simp only [Ord.fill, Act.put, List.setIfInBounds_toArray, List.set_cons_zero, List.set_cons_succ]
              rfl
            case he =>
              refine Ord.each_cons (fun D xs w2 hD hC hP hR hA K hK => ?_) ?_
              · -- 0
                clear hA
                go_simp
                exact hK _ _ ⟨_, rfl, trivial, hR, rfl⟩
              refine Ord.each_cons (fun D xs w2 hD hC hP hR hA K hK => ?_) ?_
              · -- 1
                have q0 := Ord.ahead_get _ hA 0 (by decide)
                simp only [PuF] at q0
                simp only [q0] at hK
                clear hA
                go_simp
                exact hK _ _ ⟨_, rfl, trivial, hR, rfl⟩
              refine Ord.each_cons (fun D xs w2 hD hC hP hR hA K hK => ?_) ?_
              · -- 2
                have q1 := Ord.ahead_get _ hA 1 (by decide)
                simp only [PuF] at q1
                simp only [q1] at hK
                clear hA
                go_simp
                exact hK _ _ ⟨_, rfl, trivial, hR, rfl⟩
              refine Ord.each_cons (fun D xs w2 hD hC hP hR hA K hK => ?_) ?_
              · -- 3
                have q2 := Ord.ahead_get _ hA 2 (by decide)
                simp only [PuF] at q2
                simp only [q2] at hK
                clear hA
                go_simp
                exact hK _ _ ⟨_, rfl, trivial, hR, rfl⟩
              refine Ord.each_cons (fun D xs w2 hD hC hP hR hA K hK => ?_) ?_
              · -- 4
                have q3 := Ord.ahead_get _ hA 3 (by decide)
                simp only [PuF] at q3
                have q2 := Ord.ahead_get _ hA 2 (by decide)
                simp only [PuF] at q2
                simp only [q3, q2] at hK
                clear hA
                go_simp
                exact hK _ _ ⟨_, rfl, trivial, hR, rfl⟩
              refine Ord.each_cons (fun D xs w2 hD hC hP hR hA K hK => ?_) ?_
              · -- 5
                have q2 := Ord.ahead_get _ hA 2 (by decide)
                simp only [PuF] at q2
                have q4 := Ord.ahead_get _ hA 4 (by decide)
                simp only [PuF] at q4
                simp only [q2, q4] at hK
                clear hA
                go_simp
                exact hK _ _ ⟨_, rfl, trivial, hR, rfl⟩
              refine Ord.each_cons (fun D xs w2 hD hC hP hR hA K hK => ?_) ?_
              · -- 6
                have q5 := Ord.ahead_get _ hA 5 (by decide)
                simp only [PuF] at q5
                simp only [q5] at hK
                clear hA
                go_simp
                exact hK _ _ ⟨_, rfl, trivial, hR, rfl⟩
              refine Ord.each_cons (fun D xs w2 hD hC hP hR hA K hK => ?_) ?_
              · -- 7
                have q6 := Ord.ahead_get _ hA 6 (by decide)
                simp only [PuF] at q6
                simp only [q6] at hK
                clear hA
                go_simp
                exact hK _ _ ⟨_, rfl, trivial, hR, rfl⟩
              refine Ord.each_cons (fun D xs w2 hD hC hP hR hA K hK => ?_) ?_
              · -- 8
                have q7 := Ord.ahead_get _ hA 7 (by decide)
                simp only [PuF] at q7
                have q6 := Ord.ahead_get _ hA 6 (by decide)
                simp only [PuF] at q6
                simp only [q7, q6] at hK
                clear hA
                have hcv := strOf_conv (HN9.out.bts.below hR)
                rw [← HCS.out] at hcv
                go_simp
                exact hK _ _ ⟨_, rfl, trivial, hR, rfl⟩
              refine Ord.each_cons (fun D xs w2 hD hC hP hR hA K hK => ?_) ?_
              · -- 9
                have q6 := Ord.ahead_get _ hA 6 (by decide)
                simp only [PuF] at q6
                simp only [q6] at hK
                clear hA
                go_simp
                exact hK _ _ ⟨_, rfl, trivial, hR, rfl⟩
              refine Ord.each_cons (fun D xs w2 hD hC hP hR hA K hK => ?_) ?_
              · -- 10
                have q9 := Ord.ahead_get _ hA 9 (by decide)
                simp only [PuF] at q9
                have q6 := Ord.ahead_get _ hA 6 (by decide)
                simp only [PuF] at q6
                simp only [q9, q6] at hK
                clear hA
                have hcv := strOf_conv (HM9.out.below hR)
                rw [← HCS.out] at hcv
                go_simp
                exact hK _ _ ⟨_, rfl, trivial, hR, rfl⟩
              refine Ord.each_cons (fun D xs w2 hD hC hP hR hA K hK => ?_) ?_
              · -- 11
                have q8 := Ord.ahead_get _ hA 8 (by decide)
                simp only [PuF] at q8
                have q10 := Ord.ahead_get _ hA 10 (by decide)
                simp only [PuF] at q10
                have q6 := Ord.ahead_get _ hA 6 (by decide)
                simp only [PuF] at q6
                simp only [q8, q10, q6] at hK
                clear hA
                go_simp
                exact hK _ _ ⟨_, rfl, trivial, hR, rfl⟩
              refine Ord.each_cons (fun D xs w2 hD hC hP hR hA K hK => ?_) ?_
              · -- 12
                have q6 := Ord.ahead_get _ hA 6 (by decide)
                simp only [PuF] at q6
                have q11 := Ord.ahead_get _ hA 11 (by decide)
                simp only [PuF] at q11
                simp only [q6, q11] at hK
                clear hA
                go_simp
                exact hK _ _ ⟨_, rfl, trivial, hR, rfl⟩
              refine Ord.each_cons (fun D xs w2 hD hC hP hR hA K hK => ?_) ?_
              · -- 13
                have q12 := Ord.ahead_get _ hA 12 (by decide)
                simp only [PuF] at q12
                simp only [q12] at hK
                clear hA
                go_simp
                exact hK _ _ ⟨_, rfl, trivial, hR, rfl⟩
              refine Ord.each_cons (fun D xs w2 hD hC hP hR hA K hK => ?_) ?_
              · -- 14
                have q13 := Ord.ahead_get _ hA 13 (by decide)
                simp only [PuF] at q13
                simp only [q13] at hK
                clear hA
                have c0 := hR.cell (p := ⟨w8.heap.size, 0, none⟩) HU9L.out
                rw [(four_cell HU9.out).1] at c0
                have c1 := hR.cell (p := ⟨w8.heap.size, 1, none⟩) HU9L.out
                rw [(four_cell HU9.out).2.1] at c1
                have c2 := hR.cell (p := ⟨w8.heap.size, 2, none⟩) HU9L.out
                rw [(four_cell HU9.out).2.2.1] at c2
                have c3 := hR.cell (p := ⟨w8.heap.size, 3, none⟩) HU9L.out
                rw [(four_cell HU9.out).2.2.2] at c3
                go_simp
                exact hK _ _ ⟨_, rfl, trivial, hR, rfl⟩
              refine Ord.each_cons (fun D xs w2 hD hC hP hR hA K hK => ?_) ?_
              · -- 15
                have q13 := Ord.ahead_get _ hA 13 (by decide)
                simp only [PuF] at q13
                simp only [q13] at hK
                clear hA
                have c0 := hR.cell (p := ⟨P, 0, none⟩) HX9L.out
                rw [(four_cell HX9.out).1] at c0
                have c1 := hR.cell (p := ⟨P, 1, none⟩) HX9L.out
                rw [(four_cell HX9.out).2.1] at c1
                have c2 := hR.cell (p := ⟨P, 2, none⟩) HX9L.out
                rw [(four_cell HX9.out).2.2.1] at c2
                have c3 := hR.cell (p := ⟨P, 3, none⟩) HX9L.out
                rw [(four_cell HX9.out).2.2.2] at c3
                go_simp
                exact hK _ _ ⟨_, rfl, trivial, hR, rfl⟩
              refine Ord.each_cons (fun D xs w2 hD hC hP hR hA K hK => ?_) ?_
              · -- 16
                have q14 := Ord.ahead_get _ hA 14 (by decide)
                simp only [PuF] at q14
                have q15 := Ord.ahead_get _ hA 15 (by decide)
                simp only [PuF] at q15
                have q13 := Ord.ahead_get _ hA 13 (by decide)
                simp only [PuF] at q13
                simp only [q14, q15, q13] at hK
                clear hA
                go_simp
                refine (refSame_any _ _ _ _ s s w2 (HU8.out.below hR) (HSS9.out.below hR) ⟨HSM.out.full, HSM.out.data⟩).mono ?_
                rintro e w' ⟨rfl, hb⟩
                rw [Sl.same_true rfl]
                exact hK _ _ ⟨_, rfl, trivial, hR.trans (hb.mono hR.size), rfl⟩
              refine Ord.each_cons (fun D xs w2 hD hC hP hR hA K hK => ?_) ?_
              · -- 17
                have q13 := Ord.ahead_get _ hA 13 (by decide)
                simp only [PuF] at q13
                have q16 := Ord.ahead_get _ hA 16 (by decide)
                simp only [PuF] at q16
                simp only [q13, q16] at hK
                clear hA
                go_simp
                exact hK _ _ ⟨_, rfl, trivial, hR, rfl⟩
              refine Ord.each_cons (fun D xs w2 hD hC hP hR hA K hK => ?_) ?_
              · -- 18
                have q17 := Ord.ahead_get _ hA 17 (by decide)
                simp only [PuF] at q17
                simp only [q17] at hK
                clear hA
                go_simp
                exact hK _ _ ⟨_, rfl, trivial, hR, rfl⟩
              refine Ord.each_cons (fun D xs w2 hD hC hP hR hA K hK => ?_) ?_
              · -- 19
                have q18 := Ord.ahead_get _ hA 18 (by decide)
                simp only [PuF] at q18
                simp only [q18] at hK
                clear hA
                have c0 := hR.cell (p := ⟨w5.heap.size, 0, none⟩) HT9L.out
                rw [(four_cell HT9.out).1] at c0
                have c1 := hR.cell (p := ⟨w5.heap.size, 1, none⟩) HT9L.out
                rw [(four_cell HT9.out).2.1] at c1
                have c2 := hR.cell (p := ⟨w5.heap.size, 2, none⟩) HT9L.out
                rw [(four_cell HT9.out).2.2.1] at c2
                have c3 := hR.cell (p := ⟨w5.heap.size, 3, none⟩) HT9L.out
                rw [(four_cell HT9.out).2.2.2] at c3
                go_simp
                exact hK _ _ ⟨_, rfl, trivial, hR, rfl⟩
              refine Ord.each_cons (fun D xs w2 hD hC hP hR hA K hK => ?_) ?_
              · -- 20
                have q19 := Ord.ahead_get _ hA 19 (by decide)
                simp only [PuF] at q19
                have q18 := Ord.ahead_get _ hA 18 (by decide)
                simp only [PuF] at q18
                simp only [q19, q18] at hK
                clear hA
                go_simp
                refine (HROT.out w2 hR).mono ?_
                rintro e w' ⟨rfl, hb⟩
                exact hK _ _ ⟨_, rfl, trivial, hR.trans (hb.mono hR.size), rfl⟩
              refine Ord.each_cons (fun D xs w2 hD hC hP hR hA K hK => ?_) ?_
              · -- 21
                have q18 := Ord.ahead_get _ hA 18 (by decide)
                simp only [PuF] at q18
                simp only [q18] at hK
                clear hA
                have c0 := hR.cell (p := ⟨P, 0, none⟩) HX9L.out
                rw [(four_cell HX9.out).1] at c0
                have c1 := hR.cell (p := ⟨P, 1, none⟩) HX9L.out
                rw [(four_cell HX9.out).2.1] at c1
                have c2 := hR.cell (p := ⟨P, 2, none⟩) HX9L.out
                rw [(four_cell HX9.out).2.2.1] at c2
                have c3 := hR.cell (p := ⟨P, 3, none⟩) HX9L.out
                rw [(four_cell HX9.out).2.2.2] at c3
                go_simp
                exact hK _ _ ⟨_, rfl, trivial, hR, rfl⟩
              refine Ord.each_cons (fun D xs w2 hD hC hP hR hA K hK => ?_) ?_
              · -- 22
                have q21 := Ord.ahead_get _ hA 21 (by decide)
                simp only [PuF] at q21
                have q18 := Ord.ahead_get _ hA 18 (by decide)
                simp only [PuF] at q18
                simp only [q21, q18] at hK
                clear hA
                go_simp
                refine (HROS.out w2 hR).mono ?_
                rintro e w' ⟨rfl, hb⟩
                exact hK _ _ ⟨_, rfl, trivial, hR.trans (hb.mono hR.size), rfl⟩
              refine Ord.each_cons (fun D xs w2 hD hC hP hR hA K hK => ?_) ?_
              · -- 23
                have q18 := Ord.ahead_get _ hA 18 (by decide)
                simp only [PuF] at q18
                simp only [q18] at hK
                clear hA
                go_simp
                exact hK _ _ ⟨_, rfl, trivial, hR, rfl⟩
              refine Ord.each_cons (fun D xs w2 hD hC hP hR hA K hK => ?_) ?_
              · -- 24
                have q23 := Ord.ahead_get _ hA 23 (by decide)
                simp only [PuF] at q23
                have q18 := Ord.ahead_get _ hA 18 (by decide)
                simp only [PuF] at q18
                simp only [q23, q18] at hK
                clear hA
                go_simp
                exact hK _ _ ⟨_, rfl, trivial, hR, rfl⟩
              refine Ord.each_cons (fun D xs w2 hD hC hP hR hA K hK => ?_) ?_
              · -- 25
                have q22 := Ord.ahead_get _ hA 22 (by decide)
                simp only [PuF] at q22
                have q24 := Ord.ahead_get _ hA 24 (by decide)
                simp only [PuF] at q24
                have q18 := Ord.ahead_get _ hA 18 (by decide)
                simp only [PuF] at q18
                simp only [q22, q24, q18] at hK
                clear hA
                have hww := IntWalk.i64_in ((rs : Int) + (dl : Int)) (by have h1 := HNU.out.2; omega)
                go_simp
                exact hK _ _ ⟨_, rfl, trivial, hR, rfl⟩
              refine Ord.each_cons (fun D xs w2 hD hC hP hR hA K hK => ?_) ?_
              · -- 26
                have q18 := Ord.ahead_get _ hA 18 (by decide)
                simp only [PuF] at q18
                simp only [q18] at hK
                clear hA
                go_simp
                exact hK _ _ ⟨_, rfl, trivial, hR, rfl⟩
              refine Ord.each_cons (fun D xs w2 hD hC hP hR hA K hK => ?_) ?_
              · -- 27
                have q26 := Ord.ahead_get _ hA 26 (by decide)
                simp only [PuF] at q26
                have q18 := Ord.ahead_get _ hA 18 (by decide)
                simp only [PuF] at q18
                simp only [q26, q18] at hK
                clear hA
                go_simp
                exact hK _ _ ⟨_, rfl, trivial, hR, rfl⟩
              refine Ord.each_cons (fun D xs w2 hD hC hP hR hA K hK => ?_) ?_
              · -- 28
                have q25 := Ord.ahead_get _ hA 25 (by decide)
                simp only [PuF] at q25
                have q27 := Ord.ahead_get _ hA 27 (by decide)
                simp only [PuF] at q27
                have q18 := Ord.ahead_get _ hA 18 (by decide)
                simp only [PuF] at q18
                simp only [q25, q27, q18] at hK
                clear hA
                have hww := IntWalk.i64_in ((rs : Int) + (dl : Int) - (b.length : Int)) (by have h1 := HNU.out.2; have h2 := HB1.out; omega)
                go_simp
                exact hK _ _ ⟨_, rfl, trivial, hR, rfl⟩
              refine Ord.each_cons (fun D xs w2 hD hC hP hR hA K hK => ?_) ?_
              · -- 29
                have q20 := Ord.ahead_get _ hA 20 (by decide)
                simp only [PuF] at q20
                have q28 := Ord.ahead_get _ hA 28 (by decide)
                simp only [PuF] at q28
                have q18 := Ord.ahead_get _ hA 18 (by decide)
                simp only [PuF] at q18
                simp only [q20, q28, q18] at hK
                clear hA
                have heq := HNU.out.1
                rw [heq] at hK
                go_simp
                all_goals exact hK _ _ ⟨_, rfl, trivial, hR, rfl⟩
              refine Ord.each_cons (fun D xs w2 hD hC hP hR hA K hK => ?_) ?_
              · -- 30
                have q18 := Ord.ahead_get _ hA 18 (by decide)
                simp only [PuF] at q18
                have q29 := Ord.ahead_get _ hA 29 (by decide)
                simp only [PuF] at q29
                simp only [q18, q29] at hK
                clear hA
                go_simp
                exact hK _ _ ⟨_, rfl, trivial, hR, rfl⟩
              refine Ord.each_cons (fun D xs w2 hD hC hP hR hA K hK => ?_) ?_
              · -- 31
                have q30 := Ord.ahead_get _ hA 30 (by decide)
                simp only [PuF] at q30
                simp only [q30] at hK
                clear hA
                go_simp
                exact hK _ _ ⟨_, rfl, trivial, hR, rfl⟩
              refine Ord.each_cons (fun D xs w2 hD hC hP hR hA K hK => ?_) ?_
              · -- 32
                have q31 := Ord.ahead_get _ hA 31 (by decide)
                simp only [PuF] at q31
                simp only [q31] at hK
                clear hA
                go_simp
                refine (known_any HA.out w2).mono ?_
                rintro e w' ⟨rfl, hb⟩
                exact hK _ _ ⟨_, rfl, trivial, hR.trans (hb.mono hR.size), rfl⟩
              refine Ord.each_cons (fun D xs w2 hD hC hP hR hA K hK => ?_) ?_
              · -- 33
                have q31 := Ord.ahead_get _ hA 31 (by decide)
                simp only [PuF] at q31
                have q32 := Ord.ahead_get _ hA 32 (by decide)
                simp only [PuF] at q32
                simp only [q31, q32] at hK
                clear hA
                go_simp
                exact hK _ _ ⟨_, rfl, trivial, hR, rfl⟩
              refine Ord.each_cons (fun D xs w2 hD hC hP hR hA K hK => ?_) ?_
              · -- 34
                have q33 := Ord.ahead_get _ hA 33 (by decide)
                simp only [PuF] at q33
                simp only [q33] at hK
                clear hA
                go_simp
                exact hK _ _ ⟨_, rfl, trivial, hR, rfl⟩
              exact Ord.each_nil
            case hend =>
              intro D xs wz hRz hF
              have e34 := (hF 34 (by decide)).2
              simp only [PuF] at e34
              rw [e34]
              have HBZ := Lib.hid (HBW9.out.trans (hRz.mono HBW9.out.size))
              clear e34 hF hRz
              generalize xs 0 = z0 at *
              generalize xs 1 = z1 at *
              generalize xs 2 = z2 at *
              generalize xs 3 = z3 at *
              generalize xs 4 = z4 at *
              generalize xs 5 = z5 at *
              generalize xs 6 = z6 at *
              generalize xs 7 = z7 at *
              generalize xs 8 = z8 at *
              generalize xs 9 = z9 at *
              generalize xs 10 = z10 at *
              generalize xs 11 = z11 at *
              generalize xs 12 = z12 at *
              generalize xs 13 = z13 at *
              generalize xs 14 = z14 at *
              generalize xs 15 = z15 at *
              generalize xs 16 = z16 at *
              generalize xs 17 = z17 at *
              generalize xs 18 = z18 at *
              generalize xs 19 = z19 at *
              generalize xs 20 = z20 at *
              generalize xs 21 = z21 at *
              generalize xs 22 = z22 at *
              generalize xs 23 = z23 at *
              generalize xs 24 = z24 at *
              generalize xs 25 = z25 at *
              generalize xs 26 = z26 at *
              generalize xs 27 = z27 at *
              generalize xs 28 = z28 at *
              generalize xs 29 = z29 at *
              generalize xs 30 = z30 at *
              generalize xs 31 = z31 at *
              generalize xs 32 = z32 at *
              generalize xs 33 = z33 at *
              go_wp2_with fail
              go_ret
              exact ⟨rfl, HBZ.out⟩
          · have hpv : pz = (Sl.none_, 5) := by rw [HPZ.out]; unfold Sl.putR; rw [Sl.ifP_pos HMY.out, Sl.ifP_pos hh, Sl.ifP_neg hmp]
            subst hwv hpv
            rw [HMY.out.put hh] at hmp
            have hro := HA.out.room HSS6.out HSM.out
            rw [Sl.ifP_pos HMY.out] at hro
            have HRO := Lib.hid hro
            have hbig : ((Sl.da s a.toNat).length : Int) + ((500 - Sl.took s : Nat) : Int) < (b.length : Int) := by omega
            have hww := IntWalk.i64_in (((Sl.da s a.toNat).length : Int) + ((500 - Sl.took s : Nat) : Int)) (by omega)
            clear hmp htp hdl hts hro hkl hh
            generalize (Sl.da s a.toNat).length = dl at *
            generalize 500 - Sl.took s = ro at *
            obtain ⟨q0, q1, q2, q3⟩ := four_cell HX6.out
            obtain ⟨t0, t1, t2, t3⟩ := four_cell HT6.out
            have hw6 := HGW.out.symm
            go_wp2_with fail
            try rw [hw6]
            clear hw6
            refine HRO.out.mono ?_
            rintro e w7 ⟨rfl, hb7⟩
            have HBW7 := Lib.hid (HBW6.out.trans (hb7.mono HBW6.out.size))
            clear hb7 q0 q1 q2 q3 t0 t1 t2 t3
            go_wp2_with fail
            refine (known_any HA.out _).mono ?_
            rintro e wk ⟨rfl, hbk⟩
            have HBK := Lib.hid ((HBW7.out).trans (hbk.mono (HBW7.out).size))
            clear hbk
            go_wp2_with fail
            go_ret
            exact ⟨rfl, HBK.out⟩
        · have hwv : wz = ([], 7) := by rw [HWZ.out]; unfold Sl.getR; rw [Sl.ifP_pos HMY.out, Sl.ifP_neg hh]
          have hpv : pz = (Sl.none_, 7) := by rw [HPZ.out]; unfold Sl.putR; rw [Sl.ifP_pos HMY.out, Sl.ifP_neg hh]
          subst hwv hpv
          obtain ⟨q0, q1, q2, q3⟩ := four_cell HX6.out
          obtain ⟨t0, t1, t2, t3⟩ := four_cell HT6.out
          have hw6 := HGW.out.symm
          go_wp2_with fail
          try rw [hw6]
          clear hw6
          refine (known_any HA.out _).mono ?_
          rintro e wk ⟨rfl, hbk⟩
          have HBK := Lib.hid ((HBW6.out).trans (hbk.mono (HBW6.out).size))
          clear hbk
          go_wp2_with fail
          go_ret
          exact ⟨rfl, HBK.out⟩
      · rw [Sl.may_false hmy]
        clear hmy
        go_wp2_with fail
        refine (known_any HA.out _).mono ?_
        rintro e wk ⟨rfl, hbk⟩
        have HBK := Lib.hid ((HBW3.out).trans (hbk.mono (HBW3.out).size))
        clear hbk
        go_wp2_with fail
        go_ret
        exact ⟨rfl, HBK.out⟩
    · have hi1 : (1000 : Int) < (b.length : Int) := by omega
      clear hb1
      generalize b.length = bl at *
      go_wp2_with fail
      refine (known_any HA.out _).mono ?_
      rintro e wk ⟨rfl, hbk⟩
      have HBK := Lib.hid ((HBW.out).trans (hbk.mono (HBW.out).size))
      clear hbk
      go_wp2_with fail
      go_ret
      exact ⟨rfl, HBK.out⟩
end Go.Proofs.Ytbfpmpomcaijcaa
