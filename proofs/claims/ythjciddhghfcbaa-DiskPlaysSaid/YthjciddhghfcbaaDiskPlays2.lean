/- The first law of devices, its loop. Conditions: the program's contracts; the calls came in. -/
import Derived.Test.YthjciddhghfcbaaDiskPlays
import Derived.BigQuiet
namespace Go.Proofs.Ythjciddhghfcbaa
open Go.RowKit

section
variable {PD : (Nat → Prop) → World → Nat → Dk.Dev → Prop}

set_option maxHeartbeats 3200000 in
set_option maxRecDepth 20000 in
theorem plays_good (A : Api PD) (n most : Nat) (v : Value) (l : List Opr) (W : World) (h1 : 1 ≤ n) (h2 : n ≤ 65536) (h3 : most ≤ n) (hO : OpsIn W v l) (hps : ∀ i, i < l.length → (l.getD i default).ps.length ≤ 140737488351232) :
    Calls Try.prog 3 #[.int .i64 n, .int .i64 most, v] W fun e w' => e = .returned (.bool true) ∧ Below W.heap.size W w' := by
  have HA := Lib.hid A
  have HK := Lib.hid (fun w => known_any A w)
  have HO := Lib.hid hO
  have HPS := Lib.hid hps
  have H1 := Lib.hid h1
  have H2 := Lib.hid h2
  have H3 := Lib.hid h3
  obtain ⟨p, cap, rfl, hcap, -, -⟩ := hO.form
  clear hO hps
  go_enter Try.func3, Try.ntmps3
  go_wp2_with fail
  refine (HA.out.new_good n most W h1 h2 h3).mono ?_
  rintro e w1 ⟨B, S, rfl, hp, hs, hb1⟩
  have HB1 := Lib.hid hb1
  have HP1 := Lib.hid hp
  have HS1 := Lib.hid hs
  clear hb1 hp hs
  have hn1 : (1 : Int) ≤ (n : Int) := by omega
  have hn2 : (n : Int) ≤ 65536 := by omega
  by_cases hbig : 40 < n ∨ 300 < l.length
  · go_wp2_with fail
    all_goals first
      | (refine (HK.out _).mono ?_
         rintro e w2 ⟨rfl, hb3⟩
         have HB2 := Lib.hid (HB1.out.trans (hb3.mono HB1.out.size))
         clear hb3
         go_wp2_with fail
         go_ret
         exact ⟨rfl, HB2.out⟩)
      | (exfalso; omega)
  · have hn3 : (n : Int) ≤ 40 := by omega
    have hl3 : (l.length : Int) ≤ 300 := by omega
    have hl4 : l.length ≤ 300 := by omega
    clear hbig h1 h2
    go_wp2_with fail
    refine (refNew_good n most w1 H1.out H2.out H3.out).mono ?_
    rintro e w2 ⟨D1, g1, g2, g3, rfl, hr, hrs, hb2⟩
    have hboth : Both PD W.heap.size S w2 B D1 g1 g2 g3 (Dk.fresh n most) := ⟨HA.out.below HP1.out hb2, hr, HS1.out, fun i hi => by have := hrs i hi; have := HB1.out.size; omega, fun i hi hr2 => by have := hrs i hr2; have := HA.out.lt HP1.out i hi; omega, Nat.le_trans HB1.out.size hb2.size⟩
    have HBO := Lib.hid hboth
    have HB2 := Lib.hid (HB1.out.trans (hb2.mono HB1.out.size))
    have HSZ := Lib.hid (show Dk.size (Dk.fresh n most) = n by simp [Dk.size, Dk.fresh])
    clear hboth hr hrs hb2 HP1 HS1
    generalize Dk.fresh n most = d0 at *
    go_wp2_with fail
    go_loopw [7, 10] (fun dd i wr => ∃ (k B' : Nat) (S' : Nat → Prop) (d : Dk.Dev), k ≤ l.length ∧ i = .int .i64 k ∧ dd = .pointer (some ⟨B', 0, none⟩) ∧ Both PD W.heap.size S' wr B' D1 g1 g2 g3 d ∧ Dk.size d = n ∧ Below W.heap.size W wr) (fun _ i _ => l.length - (intOf i).toNat)
    case atStart => exact ⟨0, B, S, d0, Nat.zero_le _, rfl, rfl, HBO.out, HSZ.out, HB2.out⟩
    case round =>
      obtain ⟨k, B', S', d, hk, rfl, rfl, hBo, hsz, hbl⟩ := hrel
      have HBk := Lib.hid hBo
      have HSk := Lib.hid hsz
      have HWk := Lib.hid hbl
      clear hBo hsz hbl
      by_cases hlt : k < l.length
      · obtain ⟨b, off, rfl, hops⟩ : ∃ b off, p = some ⟨b, off, none⟩ ∧ ∀ i, i < l.length → OpAt W b (off + i * 5) (l.getD i default) := by
          obtain ⟨p', cap', hv, -, -, hx⟩ := HO.out.form
          simp only [Value.slice.injEq] at hv
          obtain ⟨rfl, -, rfl⟩ := hv
          exact hx (by omega)
        have ho := hops k hlt
        have hpsk := HPS.out k hlt
        generalize l.getD k default = o at ho hpsk
        have hbw : b < W.heap.size := block_lt_of_cell ho.c0
        have y0 := (HWk.out.cell (p := ⟨b, off + k * 5, none⟩) hbw).trans ho.c0
        have y1 := (HWk.out.cell (p := ⟨b, off + k * 5 + 1, none⟩) hbw).trans ho.c1
        have y2 := (HWk.out.cell (p := ⟨b, off + k * 5 + 2, none⟩) hbw).trans ho.c2
        have y3 := (HWk.out.cell (p := ⟨b, off + k * 5 + 3, none⟩) hbw).trans ho.c3
        have y4 := (HWk.out.cell (p := ⟨b, off + k * 5 + 4, none⟩) hbw).trans ho.c4
        have hbt := ho.bts (by omega)
        have HBT := Lib.hid hbt
        have HPB := Lib.hid (show 0 < o.ps.length → ∀ g, o.pk.ownBlock = some g → g < W.heap.size from fun h0 g hg => by
          obtain ⟨p', cap', hv, -, -, hx⟩ := hbt.form
          obtain ⟨b', off', hpe, hc⟩ := hx h0
          rw [hv, hpe] at hg
          simp only [Value.ownBlock, Option.some.injEq] at hg
          have := block_lt_of_cell (hc 0 h0)
          rw [← hg]; exact this)
        have hki : (k : Int) < (l.length : Int) := by omega
        obtain ⟨kd, ka, kf, ks, pk, ps⟩ := o
        obtain ⟨pp, pc, hpk, -, -, -⟩ := hbt.form
        simp only at hpk
        subst hpk
        have HDO := Lib.hid (do_any HA.out W.heap.size S' wr B' D1 g1 g2 g3 d _ HBk.out (HBT.out.below (HWk.out)) HPB.out)
        unfold OpV at HDO
        simp only at HDO y0 y1 y2 y3 y4
        clear ho hops hbt hpsk
        go_wp2_with fail
        refine HDO.out.mono ?_
        rintro e w3 ⟨B3, S3, d3, rfl, hb3, hz3, hbl3⟩
        have HB3 := Lib.hid hb3
        have HW3 := Lib.hid (HWk.out.trans hbl3)
        have HZ3 := Lib.hid (hz3.trans HSk.out)
        have hub : Dk.used d3 ≤ 65536 := Nat.le_trans List.count_le_length (by rw [hb3.r.ok.s]; exact hb3.r.sz)
        clear hb3 hz3 hbl3 y0 y1 y2 y3 y4 HDO HBT HPB HBk
        go_wp2_with fail
        refine (HA.out.sectors HB3.out.p).mono ?_
        rintro e w4 ⟨rfl, hb4⟩
        rw [HZ3.out]
        have HB4 := Lib.hid (HB3.out.below HA.out hb4)
        have HW4 := Lib.hid (HW3.out.trans (hb4.mono HB3.out.big))
        clear hb4 HB3 HW3
        go_wp2_with fail
        refine (HA.out.used HB4.out.p).mono ?_
        rintro e w5 ⟨rfl, hb5⟩
        have HB5 := Lib.hid (HB4.out.below HA.out hb5)
        have HW5 := Lib.hid (HW4.out.trans (hb5.mono HB4.out.big))
        clear hb5 HB4 HW4
        go_wp2_with fail
        refine (refUsed_any D1 g1 g2 g3 d3 w5 HB5.out.r).mono ?_
        rintro e w5' ⟨rfl, rfl⟩
        generalize Dk.used d3 = us at *
        go_wp2_with fail
        refine (HA.out.waits HB5.out.p).mono ?_
        rintro e w6 ⟨ua, rfl, hoa, hb6⟩
        have HOA := Lib.hid hoa
        have HB6 := Lib.hid (HB5.out.below HA.out hb6)
        have HW6 := Lib.hid (HW5.out.trans (hb6.mono HB5.out.big))
        have HGA := Lib.hid (show ∀ g, ua.ownBlock = some g → g < w6.heap.size ∧ w5'.heap.size ≤ g from fun g hg => ⟨(hoa.own.lt g hg).2, (hoa.own.lt g hg).1⟩)
        have HSL := Lib.hid (show ∀ i, S3 i → i < w5'.heap.size from HA.out.lt HB5.out.p)
        have HRL := Lib.hid (show ∀ i, RS D1 g1 g2 g3 i → i < w5'.heap.size from HB5.out.r.lt)
        have HBG := Lib.hid HB5.out.big
        clear hoa hb6 HB5 HW5
        go_wp2_with fail
        refine (refList_any D1 g1 g2 g3 d3 w6 HB6.out.r).mono ?_
        rintro e w7 ⟨ub, rfl, hob, hb7⟩
        have HOB := Lib.hid hob
        have HOA7 := Lib.hid (HOA.out.below hb7)
        have HB7 := Lib.hid (HB6.out.below HA.out hb7)
        have HW7 := Lib.hid (HW6.out.trans (hb7.mono HB6.out.big))
        have HGB := Lib.hid (show ∀ g, ub.ownBlock = some g → w6.heap.size ≤ g from fun g hg => (hob.own.lt g hg).1)
        have hll : ((Dk.list d3).map fun x : Nat => (x : Int)).length ≤ 65536 := by
          rw [List.length_map, Dk.list_eq]
          exact Nat.le_trans (Dk.upto_length _ _) (by rw [HB7.out.r.ok.w]; exact HB7.out.r.sz)
        clear hob hb7 HB6 HW6 HOA
        generalize ((Dk.list d3).map fun x : Nat => (x : Int)) = LL at *
        obtain ⟨pa, ca, rfl, hca, -, -⟩ := HOA7.out.bts.form
        obtain ⟨pb, cb, rfl, hcb, -, -⟩ := HOB.out.bts.form
        go_wp2_with fail
        go_loopw [15] (fun i wx => ∃ j : Nat, j ≤ LL.length ∧ i = .int .i64 j ∧ Ints.Own w5'.heap.size wx (.slice pa LL.length ca) (spoilt LL j) ∧ Ints.Own w6.heap.size wx (.slice pb LL.length cb) LL ∧ Both PD W.heap.size S3 wx B3 D1 g1 g2 g3 d3 ∧ Below W.heap.size W wx) (fun i _ => LL.length - (intOf i).toNat)
        case atStart => exact ⟨0, Nat.zero_le _, rfl, HOA7.out, HOB.out, HB7.out, HW7.out⟩
        case round =>
          obtain ⟨j, hj, rfl, hoa, hob, hbb, hbw2⟩ := hrel
          have HOA8 := Lib.hid hoa
          have HOB8 := Lib.hid hob
          have HB8 := Lib.hid hbb
          have HW8 := Lib.hid hbw2
          clear hoa hob hbb hbw2
          by_cases hjl : j < LL.length
          · obtain ⟨ga, rfl⟩ : ∃ ga, pa = some ⟨ga, 0, none⟩ := by
              rcases HOA7.out.form with ⟨_, h⟩ | ⟨g, c, h, _⟩
              · rw [h] at hjl; simp at hjl
              · simp only [Value.slice.injEq] at h; exact ⟨g, h.1⟩
            obtain ⟨gb, rfl⟩ : ∃ gb, pb = some ⟨gb, 0, none⟩ := by
              rcases HOB.out.form with ⟨_, h⟩ | ⟨g, c, h, _⟩
              · rw [h] at hjl; simp at hjl
              · simp only [Value.slice.injEq] at h; exact ⟨g, h.1⟩
            have hga := HGA.out ga rfl
            have hgb := HGB.out gb rfl
            have HNE := Lib.hid (show ga ≠ gb by omega)
            have HGL := Lib.hid hga.2
            obtain ⟨c1, f1⟩ := HOA8.out.cellAt (spoilt_length LL j hj) j hjl
            obtain ⟨c2, f2⟩ := HOB8.out.cellAt rfl j hjl
            rw [spoilt_at LL j hj] at c1
            have hjj : (j : Int) < (LL.length : Int) := by omega
            clear hga hgb
            go_wp2_with fail
            go_quiet (fail)
            have HOA9 := Lib.hid (HOA8.out.below (new_drewN wr nq))
            have HOB9 := Lib.hid (HOB8.out.below (new_drewN wr nq))
            have HB9 := Lib.hid (HB8.out.below HA.out (new_drewN wr nq))
            have HW9 := Lib.hid (HW8.out.trans ((new_drewN wr nq).mono HB8.out.big))
            generalize wr.drewN nq = wy at HOA9 HOB9 HB9 HW9 ⊢
            clear c1 f1 c2 f2 HOA8 HOB8 HB8 HW8
            obtain ⟨c1, f1⟩ := HOA9.out.cellAt (spoilt_length LL j hj) j hjl
            have hst := HOA9.out.stored (spoilt_length LL j hj) j (-1) (by unfold Ints.Okk; rfl)
            rw [spoilt_next LL j hjl] at hst
            have HST := Lib.hid hst.1
            have HOBS := Lib.hid (HOB9.out.grown hst.2 (Or.inr (by simp only [Value.ownBlock, ne_eq, Option.some.injEq]; exact fun e => HNE.out e.symm)))
            have ht : Touch (fun i => i = ga) wy (wy.setCell ⟨ga, j, none⟩ (.int .i64 (-1))) := .of_grown hst.2 rfl
            have HBS := Lib.hid (HB9.out.keep HA.out ht (fun i hi e => by have := HSL.out i hi; have := HGL.out; omega) (fun i hi e => by have := HRL.out i hi; have := HGL.out; omega))
            have HWS := Lib.hid (HW9.out.trans (ht.below (fun i e => by rw [e]; have := HGL.out; have := HBG.out; omega) HB9.out.big))
            clear hst ht
            go_wp2_with fail
            go_roundw
            case rel => exact ⟨j + 1, by omega, by go_num, HST.out, HOBS.out, HBS.out, HWS.out⟩
            case measure => simp [intOf]; omega
          · obtain rfl : j = LL.length := by omega
            go_wp2_with fail
            go_roundw
            case rel => exact ⟨k + 1, B3, S3, d3, by omega, by go_num, rfl, HB8.out, HZ3.out, HW8.out⟩
            case measure => simp [intOf]; omega
      · obtain rfl : k = l.length := by omega
        go_wp2_with fail
        refine (HK.out _).mono ?_
        rintro e w3 ⟨rfl, hb3⟩
        have HBE := Lib.hid (HWk.out.trans (hb3.mono HBk.out.big))
        clear hb3
        go_wp2_with fail
        go_ret
        exact ⟨rfl, HBE.out⟩
end
end Go.Proofs.Ythjciddhghfcbaa
