/- A crash by which all that waits lasts is as a sync; one by which nothing does is as if nothing had waited: the law DiskAll. Conditions: what came in reads as it does. -/
import Derived.Test.YthjciddhghfcbaaDiskCalm
namespace Go.Proofs.Ythjciddhghfcbaa
open Go.RowKit

theorem mine_sync {W w : World} {B m1 m2 : Nat} {d : Dk.Dev} (h : Mine1 W w B m1 m2 d) : Calls Try.prog 21 #[.pointer (some ⟨B, 0, none⟩)] w fun e w' => e = .returned (.int .i64 ((Dk.sync d).2 : Nat)) ∧ Mine1 W w' B m1 m2 (Dk.sync d).1 ∧ Touch (DS B m1 m2) w w' :=
  (sync_any h.1).mono fun _ _ ⟨he, hp, ht⟩ => ⟨he, h.turned hp ht, ht⟩

set_option maxHeartbeats 6400000 in
set_option maxRecDepth 20000 in
theorem diskAll_any (v0 : Value) (l0 : List Opr) (v1 : Value) (l1 : List Opr) (W : World) (h0 : OpsIn W v0 l0) (z0 : l0.length ≤ 140737488351232) (h1 : OpsIn W v1 l1) (z1 : l1.length ≤ 140737488351232) :
    Calls Try.prog 8 #[v0, v1] W fun e w' => e = .returned (.bool true) ∧ Below W.heap.size W w' := by
  have H0 := Lib.hid h0
  obtain ⟨p0, c0, rfl, -, -⟩ := ops_cells h0
  obtain ⟨p1, c1, rfl, hcap1, hops1⟩ := ops_cells h1
  have HOPS := Lib.hid hops1
  clear h0 h1 hops1
  by_cases q0 : 60 < l0.length
  · have q0i : (60 : Int) < (l0.length : Int) := by omega
    clear q0
    go_enter Try.func8, Try.ntmps8
    go_wp2_with fail
    refine (known_any own_api W).mono ?_
    rintro e w2 ⟨rfl, hb2⟩
    have HB2 := Lib.hid hb2
    clear hb2
    go_wp2_with fail
    go_ret
    exact ⟨rfl, HB2.out⟩
  by_cases q1 : 60 < l1.length
  · have q1i : (60 : Int) < (l1.length : Int) := by omega
    have q0i : (l0.length : Int) ≤ 60 := by omega
    clear q0 q1
    go_enter Try.func8, Try.ntmps8
    go_wp2_with fail
    refine (known_any own_api W).mono ?_
    rintro e w2 ⟨rfl, hb2⟩
    have HB2 := Lib.hid hb2
    clear hb2
    go_wp2_with fail
    go_ret
    exact ⟨rfl, HB2.out⟩
  have q1i : (l1.length : Int) ≤ 60 := by omega
  have q0i : (l0.length : Int) ≤ 60 := by omega
  have Q := Lib.hid (show l0.length ≤ 60 ∧ l1.length ≤ 60 from ⟨by omega, by omega⟩)
  clear q0 q1
  go_enter Try.func8, Try.ntmps8
  go_wp2_with fail
  refine (new_good_any 12 12 W (by decide) (by decide) (by decide)).mono ?_
  rintro e w1 ⟨B1, x1, y1, rfl, hP, hS, hb1⟩
  have HD := Lib.hid (show Mine1 W w1 B1 x1 y1 (Dk.fresh 12 12) from ⟨hP, hS, hb1⟩)
  clear hP hS hb1
  have HC := Lib.hid ((Dk.calm_fresh (n := 12) (by decide) (by decide)).writes l0)
  go_wp2_with fail
  refine (writes_any HD.out H0.out (by have := Q.out; omega)).mono ?_
  rintro e w2 ⟨rfl, hm, ht⟩
  have HD := Lib.hid hm
  clear hm ht
  obtain ⟨hs1, hs2⟩ := HC.out.sync
  have HS1 := Lib.hid hs1
  have hww : (Dk.last (Dk.writesD (Dk.fresh 12 12) l0)).waits = List.replicate 12 none := by
    show List.replicate (Dk.size (Dk.writesD (Dk.fresh 12 12) l0)) none = _
    rw [HC.out.sz]
  have HWW := Lib.hid hww
  have HC1 := Lib.hid hs2
  clear hs1 hs2 hww
  go_wp2_with fail
  refine (mine_sync HD.out).mono ?_
  rintro e w3 ⟨rfl, hm, -⟩
  rw [HS1.out] at hm ⊢
  have HD := Lib.hid hm
  clear hm
  generalize Dk.last (Dk.writesD (Dk.fresh 12 12) l0) = d1 at *
  clear HS1 HC
  go_wp2_with fail
  refine (copy_any HD.out.1).mono ?_
  rintro e w4 ⟨B2, x2, y2, rfl, hP, hS, hb⟩
  have HWA := Lib.hid (show Mine1 W w4 B2 x2 y2 d1 from ⟨hP, fun i hi => Nat.le_trans HD.out.2.2.size (hS i hi), HD.out.2.2.trans (hb.mono HD.out.2.2.size)⟩)
  have A12 := Lib.hid (show ∀ i, DS B1 x1 y1 i → ¬ DS B2 x2 y2 i from fun i h1 h2 => by have := HD.out.1.lt i h1; have := hS i h2; omega)
  have HD := Lib.hid (HD.out.below hb)
  clear hP hS hb
  go_wp2_with fail
  refine (copy_any HD.out.1).mono ?_
  rintro e w5 ⟨B3, x3, y3, rfl, hP, hS, hb⟩
  have HAL := Lib.hid (show Mine1 W w5 B3 x3 y3 d1 from ⟨hP, fun i hi => Nat.le_trans HD.out.2.2.size (hS i hi), HD.out.2.2.trans (hb.mono HD.out.2.2.size)⟩)
  have A13 := Lib.hid (show ∀ i, DS B1 x1 y1 i → ¬ DS B3 x3 y3 i from fun i h1 h2 => by have := HD.out.1.lt i h1; have := hS i h2; omega)
  have A23 := Lib.hid (show ∀ i, DS B2 x2 y2 i → ¬ DS B3 x3 y3 i from fun i h1 h2 => by have := HWA.out.1.lt i h1; have := hS i h2; omega)
  have HD := Lib.hid (HD.out.below hb)
  have HWA := Lib.hid (HWA.out.below hb)
  clear hP hS hb
  go_wp2_with fail
  refine (copy_any HD.out.1).mono ?_
  rintro e w6 ⟨B4, x4, y4, rfl, hP, hS, hb⟩
  have HNO := Lib.hid (show Mine1 W w6 B4 x4 y4 d1 from ⟨hP, fun i hi => Nat.le_trans HD.out.2.2.size (hS i hi), HD.out.2.2.trans (hb.mono HD.out.2.2.size)⟩)
  have A14 := Lib.hid (show ∀ i, DS B1 x1 y1 i → ¬ DS B4 x4 y4 i from fun i h1 h2 => by have := HD.out.1.lt i h1; have := hS i h2; omega)
  have A24 := Lib.hid (show ∀ i, DS B2 x2 y2 i → ¬ DS B4 x4 y4 i from fun i h1 h2 => by have := HWA.out.1.lt i h1; have := hS i h2; omega)
  have A34 := Lib.hid (show ∀ i, DS B3 x3 y3 i → ¬ DS B4 x4 y4 i from fun i h1 h2 => by have := HAL.out.1.lt i h1; have := hS i h2; omega)
  have HD := Lib.hid (HD.out.below hb)
  have HWA := Lib.hid (HWA.out.below hb)
  have HAL := Lib.hid (HAL.out.below hb)
  clear hP hS hb
  go_wp2_with fail
  go_loopw [10] (fun i wr => ∃ k : Nat, k ≤ l1.length ∧ i = .int .i64 k ∧ Mine1 W wr B1 x1 y1 (Dk.putsD 12 d1 (l1.take k)) ∧ Mine1 W wr B2 x2 y2 d1 ∧ Mine1 W wr B3 x3 y3 (Dk.putsD 12 d1 (l1.take k)) ∧ Mine1 W wr B4 x4 y4 (Dk.putsD 12 d1 (l1.take k))) (fun i _ => l1.length - (intOf i).toNat)
  case atStart => exact ⟨0, Nat.zero_le _, rfl, HD.out, HWA.out, HAL.out, HNO.out⟩
  case round =>
    obtain ⟨k, hk, rfl, hd, hwa, hal, hno⟩ := hrel
    have HD := Lib.hid hd
    have HWA := Lib.hid hwa
    have HAL := Lib.hid hal
    have HNO := Lib.hid hno
    clear hd hwa hal hno
    by_cases hlt : k < l1.length
    · obtain ⟨b, off, rfl, hbW, hop⟩ := HOPS.out (by omega)
      have ho := hop k hlt
      have HNX := Lib.hid (Dk.putsD_next 12 d1 hlt)
      obtain ⟨o, hoo⟩ : ∃ o, l1.getD k default = o := ⟨_, rfl⟩
      rw [hoo] at ho HNX
      have HBW := Lib.hid hbW
      have HO1 := Lib.hid ho.c1
      have HO2 := Lib.hid ho.c2
      have y1c := (HD.out.2.2.cell (p := ⟨b, off + k * 5 + 1, none⟩) hbW).trans ho.c1
      have y2c := (HD.out.2.2.cell (p := ⟨b, off + k * 5 + 2, none⟩) hbW).trans ho.c2
      have HLT := Lib.hid hlt
      have hki : (k : Int) < (l1.length : Int) := by omega
      have HCK := Lib.hid (HC1.out.puts (l1.take k))
      obtain ⟨q, hq⟩ : ∃ q, atN 12 o.at_ = q := ⟨_, rfl⟩
      have hq1 : (IntKind.u64.wrap o.at_).tmod 12 = (q : Int) := by rw [← hq]; exact atN_eq (n := 12) (by decide) o.at_
      have hq2 : q < 12 := by rw [← hq]; exact atN_lt (by decide) _
      have hq3 : wrap64 (q : Int) = q := by unfold wrap64; omega
      have HSP := Lib.hid (show Dk.stepP 12 (Dk.putsD 12 d1 (l1.take k)) o = Dk.put (Dk.putsD 12 d1 (l1.take k)) q (secL o.fill) by unfold Dk.stepP; rw [hq])
      generalize hd : Dk.putsD 12 d1 (l1.take k) = d at *
      have HWF := Lib.hid (HCK.out.write hq2 (sec_secL o.fill)).1
      have HQ2 := Lib.hid hq2
      clear ho hop hoo hlt hq hd hbW hq2
      go_wp2_with fail
      refine (sector_own o.fill _).mono ?_
      rintro e a0 ⟨g, rfl, hg, hO, hb⟩
      have HWC := Lib.hid (write_sec HAL.out hb hg hO.bts (q : Int))
      have HD := Lib.hid (HD.out.below hb)
      have HWA := Lib.hid (HWA.out.below hb)
      have HNO := Lib.hid (HNO.out.below hb)
      clear hg hO hb y2c y1c
      go_wp2_with fail
      refine HWC.out.mono ?_
      rintro e b0 ⟨rfl, hm, ht⟩
      rw [HWF.out] at hm ⊢
      have HD := Lib.hid (HD.out.keep ht A13.out hm.2.2)
      have HWA := Lib.hid (HWA.out.keep ht A23.out hm.2.2)
      have HNO := Lib.hid (HNO.out.keep ht (fun i hi hj => A34.out i hj hi) hm.2.2)
      have HAL := Lib.hid hm
      clear hm ht HWC
      have y2c := (HD.out.2.2.cell (p := ⟨b, off + k * 5 + 2, none⟩) HBW.out).trans HO2.out
      go_wp2_with fail
      refine (sector_own o.fill _).mono ?_
      rintro e a1 ⟨g, rfl, hg, hO, hb⟩
      have HWC := Lib.hid (write_sec HNO.out hb hg hO.bts (q : Int))
      have HD := Lib.hid (HD.out.below hb)
      have HWA := Lib.hid (HWA.out.below hb)
      have HAL := Lib.hid (HAL.out.below hb)
      clear hg hO hb y2c
      go_wp2_with fail
      refine HWC.out.mono ?_
      rintro e b1 ⟨rfl, hm, ht⟩
      rw [HWF.out] at hm ⊢
      have HD := Lib.hid (HD.out.keep ht A14.out hm.2.2)
      have HWA := Lib.hid (HWA.out.keep ht A24.out hm.2.2)
      have HAL := Lib.hid (HAL.out.keep ht A34.out hm.2.2)
      have HNO := Lib.hid hm
      clear hm ht HWC
      have y2c := (HD.out.2.2.cell (p := ⟨b, off + k * 5 + 2, none⟩) HBW.out).trans HO2.out
      go_wp2_with fail
      refine (sector_own o.fill _).mono ?_
      rintro e a2 ⟨g, rfl, hg, hO, hb⟩
      have HWC := Lib.hid (write_sec HD.out hb hg hO.bts (q : Int))
      have HWA := Lib.hid (HWA.out.below hb)
      have HAL := Lib.hid (HAL.out.below hb)
      have HNO := Lib.hid (HNO.out.below hb)
      clear hg hO hb y2c
      go_wp2_with fail
      refine HWC.out.mono ?_
      rintro e b2 ⟨rfl, hm, ht⟩
      rw [HWF.out] at hm ⊢
      have HWA := Lib.hid (HWA.out.keep ht (fun i hi hj => A12.out i hj hi) hm.2.2)
      have HAL := Lib.hid (HAL.out.keep ht (fun i hi hj => A13.out i hj hi) hm.2.2)
      have HNO := Lib.hid (HNO.out.keep ht (fun i hi hj => A14.out i hj hi) hm.2.2)
      have HD := Lib.hid hm
      clear hm ht HWC
      have y2c := (HD.out.2.2.cell (p := ⟨b, off + k * 5 + 2, none⟩) HBW.out).trans HO2.out
      clear y2c
      go_wp2_with fail
      go_roundw
      case rel => exact ⟨k + 1, by have := HLT.out; omega, by go_num, by rw [HNX.out, HSP.out]; exact HD.out, HWA.out, by rw [HNX.out, HSP.out]; exact HAL.out, by rw [HNX.out, HSP.out]; exact HNO.out⟩
      case measure => have := HLT.out; simp [intOf]; omega
    · obtain rfl : k = l1.length := by omega
      rw [List.take_length] at HD HAL HNO
      have HRD := Lib.hid (fun i (hi : i < 12) => Dk.all_reads HC1.out HWW.out l1 hi)
      have HCP := Lib.hid (HC1.out.puts l1)
      generalize Dk.putsD 12 d1 l1 = d2 at *
      clear hlt
      go_wp2_with fail
      refine (mine_sync HD.out).mono ?_
      rintro e u1 ⟨rfl, hm, ht⟩
      rw [HCP.out.sync.1] at hm ⊢
      have HWA := Lib.hid (HWA.out.keep ht (fun i hi hj => A12.out i hj hi) hm.2.2)
      have HAL := Lib.hid (HAL.out.keep ht (fun i hi hj => A13.out i hj hi) hm.2.2)
      have HNO := Lib.hid (HNO.out.keep ht (fun i hi hj => A14.out i hj hi) hm.2.2)
      have HD := Lib.hid hm
      clear hm ht
      go_wp2_with fail
      have hba : Below u1.heap.size u1 (u1.alloc (.cells (Dk.ones.map fun x : Nat => Value.int .u8 (x : Int)).toArray 5)) := (Below.refl _ _).alloc (Nat.le_refl _) _
      have hBO := bts_alloc u1 Dk.ones 12 (by decide) 5 (0, 0) (by decide) (by decide)
      have HWA := Lib.hid (HWA.out.below hba)
      have HALo := Lib.hid HAL.out
      have HAL := Lib.hid (HAL.out.below hba)
      have HNO := Lib.hid (HNO.out.below hba)
      have HD := Lib.hid (HD.out.below hba)
      refine (crash_any HAL.out.1 _ Dk.ones hBO (fun _ g hg hd => by simp only [Value.ownBlock, Option.some.injEq] at hg; have := HALo.out.1.lt _ hd; omega)).mono ?_
      rintro e u2 ⟨rfl, hp, ht⟩
      have hm := HAL.out.turned hp ht
      clear hba hBO hp
      have HWA := Lib.hid (HWA.out.keep ht A23.out hm.2.2)
      have HD := Lib.hid (HD.out.keep ht A13.out hm.2.2)
      have HNO := Lib.hid (HNO.out.keep ht (fun i hi hj => A34.out i hj hi) hm.2.2)
      have HAL := Lib.hid hm
      clear hm ht
      go_wp2_with fail
      refine (crash_any HNO.out.1 (.slice none 0 0) [] (bts_none _) (fun h => absurd h (by decide))).mono ?_
      rintro e u3 ⟨rfl, hp, ht⟩
      have hm := HNO.out.turned hp ht
      clear hp
      have HWA := Lib.hid (HWA.out.keep ht A24.out hm.2.2)
      have HD := Lib.hid (HD.out.keep ht A14.out hm.2.2)
      have HAL := Lib.hid (HAL.out.keep ht A34.out hm.2.2)
      have HNO := Lib.hid hm
      clear hm ht
      go_wp2_with fail
      go_loopw [12] (fun i wz => ∃ k : Nat, k ≤ 12 ∧ i = .int .i64 k ∧ Mine1 W wz B1 x1 y1 (Dk.last d2) ∧ Mine1 W wz B2 x2 y2 d1 ∧ Mine1 W wz B3 x3 y3 (Dk.crash d2 Dk.ones) ∧ Mine1 W wz B4 x4 y4 (Dk.crash d2 [])) (fun i _ => 12 - (intOf i).toNat)
      case atStart => exact ⟨0, by omega, rfl, HD.out, HWA.out, HAL.out, HNO.out⟩
      case round =>
        obtain ⟨k, hk, rfl, hd, hwa, hal, hno⟩ := hrel
        have HD := Lib.hid hd
        have HWA := Lib.hid hwa
        have HAL := Lib.hid hal
        have HNO := Lib.hid hno
        clear hd hwa hal hno
        by_cases hlt : k < 12
        · have hki : (k : Int) < 12 := by omega
          have HLT := Lib.hid hlt
          obtain ⟨a, c, hal, hcl, r1, r2, r3, r4⟩ := HRD.out k hlt
          have HR1 := Lib.hid r1
          have HR2 := Lib.hid r2
          have HR3 := Lib.hid r3
          have HR4 := Lib.hid r4
          have HLA := Lib.hid hal
          have HLC := Lib.hid hcl
          clear hlt r1 r2 r3 r4 hal hcl
          go_wp2_with fail
          refine (read_any HD.out.1 (k : Int)).mono ?_
          rintro e s0 ⟨t0, rfl, hO, hb⟩
          rw [HR1.out] at hO ⊢
          obtain ⟨p0x, c0x, rfl, -, -, -⟩ := hO.bts.form
          rw [HLA.out] at hO
          have HD := Lib.hid (HD.out.below hb)
          have HAL := Lib.hid (HAL.out.below hb)
          have HNO := Lib.hid (HNO.out.below hb)
          have HWA := Lib.hid (HWA.out.below hb)
          have HO0 := Lib.hid hO.bts
          clear hO hb
          rw [HLA.out]
          go_wp2_with fail
          refine (read_any HAL.out.1 (k : Int)).mono ?_
          rintro e s1 ⟨t1, rfl, hO, hb⟩
          rw [HR2.out] at hO ⊢
          obtain ⟨p1x, c1x, rfl, -, -, -⟩ := hO.bts.form
          rw [HLA.out] at hO
          have HO0 := Lib.hid (HO0.out.below hb)
          have HD := Lib.hid (HD.out.below hb)
          have HAL := Lib.hid (HAL.out.below hb)
          have HNO := Lib.hid (HNO.out.below hb)
          have HWA := Lib.hid (HWA.out.below hb)
          have HO1 := Lib.hid hO.bts
          clear hO hb
          rw [HLA.out]
          go_wp2_with fail
          refine (read_any HNO.out.1 (k : Int)).mono ?_
          rintro e s2 ⟨t2, rfl, hO, hb⟩
          rw [HR3.out] at hO ⊢
          obtain ⟨p2x, c2x, rfl, -, -, -⟩ := hO.bts.form
          rw [HLC.out] at hO
          have HO0 := Lib.hid (HO0.out.below hb)
          have HO1 := Lib.hid (HO1.out.below hb)
          have HD := Lib.hid (HD.out.below hb)
          have HAL := Lib.hid (HAL.out.below hb)
          have HNO := Lib.hid (HNO.out.below hb)
          have HWA := Lib.hid (HWA.out.below hb)
          have HO2 := Lib.hid hO.bts
          clear hO hb
          rw [HLC.out]
          go_wp2_with fail
          refine (read_any HWA.out.1 (k : Int)).mono ?_
          rintro e s3 ⟨t3, rfl, hO, hb⟩
          rw [HR4.out] at hO ⊢
          obtain ⟨p3x, c3x, rfl, -, -, -⟩ := hO.bts.form
          rw [HLC.out] at hO
          have HO0 := Lib.hid (HO0.out.below hb)
          have HO1 := Lib.hid (HO1.out.below hb)
          have HO2 := Lib.hid (HO2.out.below hb)
          have HD := Lib.hid (HD.out.below hb)
          have HAL := Lib.hid (HAL.out.below hb)
          have HNO := Lib.hid (HNO.out.below hb)
          have HWA := Lib.hid (HWA.out.below hb)
          have HO3 := Lib.hid hO.bts
          clear hO hb
          rw [HLC.out]
          obtain ⟨Sa, hSa⟩ : ∃ S, strOfNums (a.map fun x : Nat => (x : Int)) = S := ⟨_, rfl⟩
          obtain ⟨Sc, hSc⟩ : ∃ S, strOfNums (c.map fun x : Nat => (x : Int)) = S := ⟨_, rfl⟩
          have q0 := strOf_conv HO0.out
          have q1 := strOf_conv HO1.out
          have q2 := strOf_conv HO2.out
          have q3 := strOf_conv HO3.out
          rw [hSa] at q0 q1
          rw [hSc] at q2 q3
          clear hSa hSc
          go_wp2_with fail
          clear q0 q1 q2 q3
          go_roundw
          case rel => exact ⟨k + 1, by have := HLT.out; omega, by go_num, HD.out, HWA.out, HAL.out, HNO.out⟩
          case measure => have := HLT.out; simp [intOf]; omega
        · obtain rfl : k = 12 := by omega
          go_wp2_with fail
          refine (known_any own_api _).mono ?_
          rintro e w2 ⟨rfl, hb2⟩
          have HB2 := Lib.hid (HD.out.2.2.trans (hb2.mono HD.out.2.2.size))
          clear hb2
          go_wp2_with fail
          go_ret
          exact ⟨rfl, HB2.out⟩
end Go.Proofs.Ythjciddhghfcbaa
