/- What the law WalRoom answers, for every list of sizes. Conditions: the program's contracts. -/
import Derived.Test.YtafpjcobagofcaaWlKnown
import Derived.Test.YtafpjcobagofcaaWlBase
namespace Go.Proofs.Ytafpjcobagofcaa
open Go.RowKit

theorem Wl.left_small {s : Wl.S} (h : Wl.Good s) (h1 : s.stop ≤ 1000000000000) (h2 : s.count ≤ 8192) : -1000000000000 ≤ Wl.left s ∧ Wl.left s ≤ 2000000000000 := by
  have h3 := h.low
  have h4 := h.high
  unfold Wl.left
  omega
section
variable {PD : (Nat → Prop) → World → Nat → Dk.Dev → Prop} {PL : (Nat → Prop) → (Nat → Prop) → World → Nat → Nat → Dk.Dev → Wl.S → Prop} {PM : (Nat → Prop) → World → Nat → Wl.S → Prop} {Hd : Dk.Dev → Wl.S → Prop}

set_option maxHeartbeats 6400000 in
set_option maxRecDepth 20000 in
theorem walRoom_any (A : WlApi PD PL PM Hd) (c : Int) (v : Value) (l : List Int) (w : World) (hc : I64' c) (hB : Ints.Bts w v l) :
    Calls Try.prog 3 #[.int .i64 c, v] w fun e w' => e = .returned (.bool true) ∧ Below w.heap.size w w' := by
  have HA := Lib.hid A
  obtain ⟨p, cap, rfl, hcap, -, hp⟩ := hB.form
  have HP := Lib.hid hp
  clear A hB hp
  by_cases h1 : c < 16
  case pos =>
    go_enter Try.func3, Try.ntmps3
    go_wp2_with fail
    refine (known_any HA.out _).mono ?_
    rintro e w2 ⟨rfl, hb2⟩
    go_wp2_with fail
    go_ret
    exact ⟨rfl, hb2⟩
  by_cases h2 : 60 < c
  case pos =>
    go_enter Try.func3, Try.ntmps3
    go_wp2_with fail
    refine (known_any HA.out _).mono ?_
    rintro e w2 ⟨rfl, hb2⟩
    go_wp2_with fail
    go_ret
    exact ⟨rfl, hb2⟩
  by_cases h3 : (200 : Int) < (l.length : Int)
  case pos =>
    go_enter Try.func3, Try.ntmps3
    go_wp2_with fail
    refine (known_any HA.out _).mono ?_
    rintro e w2 ⟨rfl, hb2⟩
    go_wp2_with fail
    go_ret
    exact ⟨rfl, hb2⟩
  obtain ⟨C, rfl⟩ : ∃ C : Nat, c = (C : Int) := ⟨c.toNat, by omega⟩
  have HC60 : Hid (C ≤ 8192) := Lib.hid (by omega)
  have HFT : Hid (Wl.Fits 70 0 (C : Int)) := Lib.hid ⟨by omega, by omega, by decide, by omega⟩
  have HLE : Hid (l.length ≤ 200) := Lib.hid (by omega)
  have HIC := Lib.hid hc
  clear hc
  go_enter Try.func3, Try.ntmps3
  go_wp2_with fail
  refine (HA.out.new 70 w (by decide) (by decide)).mono ?_
  rintro e w1 ⟨B, U, rfl, hD, hU, hb⟩
  have HD := Lib.hid hD
  have HU : Hid (From w.heap.size U) := fun i hi => hU i hi
  have HB := Lib.hid hb
  clear hD hU hb
  go_wp2_with fail
  refine (HA.out.make (n := 70) 0 (C : Int) HD.out Wl.calm_fresh (by unfold I64'; omega) HIC.out).mono ?_
  rintro e w2 ⟨h, -⟩
  obtain ⟨L, U2, V2, d2, rfl, hL, hC, hT, hG, hV⟩ := h HFT.out
  have HLm := Lib.hid hL
  have HB2m := Lib.hid (HB.out.trans ((hT.under HU.out HB.out.size).mono (Nat.le_refl _)))
  have HV2 := Lib.hid (from_new hV HB.out.size)
  clear h hL hC hT hG hV HD HU HB h1 h2 h3
  go_wp2_with fail
  go_loopw [9] (fun iv wr => ∃ k : Nat, k ≤ l.length ∧ iv = .int .i64 (k : Int) ∧ ∃ V s, PL U2 V wr B L d2 s ∧ From w.heap.size V ∧ Below w.heap.size w wr ∧ s.count = C ∧ s.epoch = 1 ∧ s.stop ≤ 52 + 1100 * k) (fun iv _ => l.length - (intOf iv).toNat)
  case atStart => exact ⟨0, Nat.zero_le _, rfl, V2, _, HLm.out, HV2.out, HB2m.out, by simp [Wl.fresh], rfl, Nat.le_refl _⟩
  case round =>
    obtain ⟨k, hk, rfl, V, s, hL, hV, hb, hcn, hep, hst⟩ := hrel
    have HL0 := Lib.hid hL
    have HV := Lib.hid hV
    have HB0 := Lib.hid hb
    have HCN := Lib.hid hcn
    have HEP := Lib.hid hep
    have HST := Lib.hid hst
    have HSB : Hid (s.stop ≤ 1000000000000) := Lib.hid (by have := HLE.out; omega)
    clear hL hV hb hcn hep hst
    by_cases hlt : k < l.length
    · have HLT := Lib.hid hlt
      obtain ⟨b, off, rfl, hx⟩ := HP.out (by omega)
      have hxk := hx k hlt
      have hki : (k : Int) < (l.length : Int) := by omega
      have hk0 : (0 : Int) ≤ (k : Int) := by omega
      have hcell := (HB0.out.cell (p := ⟨b, off + k, none⟩) (block_lt_of_cell hxk)).trans hxk
      generalize l.getD k 0 = x at *
      obtain ⟨q, hq⟩ : ∃ q, Wl.atN 500 x = q := ⟨_, rfl⟩
      have hq1 : (IntKind.u64.wrap x).tmod 500 = (q : Int) := by rw [← hq]; exact Wl.atN_eq (n := 500) (by decide) x
      have hq2 : q < 500 := by rw [← hq]; exact Wl.atN_lt (by decide) x
      have hq3 : IntKind.i64.wrap (q : Int) = (q : Int) := IntWalk.i64_in _ (by omega)
      have hq4 : wrap64 (1 + (q : Int)) = 1 + (q : Int) := IntWalk.wrap64_in _ ⟨by omega, by omega⟩
      obtain ⟨n, hn0⟩ : ∃ n, n = q + 1 := ⟨_, rfl⟩
      have HN : Hid (1 ≤ n ∧ n ≤ 500) := Lib.hid (by omega)
      clear hx hxk hq hlt
      go_upto_region 11 with (fail)
      rw [show (1 + (q : Int)) = (n : Int) by rw [hn0]; omega]
      clear hcell hq1 hq2 hq3 hq4 hki hk0 hn0
      have hmk := wb_run n (by have := HN.out; omega) wr
      have hwb := wb_own n (by have := HN.out; omega) wr
      have hbn := below_new1 wr (.cells (bytesV (Wl.zeros n)).toArray 5)
      obtain ⟨z1, hz1⟩ : ∃ z, z = wr.alloc (.cells (bytesV (Wl.zeros n)).toArray 5) := ⟨_, rfl⟩
      obtain ⟨g, hg⟩ : ∃ g, g = wr.heap.size := ⟨_, rfl⟩
      rw [← hz1, ← hg] at hmk hwb
      rw [← hz1] at hbn
      have HL := Lib.hid (HA.out.below HL0.out hbn)
      have HB1 := Lib.hid (HB0.out.trans (hbn.mono HB0.out.size))
      have HO1 := Lib.hid hwb
      clear hwb hbn hz1 hg
      go_upto_region 12 with (fail)
      clear hmk
      by_cases hn : n < 128
      · as_aux_lemma =>
          have hw1 : wrap64 (2 * (n : Int)) = 2 * (n : Int) := IntWalk.wrap64_in _ ⟨by have := HN.out; omega, by have := HN.out; omega⟩
          have hw2 : wrap64 (25 + 2 * (n : Int)) = 25 + 2 * (n : Int) := IntWalk.wrap64_in _ ⟨by have := HN.out; omega, by have := HN.out; omega⟩
          have hw3 : wrap64 (25 + 2 * (n : Int) + 2) = 25 + 2 * (n : Int) + 2 := IntWalk.wrap64_in _ ⟨by have := HN.out; omega, by have := HN.out; omega⟩
          have h128 : (n : Int) < 128 := by omega
          go_upto_region 15 with (fail)
          clear hw1 hw2 hw3 h128
          obtain ⟨sz, hszd⟩ : ∃ sz, sz = 25 + 2 * n + 2 := ⟨_, rfl⟩
          have HSZ : Hid (Wl.size (Wl.stamp s (Wl.wr 0 (Wl.zeros n))) = sz) := Lib.hid (by rw [Wl.wr_size, Wl.zeros_length, Wl.uv_short hn, hszd]; omega)
          have HSZB : Hid (sz ≤ 1100) := Lib.hid (by have := HN.out; omega)
          rw [show (25 + 2 * (n : Int) + 2) = (sz : Int) by rw [hszd]; omega]
          clear hszd hn
          have hc := HA.out.left (HA.out.mem HL.out) HSB.out (by rw [HCN.out]; exact HC60.out)
          obtain ⟨lf, hlf⟩ : ∃ lf, Wl.left s = lf := ⟨_, rfl⟩
          rw [hlf] at hc
          have HLF := Lib.hid hlf
          clear hlf
          go_wp2_with fail
          refine hc.mono ?_
          rintro e z2 ⟨rfl, hb⟩
          have HL2 := Lib.hid (HA.out.below HL.out hb)
          have HB2 := Lib.hid (HB1.out.trans (hb.mono HB1.out.size))
          have HO2 := Lib.hid (HO1.out.below hb)
          clear hc hb
          go_wp2_with fail
          refine (HA.out.end_ (HA.out.mem HL2.out) HSB.out).mono ?_
          rintro e z3 ⟨rfl, hb⟩
          have HL3 := Lib.hid (HA.out.below HL2.out hb)
          have HB3 := Lib.hid (HB2.out.trans (hb.mono HB2.out.size))
          have HO3 := Lib.hid (HO2.out.below hb)
          clear hb
          go_wp2_with fail
          have hc := HA.out.append (Wl.wr 0 (Wl.zeros n)) (.slice (some ⟨g, 0, none⟩) n n) (.slice (some ⟨g, 0, none⟩) n n) (.slice none 0 0) (.slice none 0 0) (.slice none 0 0) HL3.out ⟨HO3.out.bts, HO3.out.bts, bts_none _, Chr.bts_nil _, Dir.bts_nil _, Wl.wr_ok (by decide) (Wl.zeros_lt n)⟩ (Wl.wr_few (by rw [Wl.zeros_length]; have := HN.out; omega)) (by rw [HEP.out]; decide) HSB.out
          have hM := Wl.wr_may (s := s) (p := 0) (b := Wl.zeros n) (by rw [Wl.zeros_length]; exact HN.out.1) (by rw [Wl.zeros_length]; exact HN.out.2)
          have hsz := HSZ.out
          by_cases hfit : (Wl.size (Wl.stamp s (Wl.wr 0 (Wl.zeros n))) : Int) ≤ Wl.left s
          case neg =>
            as_aux_lemma =>
              rw [Wl.append_full hM hfit, show ((0 : Nat) : Int) = 0 from rfl, show ((5 : Nat) : Int) = 5 from rfl] at hc
              rw [hsz, HLF.out] at hfit
              have hlt : lf < (sz : Int) := Int.not_le.1 hfit
              refine hc.mono ?_
              rintro e z4 ⟨rfl, V4, hL, hT, hG⟩
              have HL4 := Lib.hid hL
              have HV4 := Lib.hid (hG.from HV.out HB3.out.size)
              have HB4 := Lib.hid (HB3.out.trans ((hT.under HV.out HB3.out.size).mono (Nat.le_refl _)))
              clear hc hL hT hG hM hfit hsz
              have hc := HA.out.left (HA.out.mem HL4.out) HSB.out (by rw [HCN.out]; exact HC60.out)
              rw [HLF.out] at hc
              go_wp2_with fail
              refine hc.mono ?_
              rintro e z5 ⟨rfl, hb⟩
              have HL5 := Lib.hid (HA.out.below HL4.out hb)
              have HB5 := Lib.hid (HB4.out.trans (hb.mono HB4.out.size))
              clear hc hb
              have hll : (lf != lf) = false := by simp
              go_wp2_with fail
              refine (HA.out.end_ (HA.out.mem HL5.out) HSB.out).mono ?_
              rintro e z6 ⟨rfl, hb⟩
              have HL6 := Lib.hid (HA.out.below HL5.out hb)
              have HB6 := Lib.hid (HB5.out.trans (hb.mono HB5.out.size))
              clear hb
              have hss : ((s.stop : Int) != (s.stop : Int)) = false := by simp
              have hk1 := IntWalk.i64_in ((k : Int) + 1) (by have := HLT.out; have := HLE.out; omega)
              go_wp2_with fail
              go_roundw
              case rel => exact ⟨k + 1, HLT.out, by go_num, V4, s, HL6.out, HV4.out, HB6.out, HCN.out, HEP.out, by have := HST.out; omega⟩
              case measure => have := HLT.out; simp [intOf]; omega
          case pos =>
            as_aux_lemma =>
              rw [Wl.append_fine hM hfit, show ((0 : Nat) : Int) = 0 from rfl] at hc
              have hst : (Wl.app s (Wl.wr 0 (Wl.zeros n))).stop = s.stop + sz := by show s.stop + Wl.size _ = _; rw [hsz]
              have hlf2 : Wl.left (Wl.app s (Wl.wr 0 (Wl.zeros n))) = lf - (sz : Int) := by
                rw [← HLF.out]
                unfold Wl.left
                rw [hst]
                show (((s.start / 52 + 2 * s.count) * 52 : Nat) : Int) - ((s.stop + sz : Nat) : Int) = (((s.start / 52 + 2 * s.count) * 52 : Nat) : Int) - (s.stop : Int) - (sz : Int)
                omega
              rw [hsz, HLF.out] at hfit
              have hlt : ¬ lf < (sz : Int) := Int.not_lt.2 hfit
              have HLS := Lib.hid (Wl.left_small (HA.out.good (HA.out.mem HL3.out)) HSB.out (by rw [HCN.out]; exact HC60.out))
              rw [HLF.out] at HLS
              refine hc.mono ?_
              rintro e z4 ⟨rfl, V4, hL, hT, hG⟩
              have HL4 := Lib.hid hL
              have HV4 := Lib.hid (hG.from HV.out HB3.out.size)
              have HB4 := Lib.hid (HB3.out.trans ((hT.under HV.out HB3.out.size).mono (Nat.le_refl _)))
              have HS2 := Lib.hid hst
              have HSB2 : Hid ((Wl.app s (Wl.wr 0 (Wl.zeros n))).stop ≤ 1000000000000) := Lib.hid (by rw [hst]; have := HST.out; have := HSZB.out; have := HLT.out; have := HLE.out; omega)
              have hc2 := HA.out.left (HA.out.mem HL4.out) HSB2.out (by show s.count ≤ 8192; rw [HCN.out]; exact HC60.out)
              rw [hlf2] at hc2
              clear hc hL hT hG hM hfit hsz hlf2 hst
              generalize hs2 : Wl.app s (Wl.wr 0 (Wl.zeros n)) = s2 at *
              have HS2E := Lib.hid hs2
              clear hs2
              have hwl : wrap64 (lf - (sz : Int)) = lf - (sz : Int) := IntWalk.wrap64_in _ ⟨by have := HLS.out; omega, by have := HLS.out; have := HSZB.out; omega⟩
              go_wp2_with fail
              refine hc2.mono ?_
              rintro e z5 ⟨rfl, hb⟩
              have HL5 := Lib.hid (HA.out.below HL4.out hb)
              have HB5 := Lib.hid (HB4.out.trans (hb.mono HB4.out.size))
              clear hc2 hb
              have hll : (lf - (sz : Int) != lf - (sz : Int)) = false := by simp
              have he2 := HA.out.end_ (HA.out.mem HL5.out) HSB2.out
              rw [HS2.out] at he2
              go_wp2_with fail
              refine he2.mono ?_
              rintro e z6 ⟨rfl, hb⟩
              have HL6 := Lib.hid (HA.out.below HL5.out hb)
              have HB6 := Lib.hid (HB5.out.trans (hb.mono HB5.out.size))
              clear he2 hb
              have hu1 : IntKind.u64.wrap (sz : Int) = (sz : Int) := by rw [IntKind.wrap_u64]; have := HSZB.out; omega
              have hu2 : IntKind.u64.wrap ((s.stop : Int) + (sz : Int)) = ((s.stop + sz : Nat) : Int) := by rw [IntKind.wrap_u64]; have := HSZB.out; have := HSB.out; omega
              have hss : (((s.stop + sz : Nat) : Int) != ((s.stop + sz : Nat) : Int)) = false := by simp
              have hk1 := IntWalk.i64_in ((k : Int) + 1) (by have := HLT.out; have := HLE.out; omega)
              generalize hEE : ((s.stop + sz : Nat) : Int) = EE at *
              go_wp2_with fail
              go_roundw
              case rel => exact ⟨k + 1, HLT.out, by go_num, V4, s2, HL6.out, HV4.out, HB6.out, by rw [← HS2E.out]; exact HCN.out, by rw [← HS2E.out]; exact HEP.out, by rw [HS2.out]; have := HST.out; have := HSZB.out; omega⟩
              case measure => have := HLT.out; simp [intOf]; omega
      · as_aux_lemma =>
          have hw1 : wrap64 (2 * (n : Int)) = 2 * (n : Int) := IntWalk.wrap64_in _ ⟨by have := HN.out; omega, by have := HN.out; omega⟩
          have hw2 : wrap64 (25 + 2 * (n : Int)) = 25 + 2 * (n : Int) := IntWalk.wrap64_in _ ⟨by have := HN.out; omega, by have := HN.out; omega⟩
          have hw3 : wrap64 (25 + 2 * (n : Int) + 2) = 25 + 2 * (n : Int) + 2 := IntWalk.wrap64_in _ ⟨by have := HN.out; omega, by have := HN.out; omega⟩
          have hw4 : wrap64 (25 + 2 * (n : Int) + 2 + 2) = 25 + 2 * (n : Int) + 2 + 2 := IntWalk.wrap64_in _ ⟨by have := HN.out; omega, by have := HN.out; omega⟩
          have h128 : ¬ (n : Int) < 128 := by omega
          go_upto_region 15 with (fail)
          clear hw1 hw2 hw3 hw4 h128
          obtain ⟨sz, hszd⟩ : ∃ sz, sz = 25 + 2 * n + 4 := ⟨_, rfl⟩
          have HSZ : Hid (Wl.size (Wl.stamp s (Wl.wr 0 (Wl.zeros n))) = sz) := Lib.hid (by rw [Wl.wr_size, Wl.zeros_length, Wl.uv_long (by omega) (by have := HN.out; omega), hszd]; omega)
          have HSZB : Hid (sz ≤ 1100) := Lib.hid (by have := HN.out; omega)
          rw [show (25 + 2 * (n : Int) + 2 + 2) = (sz : Int) by rw [hszd]; omega, IntWalk.wrap64_in (sz : Int) ⟨by omega, by have := HSZB.out; omega⟩]
          clear hszd hn
          have hc := HA.out.left (HA.out.mem HL.out) HSB.out (by rw [HCN.out]; exact HC60.out)
          obtain ⟨lf, hlf⟩ : ∃ lf, Wl.left s = lf := ⟨_, rfl⟩
          rw [hlf] at hc
          have HLF := Lib.hid hlf
          clear hlf
          go_wp2_with fail
          refine hc.mono ?_
          rintro e z2 ⟨rfl, hb⟩
          have HL2 := Lib.hid (HA.out.below HL.out hb)
          have HB2 := Lib.hid (HB1.out.trans (hb.mono HB1.out.size))
          have HO2 := Lib.hid (HO1.out.below hb)
          clear hc hb
          go_wp2_with fail
          refine (HA.out.end_ (HA.out.mem HL2.out) HSB.out).mono ?_
          rintro e z3 ⟨rfl, hb⟩
          have HL3 := Lib.hid (HA.out.below HL2.out hb)
          have HB3 := Lib.hid (HB2.out.trans (hb.mono HB2.out.size))
          have HO3 := Lib.hid (HO2.out.below hb)
          clear hb
          go_wp2_with fail
          have hc := HA.out.append (Wl.wr 0 (Wl.zeros n)) (.slice (some ⟨g, 0, none⟩) n n) (.slice (some ⟨g, 0, none⟩) n n) (.slice none 0 0) (.slice none 0 0) (.slice none 0 0) HL3.out ⟨HO3.out.bts, HO3.out.bts, bts_none _, Chr.bts_nil _, Dir.bts_nil _, Wl.wr_ok (by decide) (Wl.zeros_lt n)⟩ (Wl.wr_few (by rw [Wl.zeros_length]; have := HN.out; omega)) (by rw [HEP.out]; decide) HSB.out
          have hM := Wl.wr_may (s := s) (p := 0) (b := Wl.zeros n) (by rw [Wl.zeros_length]; exact HN.out.1) (by rw [Wl.zeros_length]; exact HN.out.2)
          have hsz := HSZ.out
          by_cases hfit : (Wl.size (Wl.stamp s (Wl.wr 0 (Wl.zeros n))) : Int) ≤ Wl.left s
          case neg =>
            as_aux_lemma =>
              rw [Wl.append_full hM hfit, show ((0 : Nat) : Int) = 0 from rfl, show ((5 : Nat) : Int) = 5 from rfl] at hc
              rw [hsz, HLF.out] at hfit
              have hlt : lf < (sz : Int) := Int.not_le.1 hfit
              refine hc.mono ?_
              rintro e z4 ⟨rfl, V4, hL, hT, hG⟩
              have HL4 := Lib.hid hL
              have HV4 := Lib.hid (hG.from HV.out HB3.out.size)
              have HB4 := Lib.hid (HB3.out.trans ((hT.under HV.out HB3.out.size).mono (Nat.le_refl _)))
              clear hc hL hT hG hM hfit hsz
              have hc := HA.out.left (HA.out.mem HL4.out) HSB.out (by rw [HCN.out]; exact HC60.out)
              rw [HLF.out] at hc
              go_wp2_with fail
              refine hc.mono ?_
              rintro e z5 ⟨rfl, hb⟩
              have HL5 := Lib.hid (HA.out.below HL4.out hb)
              have HB5 := Lib.hid (HB4.out.trans (hb.mono HB4.out.size))
              clear hc hb
              have hll : (lf != lf) = false := by simp
              go_wp2_with fail
              refine (HA.out.end_ (HA.out.mem HL5.out) HSB.out).mono ?_
              rintro e z6 ⟨rfl, hb⟩
              have HL6 := Lib.hid (HA.out.below HL5.out hb)
              have HB6 := Lib.hid (HB5.out.trans (hb.mono HB5.out.size))
              clear hb
              have hss : ((s.stop : Int) != (s.stop : Int)) = false := by simp
              have hk1 := IntWalk.i64_in ((k : Int) + 1) (by have := HLT.out; have := HLE.out; omega)
              go_wp2_with fail
              go_roundw
              case rel => exact ⟨k + 1, HLT.out, by go_num, V4, s, HL6.out, HV4.out, HB6.out, HCN.out, HEP.out, by have := HST.out; omega⟩
              case measure => have := HLT.out; simp [intOf]; omega
          case pos =>
            as_aux_lemma =>
              rw [Wl.append_fine hM hfit, show ((0 : Nat) : Int) = 0 from rfl] at hc
              have hst : (Wl.app s (Wl.wr 0 (Wl.zeros n))).stop = s.stop + sz := by show s.stop + Wl.size _ = _; rw [hsz]
              have hlf2 : Wl.left (Wl.app s (Wl.wr 0 (Wl.zeros n))) = lf - (sz : Int) := by
                rw [← HLF.out]
                unfold Wl.left
                rw [hst]
                show (((s.start / 52 + 2 * s.count) * 52 : Nat) : Int) - ((s.stop + sz : Nat) : Int) = (((s.start / 52 + 2 * s.count) * 52 : Nat) : Int) - (s.stop : Int) - (sz : Int)
                omega
              rw [hsz, HLF.out] at hfit
              have hlt : ¬ lf < (sz : Int) := Int.not_lt.2 hfit
              have HLS := Lib.hid (Wl.left_small (HA.out.good (HA.out.mem HL3.out)) HSB.out (by rw [HCN.out]; exact HC60.out))
              rw [HLF.out] at HLS
              refine hc.mono ?_
              rintro e z4 ⟨rfl, V4, hL, hT, hG⟩
              have HL4 := Lib.hid hL
              have HV4 := Lib.hid (hG.from HV.out HB3.out.size)
              have HB4 := Lib.hid (HB3.out.trans ((hT.under HV.out HB3.out.size).mono (Nat.le_refl _)))
              have HS2 := Lib.hid hst
              have HSB2 : Hid ((Wl.app s (Wl.wr 0 (Wl.zeros n))).stop ≤ 1000000000000) := Lib.hid (by rw [hst]; have := HST.out; have := HSZB.out; have := HLT.out; have := HLE.out; omega)
              have hc2 := HA.out.left (HA.out.mem HL4.out) HSB2.out (by show s.count ≤ 8192; rw [HCN.out]; exact HC60.out)
              rw [hlf2] at hc2
              clear hc hL hT hG hM hfit hsz hlf2 hst
              generalize hs2 : Wl.app s (Wl.wr 0 (Wl.zeros n)) = s2 at *
              have HS2E := Lib.hid hs2
              clear hs2
              have hwl : wrap64 (lf - (sz : Int)) = lf - (sz : Int) := IntWalk.wrap64_in _ ⟨by have := HLS.out; omega, by have := HLS.out; have := HSZB.out; omega⟩
              go_wp2_with fail
              refine hc2.mono ?_
              rintro e z5 ⟨rfl, hb⟩
              have HL5 := Lib.hid (HA.out.below HL4.out hb)
              have HB5 := Lib.hid (HB4.out.trans (hb.mono HB4.out.size))
              clear hc2 hb
              have hll : (lf - (sz : Int) != lf - (sz : Int)) = false := by simp
              have he2 := HA.out.end_ (HA.out.mem HL5.out) HSB2.out
              rw [HS2.out] at he2
              go_wp2_with fail
              refine he2.mono ?_
              rintro e z6 ⟨rfl, hb⟩
              have HL6 := Lib.hid (HA.out.below HL5.out hb)
              have HB6 := Lib.hid (HB5.out.trans (hb.mono HB5.out.size))
              clear he2 hb
              have hu1 : IntKind.u64.wrap (sz : Int) = (sz : Int) := by rw [IntKind.wrap_u64]; have := HSZB.out; omega
              have hu2 : IntKind.u64.wrap ((s.stop : Int) + (sz : Int)) = ((s.stop + sz : Nat) : Int) := by rw [IntKind.wrap_u64]; have := HSZB.out; have := HSB.out; omega
              have hss : (((s.stop + sz : Nat) : Int) != ((s.stop + sz : Nat) : Int)) = false := by simp
              have hk1 := IntWalk.i64_in ((k : Int) + 1) (by have := HLT.out; have := HLE.out; omega)
              generalize hEE : ((s.stop + sz : Nat) : Int) = EE at *
              go_wp2_with fail
              go_roundw
              case rel => exact ⟨k + 1, HLT.out, by go_num, V4, s2, HL6.out, HV4.out, HB6.out, by rw [← HS2E.out]; exact HCN.out, by rw [← HS2E.out]; exact HEP.out, by rw [HS2.out]; have := HST.out; have := HSZB.out; omega⟩
              case measure => have := HLT.out; simp [intOf]; omega
    · obtain rfl : k = l.length := by omega
      have hstop : ¬ ((l.length : Int) < (l.length : Int)) := by omega
      go_wp2_with fail
      refine (known_any HA.out _).mono ?_
      rintro e w3 ⟨rfl, hb⟩
      have HB9 := Lib.hid (HB0.out.trans (hb.mono HB0.out.size))
      clear hb
      go_wp2_with fail
      go_ret
      exact ⟨rfl, HB9.out⟩
end
end Go.Proofs.Ytafpjcobagofcaa
