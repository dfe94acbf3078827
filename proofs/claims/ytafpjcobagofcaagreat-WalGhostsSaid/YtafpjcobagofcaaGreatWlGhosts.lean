/- What the law WalGhosts answers, for all numbers and picks. Conditions: the program's contracts; the slice's cells hold the picks. -/
import Derived.Test.YtafpjcobagofcaaGreatWlKnown
import Derived.Test.YtafpjcobagofcaaGreatWlBase
namespace Go.Proofs.YtafpjcobagofcaaGreat
open Go.RowKit
section
variable {PD : (Nat → Prop) → World → Nat → Dk.Dev → Prop} {PL : (Nat → Prop) → (Nat → Prop) → World → Nat → Nat → Dk.Dev → Wl.S → Prop} {PM : (Nat → Prop) → World → Nat → Wl.S → Prop} {Hd : Dk.Dev → Wl.S → Prop}

set_option maxHeartbeats 6400000 in
set_option maxRecDepth 20000 in
theorem walGhosts_any (A : WlApi PD PL PM Hd) (K T G : Int) (v : Value) (ps : List Nat) (w : World) (hB : Bts w v ps) :
    Calls Tryz.prog 4 #[.int .i64 K, .int .i64 T, .int .i64 G, v] w fun e w' => e = .returned (.bool true) ∧ Below w.heap.size w w' := by
  have HA := Lib.hid A
  have HPS := Lib.hid hB
  obtain ⟨pp, pc, rfl, -, -, -⟩ := hB.form
  clear A hB
  by_cases g0 : K < 0
  case pos =>
    go_enter Tryz.func4, Tryz.ntmps4
    go_wp2_with fail
    refine (known_any HA.out _).mono ?_
    rintro e w2 ⟨rfl, hb2⟩
    go_wp2_with fail
    go_ret
    exact ⟨rfl, hb2⟩
  by_cases g1 : T < 0
  case pos =>
    go_enter Tryz.func4, Tryz.ntmps4
    go_wp2_with fail
    refine (known_any HA.out _).mono ?_
    rintro e w2 ⟨rfl, hb2⟩
    go_wp2_with fail
    go_ret
    exact ⟨rfl, hb2⟩
  by_cases g2 : G < 0
  case pos =>
    go_enter Tryz.func4, Tryz.ntmps4
    go_wp2_with fail
    refine (known_any HA.out _).mono ?_
    rintro e w2 ⟨rfl, hb2⟩
    go_wp2_with fail
    go_ret
    exact ⟨rfl, hb2⟩
  by_cases g3 : 60 < K
  case pos =>
    go_enter Tryz.func4, Tryz.ntmps4
    go_wp2_with fail
    refine (known_any HA.out _).mono ?_
    rintro e w2 ⟨rfl, hb2⟩
    go_wp2_with fail
    go_ret
    exact ⟨rfl, hb2⟩
  by_cases g4 : 60 < T
  case pos =>
    go_enter Tryz.func4, Tryz.ntmps4
    go_wp2_with fail
    refine (known_any HA.out _).mono ?_
    rintro e w2 ⟨rfl, hb2⟩
    go_wp2_with fail
    go_ret
    exact ⟨rfl, hb2⟩
  by_cases g5 : 60 < G
  case pos =>
    go_enter Tryz.func4, Tryz.ntmps4
    go_wp2_with fail
    refine (known_any HA.out _).mono ?_
    rintro e w2 ⟨rfl, hb2⟩
    go_wp2_with fail
    go_ret
    exact ⟨rfl, hb2⟩
  obtain ⟨K, rfl⟩ : ∃ k : Nat, K = (k : Int) := ⟨K.toNat, by omega⟩
  obtain ⟨T, rfl⟩ : ∃ k : Nat, T = (k : Int) := ⟨T.toNat, by omega⟩
  obtain ⟨G, rfl⟩ : ∃ k : Nat, G = (k : Int) := ⟨G.toNat, by omega⟩
  have HK60 : Hid (K ≤ 60 ∧ T ≤ 60 ∧ G ≤ 60) := Lib.hid ⟨by omega, by omega, by omega⟩
  have hkt : wrap64 ((K : Int) + (T : Int)) = (K : Int) + (T : Int) := IntWalk.wrap64_in _ ⟨by omega, by omega⟩
  go_enter Tryz.func4, Tryz.ntmps4
  go_wp2_with fail
  refine (HA.out.new 80 w (by decide) (by decide)).mono ?_
  rintro e w1 ⟨B, U, rfl, hD, hU, hb⟩
  have HD := Lib.hid hD
  have HU : Hid (From w.heap.size U) := fun i hi => hU i hi
  have HB := Lib.hid hb
  clear hD hU hb
  go_wp2_with fail
  refine (HA.out.make (n := 80) 0 60 HD.out Wl.calm_fresh (by unfold I64'; omega) (by unfold I64'; omega)).mono ?_
  rintro e w2 ⟨h, -⟩
  obtain ⟨L, U2, V2, d2, rfl, hL, hC, hT, hG, hV⟩ := h ⟨by decide, by decide, by decide, by decide⟩
  have HLm := Lib.hid hL
  have HBm := Lib.hid (HB.out.trans ((hT.under HU.out HB.out.size).mono (Nat.le_refl _)))
  have HU2 := Lib.hid (hG.from HU.out HB.out.size)
  have HV2 := Lib.hid (from_new hV HB.out.size)
  have HC2 := Lib.hid hC
  clear h hL hC hT hG hV HD HU HB g0 g1 g2 g3 g4 g5
  go_wp2_with fail
  go_loopw [13] (fun iv wr => ∃ k : Nat, k ≤ K + T ∧ iv = .int .i64 (k : Int) ∧ ∃ U V d s, PL U V wr B L d s ∧ From w.heap.size U ∧ From w.heap.size V ∧ Wl.Calm 80 d ∧ Wl.Rw (fun j => j + 1) k s ∧ s.epoch = 1 ∧ (K < k → 52 + 27 * K ≤ s.flushed) ∧ Below w.heap.size w wr) (fun iv _ => K + T - (intOf iv).toNat)
  case atStart => exact ⟨0, Nat.zero_le _, rfl, U2, V2, d2, _, HLm.out, HU2.out, HV2.out, HC2.out, Wl.rw_fresh _, rfl, fun h => absurd h (Nat.not_lt_zero K), HBm.out⟩
  case round =>
    clear HLm HBm HU2 HV2 HC2
    obtain ⟨k, hk, rfl, U, V, d, s, hL, hU, hV, hC, hR, hE, hF, hb⟩ := hrel
    have HL := Lib.hid hL
    have HU := Lib.hid hU
    have HV := Lib.hid hV
    have HC := Lib.hid hC
    have HRW := Lib.hid hR
    have HEP := Lib.hid hE
    have HFL := Lib.hid hF
    have HB := Lib.hid hb
    clear hL hU hV hC hR hE hF hb
    by_cases hlt : k < K + T
    · have hki : (k : Int) < (K : Int) + (T : Int) := by omega
      have HLT : Hid (k < K + T) := hlt
      have HKB : Hid (k ≤ 119) := Lib.hid (by have := HK60.out; omega)
      have hw1 : wrap64 ((k : Int) + 1) = (k : Int) + 1 := IntWalk.wrap64_in _ ⟨by omega, by have := HKB.out; omega⟩
      obtain ⟨t1, ht1⟩ : ∃ t1, t1 = k + 1 := ⟨_, rfl⟩
      have hw2 : IntKind.u64.wrap ((k : Int) + 1) = (t1 : Int) := by rw [IntKind.wrap_u64]; have := HKB.out; omega
      have HT1 : Hid (t1 = k + 1) := ht1
      clear ht1
      have hw3 := IntWalk.i64_in ((k : Int) + 1) (by have := HKB.out; omega)
      by_cases hkk : k = K
      · as_aux_lemma =>
          have hkt2 : ((k : Int) == (K : Int)) = true := by rw [hkk]; simp
          have HKK := Lib.hid hkk
          clear hkk
          go_wp2_with fail
          refine (HA.out.flush (n := 80) HL.out ⟨HA.out.dok (HA.out.dev HL.out), HC.out.sz, HC.out.most⟩ (by rw [HRW.out.stop]; have := HKB.out; omega)).mono ?_
          rintro e z0 hfl
          rcases hfl with ⟨U1, V1, d1, rfl, hL, -, hC, hT, hG1, hG2⟩ | ⟨hno, -⟩
          case inr => exact absurd HC.out hno
          have HL1 := Lib.hid hL
          have HC1 := Lib.hid (hC HC.out)
          have HU1 := Lib.hid (hG1.from HU.out HB.out.size)
          have HV1 := Lib.hid (hG2.from HV.out HB.out.size)
          have HB1 := Lib.hid (HB.out.trans ((hT.under (from_both HU.out HV.out) HB.out.size).mono (Nat.le_refl _)))
          have HR1 := Lib.hid HRW.out.flush
          have HE1 : Hid ((Wl.flush s).epoch = 1) := HEP.out
          have HF1 : Hid (52 + 27 * K ≤ (Wl.flush s).flushed) := by
            show 52 + 27 * K ≤ s.stop
            rw [HRW.out.stop, HKK.out]; exact Nat.le_refl _
          clear hL hC hT hG1 hG2 HL HC HU HV HB HRW HEP HFL hkt2
          obtain ⟨s1, hs1⟩ : ∃ s1, s1 = Wl.flush s := ⟨_, rfl⟩
          rw [← hs1] at HL1 HR1 HE1 HF1
          clear hs1
          have HL := HL1
          have HC := HC1
          have HU := HU1
          have HV := HV1
          have HB := HB1
          have HRW := HR1
          have HEP := HE1
          clear HL1 HC1 HU1 HV1 HB1 HR1 HE1
          have hkb := HKB.out
          go_wp2_with fail
          refine (done_any t1 _).mono ?_
          rintro e z1 ⟨rfl, hb⟩
          have HLa := Lib.hid (HA.out.below HL.out hb)
          have HBa := Lib.hid (HB.out.trans (hb.mono HB.out.size))
          clear hb
          go_wp2_with fail
          have hc := HA.out.append (Wl.dn t1) (.slice none 0 0) (.slice none 0 0) (.slice none 0 0) (.slice none 0 0) (.slice none 0 0) HLa.out (dn_at _ (by have := HT1.out; omega)) (Wl.dn_few _) (by rw [HEP.out]; decide) (by rw [HRW.out.stop]; omega)
          rw [HRW.out.fine (by omega) (by have := HT1.out; omega), show ((0 : Nat) : Int) = 0 from rfl] at hc
          refine hc.mono ?_
          rintro e z2 ⟨rfl, V2, hL, hT, hG⟩
          have HLb := Lib.hid hL
          have HVb := Lib.hid (hG.from HV.out HBa.out.size)
          have HBb := Lib.hid (HBa.out.trans ((hT.under HV.out HBa.out.size).mono (Nat.le_refl _)))
          have HRb := Lib.hid (HRW.out.next (t := t1) (by omega) (by rw [HEP.out]; decide) (by have := HT1.out; omega) (by have := HT1.out; omega) HT1.out.symm)
          clear hc hL hT hG HLa HBa
          have HFb : Hid (K < k + 1 → 52 + 27 * K ≤ (Wl.app s1 (Wl.dn t1)).flushed) := fun _ => HF1.out
          have HEb : Hid ((Wl.app s1 (Wl.dn t1)).epoch = 1) := HEP.out
          go_wp2_with fail
          go_roundw
          case rel => exact ⟨k + 1, HLT.out, by go_num, U1, V2, d1, _, HLb.out, HU.out, HVb.out, HC.out, HRb.out, HEb.out, HFb.out, HBb.out⟩
          case measure => have := HLT.out; simp [intOf]; omega
      · as_aux_lemma =>
          have hkt2 : ((k : Int) == (K : Int)) = false := by rw [beq_eq_false_iff_ne]; omega
          have HKK : Hid (¬ k = K) := hkk
          clear hkk
          have hkb := HKB.out
          go_wp2_with fail
          refine (done_any t1 _).mono ?_
          rintro e z1 ⟨rfl, hb⟩
          have HLa := Lib.hid (HA.out.below HL.out hb)
          have HBa := Lib.hid (HB.out.trans (hb.mono HB.out.size))
          clear hb
          go_wp2_with fail
          have hc := HA.out.append (Wl.dn t1) (.slice none 0 0) (.slice none 0 0) (.slice none 0 0) (.slice none 0 0) (.slice none 0 0) HLa.out (dn_at _ (by have := HT1.out; omega)) (Wl.dn_few _) (by rw [HEP.out]; decide) (by rw [HRW.out.stop]; omega)
          rw [HRW.out.fine (by omega) (by have := HT1.out; omega), show ((0 : Nat) : Int) = 0 from rfl] at hc
          refine hc.mono ?_
          rintro e z2 ⟨rfl, V2, hL, hT, hG⟩
          have HLb := Lib.hid hL
          have HVb := Lib.hid (hG.from HV.out HBa.out.size)
          have HBb := Lib.hid (HBa.out.trans ((hT.under HV.out HBa.out.size).mono (Nat.le_refl _)))
          have HRb := Lib.hid (HRW.out.next (t := t1) (by omega) (by rw [HEP.out]; decide) (by have := HT1.out; omega) (by have := HT1.out; omega) HT1.out.symm)
          clear hc hL hT hG HLa HBa
          have HFb : Hid (K < k + 1 → 52 + 27 * K ≤ (Wl.app s (Wl.dn t1)).flushed) := fun h => HFL.out (by have := HKK.out; omega)
          have HEb : Hid ((Wl.app s (Wl.dn t1)).epoch = 1) := HEP.out
          go_wp2_with fail
          go_roundw
          case rel => exact ⟨k + 1, HLT.out, by go_num, U, V2, d, _, HLb.out, HU.out, HVb.out, HC.out, HRb.out, HEb.out, HFb.out, HBb.out⟩
          case measure => have := HLT.out; simp [intOf]; omega
    · have hkk : k = K + T := by omega
      have hstop : ¬ ((k : Int) < (K : Int) + (T : Int)) := by omega
      have HKE : Hid (k = K + T) := hkk
      clear hlt hk hkk
      by_cases hT0 : T = 0
      · as_aux_lemma =>
          have hz : ((T : Int) == 0) = true := by rw [hT0]; rfl
          have HT0 := Lib.hid hT0
          clear hT0
          go_wp2_with fail
          refine (HA.out.flush (n := 80) HL.out ⟨HA.out.dok (HA.out.dev HL.out), HC.out.sz, HC.out.most⟩ (by rw [HRW.out.stop]; have := HK60.out; have := HKE.out; omega)).mono ?_
          rintro e z0 hfl
          rcases hfl with ⟨U1, V1, d1, rfl, hL, -, hC, hT, hG1, hG2⟩ | ⟨hno, -⟩
          case inr => exact absurd HC.out hno
          have HL1 := Lib.hid hL
          have HC1 := Lib.hid (hC HC.out)
          have HU1 := Lib.hid (hG1.from HU.out HB.out.size)
          have HV1 := Lib.hid (hG2.from HV.out HB.out.size)
          have HB1 := Lib.hid (HB.out.trans ((hT.under (from_both HU.out HV.out) HB.out.size).mono (Nat.le_refl _)))
          have HR1 := Lib.hid HRW.out.flush
          have HE1 : Hid ((Wl.flush s).epoch = 1) := HEP.out
          have HF1 : Hid (52 + 27 * K ≤ (Wl.flush s).flushed) := by
            show 52 + 27 * K ≤ s.stop
            rw [HRW.out.stop, HKE.out]; omega
          clear hL hC hT hG1 hG2 HL HC HU HV HB HRW HEP HFL hz hstop
          generalize Wl.flush s = s1 at HL1 HR1 HE1 HF1
          obtain ⟨r7, hr7⟩ : ∃ r, r = T % 7 := ⟨_, rfl⟩
          have hq1 : (T : Int).tmod 7 = (r7 : Int) := by rw [Int.tmod_eq_emod_of_nonneg (by omega), hr7]; omega
          have hq2 : wrap64 (1 + (r7 : Int)) = 1 + (r7 : Int) := IntWalk.wrap64_in _ ⟨by omega, by omega⟩
          have hr8 : r7 < 7 := by rw [hr7]; exact Nat.mod_lt _ (by decide)
          clear hr7
          go_wp2_with fail
          have harm : Dk.arm d1 (1 + (r7 : Int)) = ({ d1 with armed := (1 + (r7 : Int)).toNat }, 0) := by
            unfold Dk.arm
            rw [HC1.out.off, if_neg (by decide), if_neg (by omega)]
          have hc := HA.out.arm (1 + (r7 : Int)) HL1.out
          rw [harm, show ((0 : Nat) : Int) = 0 from rfl] at hc
          refine hc.mono ?_
          rintro e z1 ⟨rfl, Ua, hL, hT, hG⟩
          have HLa := Lib.hid hL
          have HUa := Lib.hid (hG.from HU1.out HB1.out.size)
          have HBa := Lib.hid (HB1.out.trans ((hT.under HU1.out HB1.out.size).mono (Nat.le_refl _)))
          have HNa : Hid (Wl.Near 80 { d1 with armed := (1 + (r7 : Int)).toNat }) := ⟨HA.out.dok (HA.out.dev HLa.out), HC1.out.sz, HC1.out.most⟩
          generalize ({ d1 with armed := (1 + (r7 : Int)).toNat } : Dk.Dev) = da at *
          clear hc hL hT hG harm hq1 hq2 hr8 HL1 HC1 HU1 HB1
          go_wp2_with fail
          refine (HA.out.flush (n := 80) HLa.out HNa.out (by rw [HR1.out.stop]; have := HK60.out; have := HKE.out; omega)).mono ?_
          rintro e z2 hfl
          have hkey : ∃ (kk : Int) (U4 : Nat → Prop) (d4 : Dk.Dev) (s4 : Wl.S), e = .returned (.int .i64 kk) ∧ PD U4 z2 B d4 ∧ Wl.Near 80 d4 ∧ (∀ ps, Hd (Dk.crash d4 ps) s4) ∧ Touch (Both Ua V1) z1 z2 ∧ Grew Ua U4 z1 ∧ Wl.Rw (fun j => j + 1) k s4 ∧ s4.epoch = 1 ∧ 52 + 27 * K ≤ s4.flushed := by
            rcases hfl with ⟨U4, V4, d4, rfl, hL, hN, -, hT, hG1, -⟩ | ⟨-, kk, U4, d4, rfl, -, hP, hN, hH, hT, hG⟩
            · exact ⟨0, U4, d4, Wl.flush s1, rfl, HA.out.dev hL, hN, fun ps => HA.out.hold_crash ps hL, hT, hG1, HR1.out.flush, HE1.out, Nat.le_trans HF1.out HR1.out.good.high⟩
            · exact ⟨kk, U4, d4, s1, rfl, hP, hN, hH, hT, hG, HR1.out, HE1.out, HF1.out⟩
          obtain ⟨kk, U4, d4, s4, rfl, hP, hN, hH, hT, hG, hR, hE, hF⟩ := hkey
          have HP4 := Lib.hid hP
          have HN4 := Lib.hid hN
          have HH4 := Lib.hid hH
          have HU4 := Lib.hid (hG.from HUa.out HBa.out.size)
          have HB4 := Lib.hid (HBa.out.trans ((hT.under (from_both HUa.out HV1.out) HBa.out.size).mono (Nat.le_refl _)))
          have HR4 := Lib.hid hR
          have HE4 := Lib.hid hE
          have HF4 := Lib.hid hF
          clear hfl hP hN hH hT hG hR hE hF HLa HUa HBa HNa HR1 HE1 HF1 HV1
          go_wp2_with fail
          refine (HA.out.crash _ ps HP4.out (HPS.out.below HB4.out) (fun h0 g hg hu => by have h1 := HPS.out.block_lt h0 g hg; have h2 := HU4.out g hu; omega)).mono ?_
          rintro e z3 ⟨rfl, U5, hP, hT, hG⟩
          have HP5 := Lib.hid hP
          have HC5 := Lib.hid (HN4.out.crash ps)
          have HU5 := Lib.hid (hG.from HU4.out HB4.out.size)
          have HB5 := Lib.hid (HB4.out.trans ((hT.under HU4.out HB4.out.size).mono (Nat.le_refl _)))
          have HH5 := Lib.hid (HH4.out ps)
          generalize Dk.crash d4 ps = d5 at HP5 HC5 HH5
          clear hP hT hG HP4 HN4 HH4 HU4 HB4
          go_wp2_with fail
          have hc := HA.out.open_ (n := 80) HP5.out HC5.out (by rw [HR4.out.at0, HR4.out.count]; exact ⟨by decide, by decide, by decide, by decide⟩) HH5.out (by rw [HE4.out]; decide) (by rw [HR4.out.stop]; have := HK60.out; have := HKE.out; omega)
          rw [HR4.out.at0, HR4.out.count, show ((0 : Nat) : Int) = 0 from rfl, show ((60 : Nat) : Int) = 60 from rfl] at hc
          refine hc.mono ?_
          clear hc
          rintro e z4 ⟨k0, L6, U6, V6, d6, hk0, hfl, rfl, hL, hC, hT, hG, hV⟩
          rw [HR4.out.len] at hk0
          rw [HR4.out.place hk0] at hfl
          have HL6 := Lib.hid hL
          have HC6 := Lib.hid hC
          have HU6 := Lib.hid (hG.from HU5.out HB5.out.size)
          have HV6 := Lib.hid (from_new hV HB5.out.size)
          have HB6 := Lib.hid (HB5.out.trans ((hT.under HU5.out HB5.out.size).mono (Nat.le_refl _)))
          have HR6 := Lib.hid (HR4.out.cut hk0 (HA.out.good (HA.out.mem hL)))
          have HE6 : Hid ((Wl.cut s4 k0).epoch = 2) := by show s4.epoch + 1 = 2; rw [HE4.out]
          have HK0 : Hid (K ≤ k0 ∧ k0 ≤ K + T) := Lib.hid (by have := HF4.out; have := HKE.out; omega)
          generalize Wl.cut s4 k0 = s6 at HL6 HR6 HE6
          clear hk0 hfl hL hC hT hG hV HP5 HC5 HU5 HB5 HH5 HR4 HE4 HF4
          have hs6 := HR6.out.stop
          have HSB6 : Hid (s6.stop ≤ 1000000000000) := Lib.hid (by have := HK60.out; have := HK0.out; omega)
          have hv1 : IntKind.u64.wrap (K : Int) = (K : Int) := by rw [IntKind.wrap_u64]; have := HK60.out; omega
          have hv2 : IntKind.u64.wrap (27 * (K : Int)) = 27 * (K : Int) := by rw [IntKind.wrap_u64]; have := HK60.out; omega
          have hv3 : IntKind.u64.wrap (52 + 27 * (K : Int)) = 52 + 27 * (K : Int) := by rw [IntKind.wrap_u64]; have := HK60.out; omega
          have hv4 : IntKind.u64.wrap ((K : Int) + (T : Int)) = (K : Int) + (T : Int) := by rw [IntKind.wrap_u64]; have := HK60.out; omega
          have hv5 : IntKind.u64.wrap (27 * ((K : Int) + (T : Int))) = 27 * ((K : Int) + (T : Int)) := by rw [IntKind.wrap_u64]; have := HK60.out; omega
          have hv6 : IntKind.u64.wrap (52 + 27 * ((K : Int) + (T : Int))) = 52 + 27 * ((K : Int) + (T : Int)) := by rw [IntKind.wrap_u64]; have := HK60.out; omega
          have hv7 : ¬ (s6.stop : Int) < 52 + 27 * (K : Int) := by have := HK0.out; omega
          have hv8 : ¬ 52 + 27 * ((K : Int) + (T : Int)) < (s6.stop : Int) := by have := HK0.out; omega
          clear hs6
          go_wp2_with fail
          refine (HA.out.end_ (HA.out.mem HL6.out) HSB6.out).mono ?_
          rintro e z5 ⟨rfl, hb⟩
          have HL7 := Lib.hid (HA.out.below HL6.out hb)
          have HB7 := Lib.hid (HB6.out.trans (hb.mono HB6.out.size))
          clear hb HL6 HB6
          go_wp2_with fail
          refine (HA.out.end_ (HA.out.mem HL7.out) HSB6.out).mono ?_
          rintro e z6 ⟨rfl, hb⟩
          have HL8 := Lib.hid (HA.out.below HL7.out hb)
          have HB8 := Lib.hid (HB7.out.trans (hb.mono HB7.out.size))
          clear hb HL7 HB7
          go_wp2_with fail
          refine (HA.out.end_ (HA.out.mem HL8.out) HSB6.out).mono ?_
          rintro e z7 ⟨rfl, hb⟩
          have HL9 := Lib.hid (HA.out.below HL8.out hb)
          have HB9 := Lib.hid (HB8.out.trans (hb.mono HB8.out.size))
          clear hb HL8 HB8 hv1 hv2 hv3 hv4 hv5 hv6 hv7 hv8
          have HFR : Hid (s6.stop = 52 + 27 * k0) := HR6.out.stop
          obtain ⟨fr, hfr⟩ : ∃ fr, fr = s6.stop := ⟨_, rfl⟩
          rw [← hfr] at HFR ⊢
          have HSB : Hid (k0 ≤ 120) := Lib.hid (by have := HK60.out; have := HK0.out; omega)
          have HR7 := Lib.hid (HR6.out.congr (g := Wl.after k0) fun j hj => Wl.after_low hj)
          clear hfr HR6 HSB6
          go_wp2_with fail
          go_loopw [17] (fun iv wr => ∃ i : Nat, i ≤ G ∧ iv = .int .i64 (i : Int) ∧ ∃ V s, PL U6 V wr B L6 d6 s ∧ From w.heap.size V ∧ Wl.Rw (Wl.after k0) (k0 + i) s ∧ s.epoch = 2 ∧ Below w.heap.size w wr) (fun iv _ => G - (intOf iv).toNat)
          case atStart => exact ⟨0, Nat.zero_le _, rfl, V6, s6, HL9.out, HV6.out, HR7.out, HE6.out, HB9.out⟩
          case round =>
            clear HL9 HV6 HR7 HE6 HB9
            rename_i wq
            obtain ⟨i, hi, rfl, V, s, hL, hV, hR, hE, hb⟩ := hrel
            have HL := Lib.hid hL
            have HV := Lib.hid hV
            have HRW := Lib.hid hR
            have HEP := Lib.hid hE
            have HB := Lib.hid hb
            clear hL hV hR hE hb
            by_cases hlt : i < G
            · as_aux_lemma =>
                have HLT : Hid (i < G) := hlt
                have hki : (i : Int) < (G : Int) := by omega
                have hgb : i ≤ 60 := by have := HK60.out; omega
                have hkb := HSB.out
                have hw1 : wrap64 (1000 + (i : Int)) = 1000 + (i : Int) := IntWalk.wrap64_in _ ⟨by omega, by omega⟩
                obtain ⟨t1, ht1⟩ : ∃ t1, t1 = 1000 + i := ⟨_, rfl⟩
                have hw2 : IntKind.u64.wrap (1000 + (i : Int)) = (t1 : Int) := by rw [IntKind.wrap_u64]; omega
                have HT1 : Hid (t1 = 1000 + i) := ht1
                clear ht1
                have hw3 := IntWalk.i64_in ((i : Int) + 1) (by omega)
                go_wp2_with fail
                refine (done_any t1 _).mono ?_
                rintro e z1 ⟨rfl, hb⟩
                have HLa := Lib.hid (HA.out.below HL.out hb)
                have HBa := Lib.hid (HB.out.trans (hb.mono HB.out.size))
                clear hb
                go_wp2_with fail
                have hc := HA.out.append (Wl.dn t1) (.slice none 0 0) (.slice none 0 0) (.slice none 0 0) (.slice none 0 0) (.slice none 0 0) HLa.out (dn_at _ (by have := HT1.out; omega)) (Wl.dn_few _) (by rw [HEP.out]; decide) (by rw [HRW.out.stop]; omega)
                rw [HRW.out.fine (by omega) (by have := HT1.out; omega), show ((0 : Nat) : Int) = 0 from rfl] at hc
                refine hc.mono ?_
                rintro e z2 ⟨rfl, V2, hL, hT, hG⟩
                have HLb := Lib.hid hL
                have HVb := Lib.hid (hG.from HV.out HBa.out.size)
                have HBb := Lib.hid (HBa.out.trans ((hT.under HV.out HBa.out.size).mono (Nat.le_refl _)))
                have HRb := Lib.hid (HRW.out.next (t := t1) (by omega) (by rw [HEP.out]; decide) (by have := HT1.out; omega) (by have := HT1.out; omega) (by rw [Wl.after_high (by omega), HT1.out]; omega))
                clear hc hL hT hG HLa HBa
                have HEb : Hid ((Wl.app s (Wl.dn t1)).epoch = 2) := HEP.out
                go_wp2_with fail
                go_roundw
                case rel => exact ⟨i + 1, HLT.out, by go_num, V2, _, HLb.out, HVb.out, HRb.out, HEb.out, HBb.out⟩
                case measure => have := HLT.out; simp [intOf]; omega
            · as_aux_lemma =>
                obtain rfl : G = i := by omega
                have hstop : ¬ ((G : Int) < (G : Int)) := by omega
                clear hlt hi
                have HNB : Hid (k0 + G ≤ 180) := Lib.hid (by have := HK60.out; have := HSB.out; omega)
                go_wp2_with fail
                refine (HA.out.flush (n := 80) HL.out ⟨HA.out.dok (HA.out.dev HL.out), HC6.out.sz, HC6.out.most⟩ (by rw [HRW.out.stop]; have := HNB.out; omega)).mono ?_
                rintro e y0 hfl
                rcases hfl with ⟨U1, V1, d1, rfl, hL, -, hC, hT, hG1, hG2⟩ | ⟨hno, -⟩
                case inr => exact absurd HC6.out hno
                have HLc := Lib.hid hL
                have HCc := Lib.hid (hC HC6.out)
                have HUc := Lib.hid (hG1.from HU6.out HB.out.size)
                have HBc := Lib.hid (HB.out.trans ((hT.under (from_both HU6.out HV.out) HB.out.size).mono (Nat.le_refl _)))
                have HRc := Lib.hid HRW.out.flush
                have HEc : Hid ((Wl.flush s).epoch = 2) := HEP.out
                have HFc : Hid ((Wl.flush s).flushed = (Wl.flush s).stop) := rfl
                generalize Wl.flush s = sc at HLc HRc HEc HFc
                clear hL hC hT hG1 hG2 HL HV HRW HEP HB hstop
                obtain ⟨N, hN⟩ : ∃ N, N = k0 + G := ⟨_, rfl⟩
                rw [← hN] at HRc HNB
                have HSBc : Hid (sc.stop ≤ 1000000000000) := Lib.hid (by rw [HRc.out.stop]; have := HNB.out; omega)
                clear hN
                go_wp2_with fail
                refine (HA.out.end_ (HA.out.mem HLc.out) HSBc.out).mono ?_
                rintro e y1 ⟨rfl, hb⟩
                have HLd := Lib.hid (HA.out.below HLc.out hb)
                have HBd := Lib.hid (HBc.out.trans (hb.mono HBc.out.size))
                obtain ⟨en, hen⟩ : ∃ en, en = sc.stop := ⟨_, rfl⟩
                have HEN0 : Hid (en = 52 + 27 * N) := Lib.hid (by rw [hen]; exact HRc.out.stop)
                rw [← hen]
                clear hen
                clear hb HLc HBc
                go_wp2_with fail
                refine (HA.out.crash (.slice none 0 0) [] (HA.out.dev HLd.out) (bts_none _) (fun h0 => absurd h0 (by decide))).mono ?_
                rintro e y2 ⟨rfl, U7, hP, hT, hG⟩
                have HPe := Lib.hid hP
                have HCe := Lib.hid ((Wl.Near.mk (HA.out.dok (HA.out.dev HLd.out)) HCc.out.sz HCc.out.most).crash [])
                have HHe := Lib.hid (HA.out.hold_crash [] HLd.out)
                have HUe := Lib.hid (hG.from HUc.out HBd.out.size)
                have HBe := Lib.hid (HBd.out.trans ((hT.under HUc.out HBd.out.size).mono (Nat.le_refl _)))
                generalize Dk.crash d1 [] = de at HPe HCe HHe
                clear hP hT hG HLd HBd HUc HCc
                go_wp2_with fail
                have hc := HA.out.open_ (n := 80) HPe.out HCe.out (by rw [HRc.out.at0, HRc.out.count]; exact ⟨by decide, by decide, by decide, by decide⟩) HHe.out (by rw [HEc.out]; decide) HSBc.out
                rw [HRc.out.at0, HRc.out.count, show ((0 : Nat) : Int) = 0 from rfl, show ((60 : Nat) : Int) = 60 from rfl] at hc
                refine hc.mono ?_
                clear hc
                rintro e y3 ⟨k1, L8, U8, V8, d8, hk1, hfl, rfl, hL, hC, hT, hG, -⟩
                have hall := Wl.cut_all HRc.out.good HFc.out hfl
                rw [HRc.out.len] at hk1
                rw [HRc.out.place hk1, HRc.out.stop] at hall
                obtain rfl : k1 = N := by omega
                have HRf := Lib.hid (HRc.out.cut hk1 (HA.out.good (HA.out.mem hL)))
                have HLf := Lib.hid hL
                have HCf := Lib.hid hC
                have HBf := Lib.hid (HBe.out.trans ((hT.under HUe.out HBe.out.size).mono (Nat.le_refl _)))
                generalize Wl.cut sc k1 = sf at HLf HRf
                clear hk1 hfl hL hC hT hG hall HPe HCe HHe HUe HBe HRc HEc HFc HSBc
                have HSBf : Hid (sf.stop ≤ 1000000000000) := Lib.hid (by rw [HRf.out.stop]; have := HNB.out; omega)
                have hc := HA.out.end_ (HA.out.mem HLf.out) HSBf.out
                rw [HRf.out.stop, ← HEN0.out] at hc
                have hee : ((en : Int) != (en : Int)) = false := by simp
                have HEN := HEN0
                go_wp2_with fail
                refine hc.mono ?_
                rintro e y4 ⟨rfl, hb⟩
                have HLg := Lib.hid (HA.out.below HLf.out hb)
                have HBg := Lib.hid (HBf.out.trans (hb.mono HBf.out.size))
                clear hb hc HLf HBf
                go_wp2_with fail
                clear hee
                go_loopw [21, 22] (fun nv av wx => ∃ j : Nat, j ≤ k1 ∧ nv = .int .u64 (j : Int) ∧ av = .int .u64 ((52 + 27 * j : Nat) : Int) ∧ PL U8 V8 wx B L8 d8 sf ∧ Below w.heap.size w wx) (fun nv _ _ => k1 - (intOf nv).toNat)
                case atStart => exact ⟨0, Nat.zero_le _, rfl, rfl, HLg.out, HBg.out⟩
                case round =>
                  clear HLg HBg
                  rename_i wx
                  obtain ⟨j, hj, rfl, rfl, hL, hb⟩ := hrel
                  have HL := Lib.hid hL
                  have HB := Lib.hid hb
                  clear hL hb
                  by_cases hlt : j < k1
                  · have HLT : Hid (j < k1) := hlt
                    obtain ⟨r, hrd, htx⟩ := HRf.out.get hlt
                    have hc := HA.out.read (n := 80) (52 + 27 * j) HL.out HCf.out (by have := HNB.out; omega) HSBf.out
                    rw [hrd, show ((0 : Nat) : Int) = 0 from rfl] at hc
                    have HTX := Lib.hid htx
                    obtain ⟨a, ha⟩ : ∃ a, a = 52 + 27 * j := ⟨_, rfl⟩
                    rw [← ha] at hc ⊢
                    have hae : (a : Int) < (en : Int) := by have := HEN.out; omega
                    obtain ⟨a2, ha2⟩ : ∃ a2, a2 = 52 + 27 * (j + 1) := ⟨_, rfl⟩
                    rw [← ha2] at hc
                    have HAJ : Hid (a = 52 + 27 * j ∧ a2 = 52 + 27 * (j + 1)) := ⟨ha, ha2⟩
                    have hau : IntKind.u64.wrap ((a : Int) + 27) = (a2 : Int) := by rw [IntKind.wrap_u64]; have := HNB.out; omega
                    clear hrd htx ha ha2 hlt
                    go_wp2_with fail
                    refine hc.mono ?_
                    rintro e x2 ⟨o, n2, u2, c2', t2, rfl, hO, hb⟩
                    clear hc
                    obtain ⟨p1, c1, p2, c2, p3, c3, p4, c4, p5, c5, rfl, rfl, rfl, rfl, rfl⟩ := rec_slices hO.at
                    have HK := Lib.hid hb
                    clear hO hb
                    go_upto_region 43 with (fail)
                    obtain ⟨Y, hY⟩ : ∃ Y, Y = x2.alloc (.cells #[.int .i64 r.kind, .int .u64 (r.lsn : Int), .int .u32 (r.epoch : Int), .int .u64 (r.txn : Int), .int .u32 (r.page : Int), .int .u16 (r.off : Int), .slice p1 r.old.length c1, .slice p2 r.new.length c2, .slice p3 r.undo.length c3, .int .u64 (r.prev : Int), .int .u64 (r.next : Int), .bool r.clr, .int .u64 (r.stamp : Int), .slice p4 r.opn.length c4, .slice p5 r.dirt.length c5] 40) := ⟨_, rfl⟩
                    have hbY : Below x2.heap.size x2 Y := by rw [hY]; exact below_new1 _ _
                    have hrY : Y.heap[x2.heap.size]? = some (.cells #[.int .i64 r.kind, .int .u64 (r.lsn : Int), .int .u32 (r.epoch : Int), .int .u64 (r.txn : Int), .int .u32 (r.page : Int), .int .u16 (r.off : Int), .slice p1 r.old.length c1, .slice p2 r.new.length c2, .slice p3 r.undo.length c3, .int .u64 (r.prev : Int), .int .u64 (r.next : Int), .bool r.clr, .int .u64 (r.stamp : Int), .slice p4 r.opn.length c4, .slice p5 r.dirt.length c5] 40 (0, 0)) := by rw [hY]; exact heap_alloc_last _ _
                    rw [← hY]
                    obtain ⟨yy, hyy⟩ : ∃ y, y = x2.heap.size := ⟨_, rfl⟩
                    rw [← hyy] at hrY ⊢
                    have HK2 := Lib.hid (HK.out.trans (hbY.mono HK.out.size))
                    obtain ⟨-, -, -, y3, -, -, -, -, -, -, -, -, -, -, -⟩ := rec_cell hrY
                    rw [HTX.out] at y3
                    clear hY hbY hrY hyy
                    obtain ⟨j1, hj1⟩ : ∃ j1, j1 = j + 1 := ⟨_, rfl⟩
                    have hn1 : IntKind.u64.wrap ((j : Int) + 1) = (j1 : Int) := by rw [IntKind.wrap_u64]; have := HNB.out; have := HLT.out; omega
                    have HJ1 : Hid (j1 = j + 1) := hj1
                    clear hj1
                    have hne : ((a2 : Int) != (a2 : Int)) = false := by simp
                    by_cases hjk : j < k0
                    · as_aux_lemma =>
                        rw [← Wl.after_low hjk, ← HJ1.out] at y3
                        have hf1 : (a : Int) < (fr : Int) := by have := HAJ.out; have := HFR.out; omega
                        have hf2 : ¬ (fr : Int) ≤ (a : Int) := by omega
                        have hjj : ((j1 : Int) != (j1 : Int)) = false := by simp
                        go_wp2_with fail
                        go_roundw
                        case rel => exact ⟨j + 1, HLT.out, by rw [HJ1.out], by rw [HAJ.out.2], HA.out.below HL.out HK2.out, HB.out.trans (HK2.out.mono HB.out.size)⟩
                        case measure => have := HLT.out; have := HJ1.out; simp [intOf]; omega
                    · as_aux_lemma =>
                        obtain ⟨q3, hq3⟩ : ∃ q, q = j - k0 := ⟨_, rfl⟩
                        obtain ⟨q2, hq2⟩ : ∃ q, q = 1000 + (j - k0) := ⟨_, rfl⟩
                        rw [Wl.after_high hjk, ← hq2] at y3
                        have hf1 : ¬ (a : Int) < (fr : Int) := by have := HAJ.out; have := HFR.out; omega
                        have hf2 : (fr : Int) ≤ (a : Int) := by omega
                        have hd1 : IntKind.u64.wrap ((a : Int) - (fr : Int)) = (a : Int) - (fr : Int) := by rw [IntKind.wrap_u64]; have := HNB.out; have := HAJ.out; have := HLT.out; omega
                        have hd2 : ((a : Int) - (fr : Int)).tdiv 27 = (q3 : Int) := by
                          have h1 := HAJ.out.1
                          have h2 := HFR.out
                          rw [show (a : Int) - (fr : Int) = 27 * (q3 : Int) by omega, Int.mul_tdiv_cancel_left _ (by decide)]
                        have hd3 : IntKind.u64.wrap (q3 : Int) = (q3 : Int) := by rw [IntKind.wrap_u64]; have := HNB.out; have := HLT.out; omega
                        have hd4 : IntKind.u64.wrap (1000 + (q3 : Int)) = (q2 : Int) := by rw [IntKind.wrap_u64]; have := HNB.out; have := HLT.out; omega
                        have hjj : ((q2 : Int) != (q2 : Int)) = false := by simp
                        clear hq2 hq3
                        go_wp2_with fail
                        go_roundw
                        case rel => exact ⟨j + 1, HLT.out, by rw [HJ1.out], by rw [HAJ.out.2], HA.out.below HL.out HK2.out, HB.out.trans (HK2.out.mono HB.out.size)⟩
                        case measure => have := HLT.out; have := HJ1.out; simp [intOf]; omega
                  · as_aux_lemma =>
                      obtain rfl : k1 = j := by omega
                      have hae : ¬ (((52 + 27 * k1 : Nat) : Int) < (en : Int)) := by have := HEN.out; omega
                      generalize ((52 + 27 * k1 : Nat) : Int) = q1 at *
                      go_wp2_with fail
                      refine (known_any HA.out _).mono ?_
                      rintro e x9 ⟨rfl, hb⟩
                      have HB9 := Lib.hid (HB.out.trans (hb.mono HB.out.size))
                      clear hb
                      go_wp2_with fail
                      go_ret
                      exact ⟨rfl, HB9.out⟩
      · as_aux_lemma =>
          have hz : ((T : Int) == 0) = false := by rw [beq_eq_false_iff_ne]; omega
          have HL1 := HL
          have HC1 := HC
          have HU1 := HU
          have HV1 := HV
          have HB1 := HB
          have HR1 := HRW
          have HE1 := HEP
          have HF1 : Hid (52 + 27 * K ≤ s.flushed) := HFL.out (by have := HKE.out; omega)
          clear HL HC HU HV HB HRW HEP HFL hT0
          obtain ⟨r7, hr7⟩ : ∃ r, r = T % 7 := ⟨_, rfl⟩
          have hq1 : (T : Int).tmod 7 = (r7 : Int) := by rw [Int.tmod_eq_emod_of_nonneg (by omega), hr7]; omega
          have hq2 : wrap64 (1 + (r7 : Int)) = 1 + (r7 : Int) := IntWalk.wrap64_in _ ⟨by omega, by omega⟩
          have hr8 : r7 < 7 := by rw [hr7]; exact Nat.mod_lt _ (by decide)
          clear hr7
          go_wp2_with fail
          have harm : Dk.arm d (1 + (r7 : Int)) = ({ d with armed := (1 + (r7 : Int)).toNat }, 0) := by
            unfold Dk.arm
            rw [HC1.out.off, if_neg (by decide), if_neg (by omega)]
          have hc := HA.out.arm (1 + (r7 : Int)) HL1.out
          rw [harm, show ((0 : Nat) : Int) = 0 from rfl] at hc
          refine hc.mono ?_
          rintro e z1 ⟨rfl, Ua, hL, hT, hG⟩
          have HLa := Lib.hid hL
          have HUa := Lib.hid (hG.from HU1.out HB1.out.size)
          have HBa := Lib.hid (HB1.out.trans ((hT.under HU1.out HB1.out.size).mono (Nat.le_refl _)))
          have HNa : Hid (Wl.Near 80 { d with armed := (1 + (r7 : Int)).toNat }) := ⟨HA.out.dok (HA.out.dev HLa.out), HC1.out.sz, HC1.out.most⟩
          generalize ({ d with armed := (1 + (r7 : Int)).toNat } : Dk.Dev) = da at *
          clear hc hL hT hG harm hq1 hq2 hr8 HL1 HC1 HU1 HB1
          go_wp2_with fail
          refine (HA.out.flush (n := 80) HLa.out HNa.out (by rw [HR1.out.stop]; have := HK60.out; have := HKE.out; omega)).mono ?_
          rintro e z2 hfl
          have hkey : ∃ (kk : Int) (U4 : Nat → Prop) (d4 : Dk.Dev) (s4 : Wl.S), e = .returned (.int .i64 kk) ∧ PD U4 z2 B d4 ∧ Wl.Near 80 d4 ∧ (∀ ps, Hd (Dk.crash d4 ps) s4) ∧ Touch (Both Ua V) z1 z2 ∧ Grew Ua U4 z1 ∧ Wl.Rw (fun j => j + 1) k s4 ∧ s4.epoch = 1 ∧ 52 + 27 * K ≤ s4.flushed := by
            rcases hfl with ⟨U4, V4, d4, rfl, hL, hN, -, hT, hG1, -⟩ | ⟨-, kk, U4, d4, rfl, -, hP, hN, hH, hT, hG⟩
            · exact ⟨0, U4, d4, Wl.flush s, rfl, HA.out.dev hL, hN, fun ps => HA.out.hold_crash ps hL, hT, hG1, HR1.out.flush, HE1.out, Nat.le_trans HF1.out HR1.out.good.high⟩
            · exact ⟨kk, U4, d4, s, rfl, hP, hN, hH, hT, hG, HR1.out, HE1.out, HF1.out⟩
          obtain ⟨kk, U4, d4, s4, rfl, hP, hN, hH, hT, hG, hR, hE, hF⟩ := hkey
          have HP4 := Lib.hid hP
          have HN4 := Lib.hid hN
          have HH4 := Lib.hid hH
          have HU4 := Lib.hid (hG.from HUa.out HBa.out.size)
          have HB4 := Lib.hid (HBa.out.trans ((hT.under (from_both HUa.out HV1.out) HBa.out.size).mono (Nat.le_refl _)))
          have HR4 := Lib.hid hR
          have HE4 := Lib.hid hE
          have HF4 := Lib.hid hF
          clear hfl hP hN hH hT hG hR hE hF HLa HUa HBa HNa HR1 HE1 HF1 HV1
          go_wp2_with fail
          refine (HA.out.crash _ ps HP4.out (HPS.out.below HB4.out) (fun h0 g hg hu => by have h1 := HPS.out.block_lt h0 g hg; have h2 := HU4.out g hu; omega)).mono ?_
          rintro e z3 ⟨rfl, U5, hP, hT, hG⟩
          have HP5 := Lib.hid hP
          have HC5 := Lib.hid (HN4.out.crash ps)
          have HU5 := Lib.hid (hG.from HU4.out HB4.out.size)
          have HB5 := Lib.hid (HB4.out.trans ((hT.under HU4.out HB4.out.size).mono (Nat.le_refl _)))
          have HH5 := Lib.hid (HH4.out ps)
          generalize Dk.crash d4 ps = d5 at HP5 HC5 HH5
          clear hP hT hG HP4 HN4 HH4 HU4 HB4
          go_wp2_with fail
          have hc := HA.out.open_ (n := 80) HP5.out HC5.out (by rw [HR4.out.at0, HR4.out.count]; exact ⟨by decide, by decide, by decide, by decide⟩) HH5.out (by rw [HE4.out]; decide) (by rw [HR4.out.stop]; have := HK60.out; have := HKE.out; omega)
          rw [HR4.out.at0, HR4.out.count, show ((0 : Nat) : Int) = 0 from rfl, show ((60 : Nat) : Int) = 60 from rfl] at hc
          refine hc.mono ?_
          clear hc
          rintro e z4 ⟨k0, L6, U6, V6, d6, hk0, hfl, rfl, hL, hC, hT, hG, hV⟩
          rw [HR4.out.len] at hk0
          rw [HR4.out.place hk0] at hfl
          have HL6 := Lib.hid hL
          have HC6 := Lib.hid hC
          have HU6 := Lib.hid (hG.from HU5.out HB5.out.size)
          have HV6 := Lib.hid (from_new hV HB5.out.size)
          have HB6 := Lib.hid (HB5.out.trans ((hT.under HU5.out HB5.out.size).mono (Nat.le_refl _)))
          have HR6 := Lib.hid (HR4.out.cut hk0 (HA.out.good (HA.out.mem hL)))
          have HE6 : Hid ((Wl.cut s4 k0).epoch = 2) := by show s4.epoch + 1 = 2; rw [HE4.out]
          have HK0 : Hid (K ≤ k0 ∧ k0 ≤ K + T) := Lib.hid (by have := HF4.out; have := HKE.out; omega)
          generalize Wl.cut s4 k0 = s6 at HL6 HR6 HE6
          clear hk0 hfl hL hC hT hG hV HP5 HC5 HU5 HB5 HH5 HR4 HE4 HF4
          have hs6 := HR6.out.stop
          have HSB6 : Hid (s6.stop ≤ 1000000000000) := Lib.hid (by have := HK60.out; have := HK0.out; omega)
          have hv1 : IntKind.u64.wrap (K : Int) = (K : Int) := by rw [IntKind.wrap_u64]; have := HK60.out; omega
          have hv2 : IntKind.u64.wrap (27 * (K : Int)) = 27 * (K : Int) := by rw [IntKind.wrap_u64]; have := HK60.out; omega
          have hv3 : IntKind.u64.wrap (52 + 27 * (K : Int)) = 52 + 27 * (K : Int) := by rw [IntKind.wrap_u64]; have := HK60.out; omega
          have hv4 : IntKind.u64.wrap ((K : Int) + (T : Int)) = (K : Int) + (T : Int) := by rw [IntKind.wrap_u64]; have := HK60.out; omega
          have hv5 : IntKind.u64.wrap (27 * ((K : Int) + (T : Int))) = 27 * ((K : Int) + (T : Int)) := by rw [IntKind.wrap_u64]; have := HK60.out; omega
          have hv6 : IntKind.u64.wrap (52 + 27 * ((K : Int) + (T : Int))) = 52 + 27 * ((K : Int) + (T : Int)) := by rw [IntKind.wrap_u64]; have := HK60.out; omega
          have hv7 : ¬ (s6.stop : Int) < 52 + 27 * (K : Int) := by have := HK0.out; omega
          have hv8 : ¬ 52 + 27 * ((K : Int) + (T : Int)) < (s6.stop : Int) := by have := HK0.out; omega
          clear hs6
          go_wp2_with fail
          refine (HA.out.end_ (HA.out.mem HL6.out) HSB6.out).mono ?_
          rintro e z5 ⟨rfl, hb⟩
          have HL7 := Lib.hid (HA.out.below HL6.out hb)
          have HB7 := Lib.hid (HB6.out.trans (hb.mono HB6.out.size))
          clear hb HL6 HB6
          go_wp2_with fail
          refine (HA.out.end_ (HA.out.mem HL7.out) HSB6.out).mono ?_
          rintro e z6 ⟨rfl, hb⟩
          have HL8 := Lib.hid (HA.out.below HL7.out hb)
          have HB8 := Lib.hid (HB7.out.trans (hb.mono HB7.out.size))
          clear hb HL7 HB7
          go_wp2_with fail
          refine (HA.out.end_ (HA.out.mem HL8.out) HSB6.out).mono ?_
          rintro e z7 ⟨rfl, hb⟩
          have HL9 := Lib.hid (HA.out.below HL8.out hb)
          have HB9 := Lib.hid (HB8.out.trans (hb.mono HB8.out.size))
          clear hb HL8 HB8 hv1 hv2 hv3 hv4 hv5 hv6 hv7 hv8
          have HFR : Hid (s6.stop = 52 + 27 * k0) := HR6.out.stop
          obtain ⟨fr, hfr⟩ : ∃ fr, fr = s6.stop := ⟨_, rfl⟩
          rw [← hfr] at HFR ⊢
          have HSB : Hid (k0 ≤ 120) := Lib.hid (by have := HK60.out; have := HK0.out; omega)
          have HR7 := Lib.hid (HR6.out.congr (g := Wl.after k0) fun j hj => Wl.after_low hj)
          clear hfr HR6 HSB6
          go_wp2_with fail
          go_loopw [17] (fun iv wr => ∃ i : Nat, i ≤ G ∧ iv = .int .i64 (i : Int) ∧ ∃ V s, PL U6 V wr B L6 d6 s ∧ From w.heap.size V ∧ Wl.Rw (Wl.after k0) (k0 + i) s ∧ s.epoch = 2 ∧ Below w.heap.size w wr) (fun iv _ => G - (intOf iv).toNat)
          case atStart => exact ⟨0, Nat.zero_le _, rfl, V6, s6, HL9.out, HV6.out, HR7.out, HE6.out, HB9.out⟩
          case round =>
            clear HL9 HV6 HR7 HE6 HB9
            rename_i wq
            obtain ⟨i, hi, rfl, V, s, hL, hV, hR, hE, hb⟩ := hrel
            have HL := Lib.hid hL
            have HV := Lib.hid hV
            have HRW := Lib.hid hR
            have HEP := Lib.hid hE
            have HB := Lib.hid hb
            clear hL hV hR hE hb
            by_cases hlt : i < G
            · as_aux_lemma =>
                have HLT : Hid (i < G) := hlt
                have hki : (i : Int) < (G : Int) := by omega
                have hgb : i ≤ 60 := by have := HK60.out; omega
                have hkb := HSB.out
                have hw1 : wrap64 (1000 + (i : Int)) = 1000 + (i : Int) := IntWalk.wrap64_in _ ⟨by omega, by omega⟩
                obtain ⟨t1, ht1⟩ : ∃ t1, t1 = 1000 + i := ⟨_, rfl⟩
                have hw2 : IntKind.u64.wrap (1000 + (i : Int)) = (t1 : Int) := by rw [IntKind.wrap_u64]; omega
                have HT1 : Hid (t1 = 1000 + i) := ht1
                clear ht1
                have hw3 := IntWalk.i64_in ((i : Int) + 1) (by omega)
                go_wp2_with fail
                refine (done_any t1 _).mono ?_
                rintro e z1 ⟨rfl, hb⟩
                have HLa := Lib.hid (HA.out.below HL.out hb)
                have HBa := Lib.hid (HB.out.trans (hb.mono HB.out.size))
                clear hb
                go_wp2_with fail
                have hc := HA.out.append (Wl.dn t1) (.slice none 0 0) (.slice none 0 0) (.slice none 0 0) (.slice none 0 0) (.slice none 0 0) HLa.out (dn_at _ (by have := HT1.out; omega)) (Wl.dn_few _) (by rw [HEP.out]; decide) (by rw [HRW.out.stop]; omega)
                rw [HRW.out.fine (by omega) (by have := HT1.out; omega), show ((0 : Nat) : Int) = 0 from rfl] at hc
                refine hc.mono ?_
                rintro e z2 ⟨rfl, V2, hL, hT, hG⟩
                have HLb := Lib.hid hL
                have HVb := Lib.hid (hG.from HV.out HBa.out.size)
                have HBb := Lib.hid (HBa.out.trans ((hT.under HV.out HBa.out.size).mono (Nat.le_refl _)))
                have HRb := Lib.hid (HRW.out.next (t := t1) (by omega) (by rw [HEP.out]; decide) (by have := HT1.out; omega) (by have := HT1.out; omega) (by rw [Wl.after_high (by omega), HT1.out]; omega))
                clear hc hL hT hG HLa HBa
                have HEb : Hid ((Wl.app s (Wl.dn t1)).epoch = 2) := HEP.out
                go_wp2_with fail
                go_roundw
                case rel => exact ⟨i + 1, HLT.out, by go_num, V2, _, HLb.out, HVb.out, HRb.out, HEb.out, HBb.out⟩
                case measure => have := HLT.out; simp [intOf]; omega
            · as_aux_lemma =>
                obtain rfl : G = i := by omega
                have hstop : ¬ ((G : Int) < (G : Int)) := by omega
                clear hlt hi
                have HNB : Hid (k0 + G ≤ 180) := Lib.hid (by have := HK60.out; have := HSB.out; omega)
                go_wp2_with fail
                refine (HA.out.flush (n := 80) HL.out ⟨HA.out.dok (HA.out.dev HL.out), HC6.out.sz, HC6.out.most⟩ (by rw [HRW.out.stop]; have := HNB.out; omega)).mono ?_
                rintro e y0 hfl
                rcases hfl with ⟨U1, V1, d1, rfl, hL, -, hC, hT, hG1, hG2⟩ | ⟨hno, -⟩
                case inr => exact absurd HC6.out hno
                have HLc := Lib.hid hL
                have HCc := Lib.hid (hC HC6.out)
                have HUc := Lib.hid (hG1.from HU6.out HB.out.size)
                have HBc := Lib.hid (HB.out.trans ((hT.under (from_both HU6.out HV.out) HB.out.size).mono (Nat.le_refl _)))
                have HRc := Lib.hid HRW.out.flush
                have HEc : Hid ((Wl.flush s).epoch = 2) := HEP.out
                have HFc : Hid ((Wl.flush s).flushed = (Wl.flush s).stop) := rfl
                generalize Wl.flush s = sc at HLc HRc HEc HFc
                clear hL hC hT hG1 hG2 HL HV HRW HEP HB hstop
                obtain ⟨N, hN⟩ : ∃ N, N = k0 + G := ⟨_, rfl⟩
                rw [← hN] at HRc HNB
                have HSBc : Hid (sc.stop ≤ 1000000000000) := Lib.hid (by rw [HRc.out.stop]; have := HNB.out; omega)
                clear hN
                go_wp2_with fail
                refine (HA.out.end_ (HA.out.mem HLc.out) HSBc.out).mono ?_
                rintro e y1 ⟨rfl, hb⟩
                have HLd := Lib.hid (HA.out.below HLc.out hb)
                have HBd := Lib.hid (HBc.out.trans (hb.mono HBc.out.size))
                obtain ⟨en, hen⟩ : ∃ en, en = sc.stop := ⟨_, rfl⟩
                have HEN0 : Hid (en = 52 + 27 * N) := Lib.hid (by rw [hen]; exact HRc.out.stop)
                rw [← hen]
                clear hen
                clear hb HLc HBc
                go_wp2_with fail
                refine (HA.out.crash (.slice none 0 0) [] (HA.out.dev HLd.out) (bts_none _) (fun h0 => absurd h0 (by decide))).mono ?_
                rintro e y2 ⟨rfl, U7, hP, hT, hG⟩
                have HPe := Lib.hid hP
                have HCe := Lib.hid ((Wl.Near.mk (HA.out.dok (HA.out.dev HLd.out)) HCc.out.sz HCc.out.most).crash [])
                have HHe := Lib.hid (HA.out.hold_crash [] HLd.out)
                have HUe := Lib.hid (hG.from HUc.out HBd.out.size)
                have HBe := Lib.hid (HBd.out.trans ((hT.under HUc.out HBd.out.size).mono (Nat.le_refl _)))
                generalize Dk.crash d1 [] = de at HPe HCe HHe
                clear hP hT hG HLd HBd HUc HCc
                go_wp2_with fail
                have hc := HA.out.open_ (n := 80) HPe.out HCe.out (by rw [HRc.out.at0, HRc.out.count]; exact ⟨by decide, by decide, by decide, by decide⟩) HHe.out (by rw [HEc.out]; decide) HSBc.out
                rw [HRc.out.at0, HRc.out.count, show ((0 : Nat) : Int) = 0 from rfl, show ((60 : Nat) : Int) = 60 from rfl] at hc
                refine hc.mono ?_
                clear hc
                rintro e y3 ⟨k1, L8, U8, V8, d8, hk1, hfl, rfl, hL, hC, hT, hG, -⟩
                have hall := Wl.cut_all HRc.out.good HFc.out hfl
                rw [HRc.out.len] at hk1
                rw [HRc.out.place hk1, HRc.out.stop] at hall
                obtain rfl : k1 = N := by omega
                have HRf := Lib.hid (HRc.out.cut hk1 (HA.out.good (HA.out.mem hL)))
                have HLf := Lib.hid hL
                have HCf := Lib.hid hC
                have HBf := Lib.hid (HBe.out.trans ((hT.under HUe.out HBe.out.size).mono (Nat.le_refl _)))
                generalize Wl.cut sc k1 = sf at HLf HRf
                clear hk1 hfl hL hC hT hG hall HPe HCe HHe HUe HBe HRc HEc HFc HSBc
                have HSBf : Hid (sf.stop ≤ 1000000000000) := Lib.hid (by rw [HRf.out.stop]; have := HNB.out; omega)
                have hc := HA.out.end_ (HA.out.mem HLf.out) HSBf.out
                rw [HRf.out.stop, ← HEN0.out] at hc
                have hee : ((en : Int) != (en : Int)) = false := by simp
                have HEN := HEN0
                go_wp2_with fail
                refine hc.mono ?_
                rintro e y4 ⟨rfl, hb⟩
                have HLg := Lib.hid (HA.out.below HLf.out hb)
                have HBg := Lib.hid (HBf.out.trans (hb.mono HBf.out.size))
                clear hb hc HLf HBf
                go_wp2_with fail
                clear hee
                go_loopw [21, 22] (fun nv av wx => ∃ j : Nat, j ≤ k1 ∧ nv = .int .u64 (j : Int) ∧ av = .int .u64 ((52 + 27 * j : Nat) : Int) ∧ PL U8 V8 wx B L8 d8 sf ∧ Below w.heap.size w wx) (fun nv _ _ => k1 - (intOf nv).toNat)
                case atStart => exact ⟨0, Nat.zero_le _, rfl, rfl, HLg.out, HBg.out⟩
                case round =>
                  clear HLg HBg
                  rename_i wx
                  obtain ⟨j, hj, rfl, rfl, hL, hb⟩ := hrel
                  have HL := Lib.hid hL
                  have HB := Lib.hid hb
                  clear hL hb
                  by_cases hlt : j < k1
                  · have HLT : Hid (j < k1) := hlt
                    obtain ⟨r, hrd, htx⟩ := HRf.out.get hlt
                    have hc := HA.out.read (n := 80) (52 + 27 * j) HL.out HCf.out (by have := HNB.out; omega) HSBf.out
                    rw [hrd, show ((0 : Nat) : Int) = 0 from rfl] at hc
                    have HTX := Lib.hid htx
                    obtain ⟨a, ha⟩ : ∃ a, a = 52 + 27 * j := ⟨_, rfl⟩
                    rw [← ha] at hc ⊢
                    have hae : (a : Int) < (en : Int) := by have := HEN.out; omega
                    obtain ⟨a2, ha2⟩ : ∃ a2, a2 = 52 + 27 * (j + 1) := ⟨_, rfl⟩
                    rw [← ha2] at hc
                    have HAJ : Hid (a = 52 + 27 * j ∧ a2 = 52 + 27 * (j + 1)) := ⟨ha, ha2⟩
                    have hau : IntKind.u64.wrap ((a : Int) + 27) = (a2 : Int) := by rw [IntKind.wrap_u64]; have := HNB.out; omega
                    clear hrd htx ha ha2 hlt
                    go_wp2_with fail
                    refine hc.mono ?_
                    rintro e x2 ⟨o, n2, u2, c2', t2, rfl, hO, hb⟩
                    clear hc
                    obtain ⟨p1, c1, p2, c2, p3, c3, p4, c4, p5, c5, rfl, rfl, rfl, rfl, rfl⟩ := rec_slices hO.at
                    have HK := Lib.hid hb
                    clear hO hb
                    go_upto_region 43 with (fail)
                    obtain ⟨Y, hY⟩ : ∃ Y, Y = x2.alloc (.cells #[.int .i64 r.kind, .int .u64 (r.lsn : Int), .int .u32 (r.epoch : Int), .int .u64 (r.txn : Int), .int .u32 (r.page : Int), .int .u16 (r.off : Int), .slice p1 r.old.length c1, .slice p2 r.new.length c2, .slice p3 r.undo.length c3, .int .u64 (r.prev : Int), .int .u64 (r.next : Int), .bool r.clr, .int .u64 (r.stamp : Int), .slice p4 r.opn.length c4, .slice p5 r.dirt.length c5] 40) := ⟨_, rfl⟩
                    have hbY : Below x2.heap.size x2 Y := by rw [hY]; exact below_new1 _ _
                    have hrY : Y.heap[x2.heap.size]? = some (.cells #[.int .i64 r.kind, .int .u64 (r.lsn : Int), .int .u32 (r.epoch : Int), .int .u64 (r.txn : Int), .int .u32 (r.page : Int), .int .u16 (r.off : Int), .slice p1 r.old.length c1, .slice p2 r.new.length c2, .slice p3 r.undo.length c3, .int .u64 (r.prev : Int), .int .u64 (r.next : Int), .bool r.clr, .int .u64 (r.stamp : Int), .slice p4 r.opn.length c4, .slice p5 r.dirt.length c5] 40 (0, 0)) := by rw [hY]; exact heap_alloc_last _ _
                    rw [← hY]
                    obtain ⟨yy, hyy⟩ : ∃ y, y = x2.heap.size := ⟨_, rfl⟩
                    rw [← hyy] at hrY ⊢
                    have HK2 := Lib.hid (HK.out.trans (hbY.mono HK.out.size))
                    obtain ⟨-, -, -, y3, -, -, -, -, -, -, -, -, -, -, -⟩ := rec_cell hrY
                    rw [HTX.out] at y3
                    clear hY hbY hrY hyy
                    obtain ⟨j1, hj1⟩ : ∃ j1, j1 = j + 1 := ⟨_, rfl⟩
                    have hn1 : IntKind.u64.wrap ((j : Int) + 1) = (j1 : Int) := by rw [IntKind.wrap_u64]; have := HNB.out; have := HLT.out; omega
                    have HJ1 : Hid (j1 = j + 1) := hj1
                    clear hj1
                    have hne : ((a2 : Int) != (a2 : Int)) = false := by simp
                    by_cases hjk : j < k0
                    · as_aux_lemma =>
                        rw [← Wl.after_low hjk, ← HJ1.out] at y3
                        have hf1 : (a : Int) < (fr : Int) := by have := HAJ.out; have := HFR.out; omega
                        have hf2 : ¬ (fr : Int) ≤ (a : Int) := by omega
                        have hjj : ((j1 : Int) != (j1 : Int)) = false := by simp
                        go_wp2_with fail
                        go_roundw
                        case rel => exact ⟨j + 1, HLT.out, by rw [HJ1.out], by rw [HAJ.out.2], HA.out.below HL.out HK2.out, HB.out.trans (HK2.out.mono HB.out.size)⟩
                        case measure => have := HLT.out; have := HJ1.out; simp [intOf]; omega
                    · as_aux_lemma =>
                        obtain ⟨q3, hq3⟩ : ∃ q, q = j - k0 := ⟨_, rfl⟩
                        obtain ⟨q2, hq2⟩ : ∃ q, q = 1000 + (j - k0) := ⟨_, rfl⟩
                        rw [Wl.after_high hjk, ← hq2] at y3
                        have hf1 : ¬ (a : Int) < (fr : Int) := by have := HAJ.out; have := HFR.out; omega
                        have hf2 : (fr : Int) ≤ (a : Int) := by omega
                        have hd1 : IntKind.u64.wrap ((a : Int) - (fr : Int)) = (a : Int) - (fr : Int) := by rw [IntKind.wrap_u64]; have := HNB.out; have := HAJ.out; have := HLT.out; omega
                        have hd2 : ((a : Int) - (fr : Int)).tdiv 27 = (q3 : Int) := by
                          have h1 := HAJ.out.1
                          have h2 := HFR.out
                          rw [show (a : Int) - (fr : Int) = 27 * (q3 : Int) by omega, Int.mul_tdiv_cancel_left _ (by decide)]
                        have hd3 : IntKind.u64.wrap (q3 : Int) = (q3 : Int) := by rw [IntKind.wrap_u64]; have := HNB.out; have := HLT.out; omega
                        have hd4 : IntKind.u64.wrap (1000 + (q3 : Int)) = (q2 : Int) := by rw [IntKind.wrap_u64]; have := HNB.out; have := HLT.out; omega
                        have hjj : ((q2 : Int) != (q2 : Int)) = false := by simp
                        clear hq2 hq3
                        go_wp2_with fail
                        go_roundw
                        case rel => exact ⟨j + 1, HLT.out, by rw [HJ1.out], by rw [HAJ.out.2], HA.out.below HL.out HK2.out, HB.out.trans (HK2.out.mono HB.out.size)⟩
                        case measure => have := HLT.out; have := HJ1.out; simp [intOf]; omega
                  · as_aux_lemma =>
                      obtain rfl : k1 = j := by omega
                      have hae : ¬ (((52 + 27 * k1 : Nat) : Int) < (en : Int)) := by have := HEN.out; omega
                      generalize ((52 + 27 * k1 : Nat) : Int) = q1 at *
                      go_wp2_with fail
                      refine (known_any HA.out _).mono ?_
                      rintro e x9 ⟨rfl, hb⟩
                      have HB9 := Lib.hid (HB.out.trans (hb.mono HB.out.size))
                      clear hb
                      go_wp2_with fail
                      go_ret
                      exact ⟨rfl, HB9.out⟩
end
end Go.Proofs.YtafpjcobagofcaaGreat
