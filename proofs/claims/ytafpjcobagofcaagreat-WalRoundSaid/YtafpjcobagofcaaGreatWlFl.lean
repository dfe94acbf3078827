/- What waits is made to last, by the program, on a device of which the power may go. Conditions: the log stands on it. -/
import Derived.Test.YtafpjcobagofcaaGreatWlPuM
import Derived.Test.YtafpjcobagofcaaGreatWlWr
import Derived.Test.YtafpjcobagofcaaGreatDkM
namespace Go.Proofs.YtafpjcobagofcaaGreat
open Go.RowKit

theorem wlRead_off {B m1 m2 : Nat} {d : Dk.Dev} {w : World} (h : PDev w B m1 m2 d) (ho : d.off = true) (i : Int) :
    Calls Tryz.prog 63 #[.pointer (some ⟨B, 0, none⟩), .int .i64 i] w fun e w' => ∃ u, e = .returned (.tuple #[u, .int .i64 6]) ∧ Below w.heap.size w w' := by
  have h1 := read_any h i
  rw [show Dk.read d i = ([], 6) from if_pos ho] at h1
  exact h1.mono fun _ _ ⟨u, he, _, hb⟩ => ⟨u, he, hb⟩
set_option maxHeartbeats 3200000 in
set_option maxRecDepth 20000 in
theorem wlPut_off {w : World} {L B a c m1 m2 : Nat} {k : Wl.Kn} {pl wa : Value} {d : Dk.Dev} (h : LogAt w L k B a c pl wa false) (hP : PDev w B m1 m2 d) (ho : d.off = true) (hc1 : 1 ≤ c) (hc2 : c ≤ 8192) (ha : a ≤ 65536) (g last : Nat) (hLd : ¬ DS B m1 m2 L) :
    Calls Tryz.prog 58 #[.pointer (some ⟨L, 0, none⟩), .int .u64 (g : Int), .int .u64 (last : Int)] w fun e w' => e = .returned (.int .i64 6) ∧ PDev w' B m1 m2 d ∧ Touch (PutS B m1 m2 L) w w' := by
  have HLG0 := Lib.hid h
  have HSEC := Lib.hid (wlSector_any h g hc1 hc2 ha)
  obtain ⟨σ, hσ⟩ : ∃ s, s = a + 2 + g % (2 * c) / 2 := ⟨_, rfl⟩
  rw [← hσ] at HSEC
  have HPD0 := Lib.hid hP
  have HOF := Lib.hid ho
  have HLD := Lib.hid hLd
  clear h hP ho hc1 hc2 ha hLd hσ
  go_enter Tryz.func58, Tryz.ntmps58
  go_wp2_with fail
  refine HSEC.out.mono ?_
  rintro e w1 ⟨rfl, q, rfl⟩
  have hb1 := below_drewN w.heap.size w q
  have HLG := Lib.hid (HLG0.out.below hb1)
  have HPD := Lib.hid (HPD0.out.below hb1)
  have HT1 : Hid (Touch (PutS B m1 m2 L) w (w.drewN q)) := (Touch.refl _ _).drewN q
  clear HSEC hb1
  generalize w.drewN q = W1 at *
  have c4 := HLG.out.cell 4 (v := .pointer (some ⟨B, 0, none⟩)) rfl
  go_wp2_with fail
  refine (wlRead_off HPD.out HOF.out _).mono ?_
  rintro e w2 ⟨u, rfl, hb2⟩
  have HLG2 := Lib.hid (HLG.out.below hb2)
  have HPD2 := Lib.hid (HPD.out.below hb2)
  have HT2 := Lib.hid (HT1.out.trans (Touch.of_new hb2))
  clear hb2 c4
  go_wp2_with fail
  refine (wlTold_any HLG2.out 6).mono ?_
  rintro e w8 ⟨rfl, hL8, ht8⟩
  have HE := Lib.hid (HT2.out.trans (ht8.mono fun i _ hi => Or.inr hi))
  have HP8 := Lib.hid (HPD2.out.keep ht8 (fun i hi e => HLD.out (e ▸ hi)))
  clear hL8 ht8
  go_wp2_with fail
  go_ret
  exact ⟨rfl, HP8.out, HE.out⟩

/-- What the program's writing answers. -/
def WrA (s : Wl.S) (said n B m1 m2 L : Nat) (pl wa : Value) (d : Dk.Dev) (w : World) (e : Ending) (w' : World) : Prop :=
  (∃ d', e = .returned (.int .i64 0) ∧ PDev w' B m1 m2 d' ∧ Wl.Dv (Wl.flush s) said d' ∧ Wl.Near n d' ∧ (Wl.Calm n d → Wl.Calm n d') ∧ LogAt w' L (Wl.kn s) B s.at_ s.count pl wa false ∧ Touch (PutS B m1 m2 L) w w') ∨
  (¬ Wl.Calm n d ∧ ∃ (k : Nat) (d' : Dk.Dev), e = .returned (.int .i64 (k : Int)) ∧ k ≠ 0 ∧ PDev w' B m1 m2 d' ∧ Wl.Near n d' ∧ Wl.Dv s said d' ∧ Touch (PutS B m1 m2 L) w w')
theorem six_of {b : Bool} (h : (if b then 6 else 0 : Nat) ≠ 0) : b = true ∧ (if b then 6 else 0 : Nat) = 6 := by cases b <;> simp_all
set_option maxHeartbeats 6400000 in
set_option maxRecDepth 20000 in
theorem wlWrite_any {w : World} {L B m1 m2 said n : Nat} {s : Wl.S} {pl : Value} {gw ow cw : Nat} {d : Dk.Dev} (h : LogAt w L (Wl.kn s) B s.at_ s.count pl (.slice (some ⟨gw, ow, none⟩) (Wl.waits s).length cw) false) (hP : PDev w B m1 m2 d) (hB : Bts w (.slice (some ⟨gw, ow, none⟩) (Wl.waits s).length cw) (Wl.waits s))
    (hx : Wl.Ex s) (hD : Wl.Dv s said d) (hN : Wl.Near n d) (hfs : s.flushed < s.stop) (hs : s.stop ≤ 1000000000000) (hLd : ¬ DS B m1 m2 L) (hWd : ¬ PutS B m1 m2 L gw) :
    Calls Tryz.prog 32 #[.pointer (some ⟨L, 0, none⟩)] w fun e w' => WrA s said n B m1 m2 L pl (.slice (some ⟨gw, ow, none⟩) (Wl.waits s).length cw) d w e w' := by
  have hwl := Wl.waits_length hx.good
  have hend := wlEnd_any h (by show s.flushed + _ < _; rw [hwl]; omega)
  rw [show (Wl.kn s).flushed + (Wl.waits s).length = s.stop by show s.flushed + _ = _; rw [hwl]; omega] at hend
  have HEND := Lib.hid hend
  have HLG0 := Lib.hid h
  have HPD0 := Lib.hid hP
  have HBW0 := Lib.hid hB
  have HX := Lib.hid hx
  have HDV := Lib.hid hD
  have HN := Lib.hid hN
  have HFS := Lib.hid hfs
  have HS := Lib.hid hs
  have HLD := Lib.hid hLd
  have HWD := Lib.hid hWd
  obtain ⟨last, hlast⟩ : ∃ l, l = Wl.lastH s := ⟨_, rfl⟩
  have HLAST := Lib.hid hlast
  obtain ⟨z1, hz1⟩ : ∃ z, z = s.stop - 1 := ⟨_, rfl⟩
  have hm1 : IntKind.u64.wrap ((s.stop : Int) - 1) = (z1 : Int) := by rw [IntWalk.u64_in _ (by omega)]; omega
  have hm2 : IntKind.u64.wrap ((z1 : Int) / 52) = (last : Int) := by unfold Wl.lastH at hlast; rw [IntWalk.u64_in _ (by omega)]; omega
  obtain ⟨g0, hg0⟩ : ∃ g, g = s.flushed / 52 := ⟨_, rfl⟩
  have hm3 : IntKind.u64.wrap ((s.flushed : Int) / 52) = (g0 : Int) := by rw [IntWalk.u64_in _ (by omega)]; omega
  have HG0 := Lib.hid hg0
  have HLL : Hid (last ≤ 1000000000000) := by unfold Wl.lastH at hlast; show _ ≤ _; omega
  have HG0L : Hid (g0 ≤ 1000000000000) := by show _ ≤ _; omega
  clear h hP hB hx hD hN hfs hs hLd hWd hwl hend hlast hg0 hz1
  go_enter Tryz.func32, Tryz.ntmps32
  go_wp2_with fail
  refine HEND.out.mono ?_
  rintro e w1 ⟨rfl, q, rfl⟩
  have hb1 := below_drewN w.heap.size w q
  have HLG := Lib.hid (HLG0.out.below hb1)
  have HPD := Lib.hid (HPD0.out.below hb1)
  have HBW := Lib.hid (HBW0.out.below hb1)
  have HT1 : Hid (Touch (PutS B m1 m2 L) w (w.drewN q)) := (Touch.refl _ _).drewN q
  clear HEND hb1
  generalize w.drewN q = W1 at *
  have c1 := HLG.out.cell 1 (v := .int .u64 (s.flushed : Int)) rfl
  go_wp2_with fail
  clear c1
  go_loopw [4] (fun i wr => ∃ (t : Nat) (d1 : Dk.Dev), i = .int .u64 (t : Int) ∧ g0 ≤ t ∧ t ≤ last + 2 + g0 ∧ Wl.Wr s said d1 t ∧ Wl.Near n d1 ∧ (Wl.Calm n d → Wl.Calm n d1) ∧ PDev wr B m1 m2 d1 ∧ LogAt wr L (Wl.kn s) B s.at_ s.count pl (.slice (some ⟨gw, ow, none⟩) (Wl.waits s).length cw) false ∧ Touch (PutS B m1 m2 L) w wr) (fun i _ => (last + 1) - (intOf i).toNat)
  case atStart => exact ⟨g0, d, rfl, Nat.le_refl _, by omega, by rw [HG0.out]; exact Wl.wr_start HDV.out, HN.out, id, HPD.out, HLG.out, HT1.out⟩
  case round =>
    obtain ⟨t, d1, rfl, ht1, ht2, hwr, hn1, hcm, hp1, hl1, htt⟩ := hrel
    have HWR := Lib.hid hwr
    have HN1 := Lib.hid hn1
    have HCM := Lib.hid hcm
    have HP1 := Lib.hid hp1
    have HL1 := Lib.hid hl1
    have HTT := Lib.hid htt
    have HT12 : Hid (g0 ≤ t ∧ t ≤ last + 2 + g0) := ⟨ht1, ht2⟩
    clear hwr hn1 hcm hp1 hl1 htt ht1 ht2
    by_cases hlt : t ≤ last
    · have hi : (t : Int) ≤ (last : Int) := by omega
      have HLT := Lib.hid hlt
      have HIN : Hid (Wl.WrIn s t) := ⟨by have h1 := HT12.out; have h2 := HG0.out; omega, by have h1 := HLAST.out; omega⟩
      have hfit := HWR.out.dv.fits
      have hcl := HX.out.low
      have hch := HX.out.high
      have hszd := HP1.out.own.size
      cases hof : d1.off with
      | true =>
        have hput := wlPut_off HL1.out HP1.out hof (by omega) hch (by omega) t last HLD.out
        have HPUT := Lib.hid hput
        have HOF := Lib.hid hof
        clear hput hof hfit hcl hch hszd hlt
        go_wp2_with fail
        refine HPUT.out.mono ?_
        rintro e w2 ⟨rfl, hP2, ht2⟩
        have HP2 := Lib.hid hP2
        have HT2 := Lib.hid (HTT.out.trans ht2)
        clear hP2 ht2 HPUT
        go_wp2_with fail
        go_ret
        exact Or.inr ⟨(fun hc => by have := (HCM.out hc).off; rw [HOF.out] at this; cases this), 6, d1, rfl, by decide, HP2.out, HN1.out, HWR.out.dv, HT2.out⟩
      | false =>
        have hbt := HTT.out.bts HBW0.out (fun _ g' e => by
          simp only [Value.ownBlock, Option.some.injEq] at e
          subst e
          exact HWD.out)
        have hput := wlPut_any HL1.out HP1.out hbt hof (by omega) hch (by omega) t last hlt HLL.out (fun i h1 h2 => (⟨Nat.le_trans HIN.out.low h1, by have := HLAST.out; omega⟩ : Wl.WrIn s i).ok HX.out HFS.out HS.out) HLD.out (by show s.flushed ≤ _; have := HFS.out; have := HS.out; omega)
        have HPUT := Lib.hid hput
        have HOF := Lib.hid hof
        have hσ : s.at_ + 2 + t % (2 * s.count) / 2 < n := by
          have h1 := Wl.sec_lt (n := s.count) (h := t) (by omega)
          have h2 := HN1.out.sz
          omega
        have HSG := Lib.hid hσ
        have hm5 : IntKind.u64.wrap ((t : Int) / 2) = ((t / 2 : Nat) : Int) := by rw [IntWalk.u64_in _ (by have := HLL.out; omega)]; omega
        obtain ⟨t2, ht2⟩ : ∃ n, n = t / 2 := ⟨_, rfl⟩
        rw [← ht2] at hm5
        obtain ⟨t4, ht4⟩ : ∃ n, n = t2 * 2 := ⟨_, rfl⟩
        have hm6 : IntKind.u64.wrap ((t2 : Int) * 2) = (t4 : Int) := by have := HLL.out; rw [IntWalk.u64_in _ (by omega)]; omega
        obtain ⟨t5, ht5⟩ : ∃ n, n = t4 + 2 := ⟨_, rfl⟩
        have hm7 : IntKind.u64.wrap ((t4 : Int) + 2) = (t5 : Int) := by have := HLL.out; rw [IntWalk.u64_in _ (by omega)]; omega
        have HT5 : Hid (t5 = t / 2 * 2 + 2) := by show _ = _; omega
        clear hput hof hfit hcl hch hszd hlt hbt hσ ht2 ht4 ht5
        go_wp2_with fail
        refine HPUT.out.mono ?_
        rintro e w2 ⟨b', hsn, he, hP2, hL2, ht2⟩
        rw [show (Wl.kn s).flushed = s.flushed from rfl, show (Wl.kn s).epoch = s.epoch from rfl, HLAST.out] at hsn
        obtain ⟨hw1, hw2⟩ := Wl.near_write HN1.out HOF.out HSG.out hsn.sec
        rw [hw1] at he hP2 hL2
        have hwr2 := (HWR.out.put HX.out HFS.out HS.out HIN.out hsn).goes
        have hcc := fun hc => Wl.calm_put (HCM.out hc) (s.at_ + 2 + t % (2 * s.count) / 2) b'
        generalize Dk.goes (Dk.put d1 (s.at_ + 2 + t % (2 * s.count) / 2) b') = d2 at *
        dsimp only at he hP2 hL2
        have HT2 := Lib.hid (HTT.out.trans ht2)
        have HP2 := Lib.hid hP2
        have HW2 := Lib.hid hw2
        have HWR2 := Lib.hid hwr2
        have HCC := Lib.hid hcc
        have HL2 := Lib.hid hL2
        subst he
        clear hP2 ht2 HPUT hsn hw1 hw2 hwr2 hcc hL2
        cases hof2 : d2.off with
        | true =>
          rw [hof2] at HL2
          have HOF2 := Lib.hid hof2
          clear hof2
          go_wp2_with fail
          go_ret
          exact Or.inr ⟨(fun hc => by have := (HCC.out hc).off; rw [HOF2.out] at this; cases this), 6, d2, rfl, by decide, HP2.out, HW2.out, HWR2.out.dv, HT2.out⟩
        | false =>
          rw [hof2] at HL2
          have HL3 : Hid (LogAt w2 L (Wl.kn s) B s.at_ s.count pl (.slice (some ⟨gw, ow, none⟩) (Wl.waits s).length cw) false) := HL2.out
          clear HL2 hof2
          go_wp2_with fail
          go_roundw
          case rel => exact ⟨t5, d2, by go_num, by have h1 := HT12.out; have h2 := HT5.out; omega, by have h1 := HT12.out; have h2 := HT5.out; have h3 := HLT.out; omega, by rw [HT5.out]; exact HWR2.out, HW2.out, HCC.out, HP2.out, HL3.out, HT2.out⟩
          case measure => simp [intOf]; have h1 := HLT.out; have h2 := HT5.out; omega
    · have hi : ¬ (t : Int) ≤ (last : Int) := by omega
      have hwd := HWR.out
      have HLT : Hid (Wl.lastH s < t) := by show _ < _; rw [← HLAST.out]; omega
      have c4 := HL1.out.cell 4 (v := .pointer (some ⟨B, 0, none⟩)) rfl
      have hsy := sync_any HP1.out
      cases hof : d1.off with
      | true =>
        rw [show Dk.sync d1 = (d1, 6) from if_pos hof] at hsy
        have HSY := Lib.hid hsy
        have HOF := Lib.hid hof
        clear hsy hof hlt hwd
        go_wp2_with fail
        refine HSY.out.mono ?_
        rintro e w2 ⟨rfl, hP2, ht2⟩
        have HP2 := Lib.hid hP2
        have HL2 := Lib.hid (HL1.out.touch ht2 HLD.out)
        have HT2 := Lib.hid (HTT.out.trans (ht2.mono fun i _ hi => Or.inl hi))
        clear hP2 ht2 HSY c4
        go_wp2_with fail
        refine (wlTold_any HL2.out 6).mono ?_
        rintro e w3 ⟨rfl, hL3, ht3⟩
        have HP3 := Lib.hid (HP2.out.keep ht3 (fun i hi e => HLD.out (e ▸ hi)))
        have HT3 := Lib.hid (HT2.out.trans (ht3.mono fun i _ hi => Or.inr hi))
        clear hL3 ht3
        go_wp2_with fail
        go_ret
        exact Or.inr ⟨(fun hc => by have := (HCM.out hc).off; rw [HOF.out] at this; cases this), 6, d1, rfl, by decide, HP3.out, HN1.out, HWR.out.dv, HT3.out⟩
      | false =>
        rcases Wl.near_sync HN1.out hof with ⟨hs1, hs2, hs3⟩ | ⟨hs1, hs2, hs3⟩
        · rw [hs1] at hsy
          have HSY := Lib.hid hsy
          have HS2 := Lib.hid hs2
          have HS3 := Lib.hid hs3
          clear hsy hof hlt hwd hs1 hs2 hs3
          go_wp2_with fail
          refine HSY.out.mono ?_
          rintro e w2 ⟨rfl, hP2, ht2⟩
          have HP2 := Lib.hid hP2
          have HL2 := Lib.hid (HL1.out.touch ht2 HLD.out)
          have HT2 := Lib.hid (HTT.out.trans (ht2.mono fun i _ hi => Or.inl hi))
          clear hP2 ht2 HSY c4
          go_wp2_with fail
          refine (wlTold_any HL2.out 6).mono ?_
          rintro e w3 ⟨rfl, hL3, ht3⟩
          have HP3 := Lib.hid (HP2.out.keep ht3 (fun i hi e => HLD.out (e ▸ hi)))
          have HT3 := Lib.hid (HT2.out.trans (ht3.mono fun i _ hi => Or.inr hi))
          clear hL3 ht3
          go_wp2_with fail
          go_ret
          exact Or.inr ⟨fun hc => HS3.out (HCM.out hc), 6, _, rfl, by decide, HP3.out, HS2.out, HWR.out.goes.dv, HT3.out⟩
        · rw [hs1] at hsy
          have HSY := Lib.hid hsy
          have HS2 := Lib.hid hs2
          have HS3 := Lib.hid hs3
          clear hsy hof hlt hwd hs1 hs2 hs3
          go_wp2_with fail
          refine HSY.out.mono ?_
          rintro e w2 ⟨rfl, hP2, ht2⟩
          have HP2 := Lib.hid hP2
          have HL2 := Lib.hid (HL1.out.touch ht2 HLD.out)
          have HT2 := Lib.hid (HTT.out.trans (ht2.mono fun i _ hi => Or.inl hi))
          clear hP2 ht2 HSY c4
          go_wp2_with fail
          refine (wlTold_ok HL2.out).mono ?_
          rintro e w3 ⟨rfl, hL3, ht3⟩
          have HL3 := Lib.hid hL3
          have HP3 := Lib.hid (HP2.out.keep ht3 (fun i hi e => HLD.out (e ▸ hi)))
          have HT3 := Lib.hid (HT2.out.trans (ht3.mono fun i _ hi => Or.inr hi))
          clear hL3 ht3
          go_wp2_with fail
          go_ret
          exact Or.inl ⟨_, rfl, HP3.out, HWR.out.goes.done HX.out HFS.out HLT.out, HS2.out, fun hc => HS3.out (HCM.out hc), HL3.out, HT3.out⟩
end Go.Proofs.YtafpjcobagofcaaGreat
