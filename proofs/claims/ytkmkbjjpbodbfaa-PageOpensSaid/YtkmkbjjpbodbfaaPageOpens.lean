/- What the law PageOpens answers, for every bytes. Conditions: the slice's cells hold the bytes. -/
import Derived.Test.YtkmkbjjpbodbfaaPageKnown
import Derived.Test.YtkmkbjjpbodbfaaPageIn
import Derived.StillTailTactics
namespace Go.Proofs.Ytkmkbjjpbodbfaa
open Go.RowKit

theorem row2_below {w w' : World} {B : Nat} {a b : Value} {T : TypeId} (h : w.heap[B]? = some (.cells #[a, b] T (0, 0))) (hb : Below w.heap.size w w') : w'.heap[B]? = some (.cells #[a, b] T (0, 0)) := by
  rw [hb.block B (lt_of_block h)]; exact h
theorem row2_grown {w w' : World} {B : Nat} {a b : Value} {T : TypeId} {row : Option Nat} (h : w.heap[B]? = some (.cells #[a, b] T (0, 0))) (hb : w.grownBy w' row) (hr : row ≠ some B) : w'.heap[B]? = some (.cells #[a, b] T (0, 0)) := by
  rw [hb.block B (lt_of_block h) (fun e => hr e.symm)]; exact h
set_option maxHeartbeats 3200000 in
set_option maxRecDepth 20000 in
theorem pageOpens_any (A : PgApi) (s : Value) (l : List Nat) (w : World) (hB : Bts w s l) :
    Calls Try.prog 4 #[s] w fun e w' => e = .returned (.bool true) ∧ Below w.heap.size w w' := by
  have HA := Lib.hid A
  have HB := Lib.hid hB
  obtain ⟨p, cap, rfl, -, -, -⟩ := hB.form
  have hlen := hB.len
  clear hB
  by_cases hlg : 2000 < l.length
  · go_enter Try.func4, Try.ntmps4
    go_wp2_with fail
    refine (known_any HA.out _).mono ?_
    rintro e w2 ⟨rfl, hb2⟩
    have HW2 := Lib.hid hb2
    clear hb2
    go_wp2_with fail
    go_ret
    exact ⟨rfl, HW2.out⟩
  · have hdl : decide (2000 < (l.length : Int)) = false := by simp; omega
    have HOE := Lib.hid (own_empty w w.heap.size 0 #[] (Nat.le_refl _) (Nat.zero_le _) rfl)
    have HWE : Hid (Below w.heap.size w (w.alloc (.cells #[] 5))) := (Below.refl _ _).alloc (Nat.le_refl _) _
    go_enter Try.func4, Try.ntmps4
    go_upto_region 3 with (fail)
    iterate 7 go_step
    refine wpList_append_Own rfl (.tmp 13) (.tmp 14) rfl w.heap.size _ [] rfl HOE.out _ l rfl (HB.out.below HWE.out) (by simp; omega) HWE.out.size ?_
    intro v1 w1 hO1 hb1 _
    rw [List.nil_append] at hO1
    have HO1 := Lib.hid hO1
    have HW1 := Lib.hid (HWE.out.trans hb1)
    clear hO1 hb1
    iterate 3 go_step
    refine wpList_append_byte rfl (.tmp 15) (.tmp 16) rfl w.heap.size _ l rfl HO1.out rfl 77 rfl (by decide) (by omega) HW1.out.size ?_
    intro v2 w2 hO2 hb2
    have HW2 := Lib.hid (HW1.out.trans hb2)
    have hl1 : (l ++ [77]).length = l.length + 1 := by simp
    obtain ⟨g, c, hv2, -, -, hc1, hc2, -⟩ := own_some hO2 (by rw [hl1]; omega)
    rw [hl1] at hv2 hc1
    subst hv2
    have hin : Bts w2 (.slice (some ⟨g, 0, none⟩) l.length c) l := by
      have hb := hO2.bts
      rw [← hl1] at hb
      have := hb.take l.length (by simp)
      rwa [List.take_left' rfl] at this
    have hmark : w2.cell? ⟨g, l.length, none⟩ = some (.int .u8 77) := by
      have ho := hO2.own
      rw [hl1] at ho
      obtain ⟨_, _, _, _, h5⟩ := owns_cells ho
      rw [h5 l.length (by simp)]
      simp
    have HIN := Lib.hid hin
    have HMARK := Lib.hid hmark
    have HB2 := Lib.hid (HB.out.below HW2.out)
    clear hO2 hb2 hl1 hin hmark HO1 HW1 HOE HWE
    have hnc : l.length ≤ c := by omega
    go_wp2_with fail
    have hc1' := HA.out.opens _ l _ HIN.out
    obtain ⟨k, hk⟩ : ∃ k, k = Pg.openN l := ⟨_, rfl⟩
    obtain ⟨e, he⟩ : ∃ e, e = Pg.openE l := ⟨_, rfl⟩
    obtain ⟨m, hm⟩ : ∃ m, m = Pg.openL l := ⟨_, rfl⟩
    rw [← hk, ← he, ← hm] at hc1'
    have HK := Lib.hid hk
    have HE := Lib.hid he
    have HM := Lib.hid hm
    clear hk he hm
    refine hc1'.mono ?_
    rintro en w3 ⟨u3, rfl, hM, hb3⟩
    obtain ⟨p4, c4, rfl⟩ := own_slv hM
    have HBX := Lib.hid ((Below.refl w3.heap.size w3).alloc (Nat.le_refl _) (.cells #[.int .u64 (k : Int), .slice p4 m.length c4] 25))
    have HB23 := Lib.hid (hb3.trans (HBX.out.mono hb3.size))
    have HM3 := Lib.hid (hM.below HBX.out)
    have HQ3 := Lib.hid (heap_alloc_last w3 (.cells #[.int .u64 (k : Int), .slice p4 m.length c4] 25))
    have HGX : Hid (∀ x, (Value.slice p4 m.length c4).ownBlock = some x → x < w3.heap.size) := fun x hx => (hM.own.lt x hx).2
    clear hb3 hM hc1'
    go_upto_region 5 with (fail)
    generalize w3.alloc (.cells #[.int .u64 (k : Int), .slice p4 m.length c4] 25) = w4 at *
    have HB4 := Lib.hid (HB2.out.below HB23.out)
    go_wp2_with fail
    have hc2' := refOpen_any _ l _ HB4.out
    rw [← HK.out, ← HE.out, ← HM.out] at hc2'
    refine hc2'.mono ?_
    rintro en w5 ⟨u5, rfl, hM5, hb5⟩
    obtain ⟨p6, c6, rfl⟩ := own_slv hM5
    have HBY := Lib.hid ((Below.refl w5.heap.size w5).alloc (Nat.le_refl _) (.cells #[.int .u64 (k : Int), .slice p6 m.length c6] 25))
    have HB45 := Lib.hid (hb5.trans (HBY.out.mono hb5.size))
    have HM5 := Lib.hid (hM5.below HBY.out)
    have HQ5 := Lib.hid (heap_alloc_last w5 (.cells #[.int .u64 (k : Int), .slice p6 m.length c6] 25))
    clear hc2' hb5 hM5
    go_upto_region 6 with (fail)
    generalize w5.alloc (.cells #[.int .u64 (k : Int), .slice p6 m.length c6] 25) = w6 at *
    have HQ6 := Lib.hid (row2_below HQ3.out HB45.out)
    have hq0 := cell2_0 HQ6.out
    have hq1 := cell2_1 HQ6.out
    have hy0 := cell2_0 HQ5.out
    have hy1 := cell2_1 HQ5.out
    have hee : ((e : Int) == (e : Int)) = true := by simp
    have hee2 : ((e : Int) != (e : Int)) = false := by simp
    go_wp2_with fail
    refine (refSame_any _ _ _ _ _ _ _ (HM3.out.bts.below HB45.out) HM5.out.bts).mono ?_
    rintro en w7 ⟨rfl, hb7⟩
    rw [Pg.same_self]
    have HQ7 := Lib.hid (row2_below HQ6.out hb7)
    have HM7 := Lib.hid ((HM3.out.below HB45.out).below hb7)
    have HB27 := Lib.hid ((HB23.out.trans (HB45.out.mono HB23.out.size)).trans (hb7.mono (Nat.le_trans HB23.out.size HB45.out.size)))
    clear hb7 hq0 hq1 hy0 hy1 hee hee2
    have HRW : Hid (0 < m.length → ∃ gm, p4 = some ⟨gm, 0, none⟩ ∧ w2.heap.size ≤ gm ∧ gm < w3.heap.size ∧ Row w7 gm m.length) := fun h0 => by
      obtain ⟨gm, cm, e1, e2, -, -, -, e3⟩ := own_some HM7.out h0
      simp only [Value.slice.injEq] at e1
      exact ⟨gm, e1.1, e2, HGX.out gm (by rw [e1.1]; rfl), e3⟩
    have hmc := (HM7.out.bts.form)
    obtain ⟨_, _, hmv, hmc, -, -⟩ := hmc
    simp only [Value.slice.injEq] at hmv
    obtain ⟨rfl, -, rfl⟩ := hmv
    have hmc1 := hmc.1
    have hmc2 := hmc.2
    clear hmc
    have hmlen := HM7.out.len
    obtain ⟨X, hX⟩ : ∃ X, X = w3.heap.size := ⟨_, rfl⟩
    have HX := Lib.hid hX
    rw [← hX] at HQ7 ⊢
    clear hX
    generalize hnm : m.length = nm at *
    clear hnm
    go_wp2_with fail
    go_loopw [8] (fun i wr => ∃ kk : Nat, kk ≤ nm ∧ i = .int .i64 kk ∧ (∀ gm, p4 = some ⟨gm, 0, none⟩ → 0 < nm → Row wr gm nm) ∧ wr.heap[X]? = some (.cells #[.int .u64 (k : Int), .slice p4 nm c4] 25 (0, 0)) ∧ Below w2.heap.size w2 wr) (fun i _ => nm - (intOf i).toNat)
    case atStart => exact ⟨0, Nat.zero_le _, rfl, fun gm hgm h0 => by
      obtain ⟨gm2, e1, _, _, e4⟩ := HRW.out h0
      rw [hgm] at e1
      simp only [Option.some.injEq, Addr.mk.injEq] at e1
      rw [e1.1]
      exact e4, HQ7.out, HB27.out⟩
    case round =>
      obtain ⟨kk, hk, rfl, hrow, hq, hb⟩ := hrel
      have HRX := Lib.hid hrow
      have HQX := Lib.hid hq
      have HBX2 := Lib.hid hb
      have hq2 := cell2_1 hq
      clear hrow hq hb
      by_cases hlt : kk < nm
      · obtain ⟨gm, hp4, hg2, hg3, -⟩ := HRW.out (by omega)
        subst hp4
        have HRG := Lib.hid (HRX.out gm rfl (by omega))
        obtain ⟨b0, hb0, hcell⟩ := HRG.out.cell kk hlt
        have hfree := HRG.out.free kk
        have HB8 : Hid ((b0 + 1) % 256 < 256) := Nat.mod_lt _ (by decide)
        have HNE : Hid (gm ≠ X) := by have := HX.out; show gm ≠ X; omega
        have HG2 := Lib.hid hg2
        have HG3 := Lib.hid hg3
        clear hg2 hg3
        have hk1 : (0 : Int) ≤ (kk : Int) := by omega
        have hk2 : (kk : Int) < (nm : Int) := by omega
        have HXO : Hid (((b0 : Int) + 1) % 256 = (((b0 + 1) % 256 : Nat) : Int)) := by show _ = _; omega
        have HWR : Hid (IntKind.u8.wrap ((b0 : Int) + 1) = (((b0 + 1) % 256 : Nat) : Int)) := by
          show _ = _
          rw [show IntKind.u8.wrap ((b0 : Int) + 1) = ((b0 : Int) + 1) % 256 by simp [IntKind.wrap, IntKind.bits, IntKind.signed]]
          omega
        have hwr := HWR.out
        go_wp2_with fail
        rw [HXO.out]
        go_roundw
        case rel =>
          have hgx := grownBy_setCell wr gm kk (.int .u8 (((b0 + 1) % 256 : Nat) : Int))
          have hrset := HRG.out.set kk ((b0 + 1) % 256) HB8.out
          refine ⟨kk + 1, by omega, by go_num, ?_, row2_grown HQX.out hgx (fun e => HNE.out (Option.some.inj e)), below_grown HBX2.out hgx HBX2.out.size HG2.out⟩
          intro gm' hgm' _
          simp only [Option.some.injEq, Addr.mk.injEq] at hgm'
          rw [← hgm'.1]
          exact hrset
        case measure => simp [intOf]; omega
      · obtain rfl : kk = nm := by omega
        have HIN8 := Lib.hid (HIN.out.below HBX2.out)
        have HB8 := Lib.hid (HB2.out.below HBX2.out)
        have cv1 := strOf_conv HIN8.out
        have cv2 := strOf_conv HB8.out
        have hmk := (HBX2.out.cell (p := ⟨g, l.length, none⟩) (block_lt_of_cell HMARK.out)).trans HMARK.out
        generalize strOfNums (l.map fun x : Nat => (x : Int)) = S at *
        go_wp2_with fail
        clear cv1 cv2 hmk
        refine (HA.out.blank wr).mono ?_
        rintro en w8 ⟨v8, rfl, hO8, hb8⟩
        obtain ⟨p8, c8, rfl⟩ := own_slv hO8
        have HO8 := Lib.hid hO8
        have HW8 := Lib.hid (HBX2.out.trans (hb8.mono HBX2.out.size))
        clear hO8 hb8
        go_wp2_with fail
        refine (refBlank_any w8).mono ?_
        rintro en w9 ⟨v9, rfl, hO9, hb9⟩
        obtain ⟨p9, c9, rfl⟩ := own_slv hO9
        have HO9 := Lib.hid hO9
        have HOX := Lib.hid (HO8.out.below hb9)
        have HW9 := Lib.hid (HW8.out.trans (hb9.mono HW8.out.size))
        clear hO9 hb9
        go_wp2_with fail
        refine (refSame_any _ _ _ _ _ _ _ HOX.out.bts HO9.out.bts).mono ?_
        rintro en w10 ⟨rfl, hb10⟩
        rw [Pg.same_self]
        have HW10 := Lib.hid (HW9.out.trans (hb10.mono HW9.out.size))
        clear hb10
        go_wp2_with fail
        refine (known_any HA.out _).mono ?_
        rintro en w11 ⟨rfl, hb11⟩
        have HW11 := Lib.hid (HW2.out.trans ((HW10.out.trans (hb11.mono HW10.out.size)).mono HW2.out.size))
        clear hb11
        go_wp2_with fail
        go_ret
        exact ⟨rfl, HW11.out⟩
end Go.Proofs.Ytkmkbjjpbodbfaa
