/- Parts of a proof. Conditions: as each row says. -/
import Derived.Test.YtbpodmallknhfaaGreatAr13
namespace Go.Proofs.YtbpodmallknhfaaGreat
open Go.RowKit
section
variable {PD : (Nat → Prop) → World → Nat → Dk.Dev → Prop} {PL : (Nat → Prop) → (Nat → Prop) → World → Nat → Nat → Dk.Dev → Wl.S → Prop} {PO : (Nat → Prop) → World → Nat → Nat → Nat → Po.S → Prop} {Hd : Dk.Dev → Wl.S → Prop} {Hw : Dk.Dev → Po.Ar → (Nat → Po.Pg) → Prop} {Hp : Dk.Dev → Po.Ar → (Nat → Po.Pg → Prop) → Prop}
set_option maxHeartbeats 6400000 in
set_option maxRecDepth 20000 in
theorem poolAreas_any (A : PoApi PD PL PO Hd Hw Hp) (sz : Int) (a : Po.Ar) (fr : Int) (w : World) (ha : ArOk a) (hf : I64' fr) :
    Calls Tryz.prog 4 #[.int .i64 sz, ArV a, .int .i64 fr] w fun e w' => e = .returned (.bool true) ∧ Below w.heap.size w w' := by
  have HA := Lib.hid A
  have HAO := Lib.hid ha
  have HFO := Lib.hid hf
  have HI0 : Hid (I64' 0) := ⟨by decide, by decide⟩
  obtain ⟨W, hW⟩ : ∃ W, W = w.alloc (.cells #[.int .i64 a.spare, .int .i64 a.base, .int .i64 a.pages] 46) := ⟨_, rfl⟩
  have hr : W.heap[w.heap.size]? = some (.cells #[.int .i64 a.spare, .int .i64 a.base, .int .i64 a.pages] 46 (0, 0)) := by rw [hW]; exact heap_alloc_last _ _
  have hb : Below w.heap.size w W := by rw [hW]; exact below_new1 _ _
  obtain ⟨bx, hbx⟩ : ∃ B, B = w.heap.size := ⟨_, rfl⟩
  rw [← hbx] at hr
  have HC0 : Hid (_ ∧ _ ∧ _) := ⟨cell3_0 hr, cell3_1 hr, cell3_2 hr⟩
  have HX0 : Hid (bx < W.heap.size) := lt_of_block hr
  have HBW := Lib.hid hb
  clear hr hb A ha hf
  unfold ArV
  by_cases h1 : sz < 20
  case pos =>
    go_enter Tryz.func4, Tryz.ntmps4
    go_upto_region 1 with (fail)
    rw [← hW, ← hbx]
    clear hW hbx
    go_wp2_with fail
    refine (known_any HA.out _).mono ?_
    rintro e w2 ⟨rfl, hb2⟩
    go_wp2_with fail
    go_ret
    exact ⟨rfl, HBW.out.trans (hb2.mono HBW.out.size)⟩
  by_cases h2 : 200 < sz
  case pos =>
    go_enter Tryz.func4, Tryz.ntmps4
    go_upto_region 1 with (fail)
    rw [← hW, ← hbx]
    clear hW hbx
    go_wp2_with fail
    refine (known_any HA.out _).mono ?_
    rintro e w2 ⟨rfl, hb2⟩
    go_wp2_with fail
    go_ret
    exact ⟨rfl, HBW.out.trans (hb2.mono HBW.out.size)⟩
  obtain ⟨n, rfl⟩ : ∃ n : Nat, sz = (n : Int) := ⟨sz.toNat, by omega⟩
  have HN0 : Hid (20 ≤ n ∧ n ≤ 200) := Lib.hid (by omega)
  have HN : Hid (1 ≤ n ∧ n ≤ 200 ∧ 18 ≤ n) := Lib.hid (by omega)
  go_enter Tryz.func4, Tryz.ntmps4
  go_upto_region 1 with (fail)
  rw [← hW, ← hbx]
  have HBXE := Lib.hid hbx
  clear hW hbx
  go_wp2_with fail
  refine (HA.out.new n W HN.out.1 (by have := HN.out; omega)).mono ?_
  rintro e w1 ⟨B, U, rfl, hD, hU, hb⟩
  have HD0 := Lib.hid hD
  have HU0 : Hid (From W.heap.size U) := fun i hi => hU i hi
  have HB0 := Lib.hid hb
  clear hD hU hb
  go_wp2_with fail
  refine (HA.out.make (n := n) 0 16 HD0.out ⟨by decide, by decide, by decide, by have := HN.out; omega⟩).mono ?_
  rintro e z ⟨L, U2, V2, d2, rfl, hL, hC, hO, hT, hG, hV⟩
  have HL := Lib.hid hL
  have HUW := Lib.hid (hG.from HU0.out HB0.out.size)
  have HU : Hid (From w.heap.size U2) := fun i hi => Nat.le_trans HBW.out.size (HUW.out i hi)
  have HB1 : Hid (Below w.heap.size w z) := Lib.hid (HBW.out.trans ((HB0.out.trans ((hT.under HU0.out HB0.out.size).mono (Nat.le_refl _))).mono HBW.out.size))
  have HD := Lib.hid hC
  have HOT := Lib.hid hO
  have hbz : Below W.heap.size W z := HB0.out.trans (hT.under HU0.out HB0.out.size)
  have HC : Hid (_ ∧ _ ∧ _) := ⟨(hbz.cell (p := ⟨bx, 0, none⟩) HX0.out).trans HC0.out.1, (hbz.cell (p := ⟨bx, 1, none⟩) HX0.out).trans HC0.out.2.1, (hbz.cell (p := ⟨bx, 2, none⟩) HX0.out).trans HC0.out.2.2⟩
  have HX : Hid (bx < z.heap.size) := Nat.lt_of_lt_of_le HX0.out hbz.size
  have HBX : Hid (∀ i, i = bx → ¬ U2 i) := fun i e hu => by have := HUW.out i hu; have := HX0.out; omega
  clear hL hC hO hT hG hV hbz HD0 HU0 HB0 HC0 HX0 HUW
  obtain ⟨c0, c1, c2⟩ := HC.out
  go_wp2_with fail
  refine (refMay_any n a z (by have := HN.out; omega) HAO.out).mono ?_
  by_cases hfit : a.Fits n
  case pos =>
    rw [Po.bof_true hfit]
    have HFIT := Lib.hid hfit
    clear hfit h1 h2
    rintro e z0 ⟨rfl, hb⟩
    have HL0 := Lib.hid (HA.out.pkeep HL.out (T := fun i => z.heap.size ≤ i) (.of_below hb fun _ _ h => h) fun i hi => by have := HA.out.plt HL.out i hi; omega)
    have HB0 := Lib.hid (HB1.out.trans (hb.mono HB1.out.size))
    have HC0 : Hid (_ ∧ _ ∧ _) := ⟨(hb.cell (p := ⟨bx, 0, none⟩) HX.out).trans HC.out.1, (hb.cell (p := ⟨bx, 1, none⟩) HX.out).trans HC.out.2.1, (hb.cell (p := ⟨bx, 2, none⟩) HX.out).trans HC.out.2.2⟩
    have HX0 : Hid (bx < z0.heap.size) := Nat.lt_of_lt_of_le HX.out hb.size
    clear hb HL HB1 HC HX c0 c1 c2
    by_cases q1 : ¬ (18 ≤ a.spare)
    case pos =>
      by_cases f1 : fr < 1
      case pos =>
        as_aux_lemma =>
          obtain ⟨c0, c1, c2⟩ := HC0.out
          go_wp2_with fail
          refine (known_any HA.out _).mono ?_
          rintro e z1 ⟨rfl, hb2⟩
          go_wp2_with fail
          go_ret
          exact ⟨rfl, HB0.out.trans (hb2.mono HB0.out.size)⟩
      by_cases f2 : 64 < fr
      case pos =>
        as_aux_lemma =>
          obtain ⟨c0, c1, c2⟩ := HC0.out
          go_wp2_with fail
          refine (known_any HA.out _).mono ?_
          rintro e z1 ⟨rfl, hb2⟩
          go_wp2_with fail
          go_ret
          exact ⟨rfl, HB0.out.trans (hb2.mono HB0.out.size)⟩
      obtain ⟨FR, rfl⟩ : ∃ FR : Nat, fr = (FR : Int) := ⟨fr.toNat, by omega⟩
      have HFR : Hid (1 ≤ FR ∧ FR ≤ 64) := Lib.hid (by omega)
      as_aux_lemma =>
        obtain ⟨c0, c1, c2⟩ := HC0.out
        go_wp2_with fail
        refine (known_any HA.out _).mono ?_
        rintro e z1 ⟨rfl, hb2⟩
        go_wp2_with fail
        go_ret
        exact ⟨rfl, HB0.out.trans (hb2.mono HB0.out.size)⟩
    have q1 := Decidable.not_not.1 q1
    by_cases q2 : a.base < 18
    case pos =>
      by_cases f1 : fr < 1
      case pos =>
        as_aux_lemma =>
          obtain ⟨c0, c1, c2⟩ := HC0.out
          go_upto_region 14 with (fail)
          rw [show decide (18 ≤ a.base) = false from decide_eq_false (by omega)]
          go_wp2_with fail
          refine (known_any HA.out _).mono ?_
          rintro e z1 ⟨rfl, hb2⟩
          go_wp2_with fail
          go_ret
          exact ⟨rfl, HB0.out.trans (hb2.mono HB0.out.size)⟩
      by_cases f2 : 64 < fr
      case pos =>
        as_aux_lemma =>
          obtain ⟨c0, c1, c2⟩ := HC0.out
          go_upto_region 14 with (fail)
          rw [show decide (18 ≤ a.base) = false from decide_eq_false (by omega)]
          go_wp2_with fail
          refine (known_any HA.out _).mono ?_
          rintro e z1 ⟨rfl, hb2⟩
          go_wp2_with fail
          go_ret
          exact ⟨rfl, HB0.out.trans (hb2.mono HB0.out.size)⟩
      obtain ⟨FR, rfl⟩ : ∃ FR : Nat, fr = (FR : Int) := ⟨fr.toNat, by omega⟩
      have HFR : Hid (1 ≤ FR ∧ FR ≤ 64) := Lib.hid (by omega)
      as_aux_lemma =>
        obtain ⟨c0, c1, c2⟩ := HC0.out
        go_upto_region 14 with (fail)
        rw [show decide (18 ≤ a.base) = false from decide_eq_false (by omega)]
        go_wp2_with fail
        refine (known_any HA.out _).mono ?_
        rintro e z1 ⟨rfl, hb2⟩
        go_wp2_with fail
        go_ret
        exact ⟨rfl, HB0.out.trans (hb2.mono HB0.out.size)⟩
    have q2 := Int.not_lt.1 q2
    have HAW : Hid (Po.Away a 0 16) := Lib.hid (fun i hi => by rcases hi with ⟨h, -⟩ | ⟨h, -⟩ <;> omega)
    have HWW : Hid (Hw d2 a fun _ => Po.blank) := HA.out.hw_blank (HA.out.dok (HA.out.dev HL0.out)) HD.out.sz HFIT.out fun i hi => by
      have hi2 : i < n := by
        obtain ⟨-, -, -, g1, g2, -⟩ := HFIT.out
        rcases hi with ⟨-, h⟩ | ⟨-, h⟩ <;> omega
      have := HOT.out i (HAW.out i hi) (by show (List.replicate n (none : Option (List Nat))).getD i none = none; rw [List.getD_eq_getElem?_getD, List.getElem?_replicate]; split <;> rfl)
      refine ⟨this.1, this.2.trans ?_⟩
      show (List.replicate n Dk.blank).getD i [] = Dk.blank
      rw [List.getD_eq_getElem?_getD, List.getElem?_replicate, if_pos hi2]; rfl
    by_cases f1 : fr < 1
    case pos =>
      as_aux_lemma =>
        have HBAD : Hid (¬ (a.Fits n ∧ 1 ≤ fr ∧ fr ≤ 64)) := fun h => by have := h.2; omega
        obtain ⟨c0, c1, c2⟩ := HC0.out
        go_wp2_with fail
        refine (HA.out.make_bad fr HL0.out HD.out HAO.out HFO.out HBAD.out).mono ?_
        rintro e z1 ⟨rfl, hb⟩
        have HL1 := Lib.hid (HA.out.pkeep HL0.out (T := fun i => z0.heap.size ≤ i) (.of_below hb fun _ _ h => h) fun i hi => by have := HA.out.plt HL0.out i hi; omega)
        have HB1 := Lib.hid (HB0.out.trans (hb.mono HB0.out.size))
        have HC1 : Hid (_ ∧ _ ∧ _) := ⟨(hb.cell (p := ⟨bx, 0, none⟩) HX0.out).trans HC0.out.1, (hb.cell (p := ⟨bx, 1, none⟩) HX0.out).trans HC0.out.2.1, (hb.cell (p := ⟨bx, 2, none⟩) HX0.out).trans HC0.out.2.2⟩
        have HX1 : Hid (bx < z1.heap.size) := Nat.lt_of_lt_of_le HX0.out hb.size
        clear hb HL0 HB0 HC0 HX0
        clear c0 c1 c2
        obtain ⟨c0, c1, c2⟩ := HC1.out
        go_wp2_with fail
        refine (HA.out.make_nolog fr HL1.out HD.out HAO.out HFO.out).mono ?_
        rintro e z2 ⟨rfl, hb⟩
        have HL2 := Lib.hid (HA.out.pkeep HL1.out (T := fun i => z1.heap.size ≤ i) (.of_below hb fun _ _ h => h) fun i hi => by have := HA.out.plt HL1.out i hi; omega)
        have HB2 := Lib.hid (HB1.out.trans (hb.mono HB1.out.size))
        have HC2 : Hid (_ ∧ _ ∧ _) := ⟨(hb.cell (p := ⟨bx, 0, none⟩) HX1.out).trans HC1.out.1, (hb.cell (p := ⟨bx, 1, none⟩) HX1.out).trans HC1.out.2.1, (hb.cell (p := ⟨bx, 2, none⟩) HX1.out).trans HC1.out.2.2⟩
        have HX2 : Hid (bx < z2.heap.size) := Nat.lt_of_lt_of_le HX1.out hb.size
        clear hb HL1 HB1 HC1 HX1
        clear c0 c1 c2
        obtain ⟨c0, c1, c2⟩ := HC2.out
        go_wp2_with fail
        refine (HA.out.make_nodev fr HL2.out HD.out HAO.out HFO.out).mono ?_
        rintro e z3 ⟨rfl, hb⟩
        have HL3 := Lib.hid (HA.out.pkeep HL2.out (T := fun i => z2.heap.size ≤ i) (.of_below hb fun _ _ h => h) fun i hi => by have := HA.out.plt HL2.out i hi; omega)
        have HB3 := Lib.hid (HB2.out.trans (hb.mono HB2.out.size))
        have HC3 : Hid (_ ∧ _ ∧ _) := ⟨(hb.cell (p := ⟨bx, 0, none⟩) HX2.out).trans HC2.out.1, (hb.cell (p := ⟨bx, 1, none⟩) HX2.out).trans HC2.out.2.1, (hb.cell (p := ⟨bx, 2, none⟩) HX2.out).trans HC2.out.2.2⟩
        have HX3 : Hid (bx < z3.heap.size) := Nat.lt_of_lt_of_le HX2.out hb.size
        clear hb HL2 HB2 HC2 HX2
        clear c0 c1 c2
        obtain ⟨c0, c1, c2⟩ := HC3.out
        go_wp2_with fail
        refine (HA.out.mend HL3.out HD.out HFIT.out HAO.out HAW.out HWW.out).mono ?_
        rintro e z4 ⟨rfl, U4, d4, -, -, -, hT, hG⟩
        have HB4 := Lib.hid (HB3.out.trans (hT.under HU.out HB3.out.size))
        have HC4 : Hid (_ ∧ _ ∧ _) := ⟨hT.cell (p := ⟨bx, 0, none⟩) HC3.out.1 (HBX.out bx rfl), hT.cell (p := ⟨bx, 1, none⟩) HC3.out.2.1 (HBX.out bx rfl), hT.cell (p := ⟨bx, 2, none⟩) HC3.out.2.2 (HBX.out bx rfl)⟩
        clear hT hG HL3 HB3 HC3 HX3 c0 c1 c2
        obtain ⟨c0, c1, c2⟩ := HC4.out
        go_wp2_with fail
        refine (HA.out.mend_nil z4 HAO.out).mono ?_
        rintro e z5 ⟨rfl, hb⟩
        have HB5 := Lib.hid (HB4.out.trans (hb.mono HB4.out.size))
        clear hb HB4
        clear c0 c1 c2
        go_wp2_with fail
        refine (HA.out.get_nil 0 z5 HI0.out).mono ?_
        rintro e z6 ⟨rfl, hb⟩
        have HB6 := Lib.hid (HB5.out.trans (hb.mono HB5.out.size))
        clear hb HB5
        go_upto_region 23 with (fail)
        have hbp := below_new1 z6 (.cells #[.int .u64 0, .slice none 0 0] 59)
        obtain ⟨y0, hy0⟩ : ∃ y, y = z6.alloc (.cells #[.int .u64 0, .slice none 0 0] 59) := ⟨_, rfl⟩
        rw [← hy0] at hbp ⊢
        have HB7 := Lib.hid (HB6.out.trans (hbp.mono HB6.out.size))
        clear hbp hy0 HB6
        go_wp2_with fail
        refine (refBlank_any y0).mono ?_
        rintro e z8 ⟨u0, rfl, hO, hb⟩
        have HB8 := Lib.hid (HB7.out.trans (hb.mono HB7.out.size))
        have HO := Lib.hid hO.bts
        clear hb hO HB7
        go_wp2_with fail
        refine (HA.out.put_nil 0 0 _ u0 z8 HI0.out (by decide) HO.out).mono ?_
        rintro e z9 ⟨rfl, hb⟩
        have HB9 := Lib.hid (HB8.out.trans (hb.mono HB8.out.size))
        clear hb HB8
        go_wp2_with fail
        refine (HA.out.pin_nil 0 z9 HI0.out).mono ?_
        rintro e z10 ⟨rfl, hb⟩
        have HB10 := Lib.hid (HB9.out.trans (hb.mono HB9.out.size))
        clear hb HB9
        go_wp2_with fail
        refine (HA.out.unpin_nil 0 z10 HI0.out).mono ?_
        rintro e z11 ⟨rfl, hb⟩
        have HB11 := Lib.hid (HB10.out.trans (hb.mono HB10.out.size))
        clear hb HB10
        go_wp2_with fail
        refine (HA.out.flush_nil 0 z11 HI0.out).mono ?_
        rintro e z12 ⟨rfl, hb⟩
        have HB12 := Lib.hid (HB11.out.trans (hb.mono HB11.out.size))
        clear hb HB11
        go_wp2_with fail
        refine (HA.out.flushall_nil z12).mono ?_
        rintro e z13 ⟨rfl, hb⟩
        have HB13 := Lib.hid (HB12.out.trans (hb.mono HB12.out.size))
        clear hb HB12
        go_wp2_with fail
        refine (HA.out.dirty_nil z13).mono ?_
        rintro e z14 ⟨rfl, hb⟩
        have HB14 := Lib.hid (HB13.out.trans (hb.mono HB13.out.size))
        clear hb HB13
        go_wp2_with fail
        refine (HA.out.held_nil z14).mono ?_
        rintro e z15 ⟨rfl, hb⟩
        have HB15 := Lib.hid (HB14.out.trans (hb.mono HB14.out.size))
        clear hb HB14
        go_wp2_with fail
        refine (HA.out.pins_nil 0 z15 HI0.out).mono ?_
        rintro e z16 ⟨rfl, hb⟩
        have HB16 := Lib.hid (HB15.out.trans (hb.mono HB15.out.size))
        clear hb HB15
        go_wp2_with fail
        refine (known_any HA.out z16).mono ?_
        rintro e z17 ⟨rfl, hb⟩
        have HB17 := Lib.hid (HB16.out.trans (hb.mono HB16.out.size))
        clear hb HB16
        go_wp2_with fail
        go_ret
        exact ⟨rfl, HB17.out⟩
    by_cases f2 : 64 < fr
    case pos =>
      as_aux_lemma =>
        have HBAD : Hid (¬ (a.Fits n ∧ 1 ≤ fr ∧ fr ≤ 64)) := fun h => by have := h.2; omega
        obtain ⟨c0, c1, c2⟩ := HC0.out
        go_wp2_with fail
        refine (HA.out.make_bad fr HL0.out HD.out HAO.out HFO.out HBAD.out).mono ?_
        rintro e z1 ⟨rfl, hb⟩
        have HL1 := Lib.hid (HA.out.pkeep HL0.out (T := fun i => z0.heap.size ≤ i) (.of_below hb fun _ _ h => h) fun i hi => by have := HA.out.plt HL0.out i hi; omega)
        have HB1 := Lib.hid (HB0.out.trans (hb.mono HB0.out.size))
        have HC1 : Hid (_ ∧ _ ∧ _) := ⟨(hb.cell (p := ⟨bx, 0, none⟩) HX0.out).trans HC0.out.1, (hb.cell (p := ⟨bx, 1, none⟩) HX0.out).trans HC0.out.2.1, (hb.cell (p := ⟨bx, 2, none⟩) HX0.out).trans HC0.out.2.2⟩
        have HX1 : Hid (bx < z1.heap.size) := Nat.lt_of_lt_of_le HX0.out hb.size
        clear hb HL0 HB0 HC0 HX0
        clear c0 c1 c2
        obtain ⟨c0, c1, c2⟩ := HC1.out
        go_wp2_with fail
        refine (HA.out.make_nolog fr HL1.out HD.out HAO.out HFO.out).mono ?_
        rintro e z2 ⟨rfl, hb⟩
        have HL2 := Lib.hid (HA.out.pkeep HL1.out (T := fun i => z1.heap.size ≤ i) (.of_below hb fun _ _ h => h) fun i hi => by have := HA.out.plt HL1.out i hi; omega)
        have HB2 := Lib.hid (HB1.out.trans (hb.mono HB1.out.size))
        have HC2 : Hid (_ ∧ _ ∧ _) := ⟨(hb.cell (p := ⟨bx, 0, none⟩) HX1.out).trans HC1.out.1, (hb.cell (p := ⟨bx, 1, none⟩) HX1.out).trans HC1.out.2.1, (hb.cell (p := ⟨bx, 2, none⟩) HX1.out).trans HC1.out.2.2⟩
        have HX2 : Hid (bx < z2.heap.size) := Nat.lt_of_lt_of_le HX1.out hb.size
        clear hb HL1 HB1 HC1 HX1
        clear c0 c1 c2
        obtain ⟨c0, c1, c2⟩ := HC2.out
        go_wp2_with fail
        refine (HA.out.make_nodev fr HL2.out HD.out HAO.out HFO.out).mono ?_
        rintro e z3 ⟨rfl, hb⟩
        have HL3 := Lib.hid (HA.out.pkeep HL2.out (T := fun i => z2.heap.size ≤ i) (.of_below hb fun _ _ h => h) fun i hi => by have := HA.out.plt HL2.out i hi; omega)
        have HB3 := Lib.hid (HB2.out.trans (hb.mono HB2.out.size))
        have HC3 : Hid (_ ∧ _ ∧ _) := ⟨(hb.cell (p := ⟨bx, 0, none⟩) HX2.out).trans HC2.out.1, (hb.cell (p := ⟨bx, 1, none⟩) HX2.out).trans HC2.out.2.1, (hb.cell (p := ⟨bx, 2, none⟩) HX2.out).trans HC2.out.2.2⟩
        have HX3 : Hid (bx < z3.heap.size) := Nat.lt_of_lt_of_le HX2.out hb.size
        clear hb HL2 HB2 HC2 HX2
        clear c0 c1 c2
        obtain ⟨c0, c1, c2⟩ := HC3.out
        go_wp2_with fail
        refine (HA.out.mend HL3.out HD.out HFIT.out HAO.out HAW.out HWW.out).mono ?_
        rintro e z4 ⟨rfl, U4, d4, -, -, -, hT, hG⟩
        have HB4 := Lib.hid (HB3.out.trans (hT.under HU.out HB3.out.size))
        have HC4 : Hid (_ ∧ _ ∧ _) := ⟨hT.cell (p := ⟨bx, 0, none⟩) HC3.out.1 (HBX.out bx rfl), hT.cell (p := ⟨bx, 1, none⟩) HC3.out.2.1 (HBX.out bx rfl), hT.cell (p := ⟨bx, 2, none⟩) HC3.out.2.2 (HBX.out bx rfl)⟩
        clear hT hG HL3 HB3 HC3 HX3 c0 c1 c2
        obtain ⟨c0, c1, c2⟩ := HC4.out
        go_wp2_with fail
        refine (HA.out.mend_nil z4 HAO.out).mono ?_
        rintro e z5 ⟨rfl, hb⟩
        have HB5 := Lib.hid (HB4.out.trans (hb.mono HB4.out.size))
        clear hb HB4
        clear c0 c1 c2
        go_wp2_with fail
        refine (HA.out.get_nil 0 z5 HI0.out).mono ?_
        rintro e z6 ⟨rfl, hb⟩
        have HB6 := Lib.hid (HB5.out.trans (hb.mono HB5.out.size))
        clear hb HB5
        go_upto_region 23 with (fail)
        have hbp := below_new1 z6 (.cells #[.int .u64 0, .slice none 0 0] 59)
        obtain ⟨y0, hy0⟩ : ∃ y, y = z6.alloc (.cells #[.int .u64 0, .slice none 0 0] 59) := ⟨_, rfl⟩
        rw [← hy0] at hbp ⊢
        have HB7 := Lib.hid (HB6.out.trans (hbp.mono HB6.out.size))
        clear hbp hy0 HB6
        go_wp2_with fail
        refine (refBlank_any y0).mono ?_
        rintro e z8 ⟨u0, rfl, hO, hb⟩
        have HB8 := Lib.hid (HB7.out.trans (hb.mono HB7.out.size))
        have HO := Lib.hid hO.bts
        clear hb hO HB7
        go_wp2_with fail
        refine (HA.out.put_nil 0 0 _ u0 z8 HI0.out (by decide) HO.out).mono ?_
        rintro e z9 ⟨rfl, hb⟩
        have HB9 := Lib.hid (HB8.out.trans (hb.mono HB8.out.size))
        clear hb HB8
        go_wp2_with fail
        refine (HA.out.pin_nil 0 z9 HI0.out).mono ?_
        rintro e z10 ⟨rfl, hb⟩
        have HB10 := Lib.hid (HB9.out.trans (hb.mono HB9.out.size))
        clear hb HB9
        go_wp2_with fail
        refine (HA.out.unpin_nil 0 z10 HI0.out).mono ?_
        rintro e z11 ⟨rfl, hb⟩
        have HB11 := Lib.hid (HB10.out.trans (hb.mono HB10.out.size))
        clear hb HB10
        go_wp2_with fail
        refine (HA.out.flush_nil 0 z11 HI0.out).mono ?_
        rintro e z12 ⟨rfl, hb⟩
        have HB12 := Lib.hid (HB11.out.trans (hb.mono HB11.out.size))
        clear hb HB11
        go_wp2_with fail
        refine (HA.out.flushall_nil z12).mono ?_
        rintro e z13 ⟨rfl, hb⟩
        have HB13 := Lib.hid (HB12.out.trans (hb.mono HB12.out.size))
        clear hb HB12
        go_wp2_with fail
        refine (HA.out.dirty_nil z13).mono ?_
        rintro e z14 ⟨rfl, hb⟩
        have HB14 := Lib.hid (HB13.out.trans (hb.mono HB13.out.size))
        clear hb HB13
        go_wp2_with fail
        refine (HA.out.held_nil z14).mono ?_
        rintro e z15 ⟨rfl, hb⟩
        have HB15 := Lib.hid (HB14.out.trans (hb.mono HB14.out.size))
        clear hb HB14
        go_wp2_with fail
        refine (HA.out.pins_nil 0 z15 HI0.out).mono ?_
        rintro e z16 ⟨rfl, hb⟩
        have HB16 := Lib.hid (HB15.out.trans (hb.mono HB15.out.size))
        clear hb HB15
        go_wp2_with fail
        refine (known_any HA.out z16).mono ?_
        rintro e z17 ⟨rfl, hb⟩
        have HB17 := Lib.hid (HB16.out.trans (hb.mono HB16.out.size))
        clear hb HB16
        go_wp2_with fail
        go_ret
        exact ⟨rfl, HB17.out⟩
    obtain ⟨FR, rfl⟩ : ∃ FR : Nat, fr = (FR : Int) := ⟨fr.toNat, by omega⟩
    have HFR : Hid (1 ≤ FR ∧ FR ≤ 64) := Lib.hid (by omega)
    as_aux_lemma =>
      obtain ⟨c0, c1, c2⟩ := HC0.out
      go_wp2_with fail
      refine (HA.out.make_pool FR HL0.out HD.out HFIT.out HAO.out HWW.out (fun _ => Po.blank_ok) HFR.out.1 HFR.out.2).mono ?_
      rintro e z1 ⟨P, X, rfl, -, -, hb⟩
      have HL1 := Lib.hid (HA.out.pkeep HL0.out (T := fun i => z0.heap.size ≤ i) (.of_below hb fun _ _ h => h) fun i hi => by have := HA.out.plt HL0.out i hi; omega)
      have HB1 := Lib.hid (HB0.out.trans (hb.mono HB0.out.size))
      have HC1 : Hid (_ ∧ _ ∧ _) := ⟨(hb.cell (p := ⟨bx, 0, none⟩) HX0.out).trans HC0.out.1, (hb.cell (p := ⟨bx, 1, none⟩) HX0.out).trans HC0.out.2.1, (hb.cell (p := ⟨bx, 2, none⟩) HX0.out).trans HC0.out.2.2⟩
      have HX1 : Hid (bx < z1.heap.size) := Nat.lt_of_lt_of_le HX0.out hb.size
      clear hb HL0 HB0 HC0 HX0
      clear c0 c1 c2
      obtain ⟨c0, c1, c2⟩ := HC1.out
      go_wp2_with fail
      refine (HA.out.make_nolog (FR : Int) HL1.out HD.out HAO.out HFO.out).mono ?_
      rintro e z2 ⟨rfl, hb⟩
      have HL2 := Lib.hid (HA.out.pkeep HL1.out (T := fun i => z1.heap.size ≤ i) (.of_below hb fun _ _ h => h) fun i hi => by have := HA.out.plt HL1.out i hi; omega)
      have HB2 := Lib.hid (HB1.out.trans (hb.mono HB1.out.size))
      have HC2 : Hid (_ ∧ _ ∧ _) := ⟨(hb.cell (p := ⟨bx, 0, none⟩) HX1.out).trans HC1.out.1, (hb.cell (p := ⟨bx, 1, none⟩) HX1.out).trans HC1.out.2.1, (hb.cell (p := ⟨bx, 2, none⟩) HX1.out).trans HC1.out.2.2⟩
      have HX2 : Hid (bx < z2.heap.size) := Nat.lt_of_lt_of_le HX1.out hb.size
      clear hb HL1 HB1 HC1 HX1
      clear c0 c1 c2
      obtain ⟨c0, c1, c2⟩ := HC2.out
      go_wp2_with fail
      refine (HA.out.make_nodev (FR : Int) HL2.out HD.out HAO.out HFO.out).mono ?_
      rintro e z3 ⟨rfl, hb⟩
      have HL3 := Lib.hid (HA.out.pkeep HL2.out (T := fun i => z2.heap.size ≤ i) (.of_below hb fun _ _ h => h) fun i hi => by have := HA.out.plt HL2.out i hi; omega)
      have HB3 := Lib.hid (HB2.out.trans (hb.mono HB2.out.size))
      have HC3 : Hid (_ ∧ _ ∧ _) := ⟨(hb.cell (p := ⟨bx, 0, none⟩) HX2.out).trans HC2.out.1, (hb.cell (p := ⟨bx, 1, none⟩) HX2.out).trans HC2.out.2.1, (hb.cell (p := ⟨bx, 2, none⟩) HX2.out).trans HC2.out.2.2⟩
      have HX3 : Hid (bx < z3.heap.size) := Nat.lt_of_lt_of_le HX2.out hb.size
      clear hb HL2 HB2 HC2 HX2
      clear c0 c1 c2
      obtain ⟨c0, c1, c2⟩ := HC3.out
      go_wp2_with fail
      refine (HA.out.mend HL3.out HD.out HFIT.out HAO.out HAW.out HWW.out).mono ?_
      rintro e z4 ⟨rfl, U4, d4, -, -, -, hT, hG⟩
      have HB4 := Lib.hid (HB3.out.trans (hT.under HU.out HB3.out.size))
      have HC4 : Hid (_ ∧ _ ∧ _) := ⟨hT.cell (p := ⟨bx, 0, none⟩) HC3.out.1 (HBX.out bx rfl), hT.cell (p := ⟨bx, 1, none⟩) HC3.out.2.1 (HBX.out bx rfl), hT.cell (p := ⟨bx, 2, none⟩) HC3.out.2.2 (HBX.out bx rfl)⟩
      clear hT hG HL3 HB3 HC3 HX3 c0 c1 c2
      obtain ⟨c0, c1, c2⟩ := HC4.out
      go_wp2_with fail
      refine (HA.out.mend_nil z4 HAO.out).mono ?_
      rintro e z5 ⟨rfl, hb⟩
      have HB5 := Lib.hid (HB4.out.trans (hb.mono HB4.out.size))
      clear hb HB4
      clear c0 c1 c2
      go_wp2_with fail
      refine (HA.out.get_nil 0 z5 HI0.out).mono ?_
      rintro e z6 ⟨rfl, hb⟩
      have HB6 := Lib.hid (HB5.out.trans (hb.mono HB5.out.size))
      clear hb HB5
      go_upto_region 23 with (fail)
      have hbp := below_new1 z6 (.cells #[.int .u64 0, .slice none 0 0] 59)
      obtain ⟨y0, hy0⟩ : ∃ y, y = z6.alloc (.cells #[.int .u64 0, .slice none 0 0] 59) := ⟨_, rfl⟩
      rw [← hy0] at hbp ⊢
      have HB7 := Lib.hid (HB6.out.trans (hbp.mono HB6.out.size))
      clear hbp hy0 HB6
      go_wp2_with fail
      refine (refBlank_any y0).mono ?_
      rintro e z8 ⟨u0, rfl, hO, hb⟩
      have HB8 := Lib.hid (HB7.out.trans (hb.mono HB7.out.size))
      have HO := Lib.hid hO.bts
      clear hb hO HB7
      go_wp2_with fail
      refine (HA.out.put_nil 0 0 _ u0 z8 HI0.out (by decide) HO.out).mono ?_
      rintro e z9 ⟨rfl, hb⟩
      have HB9 := Lib.hid (HB8.out.trans (hb.mono HB8.out.size))
      clear hb HB8
      go_wp2_with fail
      refine (HA.out.pin_nil 0 z9 HI0.out).mono ?_
      rintro e z10 ⟨rfl, hb⟩
      have HB10 := Lib.hid (HB9.out.trans (hb.mono HB9.out.size))
      clear hb HB9
      go_wp2_with fail
      refine (HA.out.unpin_nil 0 z10 HI0.out).mono ?_
      rintro e z11 ⟨rfl, hb⟩
      have HB11 := Lib.hid (HB10.out.trans (hb.mono HB10.out.size))
      clear hb HB10
      go_wp2_with fail
      refine (HA.out.flush_nil 0 z11 HI0.out).mono ?_
      rintro e z12 ⟨rfl, hb⟩
      have HB12 := Lib.hid (HB11.out.trans (hb.mono HB11.out.size))
      clear hb HB11
      go_wp2_with fail
      refine (HA.out.flushall_nil z12).mono ?_
      rintro e z13 ⟨rfl, hb⟩
      have HB13 := Lib.hid (HB12.out.trans (hb.mono HB12.out.size))
      clear hb HB12
      go_wp2_with fail
      refine (HA.out.dirty_nil z13).mono ?_
      rintro e z14 ⟨rfl, hb⟩
      have HB14 := Lib.hid (HB13.out.trans (hb.mono HB13.out.size))
      clear hb HB13
      go_wp2_with fail
      refine (HA.out.held_nil z14).mono ?_
      rintro e z15 ⟨rfl, hb⟩
      have HB15 := Lib.hid (HB14.out.trans (hb.mono HB14.out.size))
      clear hb HB14
      go_wp2_with fail
      refine (HA.out.pins_nil 0 z15 HI0.out).mono ?_
      rintro e z16 ⟨rfl, hb⟩
      have HB16 := Lib.hid (HB15.out.trans (hb.mono HB15.out.size))
      clear hb HB15
      go_wp2_with fail
      refine (known_any HA.out z16).mono ?_
      rintro e z17 ⟨rfl, hb⟩
      have HB17 := Lib.hid (HB16.out.trans (hb.mono HB16.out.size))
      clear hb HB16
      go_wp2_with fail
      go_ret
      exact ⟨rfl, HB17.out⟩
  case neg =>
    rw [Po.bof_false hfit]
    have HNF := Lib.hid hfit
    have HBAD : Hid (¬ (a.Fits n ∧ 1 ≤ fr ∧ fr ≤ 64)) := fun h => HNF.out h.1
    clear hfit h1 h2
    rintro e z0 ⟨rfl, hb⟩
    have HL0 := Lib.hid (HA.out.pkeep HL.out (T := fun i => z.heap.size ≤ i) (.of_below hb fun _ _ h => h) fun i hi => by have := HA.out.plt HL.out i hi; omega)
    have HB0 := Lib.hid (HB1.out.trans (hb.mono HB1.out.size))
    have HC0 : Hid (_ ∧ _ ∧ _) := ⟨(hb.cell (p := ⟨bx, 0, none⟩) HX.out).trans HC.out.1, (hb.cell (p := ⟨bx, 1, none⟩) HX.out).trans HC.out.2.1, (hb.cell (p := ⟨bx, 2, none⟩) HX.out).trans HC.out.2.2⟩
    have HX0 : Hid (bx < z0.heap.size) := Nat.lt_of_lt_of_le HX.out hb.size
    clear hb HL HB1 HC HX c0 c1 c2
    by_cases q1 : 18 ≤ a.spare
    case pos =>
      by_cases f1 : fr < 1
      case pos =>
        as_aux_lemma =>
          obtain ⟨c0, c1, c2⟩ := HC0.out
          go_wp2_with fail
          refine (HA.out.make_bad fr HL0.out HD.out HAO.out HFO.out HBAD.out).mono ?_
          rintro e z1 ⟨rfl, hb⟩
          have HL1 := Lib.hid (HA.out.pkeep HL0.out (T := fun i => z0.heap.size ≤ i) (.of_below hb fun _ _ h => h) fun i hi => by have := HA.out.plt HL0.out i hi; omega)
          have HB1 := Lib.hid (HB0.out.trans (hb.mono HB0.out.size))
          have HC1 : Hid (_ ∧ _ ∧ _) := ⟨(hb.cell (p := ⟨bx, 0, none⟩) HX0.out).trans HC0.out.1, (hb.cell (p := ⟨bx, 1, none⟩) HX0.out).trans HC0.out.2.1, (hb.cell (p := ⟨bx, 2, none⟩) HX0.out).trans HC0.out.2.2⟩
          have HX1 : Hid (bx < z1.heap.size) := Nat.lt_of_lt_of_le HX0.out hb.size
          clear hb HL0 HB0 HC0 HX0
          clear c0 c1 c2
          obtain ⟨c0, c1, c2⟩ := HC1.out
          go_wp2_with fail
          refine (HA.out.make_nolog fr HL1.out HD.out HAO.out HFO.out).mono ?_
          rintro e z2 ⟨rfl, hb⟩
          have HL2 := Lib.hid (HA.out.pkeep HL1.out (T := fun i => z1.heap.size ≤ i) (.of_below hb fun _ _ h => h) fun i hi => by have := HA.out.plt HL1.out i hi; omega)
          have HB2 := Lib.hid (HB1.out.trans (hb.mono HB1.out.size))
          have HC2 : Hid (_ ∧ _ ∧ _) := ⟨(hb.cell (p := ⟨bx, 0, none⟩) HX1.out).trans HC1.out.1, (hb.cell (p := ⟨bx, 1, none⟩) HX1.out).trans HC1.out.2.1, (hb.cell (p := ⟨bx, 2, none⟩) HX1.out).trans HC1.out.2.2⟩
          have HX2 : Hid (bx < z2.heap.size) := Nat.lt_of_lt_of_le HX1.out hb.size
          clear hb HL1 HB1 HC1 HX1
          clear c0 c1 c2
          obtain ⟨c0, c1, c2⟩ := HC2.out
          go_wp2_with fail
          refine (HA.out.make_nodev fr HL2.out HD.out HAO.out HFO.out).mono ?_
          rintro e z3 ⟨rfl, hb⟩
          have HL3 := Lib.hid (HA.out.pkeep HL2.out (T := fun i => z2.heap.size ≤ i) (.of_below hb fun _ _ h => h) fun i hi => by have := HA.out.plt HL2.out i hi; omega)
          have HB3 := Lib.hid (HB2.out.trans (hb.mono HB2.out.size))
          have HC3 : Hid (_ ∧ _ ∧ _) := ⟨(hb.cell (p := ⟨bx, 0, none⟩) HX2.out).trans HC2.out.1, (hb.cell (p := ⟨bx, 1, none⟩) HX2.out).trans HC2.out.2.1, (hb.cell (p := ⟨bx, 2, none⟩) HX2.out).trans HC2.out.2.2⟩
          have HX3 : Hid (bx < z3.heap.size) := Nat.lt_of_lt_of_le HX2.out hb.size
          clear hb HL2 HB2 HC2 HX2
          clear c0 c1 c2
          obtain ⟨c0, c1, c2⟩ := HC3.out
          go_wp2_with fail
          refine (HA.out.mend_bad (n := n) (HA.out.dev HL3.out) HD.out HAO.out HNF.out).mono ?_
          rintro e z4 ⟨rfl, hb⟩
          have HB4 := Lib.hid (HB3.out.trans (hb.mono HB3.out.size))
          have HC4 : Hid (_ ∧ _ ∧ _) := ⟨(hb.cell (p := ⟨bx, 0, none⟩) HX3.out).trans HC3.out.1, (hb.cell (p := ⟨bx, 1, none⟩) HX3.out).trans HC3.out.2.1, (hb.cell (p := ⟨bx, 2, none⟩) HX3.out).trans HC3.out.2.2⟩
          clear hb HL3 HB3 HC3 HX3 c0 c1 c2
          obtain ⟨c0, c1, c2⟩ := HC4.out
          go_wp2_with fail
          refine (HA.out.mend_nil z4 HAO.out).mono ?_
          rintro e z5 ⟨rfl, hb⟩
          have HB5 := Lib.hid (HB4.out.trans (hb.mono HB4.out.size))
          clear hb HB4
          clear c0 c1 c2
          go_wp2_with fail
          refine (HA.out.get_nil 0 z5 HI0.out).mono ?_
          rintro e z6 ⟨rfl, hb⟩
          have HB6 := Lib.hid (HB5.out.trans (hb.mono HB5.out.size))
          clear hb HB5
          go_upto_region 23 with (fail)
          have hbp := below_new1 z6 (.cells #[.int .u64 0, .slice none 0 0] 59)
          obtain ⟨y0, hy0⟩ : ∃ y, y = z6.alloc (.cells #[.int .u64 0, .slice none 0 0] 59) := ⟨_, rfl⟩
          rw [← hy0] at hbp ⊢
          have HB7 := Lib.hid (HB6.out.trans (hbp.mono HB6.out.size))
          clear hbp hy0 HB6
          go_wp2_with fail
          refine (refBlank_any y0).mono ?_
          rintro e z8 ⟨u0, rfl, hO, hb⟩
          have HB8 := Lib.hid (HB7.out.trans (hb.mono HB7.out.size))
          have HO := Lib.hid hO.bts
          clear hb hO HB7
          go_wp2_with fail
          refine (HA.out.put_nil 0 0 _ u0 z8 HI0.out (by decide) HO.out).mono ?_
          rintro e z9 ⟨rfl, hb⟩
          have HB9 := Lib.hid (HB8.out.trans (hb.mono HB8.out.size))
          clear hb HB8
          go_wp2_with fail
          refine (HA.out.pin_nil 0 z9 HI0.out).mono ?_
          rintro e z10 ⟨rfl, hb⟩
          have HB10 := Lib.hid (HB9.out.trans (hb.mono HB9.out.size))
          clear hb HB9
          go_wp2_with fail
          refine (HA.out.unpin_nil 0 z10 HI0.out).mono ?_
          rintro e z11 ⟨rfl, hb⟩
          have HB11 := Lib.hid (HB10.out.trans (hb.mono HB10.out.size))
          clear hb HB10
          go_wp2_with fail
          refine (HA.out.flush_nil 0 z11 HI0.out).mono ?_
          rintro e z12 ⟨rfl, hb⟩
          have HB12 := Lib.hid (HB11.out.trans (hb.mono HB11.out.size))
          clear hb HB11
          go_wp2_with fail
          refine (HA.out.flushall_nil z12).mono ?_
          rintro e z13 ⟨rfl, hb⟩
          have HB13 := Lib.hid (HB12.out.trans (hb.mono HB12.out.size))
          clear hb HB12
          go_wp2_with fail
          refine (HA.out.dirty_nil z13).mono ?_
          rintro e z14 ⟨rfl, hb⟩
          have HB14 := Lib.hid (HB13.out.trans (hb.mono HB13.out.size))
          clear hb HB13
          go_wp2_with fail
          refine (HA.out.held_nil z14).mono ?_
          rintro e z15 ⟨rfl, hb⟩
          have HB15 := Lib.hid (HB14.out.trans (hb.mono HB14.out.size))
          clear hb HB14
          go_wp2_with fail
          refine (HA.out.pins_nil 0 z15 HI0.out).mono ?_
          rintro e z16 ⟨rfl, hb⟩
          have HB16 := Lib.hid (HB15.out.trans (hb.mono HB15.out.size))
          clear hb HB15
          go_wp2_with fail
          refine (known_any HA.out z16).mono ?_
          rintro e z17 ⟨rfl, hb⟩
          have HB17 := Lib.hid (HB16.out.trans (hb.mono HB16.out.size))
          clear hb HB16
          go_wp2_with fail
          go_ret
          exact ⟨rfl, HB17.out⟩
      by_cases f2 : 64 < fr
      case pos =>
        as_aux_lemma =>
          obtain ⟨c0, c1, c2⟩ := HC0.out
          go_wp2_with fail
          refine (HA.out.make_bad fr HL0.out HD.out HAO.out HFO.out HBAD.out).mono ?_
          rintro e z1 ⟨rfl, hb⟩
          have HL1 := Lib.hid (HA.out.pkeep HL0.out (T := fun i => z0.heap.size ≤ i) (.of_below hb fun _ _ h => h) fun i hi => by have := HA.out.plt HL0.out i hi; omega)
          have HB1 := Lib.hid (HB0.out.trans (hb.mono HB0.out.size))
          have HC1 : Hid (_ ∧ _ ∧ _) := ⟨(hb.cell (p := ⟨bx, 0, none⟩) HX0.out).trans HC0.out.1, (hb.cell (p := ⟨bx, 1, none⟩) HX0.out).trans HC0.out.2.1, (hb.cell (p := ⟨bx, 2, none⟩) HX0.out).trans HC0.out.2.2⟩
          have HX1 : Hid (bx < z1.heap.size) := Nat.lt_of_lt_of_le HX0.out hb.size
          clear hb HL0 HB0 HC0 HX0
          clear c0 c1 c2
          obtain ⟨c0, c1, c2⟩ := HC1.out
          go_wp2_with fail
          refine (HA.out.make_nolog fr HL1.out HD.out HAO.out HFO.out).mono ?_
          rintro e z2 ⟨rfl, hb⟩
          have HL2 := Lib.hid (HA.out.pkeep HL1.out (T := fun i => z1.heap.size ≤ i) (.of_below hb fun _ _ h => h) fun i hi => by have := HA.out.plt HL1.out i hi; omega)
          have HB2 := Lib.hid (HB1.out.trans (hb.mono HB1.out.size))
          have HC2 : Hid (_ ∧ _ ∧ _) := ⟨(hb.cell (p := ⟨bx, 0, none⟩) HX1.out).trans HC1.out.1, (hb.cell (p := ⟨bx, 1, none⟩) HX1.out).trans HC1.out.2.1, (hb.cell (p := ⟨bx, 2, none⟩) HX1.out).trans HC1.out.2.2⟩
          have HX2 : Hid (bx < z2.heap.size) := Nat.lt_of_lt_of_le HX1.out hb.size
          clear hb HL1 HB1 HC1 HX1
          clear c0 c1 c2
          obtain ⟨c0, c1, c2⟩ := HC2.out
          go_wp2_with fail
          refine (HA.out.make_nodev fr HL2.out HD.out HAO.out HFO.out).mono ?_
          rintro e z3 ⟨rfl, hb⟩
          have HL3 := Lib.hid (HA.out.pkeep HL2.out (T := fun i => z2.heap.size ≤ i) (.of_below hb fun _ _ h => h) fun i hi => by have := HA.out.plt HL2.out i hi; omega)
          have HB3 := Lib.hid (HB2.out.trans (hb.mono HB2.out.size))
          have HC3 : Hid (_ ∧ _ ∧ _) := ⟨(hb.cell (p := ⟨bx, 0, none⟩) HX2.out).trans HC2.out.1, (hb.cell (p := ⟨bx, 1, none⟩) HX2.out).trans HC2.out.2.1, (hb.cell (p := ⟨bx, 2, none⟩) HX2.out).trans HC2.out.2.2⟩
          have HX3 : Hid (bx < z3.heap.size) := Nat.lt_of_lt_of_le HX2.out hb.size
          clear hb HL2 HB2 HC2 HX2
          clear c0 c1 c2
          obtain ⟨c0, c1, c2⟩ := HC3.out
          go_wp2_with fail
          refine (HA.out.mend_bad (n := n) (HA.out.dev HL3.out) HD.out HAO.out HNF.out).mono ?_
          rintro e z4 ⟨rfl, hb⟩
          have HB4 := Lib.hid (HB3.out.trans (hb.mono HB3.out.size))
          have HC4 : Hid (_ ∧ _ ∧ _) := ⟨(hb.cell (p := ⟨bx, 0, none⟩) HX3.out).trans HC3.out.1, (hb.cell (p := ⟨bx, 1, none⟩) HX3.out).trans HC3.out.2.1, (hb.cell (p := ⟨bx, 2, none⟩) HX3.out).trans HC3.out.2.2⟩
          clear hb HL3 HB3 HC3 HX3 c0 c1 c2
          obtain ⟨c0, c1, c2⟩ := HC4.out
          go_wp2_with fail
          refine (HA.out.mend_nil z4 HAO.out).mono ?_
          rintro e z5 ⟨rfl, hb⟩
          have HB5 := Lib.hid (HB4.out.trans (hb.mono HB4.out.size))
          clear hb HB4
          clear c0 c1 c2
          go_wp2_with fail
          refine (HA.out.get_nil 0 z5 HI0.out).mono ?_
          rintro e z6 ⟨rfl, hb⟩
          have HB6 := Lib.hid (HB5.out.trans (hb.mono HB5.out.size))
          clear hb HB5
          go_upto_region 23 with (fail)
          have hbp := below_new1 z6 (.cells #[.int .u64 0, .slice none 0 0] 59)
          obtain ⟨y0, hy0⟩ : ∃ y, y = z6.alloc (.cells #[.int .u64 0, .slice none 0 0] 59) := ⟨_, rfl⟩
          rw [← hy0] at hbp ⊢
          have HB7 := Lib.hid (HB6.out.trans (hbp.mono HB6.out.size))
          clear hbp hy0 HB6
          go_wp2_with fail
          refine (refBlank_any y0).mono ?_
          rintro e z8 ⟨u0, rfl, hO, hb⟩
          have HB8 := Lib.hid (HB7.out.trans (hb.mono HB7.out.size))
          have HO := Lib.hid hO.bts
          clear hb hO HB7
          go_wp2_with fail
          refine (HA.out.put_nil 0 0 _ u0 z8 HI0.out (by decide) HO.out).mono ?_
          rintro e z9 ⟨rfl, hb⟩
          have HB9 := Lib.hid (HB8.out.trans (hb.mono HB8.out.size))
          clear hb HB8
          go_wp2_with fail
          refine (HA.out.pin_nil 0 z9 HI0.out).mono ?_
          rintro e z10 ⟨rfl, hb⟩
          have HB10 := Lib.hid (HB9.out.trans (hb.mono HB9.out.size))
          clear hb HB9
          go_wp2_with fail
          refine (HA.out.unpin_nil 0 z10 HI0.out).mono ?_
          rintro e z11 ⟨rfl, hb⟩
          have HB11 := Lib.hid (HB10.out.trans (hb.mono HB10.out.size))
          clear hb HB10
          go_wp2_with fail
          refine (HA.out.flush_nil 0 z11 HI0.out).mono ?_
          rintro e z12 ⟨rfl, hb⟩
          have HB12 := Lib.hid (HB11.out.trans (hb.mono HB11.out.size))
          clear hb HB11
          go_wp2_with fail
          refine (HA.out.flushall_nil z12).mono ?_
          rintro e z13 ⟨rfl, hb⟩
          have HB13 := Lib.hid (HB12.out.trans (hb.mono HB12.out.size))
          clear hb HB12
          go_wp2_with fail
          refine (HA.out.dirty_nil z13).mono ?_
          rintro e z14 ⟨rfl, hb⟩
          have HB14 := Lib.hid (HB13.out.trans (hb.mono HB13.out.size))
          clear hb HB13
          go_wp2_with fail
          refine (HA.out.held_nil z14).mono ?_
          rintro e z15 ⟨rfl, hb⟩
          have HB15 := Lib.hid (HB14.out.trans (hb.mono HB14.out.size))
          clear hb HB14
          go_wp2_with fail
          refine (HA.out.pins_nil 0 z15 HI0.out).mono ?_
          rintro e z16 ⟨rfl, hb⟩
          have HB16 := Lib.hid (HB15.out.trans (hb.mono HB15.out.size))
          clear hb HB15
          go_wp2_with fail
          refine (known_any HA.out z16).mono ?_
          rintro e z17 ⟨rfl, hb⟩
          have HB17 := Lib.hid (HB16.out.trans (hb.mono HB16.out.size))
          clear hb HB16
          go_wp2_with fail
          go_ret
          exact ⟨rfl, HB17.out⟩
      obtain ⟨FR, rfl⟩ : ∃ FR : Nat, fr = (FR : Int) := ⟨fr.toNat, by omega⟩
      have HFR : Hid (1 ≤ FR ∧ FR ≤ 64) := Lib.hid (by omega)
      as_aux_lemma =>
        have HBAD : Hid (¬ (a.Fits n ∧ 1 ≤ (FR : Int) ∧ (FR : Int) ≤ 64)) := fun h => HNF.out h.1
        obtain ⟨c0, c1, c2⟩ := HC0.out
        go_wp2_with fail
        refine (HA.out.make_bad (FR : Int) HL0.out HD.out HAO.out HFO.out HBAD.out).mono ?_
        rintro e z1 ⟨rfl, hb⟩
        have HL1 := Lib.hid (HA.out.pkeep HL0.out (T := fun i => z0.heap.size ≤ i) (.of_below hb fun _ _ h => h) fun i hi => by have := HA.out.plt HL0.out i hi; omega)
        have HB1 := Lib.hid (HB0.out.trans (hb.mono HB0.out.size))
        have HC1 : Hid (_ ∧ _ ∧ _) := ⟨(hb.cell (p := ⟨bx, 0, none⟩) HX0.out).trans HC0.out.1, (hb.cell (p := ⟨bx, 1, none⟩) HX0.out).trans HC0.out.2.1, (hb.cell (p := ⟨bx, 2, none⟩) HX0.out).trans HC0.out.2.2⟩
        have HX1 : Hid (bx < z1.heap.size) := Nat.lt_of_lt_of_le HX0.out hb.size
        clear hb HL0 HB0 HC0 HX0
        clear c0 c1 c2
        obtain ⟨c0, c1, c2⟩ := HC1.out
        go_wp2_with fail
        refine (HA.out.make_nolog (FR : Int) HL1.out HD.out HAO.out HFO.out).mono ?_
        rintro e z2 ⟨rfl, hb⟩
        have HL2 := Lib.hid (HA.out.pkeep HL1.out (T := fun i => z1.heap.size ≤ i) (.of_below hb fun _ _ h => h) fun i hi => by have := HA.out.plt HL1.out i hi; omega)
        have HB2 := Lib.hid (HB1.out.trans (hb.mono HB1.out.size))
        have HC2 : Hid (_ ∧ _ ∧ _) := ⟨(hb.cell (p := ⟨bx, 0, none⟩) HX1.out).trans HC1.out.1, (hb.cell (p := ⟨bx, 1, none⟩) HX1.out).trans HC1.out.2.1, (hb.cell (p := ⟨bx, 2, none⟩) HX1.out).trans HC1.out.2.2⟩
        have HX2 : Hid (bx < z2.heap.size) := Nat.lt_of_lt_of_le HX1.out hb.size
        clear hb HL1 HB1 HC1 HX1
        clear c0 c1 c2
        obtain ⟨c0, c1, c2⟩ := HC2.out
        go_wp2_with fail
        refine (HA.out.make_nodev (FR : Int) HL2.out HD.out HAO.out HFO.out).mono ?_
        rintro e z3 ⟨rfl, hb⟩
        have HL3 := Lib.hid (HA.out.pkeep HL2.out (T := fun i => z2.heap.size ≤ i) (.of_below hb fun _ _ h => h) fun i hi => by have := HA.out.plt HL2.out i hi; omega)
        have HB3 := Lib.hid (HB2.out.trans (hb.mono HB2.out.size))
        have HC3 : Hid (_ ∧ _ ∧ _) := ⟨(hb.cell (p := ⟨bx, 0, none⟩) HX2.out).trans HC2.out.1, (hb.cell (p := ⟨bx, 1, none⟩) HX2.out).trans HC2.out.2.1, (hb.cell (p := ⟨bx, 2, none⟩) HX2.out).trans HC2.out.2.2⟩
        have HX3 : Hid (bx < z3.heap.size) := Nat.lt_of_lt_of_le HX2.out hb.size
        clear hb HL2 HB2 HC2 HX2
        clear c0 c1 c2
        obtain ⟨c0, c1, c2⟩ := HC3.out
        go_wp2_with fail
        refine (HA.out.mend_bad (n := n) (HA.out.dev HL3.out) HD.out HAO.out HNF.out).mono ?_
        rintro e z4 ⟨rfl, hb⟩
        have HB4 := Lib.hid (HB3.out.trans (hb.mono HB3.out.size))
        have HC4 : Hid (_ ∧ _ ∧ _) := ⟨(hb.cell (p := ⟨bx, 0, none⟩) HX3.out).trans HC3.out.1, (hb.cell (p := ⟨bx, 1, none⟩) HX3.out).trans HC3.out.2.1, (hb.cell (p := ⟨bx, 2, none⟩) HX3.out).trans HC3.out.2.2⟩
        clear hb HL3 HB3 HC3 HX3 c0 c1 c2
        obtain ⟨c0, c1, c2⟩ := HC4.out
        go_wp2_with fail
        refine (HA.out.mend_nil z4 HAO.out).mono ?_
        rintro e z5 ⟨rfl, hb⟩
        have HB5 := Lib.hid (HB4.out.trans (hb.mono HB4.out.size))
        clear hb HB4
        clear c0 c1 c2
        go_wp2_with fail
        refine (HA.out.get_nil 0 z5 HI0.out).mono ?_
        rintro e z6 ⟨rfl, hb⟩
        have HB6 := Lib.hid (HB5.out.trans (hb.mono HB5.out.size))
        clear hb HB5
        go_upto_region 23 with (fail)
        have hbp := below_new1 z6 (.cells #[.int .u64 0, .slice none 0 0] 59)
        obtain ⟨y0, hy0⟩ : ∃ y, y = z6.alloc (.cells #[.int .u64 0, .slice none 0 0] 59) := ⟨_, rfl⟩
        rw [← hy0] at hbp ⊢
        have HB7 := Lib.hid (HB6.out.trans (hbp.mono HB6.out.size))
        clear hbp hy0 HB6
        go_wp2_with fail
        refine (refBlank_any y0).mono ?_
        rintro e z8 ⟨u0, rfl, hO, hb⟩
        have HB8 := Lib.hid (HB7.out.trans (hb.mono HB7.out.size))
        have HO := Lib.hid hO.bts
        clear hb hO HB7
        go_wp2_with fail
        refine (HA.out.put_nil 0 0 _ u0 z8 HI0.out (by decide) HO.out).mono ?_
        rintro e z9 ⟨rfl, hb⟩
        have HB9 := Lib.hid (HB8.out.trans (hb.mono HB8.out.size))
        clear hb HB8
        go_wp2_with fail
        refine (HA.out.pin_nil 0 z9 HI0.out).mono ?_
        rintro e z10 ⟨rfl, hb⟩
        have HB10 := Lib.hid (HB9.out.trans (hb.mono HB9.out.size))
        clear hb HB9
        go_wp2_with fail
        refine (HA.out.unpin_nil 0 z10 HI0.out).mono ?_
        rintro e z11 ⟨rfl, hb⟩
        have HB11 := Lib.hid (HB10.out.trans (hb.mono HB10.out.size))
        clear hb HB10
        go_wp2_with fail
        refine (HA.out.flush_nil 0 z11 HI0.out).mono ?_
        rintro e z12 ⟨rfl, hb⟩
        have HB12 := Lib.hid (HB11.out.trans (hb.mono HB11.out.size))
        clear hb HB11
        go_wp2_with fail
        refine (HA.out.flushall_nil z12).mono ?_
        rintro e z13 ⟨rfl, hb⟩
        have HB13 := Lib.hid (HB12.out.trans (hb.mono HB12.out.size))
        clear hb HB12
        go_wp2_with fail
        refine (HA.out.dirty_nil z13).mono ?_
        rintro e z14 ⟨rfl, hb⟩
        have HB14 := Lib.hid (HB13.out.trans (hb.mono HB13.out.size))
        clear hb HB13
        go_wp2_with fail
        refine (HA.out.held_nil z14).mono ?_
        rintro e z15 ⟨rfl, hb⟩
        have HB15 := Lib.hid (HB14.out.trans (hb.mono HB14.out.size))
        clear hb HB14
        go_wp2_with fail
        refine (HA.out.pins_nil 0 z15 HI0.out).mono ?_
        rintro e z16 ⟨rfl, hb⟩
        have HB16 := Lib.hid (HB15.out.trans (hb.mono HB15.out.size))
        clear hb HB15
        go_wp2_with fail
        refine (known_any HA.out z16).mono ?_
        rintro e z17 ⟨rfl, hb⟩
        have HB17 := Lib.hid (HB16.out.trans (hb.mono HB16.out.size))
        clear hb HB16
        go_wp2_with fail
        go_ret
        exact ⟨rfl, HB17.out⟩
    by_cases f1 : fr < 1
    case pos =>
      as_aux_lemma =>
        obtain ⟨c0, c1, c2⟩ := HC0.out
        go_wp2_with fail
        refine (HA.out.make_bad fr HL0.out HD.out HAO.out HFO.out HBAD.out).mono ?_
        rintro e z1 ⟨rfl, hb⟩
        have HL1 := Lib.hid (HA.out.pkeep HL0.out (T := fun i => z0.heap.size ≤ i) (.of_below hb fun _ _ h => h) fun i hi => by have := HA.out.plt HL0.out i hi; omega)
        have HB1 := Lib.hid (HB0.out.trans (hb.mono HB0.out.size))
        have HC1 : Hid (_ ∧ _ ∧ _) := ⟨(hb.cell (p := ⟨bx, 0, none⟩) HX0.out).trans HC0.out.1, (hb.cell (p := ⟨bx, 1, none⟩) HX0.out).trans HC0.out.2.1, (hb.cell (p := ⟨bx, 2, none⟩) HX0.out).trans HC0.out.2.2⟩
        have HX1 : Hid (bx < z1.heap.size) := Nat.lt_of_lt_of_le HX0.out hb.size
        clear hb HL0 HB0 HC0 HX0
        clear c0 c1 c2
        obtain ⟨c0, c1, c2⟩ := HC1.out
        go_wp2_with fail
        refine (HA.out.make_nolog fr HL1.out HD.out HAO.out HFO.out).mono ?_
        rintro e z2 ⟨rfl, hb⟩
        have HL2 := Lib.hid (HA.out.pkeep HL1.out (T := fun i => z1.heap.size ≤ i) (.of_below hb fun _ _ h => h) fun i hi => by have := HA.out.plt HL1.out i hi; omega)
        have HB2 := Lib.hid (HB1.out.trans (hb.mono HB1.out.size))
        have HC2 : Hid (_ ∧ _ ∧ _) := ⟨(hb.cell (p := ⟨bx, 0, none⟩) HX1.out).trans HC1.out.1, (hb.cell (p := ⟨bx, 1, none⟩) HX1.out).trans HC1.out.2.1, (hb.cell (p := ⟨bx, 2, none⟩) HX1.out).trans HC1.out.2.2⟩
        have HX2 : Hid (bx < z2.heap.size) := Nat.lt_of_lt_of_le HX1.out hb.size
        clear hb HL1 HB1 HC1 HX1
        clear c0 c1 c2
        obtain ⟨c0, c1, c2⟩ := HC2.out
        go_wp2_with fail
        refine (HA.out.make_nodev fr HL2.out HD.out HAO.out HFO.out).mono ?_
        rintro e z3 ⟨rfl, hb⟩
        have HL3 := Lib.hid (HA.out.pkeep HL2.out (T := fun i => z2.heap.size ≤ i) (.of_below hb fun _ _ h => h) fun i hi => by have := HA.out.plt HL2.out i hi; omega)
        have HB3 := Lib.hid (HB2.out.trans (hb.mono HB2.out.size))
        have HC3 : Hid (_ ∧ _ ∧ _) := ⟨(hb.cell (p := ⟨bx, 0, none⟩) HX2.out).trans HC2.out.1, (hb.cell (p := ⟨bx, 1, none⟩) HX2.out).trans HC2.out.2.1, (hb.cell (p := ⟨bx, 2, none⟩) HX2.out).trans HC2.out.2.2⟩
        have HX3 : Hid (bx < z3.heap.size) := Nat.lt_of_lt_of_le HX2.out hb.size
        clear hb HL2 HB2 HC2 HX2
        clear c0 c1 c2
        obtain ⟨c0, c1, c2⟩ := HC3.out
        go_wp2_with fail
        refine (HA.out.mend_bad (n := n) (HA.out.dev HL3.out) HD.out HAO.out HNF.out).mono ?_
        rintro e z4 ⟨rfl, hb⟩
        have HB4 := Lib.hid (HB3.out.trans (hb.mono HB3.out.size))
        have HC4 : Hid (_ ∧ _ ∧ _) := ⟨(hb.cell (p := ⟨bx, 0, none⟩) HX3.out).trans HC3.out.1, (hb.cell (p := ⟨bx, 1, none⟩) HX3.out).trans HC3.out.2.1, (hb.cell (p := ⟨bx, 2, none⟩) HX3.out).trans HC3.out.2.2⟩
        clear hb HL3 HB3 HC3 HX3 c0 c1 c2
        obtain ⟨c0, c1, c2⟩ := HC4.out
        go_wp2_with fail
        refine (HA.out.mend_nil z4 HAO.out).mono ?_
        rintro e z5 ⟨rfl, hb⟩
        have HB5 := Lib.hid (HB4.out.trans (hb.mono HB4.out.size))
        clear hb HB4
        clear c0 c1 c2
        go_wp2_with fail
        refine (HA.out.get_nil 0 z5 HI0.out).mono ?_
        rintro e z6 ⟨rfl, hb⟩
        have HB6 := Lib.hid (HB5.out.trans (hb.mono HB5.out.size))
        clear hb HB5
        go_upto_region 23 with (fail)
        have hbp := below_new1 z6 (.cells #[.int .u64 0, .slice none 0 0] 59)
        obtain ⟨y0, hy0⟩ : ∃ y, y = z6.alloc (.cells #[.int .u64 0, .slice none 0 0] 59) := ⟨_, rfl⟩
        rw [← hy0] at hbp ⊢
        have HB7 := Lib.hid (HB6.out.trans (hbp.mono HB6.out.size))
        clear hbp hy0 HB6
        go_wp2_with fail
        refine (refBlank_any y0).mono ?_
        rintro e z8 ⟨u0, rfl, hO, hb⟩
        have HB8 := Lib.hid (HB7.out.trans (hb.mono HB7.out.size))
        have HO := Lib.hid hO.bts
        clear hb hO HB7
        go_wp2_with fail
        refine (HA.out.put_nil 0 0 _ u0 z8 HI0.out (by decide) HO.out).mono ?_
        rintro e z9 ⟨rfl, hb⟩
        have HB9 := Lib.hid (HB8.out.trans (hb.mono HB8.out.size))
        clear hb HB8
        go_wp2_with fail
        refine (HA.out.pin_nil 0 z9 HI0.out).mono ?_
        rintro e z10 ⟨rfl, hb⟩
        have HB10 := Lib.hid (HB9.out.trans (hb.mono HB9.out.size))
        clear hb HB9
        go_wp2_with fail
        refine (HA.out.unpin_nil 0 z10 HI0.out).mono ?_
        rintro e z11 ⟨rfl, hb⟩
        have HB11 := Lib.hid (HB10.out.trans (hb.mono HB10.out.size))
        clear hb HB10
        go_wp2_with fail
        refine (HA.out.flush_nil 0 z11 HI0.out).mono ?_
        rintro e z12 ⟨rfl, hb⟩
        have HB12 := Lib.hid (HB11.out.trans (hb.mono HB11.out.size))
        clear hb HB11
        go_wp2_with fail
        refine (HA.out.flushall_nil z12).mono ?_
        rintro e z13 ⟨rfl, hb⟩
        have HB13 := Lib.hid (HB12.out.trans (hb.mono HB12.out.size))
        clear hb HB12
        go_wp2_with fail
        refine (HA.out.dirty_nil z13).mono ?_
        rintro e z14 ⟨rfl, hb⟩
        have HB14 := Lib.hid (HB13.out.trans (hb.mono HB13.out.size))
        clear hb HB13
        go_wp2_with fail
        refine (HA.out.held_nil z14).mono ?_
        rintro e z15 ⟨rfl, hb⟩
        have HB15 := Lib.hid (HB14.out.trans (hb.mono HB14.out.size))
        clear hb HB14
        go_wp2_with fail
        refine (HA.out.pins_nil 0 z15 HI0.out).mono ?_
        rintro e z16 ⟨rfl, hb⟩
        have HB16 := Lib.hid (HB15.out.trans (hb.mono HB15.out.size))
        clear hb HB15
        go_wp2_with fail
        refine (known_any HA.out z16).mono ?_
        rintro e z17 ⟨rfl, hb⟩
        have HB17 := Lib.hid (HB16.out.trans (hb.mono HB16.out.size))
        clear hb HB16
        go_wp2_with fail
        go_ret
        exact ⟨rfl, HB17.out⟩
    by_cases f2 : 64 < fr
    case pos =>
      as_aux_lemma =>
        obtain ⟨c0, c1, c2⟩ := HC0.out
        go_wp2_with fail
        refine (HA.out.make_bad fr HL0.out HD.out HAO.out HFO.out HBAD.out).mono ?_
        rintro e z1 ⟨rfl, hb⟩
        have HL1 := Lib.hid (HA.out.pkeep HL0.out (T := fun i => z0.heap.size ≤ i) (.of_below hb fun _ _ h => h) fun i hi => by have := HA.out.plt HL0.out i hi; omega)
        have HB1 := Lib.hid (HB0.out.trans (hb.mono HB0.out.size))
        have HC1 : Hid (_ ∧ _ ∧ _) := ⟨(hb.cell (p := ⟨bx, 0, none⟩) HX0.out).trans HC0.out.1, (hb.cell (p := ⟨bx, 1, none⟩) HX0.out).trans HC0.out.2.1, (hb.cell (p := ⟨bx, 2, none⟩) HX0.out).trans HC0.out.2.2⟩
        have HX1 : Hid (bx < z1.heap.size) := Nat.lt_of_lt_of_le HX0.out hb.size
        clear hb HL0 HB0 HC0 HX0
        clear c0 c1 c2
        obtain ⟨c0, c1, c2⟩ := HC1.out
        go_wp2_with fail
        refine (HA.out.make_nolog fr HL1.out HD.out HAO.out HFO.out).mono ?_
        rintro e z2 ⟨rfl, hb⟩
        have HL2 := Lib.hid (HA.out.pkeep HL1.out (T := fun i => z1.heap.size ≤ i) (.of_below hb fun _ _ h => h) fun i hi => by have := HA.out.plt HL1.out i hi; omega)
        have HB2 := Lib.hid (HB1.out.trans (hb.mono HB1.out.size))
        have HC2 : Hid (_ ∧ _ ∧ _) := ⟨(hb.cell (p := ⟨bx, 0, none⟩) HX1.out).trans HC1.out.1, (hb.cell (p := ⟨bx, 1, none⟩) HX1.out).trans HC1.out.2.1, (hb.cell (p := ⟨bx, 2, none⟩) HX1.out).trans HC1.out.2.2⟩
        have HX2 : Hid (bx < z2.heap.size) := Nat.lt_of_lt_of_le HX1.out hb.size
        clear hb HL1 HB1 HC1 HX1
        clear c0 c1 c2
        obtain ⟨c0, c1, c2⟩ := HC2.out
        go_wp2_with fail
        refine (HA.out.make_nodev fr HL2.out HD.out HAO.out HFO.out).mono ?_
        rintro e z3 ⟨rfl, hb⟩
        have HL3 := Lib.hid (HA.out.pkeep HL2.out (T := fun i => z2.heap.size ≤ i) (.of_below hb fun _ _ h => h) fun i hi => by have := HA.out.plt HL2.out i hi; omega)
        have HB3 := Lib.hid (HB2.out.trans (hb.mono HB2.out.size))
        have HC3 : Hid (_ ∧ _ ∧ _) := ⟨(hb.cell (p := ⟨bx, 0, none⟩) HX2.out).trans HC2.out.1, (hb.cell (p := ⟨bx, 1, none⟩) HX2.out).trans HC2.out.2.1, (hb.cell (p := ⟨bx, 2, none⟩) HX2.out).trans HC2.out.2.2⟩
        have HX3 : Hid (bx < z3.heap.size) := Nat.lt_of_lt_of_le HX2.out hb.size
        clear hb HL2 HB2 HC2 HX2
        clear c0 c1 c2
        obtain ⟨c0, c1, c2⟩ := HC3.out
        go_wp2_with fail
        refine (HA.out.mend_bad (n := n) (HA.out.dev HL3.out) HD.out HAO.out HNF.out).mono ?_
        rintro e z4 ⟨rfl, hb⟩
        have HB4 := Lib.hid (HB3.out.trans (hb.mono HB3.out.size))
        have HC4 : Hid (_ ∧ _ ∧ _) := ⟨(hb.cell (p := ⟨bx, 0, none⟩) HX3.out).trans HC3.out.1, (hb.cell (p := ⟨bx, 1, none⟩) HX3.out).trans HC3.out.2.1, (hb.cell (p := ⟨bx, 2, none⟩) HX3.out).trans HC3.out.2.2⟩
        clear hb HL3 HB3 HC3 HX3 c0 c1 c2
        obtain ⟨c0, c1, c2⟩ := HC4.out
        go_wp2_with fail
        refine (HA.out.mend_nil z4 HAO.out).mono ?_
        rintro e z5 ⟨rfl, hb⟩
        have HB5 := Lib.hid (HB4.out.trans (hb.mono HB4.out.size))
        clear hb HB4
        clear c0 c1 c2
        go_wp2_with fail
        refine (HA.out.get_nil 0 z5 HI0.out).mono ?_
        rintro e z6 ⟨rfl, hb⟩
        have HB6 := Lib.hid (HB5.out.trans (hb.mono HB5.out.size))
        clear hb HB5
        go_upto_region 23 with (fail)
        have hbp := below_new1 z6 (.cells #[.int .u64 0, .slice none 0 0] 59)
        obtain ⟨y0, hy0⟩ : ∃ y, y = z6.alloc (.cells #[.int .u64 0, .slice none 0 0] 59) := ⟨_, rfl⟩
        rw [← hy0] at hbp ⊢
        have HB7 := Lib.hid (HB6.out.trans (hbp.mono HB6.out.size))
        clear hbp hy0 HB6
        go_wp2_with fail
        refine (refBlank_any y0).mono ?_
        rintro e z8 ⟨u0, rfl, hO, hb⟩
        have HB8 := Lib.hid (HB7.out.trans (hb.mono HB7.out.size))
        have HO := Lib.hid hO.bts
        clear hb hO HB7
        go_wp2_with fail
        refine (HA.out.put_nil 0 0 _ u0 z8 HI0.out (by decide) HO.out).mono ?_
        rintro e z9 ⟨rfl, hb⟩
        have HB9 := Lib.hid (HB8.out.trans (hb.mono HB8.out.size))
        clear hb HB8
        go_wp2_with fail
        refine (HA.out.pin_nil 0 z9 HI0.out).mono ?_
        rintro e z10 ⟨rfl, hb⟩
        have HB10 := Lib.hid (HB9.out.trans (hb.mono HB9.out.size))
        clear hb HB9
        go_wp2_with fail
        refine (HA.out.unpin_nil 0 z10 HI0.out).mono ?_
        rintro e z11 ⟨rfl, hb⟩
        have HB11 := Lib.hid (HB10.out.trans (hb.mono HB10.out.size))
        clear hb HB10
        go_wp2_with fail
        refine (HA.out.flush_nil 0 z11 HI0.out).mono ?_
        rintro e z12 ⟨rfl, hb⟩
        have HB12 := Lib.hid (HB11.out.trans (hb.mono HB11.out.size))
        clear hb HB11
        go_wp2_with fail
        refine (HA.out.flushall_nil z12).mono ?_
        rintro e z13 ⟨rfl, hb⟩
        have HB13 := Lib.hid (HB12.out.trans (hb.mono HB12.out.size))
        clear hb HB12
        go_wp2_with fail
        refine (HA.out.dirty_nil z13).mono ?_
        rintro e z14 ⟨rfl, hb⟩
        have HB14 := Lib.hid (HB13.out.trans (hb.mono HB13.out.size))
        clear hb HB13
        go_wp2_with fail
        refine (HA.out.held_nil z14).mono ?_
        rintro e z15 ⟨rfl, hb⟩
        have HB15 := Lib.hid (HB14.out.trans (hb.mono HB14.out.size))
        clear hb HB14
        go_wp2_with fail
        refine (HA.out.pins_nil 0 z15 HI0.out).mono ?_
        rintro e z16 ⟨rfl, hb⟩
        have HB16 := Lib.hid (HB15.out.trans (hb.mono HB15.out.size))
        clear hb HB15
        go_wp2_with fail
        refine (known_any HA.out z16).mono ?_
        rintro e z17 ⟨rfl, hb⟩
        have HB17 := Lib.hid (HB16.out.trans (hb.mono HB16.out.size))
        clear hb HB16
        go_wp2_with fail
        go_ret
        exact ⟨rfl, HB17.out⟩
    obtain ⟨FR, rfl⟩ : ∃ FR : Nat, fr = (FR : Int) := ⟨fr.toNat, by omega⟩
    have HFR : Hid (1 ≤ FR ∧ FR ≤ 64) := Lib.hid (by omega)
    as_aux_lemma =>
      have HBAD : Hid (¬ (a.Fits n ∧ 1 ≤ (FR : Int) ∧ (FR : Int) ≤ 64)) := fun h => HNF.out h.1
      obtain ⟨c0, c1, c2⟩ := HC0.out
      go_wp2_with fail
      refine (HA.out.make_bad (FR : Int) HL0.out HD.out HAO.out HFO.out HBAD.out).mono ?_
      rintro e z1 ⟨rfl, hb⟩
      have HL1 := Lib.hid (HA.out.pkeep HL0.out (T := fun i => z0.heap.size ≤ i) (.of_below hb fun _ _ h => h) fun i hi => by have := HA.out.plt HL0.out i hi; omega)
      have HB1 := Lib.hid (HB0.out.trans (hb.mono HB0.out.size))
      have HC1 : Hid (_ ∧ _ ∧ _) := ⟨(hb.cell (p := ⟨bx, 0, none⟩) HX0.out).trans HC0.out.1, (hb.cell (p := ⟨bx, 1, none⟩) HX0.out).trans HC0.out.2.1, (hb.cell (p := ⟨bx, 2, none⟩) HX0.out).trans HC0.out.2.2⟩
      have HX1 : Hid (bx < z1.heap.size) := Nat.lt_of_lt_of_le HX0.out hb.size
      clear hb HL0 HB0 HC0 HX0
      clear c0 c1 c2
      obtain ⟨c0, c1, c2⟩ := HC1.out
      go_wp2_with fail
      refine (HA.out.make_nolog (FR : Int) HL1.out HD.out HAO.out HFO.out).mono ?_
      rintro e z2 ⟨rfl, hb⟩
      have HL2 := Lib.hid (HA.out.pkeep HL1.out (T := fun i => z1.heap.size ≤ i) (.of_below hb fun _ _ h => h) fun i hi => by have := HA.out.plt HL1.out i hi; omega)
      have HB2 := Lib.hid (HB1.out.trans (hb.mono HB1.out.size))
      have HC2 : Hid (_ ∧ _ ∧ _) := ⟨(hb.cell (p := ⟨bx, 0, none⟩) HX1.out).trans HC1.out.1, (hb.cell (p := ⟨bx, 1, none⟩) HX1.out).trans HC1.out.2.1, (hb.cell (p := ⟨bx, 2, none⟩) HX1.out).trans HC1.out.2.2⟩
      have HX2 : Hid (bx < z2.heap.size) := Nat.lt_of_lt_of_le HX1.out hb.size
      clear hb HL1 HB1 HC1 HX1
      clear c0 c1 c2
      obtain ⟨c0, c1, c2⟩ := HC2.out
      go_wp2_with fail
      refine (HA.out.make_nodev (FR : Int) HL2.out HD.out HAO.out HFO.out).mono ?_
      rintro e z3 ⟨rfl, hb⟩
      have HL3 := Lib.hid (HA.out.pkeep HL2.out (T := fun i => z2.heap.size ≤ i) (.of_below hb fun _ _ h => h) fun i hi => by have := HA.out.plt HL2.out i hi; omega)
      have HB3 := Lib.hid (HB2.out.trans (hb.mono HB2.out.size))
      have HC3 : Hid (_ ∧ _ ∧ _) := ⟨(hb.cell (p := ⟨bx, 0, none⟩) HX2.out).trans HC2.out.1, (hb.cell (p := ⟨bx, 1, none⟩) HX2.out).trans HC2.out.2.1, (hb.cell (p := ⟨bx, 2, none⟩) HX2.out).trans HC2.out.2.2⟩
      have HX3 : Hid (bx < z3.heap.size) := Nat.lt_of_lt_of_le HX2.out hb.size
      clear hb HL2 HB2 HC2 HX2
      clear c0 c1 c2
      obtain ⟨c0, c1, c2⟩ := HC3.out
      go_wp2_with fail
      refine (HA.out.mend_bad (n := n) (HA.out.dev HL3.out) HD.out HAO.out HNF.out).mono ?_
      rintro e z4 ⟨rfl, hb⟩
      have HB4 := Lib.hid (HB3.out.trans (hb.mono HB3.out.size))
      have HC4 : Hid (_ ∧ _ ∧ _) := ⟨(hb.cell (p := ⟨bx, 0, none⟩) HX3.out).trans HC3.out.1, (hb.cell (p := ⟨bx, 1, none⟩) HX3.out).trans HC3.out.2.1, (hb.cell (p := ⟨bx, 2, none⟩) HX3.out).trans HC3.out.2.2⟩
      clear hb HL3 HB3 HC3 HX3 c0 c1 c2
      obtain ⟨c0, c1, c2⟩ := HC4.out
      go_wp2_with fail
      refine (HA.out.mend_nil z4 HAO.out).mono ?_
      rintro e z5 ⟨rfl, hb⟩
      have HB5 := Lib.hid (HB4.out.trans (hb.mono HB4.out.size))
      clear hb HB4
      clear c0 c1 c2
      go_wp2_with fail
      refine (HA.out.get_nil 0 z5 HI0.out).mono ?_
      rintro e z6 ⟨rfl, hb⟩
      have HB6 := Lib.hid (HB5.out.trans (hb.mono HB5.out.size))
      clear hb HB5
      go_upto_region 23 with (fail)
      have hbp := below_new1 z6 (.cells #[.int .u64 0, .slice none 0 0] 59)
      obtain ⟨y0, hy0⟩ : ∃ y, y = z6.alloc (.cells #[.int .u64 0, .slice none 0 0] 59) := ⟨_, rfl⟩
      rw [← hy0] at hbp ⊢
      have HB7 := Lib.hid (HB6.out.trans (hbp.mono HB6.out.size))
      clear hbp hy0 HB6
      go_wp2_with fail
      refine (refBlank_any y0).mono ?_
      rintro e z8 ⟨u0, rfl, hO, hb⟩
      have HB8 := Lib.hid (HB7.out.trans (hb.mono HB7.out.size))
      have HO := Lib.hid hO.bts
      clear hb hO HB7
      go_wp2_with fail
      refine (HA.out.put_nil 0 0 _ u0 z8 HI0.out (by decide) HO.out).mono ?_
      rintro e z9 ⟨rfl, hb⟩
      have HB9 := Lib.hid (HB8.out.trans (hb.mono HB8.out.size))
      clear hb HB8
      go_wp2_with fail
      refine (HA.out.pin_nil 0 z9 HI0.out).mono ?_
      rintro e z10 ⟨rfl, hb⟩
      have HB10 := Lib.hid (HB9.out.trans (hb.mono HB9.out.size))
      clear hb HB9
      go_wp2_with fail
      refine (HA.out.unpin_nil 0 z10 HI0.out).mono ?_
      rintro e z11 ⟨rfl, hb⟩
      have HB11 := Lib.hid (HB10.out.trans (hb.mono HB10.out.size))
      clear hb HB10
      go_wp2_with fail
      refine (HA.out.flush_nil 0 z11 HI0.out).mono ?_
      rintro e z12 ⟨rfl, hb⟩
      have HB12 := Lib.hid (HB11.out.trans (hb.mono HB11.out.size))
      clear hb HB11
      go_wp2_with fail
      refine (HA.out.flushall_nil z12).mono ?_
      rintro e z13 ⟨rfl, hb⟩
      have HB13 := Lib.hid (HB12.out.trans (hb.mono HB12.out.size))
      clear hb HB12
      go_wp2_with fail
      refine (HA.out.dirty_nil z13).mono ?_
      rintro e z14 ⟨rfl, hb⟩
      have HB14 := Lib.hid (HB13.out.trans (hb.mono HB13.out.size))
      clear hb HB13
      go_wp2_with fail
      refine (HA.out.held_nil z14).mono ?_
      rintro e z15 ⟨rfl, hb⟩
      have HB15 := Lib.hid (HB14.out.trans (hb.mono HB14.out.size))
      clear hb HB14
      go_wp2_with fail
      refine (HA.out.pins_nil 0 z15 HI0.out).mono ?_
      rintro e z16 ⟨rfl, hb⟩
      have HB16 := Lib.hid (HB15.out.trans (hb.mono HB15.out.size))
      clear hb HB15
      go_wp2_with fail
      refine (known_any HA.out z16).mono ?_
      rintro e z17 ⟨rfl, hb⟩
      have HB17 := Lib.hid (HB16.out.trans (hb.mono HB16.out.size))
      clear hb HB16
      go_wp2_with fail
      go_ret
      exact ⟨rfl, HB17.out⟩
end
end Go.Proofs.YtbpodmallknhfaaGreat
namespace Go.Proofs.YtbpodmallknhfaaGreat.Rg
open Go.Proofs.YtbpodmallknhfaaGreat
def mark : List Nat := [112, 117, 116, 32, 98, 97, 99, 107, 32]
def tag (n t : Nat) : List Nat := mark ++ [t, n % 256, n / 256 % 256]
def part (k : Nat) (l : List Nat) (i : Nat) : List Nat := (l.drop (k * i)).take k
def row (t b : List Nat) (m : Nat) : List Nat := (List.range m).flatMap fun i => t ++ part 52 b i
def laid (b t : List Nat) : List Nat := row t b 10 ++ List.replicate 8 0
def had (s : List Nat) (m : Nat) : List Nat := (List.range m).map fun i => (part 64 s i).getD 9 0
def turnOf (s : List Nat) : Nat := s.getD 9 0
def pageOf (s : List Nat) : Nat := s.getD 10 0 + 256 * s.getD 11 0
def Told (s : List Nat) : Prop := ∀ i, i < 10 → (part 64 s i).take 12 = tag (pageOf s) (turnOf s)
def rest (s : List Nat) (m : Nat) : List Nat := (List.range m).flatMap fun i => (part 64 s i).drop 12
def cut (s : List Nat) : List Nat := (rest s 10).take 512
def Whole (s : List Nat) (n : Nat) (x : Po.Pg) : Prop := Told s ∧ pageOf s = n ∧ Pg.openE (cut s) = 0 ∧ x = (Pg.openN (cut s), Pg.openL (cut s))
theorem tag_length (n t : Nat) : (tag n t).length = 12 := rfl
theorem tag_lo (n t : Nat) : (tag n t).getD 10 0 = n % 256 := rfl
theorem tag_hi (n t : Nat) : (tag n t).getD 11 0 = n / 256 % 256 := rfl
theorem tag_lt {n t : Nat} (ht : t < 256) : ∀ x ∈ tag n t, x < 256 := by
  intro x hx
  simp only [tag, mark, List.cons_append, List.nil_append, List.mem_cons, List.not_mem_nil, or_false] at hx
  omega
theorem part_length {k : Nat} {l : List Nat} {i : Nat} (h : k * (i + 1) ≤ l.length) : (part k l i).length = k := by
  have : k * (i + 1) = k * i + k := Nat.mul_succ k i
  simp only [part, List.length_take, List.length_drop]
  omega
theorem part_le (k : Nat) (l : List Nat) (i : Nat) : (part k l i).length ≤ k := by simp only [part, List.length_take]; omega
theorem part_lt {k : Nat} {l : List Nat} (h : ∀ x ∈ l, x < 256) (i : Nat) : ∀ x ∈ part k l i, x < 256 := fun x hx => h x (List.mem_of_mem_drop (List.mem_of_mem_take hx))
theorem join_parts (k : Nat) (l : List Nat) : ∀ m : Nat, (List.range m).flatMap (part k l) = l.take (k * m)
  | 0 => by simp
  | m + 1 => by
    rw [List.range_succ, List.flatMap_append, join_parts k l m, Nat.mul_succ]
    simp only [List.flatMap_cons, List.flatMap_nil, List.append_nil]
    rw [List.take_add]
    rfl
theorem ext_parts {a b : List Nat} (ha : a.length = 640) (hb : b.length = 640) (h : ∀ i, i < 10 → part 64 a i = part 64 b i) : a = b := by
  have e1 := join_parts 64 a 10
  have e2 := join_parts 64 b 10
  rw [List.take_of_length_le (by omega)] at e1 e2
  rw [← e1, ← e2]
  have : ∀ l : List Nat, (∀ i ∈ l, i < 10) → l.flatMap (part 64 a) = l.flatMap (part 64 b) := by
    intro l
    induction l with
    | nil => intro _; rfl
    | cons x l ih =>
      intro hl
      rw [List.flatMap_cons, List.flatMap_cons, h x (hl x (List.mem_cons_self ..)), ih fun i hi => hl i (List.mem_cons_of_mem _ hi)]
  exact this _ fun i hi => List.mem_range.1 hi
theorem row_succ (t b : List Nat) (m : Nat) : row t b (m + 1) = row t b m ++ (t ++ part 52 b m) := by
  unfold row
  rw [List.range_succ, List.flatMap_append]
  simp only [List.flatMap_cons, List.flatMap_nil, List.append_nil]
theorem row_length {t b : List Nat} (ht : t.length = 12) (hb : b.length = 512) : ∀ m, m ≤ 9 → (row t b m).length = 64 * m
  | 0, _ => rfl
  | m + 1, h => by
    rw [row_succ, List.length_append, List.length_append, row_length ht hb m (by omega), ht, part_length (by omega)]
    omega
theorem part_last {b : List Nat} (hb : b.length = 512) : (part 52 b 9).length = 44 := by
  simp only [part, List.length_take, List.length_drop]
  omega
theorem row_full {t b : List Nat} (ht : t.length = 12) (hb : b.length = 512) : (row t b 10).length = 632 := by
  rw [row_succ, List.length_append, List.length_append, row_length ht hb 9 (by omega), ht, part_last hb]
theorem laid_length {t b : List Nat} (ht : t.length = 12) (hb : b.length = 512) : (laid b t).length = 640 := by
  unfold laid
  rw [List.length_append, row_full ht hb, List.length_replicate]
theorem row_lt {t b : List Nat} (ht : ∀ x ∈ t, x < 256) (hb : ∀ x ∈ b, x < 256) (m : Nat) : ∀ x ∈ row t b m, x < 256 := by
  intro x hx
  unfold row at hx
  obtain ⟨i, -, hi⟩ := List.mem_flatMap.1 hx
  rcases List.mem_append.1 hi with h | h
  · exact ht x h
  · exact part_lt hb i x h
theorem laid_lt {t b : List Nat} (ht : ∀ x ∈ t, x < 256) (hb : ∀ x ∈ b, x < 256) : ∀ x ∈ laid b t, x < 256 := by
  intro x hx
  rcases List.mem_append.1 hx with h | h
  · exact row_lt ht hb 10 x h
  · rw [List.eq_of_mem_replicate h]; decide
theorem part_pre {a c : List Nat} {i : Nat} (h : 64 * (i + 1) ≤ a.length) : part 64 (a ++ c) i = part 64 a i := by
  have : 64 * (i + 1) = 64 * i + 64 := by omega
  unfold part
  rw [List.drop_append_of_le_length (by omega), List.take_append_of_le_length (by rw [List.length_drop]; omega)]
theorem part_at {a c : List Nat} {i : Nat} (h : a.length = 64 * i) (hc : c.length ≤ 64) : part 64 (a ++ c) i = c := by
  unfold part
  rw [List.drop_left' h, List.take_of_length_le hc]
theorem row_part {t b : List Nat} (ht : t.length = 12) (hb : b.length = 512) : ∀ m, m ≤ 9 → ∀ i, i < m → part 64 (row t b m) i = t ++ part 52 b i
  | 0, _, _, h => absurd h (Nat.not_lt_zero _)
  | m + 1, hm, i, hi => by
    rw [row_succ]
    have hl := row_length ht hb m (by omega)
    rcases Nat.lt_or_ge i m with h | h
    · rw [part_pre (by rw [hl]; omega), row_part ht hb m (by omega) i h]
    · obtain rfl : i = m := by omega
      exact part_at hl (by rw [List.length_append, ht, part_length (by omega)]; omega)
theorem laid_split (b t : List Nat) : laid b t = row t b 9 ++ ((t ++ part 52 b 9) ++ List.replicate 8 0) := by
  unfold laid
  rw [row_succ, List.append_assoc]
theorem laid_part {t b : List Nat} (ht : t.length = 12) (hb : b.length = 512) {i : Nat} (hi : i < 10) : part 64 (laid b t) i = if i < 9 then t ++ part 52 b i else (t ++ part 52 b 9) ++ List.replicate 8 0 := by
  rw [laid_split]
  have hl := row_length ht hb 9 (Nat.le_refl _)
  by_cases h : i < 9
  · rw [if_pos h, part_pre (by rw [hl]; omega), row_part ht hb 9 (Nat.le_refl _) i h]
  · obtain rfl : i = 9 := by omega
    rw [if_neg h]
    exact part_at hl (by rw [List.length_append, List.length_append, ht, part_last hb, List.length_replicate]; decide)
theorem laid_take {t b : List Nat} (ht : t.length = 12) (hb : b.length = 512) {i : Nat} (hi : i < 10) : (part 64 (laid b t) i).take 12 = t := by
  rw [laid_part ht hb hi]
  split
  · exact List.take_left' ht
  · rw [List.append_assoc]; exact List.take_left' ht
theorem laid_drop {t b : List Nat} (ht : t.length = 12) (hb : b.length = 512) {i : Nat} (hi : i < 10) : (part 64 (laid b t) i).drop 12 = if i < 9 then part 52 b i else part 52 b 9 ++ List.replicate 8 0 := by
  rw [laid_part ht hb hi]
  by_cases h : i < 9
  · rw [if_pos h, if_pos h, List.drop_left' ht]
  · rw [if_neg h, if_neg h, List.append_assoc, List.drop_left' ht]
theorem rest_succ (s : List Nat) (m : Nat) : rest s (m + 1) = rest s m ++ (part 64 s m).drop 12 := by
  unfold rest
  rw [List.range_succ, List.flatMap_append]
  simp only [List.flatMap_cons, List.flatMap_nil, List.append_nil]
theorem rest_laid {t b : List Nat} (ht : t.length = 12) (hb : b.length = 512) : ∀ m, m ≤ 9 → rest (laid b t) m = (List.range m).flatMap (part 52 b)
  | 0, _ => rfl
  | m + 1, h => by
    rw [rest_succ, rest_laid ht hb m (by omega), laid_drop ht hb (by omega), if_pos (by omega), List.range_succ, List.flatMap_append]
    simp only [List.flatMap_cons, List.flatMap_nil, List.append_nil]
theorem cut_laid {t b : List Nat} (ht : t.length = 12) (hb : b.length = 512) : cut (laid b t) = b := by
  unfold cut
  rw [rest_succ, rest_laid ht hb 9 (Nat.le_refl _), laid_drop ht hb (by decide), if_neg (by decide), ← List.append_assoc]
  have e := join_parts 52 b 10
  rw [List.take_of_length_le (by omega), List.range_succ, List.flatMap_append] at e
  simp only [List.flatMap_cons, List.flatMap_nil, List.append_nil] at e
  rw [e, List.take_left' hb]
theorem part_getD {k : Nat} {l : List Nat} {i j : Nat} (hj : j < k) : (part k l i).getD j 0 = l.getD (k * i + j) 0 := by
  unfold part
  simp only [List.getD_eq_getElem?_getD, List.getElem?_take, List.getElem?_drop, if_pos hj]
theorem take_getD {l : List Nat} {n j : Nat} (hj : j < n) : (l.take n).getD j 0 = l.getD j 0 := by
  simp only [List.getD_eq_getElem?_getD, List.getElem?_take, if_pos hj]
theorem turn_part (s : List Nat) : turnOf s = (part 64 s 0).getD 9 0 := by rw [part_getD (by decide)]; rfl
theorem page_part (s : List Nat) : pageOf s = (part 64 s 0).getD 10 0 + 256 * (part 64 s 0).getD 11 0 := by
  rw [part_getD (by decide), part_getD (by decide)]; rfl
theorem laid_turn {n t : Nat} {b : List Nat} (hb : b.length = 512) : turnOf (laid b (tag n t)) = t := by
  rw [turn_part, ← take_getD (n := 12) (by decide), laid_take (tag_length n t) hb (by decide)]
  rfl
theorem laid_page {n t : Nat} {b : List Nat} (hb : b.length = 512) (hn : n < 65536) : pageOf (laid b (tag n t)) = n := by
  rw [page_part, ← take_getD (n := 12) (by decide), ← take_getD (n := 12) (j := 11) (by decide), laid_take (tag_length n t) hb (by decide), tag_lo, tag_hi]
  omega
theorem whole_laid {n t : Nat} {x : Po.Pg} (hx : Po.PgOk x) (hn : n < 65536) : Whole (laid (Pg.form x.1 x.2) (tag n t)) n x := by
  have hb : (Pg.form x.1 x.2).length = 512 := by rw [Pg.form_length, hx.2.1]
  refine ⟨fun i hi => ?_, laid_page hb hn, ?_, ?_⟩
  · rw [laid_take (tag_length n t) hb hi, laid_turn hb, laid_page hb hn]
  · rw [cut_laid (tag_length n t) hb]; exact Pg.openE_form hx.2.2 hx.2.1
  · rw [cut_laid (tag_length n t) hb, Pg.openN_form hx.2.2 hx.2.1 hx.1, Pg.openL_form hx.2.2 hx.2.1]
def Mix (a b c : List Nat) : Prop := c.length = 640 ∧ ∀ i, i < 10 → part 64 c i = part 64 a i ∨ part 64 c i = part 64 b i
theorem had_mem {s : List Nat} {m i : Nat} (h : i < m) : (part 64 s i).getD 9 0 ∈ had s m := List.mem_map.2 ⟨i, List.mem_range.2 h, rfl⟩
theorem mix_told {a c : List Nat} {n t : Nat} {b : List Nat} (ha : a.length = 640) (hb : b.length = 512) (ht : t ∉ had a 10) (hm : Mix a (laid b (tag n t)) c) (hc : Told c) : c = a ∨ c = laid b (tag n t) := by
  have hl := laid_length (tag_length n t) hb
  have hturn : ∀ i, i < 10 → (part 64 c i).getD 9 0 = turnOf c := fun i hi => by
    rw [← take_getD (n := 12) (by decide), hc i hi]; rfl
  have hnew : ∀ i, i < 10 → part 64 c i = part 64 (laid b (tag n t)) i → turnOf c = t := fun i hi e => by
    rw [← hturn i hi, e, ← take_getD (n := 12) (by decide), laid_take (tag_length n t) hb hi]; rfl
  have hold : ∀ i, i < 10 → part 64 c i = part 64 a i → turnOf c ≠ t := fun i hi e h => by
    have := had_mem (s := a) hi
    rw [← e, hturn i hi, h] at this
    exact ht this
  by_cases h : turnOf c = t
  · refine Or.inr (ext_parts hm.1 hl fun i hi => ?_)
    rcases hm.2 i hi with e | e
    · exact absurd h (hold i hi e)
    · exact e
  · refine Or.inl (ext_parts hm.1 ha fun i hi => ?_)
    rcases hm.2 i hi with e | e
    · exact e
    · exact absurd (hnew i hi e) h
theorem told_first {s : List Nat} (h : Told s) : s.getD 0 0 = 112 ∧ s.getD 64 0 = 112 := by
  have h0 := h 0 (by decide)
  have h1 := h 1 (by decide)
  have e0 := part_getD (k := 64) (l := s) (i := 0) (j := 0) (by decide)
  have e1 := part_getD (k := 64) (l := s) (i := 1) (j := 0) (by decide)
  rw [← take_getD (n := 12) (by decide), h0] at e0
  rw [← take_getD (n := 12) (by decide), h1] at e1
  exact ⟨e0.symm, e1.symm⟩
theorem openL_len {b : List Nat} (h : Pg.openE b = 0) : (Pg.openL b).length = 500 := by
  have hl : b.length = 512 := by
    unfold Pg.openE at h
    split at h
    · cases h
    · omega
  unfold Pg.openL
  rw [if_pos h, List.length_drop]; omega
end Go.Proofs.YtbpodmallknhfaaGreat.Rg
