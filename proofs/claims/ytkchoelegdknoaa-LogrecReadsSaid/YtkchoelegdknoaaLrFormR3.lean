/- A record's form, by the document's own way: a point. Conditions: the value reads as a record that may be. -/
import Derived.Test.YtkchoelegdknoaaLrFormR
import Derived.Test.YtkchoelegdknoaaLrEight
namespace Go.Proofs.Ytkchoelegdknoaa
open Go.RowKit

theorem dirt_page {x : Lr.R} (h : Lr.Ok x) {k : Nat} (hk : k < x.dirt.length) : (x.dirt.getD k default).1 < 4294967296 := by
  rw [List.getD_eq_getElem?_getD, List.getElem?_eq_getElem hk]
  exact (h.dirt _ (List.getElem_mem hk)).1

set_option maxHeartbeats 6400000 in
set_option maxRecDepth 20000 in
theorem refForm_k5 (x : Lr.R) (o n u c d : Value) (w : World) (h : RecAt w x o n u c d) (hM : Lr.May x) (hk : x.kind = 5) :
    Calls Try.prog 17 #[RecV x o n u c d] w fun e w' => ∃ v, e = .returned v ∧ Own w.heap.size w' v (Lr.form x) ∧ Below w.heap.size w w' := by
  obtain ⟨W, hW⟩ : ∃ W, W = w.alloc (robj x o n u c d) := ⟨_, rfl⟩
  have hb := below_new1 w (robj x o n u c d)
  have hr := rblk w x o n u c d
  rw [← hW] at hb hr
  have HB := Lib.hid hb
  have HA := Lib.hid (h.below hb)
  have HROW := Lib.hid hr
  obtain ⟨p1, c1, p2, c2, p3, c3, p4, c4, p5, c5, rfl, rfl, rfl, rfl, rfl⟩ := rec_slices h
  have HF := Lib.hid (Lr.bare_lists hM).1
  have HM := Lib.hid hM
  have HS5 := Lib.hid (Lr.may_short hM)
  clear h hM hb hr
  unfold robj at hW
  go_enter Try.func17, Try.ntmps17
  have HKD := Lib.hid hk
  clear hk
  go_upto_region 1 with (fail)
  rw [← hW]
  clear hW
  have HK := Lib.hid (Below.refl W.heap.size W)
  have hrw := (HK.out.block _ (lt_of_block HROW.out)).trans HROW.out
  obtain ⟨-, q1, -, -, -, -, -, -, -, -, -, -, -, -, -⟩ := rec_cell hrw
  clear hrw
  go_wp2_with fail
  refine (refFixed_any x.lsn 8 _ (by decide)).mono ?_
  rintro e0 x0 ⟨u0, rfl, hO2, hb2⟩
  have HOf := Lib.hid hO2
  have HBf := Lib.hid hb2
  clear hO2 hb2
  clear q1
  obtain ⟨L0, hL⟩ : ∃ L, L = Cod.le 8 x.lsn := ⟨_, rfl⟩
  have HE0 := Lib.hid hL
  have HN0 := Lib.hid (show L0.length ≤ 8 by rw [hL, Cod.le_length]; decide)
  have HO := Lib.hid (show Own W.heap.size x0 u0 L0 by rw [hL]; exact HOf.out)
  have HK := Lib.hid HBf.out
  clear hL
  have hrw := (HK.out.block _ (lt_of_block HROW.out)).trans HROW.out
  obtain ⟨-, -, q2, -, -, -, -, -, -, -, -, -, -, -, -⟩ := rec_cell hrw
  clear hrw
  have hcv := (show IntKind.u64.wrap (x.epoch : Int) = (x.epoch : Int) by rw [IntKind.wrap_u64]; have := HA.out.ok.epoch; omega)
  go_wp2_with fail
  refine (refFixed_any x.epoch 4 _ (by decide)).mono ?_
  rintro e1 x1 ⟨u1, rfl, hO2, hb2⟩
  have HOf := Lib.hid hO2
  have HBf := Lib.hid hb2
  clear hO2 hb2
  clear q2 hcv
  dsimp only
  go_step
  have HP := Lib.hid (show (Cod.le 4 x.epoch).length ≤ 4 by rw [Cod.le_length]; decide)
  refine wpList_append_Own rfl (.tmp 12) (.tmp 16) rfl W.heap.size u0 L0 rfl (HO.out.below HBf.out) u1 _ rfl HOf.out.bts (by have h1 := HN0.out; have h2 := HP.out; omega) (Nat.le_trans HK.out.size HBf.out.size) ?_
  intro v1 w1 hO2 hb2 _
  have HK := Lib.hid ((HK.out.trans (HBf.out.mono HK.out.size)).trans hb2)
  clear hb2
  obtain ⟨L1, hL⟩ : ∃ L, L = L0 ++ Cod.le 4 x.epoch := ⟨_, rfl⟩
  rw [← hL] at hO2
  have HE1 := Lib.hid hL
  have HN1 := Lib.hid (show L1.length ≤ 12 by rw [hL, List.length_append]; have h1 := HN0.out; have h2 := HP.out; omega)
  have HO := Lib.hid hO2
  clear hO2 hL
  have hrw := (HK.out.block _ (lt_of_block HROW.out)).trans HROW.out
  obtain ⟨q0, -, -, -, -, -, -, -, -, -, -, -, -, -, -⟩ := rec_cell hrw
  clear hrw
  obtain ⟨kk, hkk, hk6⟩ : ∃ kk : Nat, x.kind = (kk : Int) ∧ kk < 6 := ⟨x.kind.toNat, by have := Lr.kind_lt HM.out.1; omega, by have := Lr.kind_lt HM.out.1; omega⟩
  rw [hkk] at q0
  have hw8 : IntKind.u8.wrap (kk : Int) = (kk : Int) := by rw [IntKind.wrap_u8]; omega
  have HKK : Hid (_ ∧ _) := ⟨hkk, hk6⟩
  clear hkk hk6
  go_upto_region 3 with (fail)
  iterate 16 go_step
  refine wpList_append_byte rfl (.tmp 18) (.tmp 22) rfl W.heap.size v1 _ rfl HO.out rfl kk (by first | rfl | exact hw8) (by have := HKK.out.2; omega) (by have h1 := HN1.out; omega) HK.out.size ?_
  intro v2 w2 hO2 hb2
  have HK := Lib.hid (HK.out.trans hb2)
  have HP := Lib.hid (show ([kk] : List Nat).length ≤ 1 by simp)
  clear hb2 hw8 q0
  obtain ⟨L2, hL⟩ : ∃ L, L = L1 ++ [kk] := ⟨_, rfl⟩
  rw [← hL] at hO2
  have HE2 := Lib.hid hL
  have HN2 := Lib.hid (show L2.length ≤ 13 by rw [hL, List.length_append]; have h1 := HN1.out; have h2 := HP.out; omega)
  have HO := Lib.hid hO2
  clear hO2 hL
  have hrw := (HK.out.block _ (lt_of_block HROW.out)).trans HROW.out
  obtain ⟨q0, -, -, -, -, -, -, -, -, -, -, -, -, -, -⟩ := rec_cell hrw
  clear hrw
  rw [HKD.out] at q0
  go_upto_region 25 with (fail)
  clear q0
  have HSP := Lib.hid (show x.opn.length ≤ 16 ∧ x.dirt.length ≤ 64 by rcases HM.out.1 with ⟨h, _⟩ | ⟨h, _⟩ | ⟨h, _⟩ | ⟨h, _⟩ | ⟨_, h⟩; all_goals first | exact h | (have := HKD.out; omega))
  have hrw := (HK.out.block _ (lt_of_block HROW.out)).trans HROW.out
  obtain ⟨-, -, -, -, -, -, -, -, -, -, -, -, -, q13, -⟩ := rec_cell hrw
  clear hrw
  have hcv : IntKind.u64.wrap (x.opn.length : Int) = (x.opn.length : Int) := by rw [IntKind.wrap_u64]; have := HSP.out; omega
  go_wp2_with fail
  refine (refUv_any x.opn.length _ (by have := HSP.out; omega)).mono ?_
  rintro e3 x3 ⟨u3, rfl, hO2, hb2⟩
  have HOf := Lib.hid hO2
  have HBf := Lib.hid hb2
  clear hO2 hb2
  clear q13 hcv
  dsimp only
  go_step
  have HP := Lib.hid (show (Cod.uv x.opn.length).length ≤ 10 from Cod.uv_ten (by have := HSP.out; omega))
  refine wpList_append_Own rfl (.tmp 99) (.tmp 104) rfl W.heap.size v2 L2 rfl (HO.out.below HBf.out) u3 _ rfl HOf.out.bts (by have h1 := HN2.out; have h2 := HP.out; omega) (Nat.le_trans HK.out.size HBf.out.size) ?_
  intro v3 w3 hO2 hb2 _
  have HK := Lib.hid ((HK.out.trans (HBf.out.mono HK.out.size)).trans hb2)
  clear hb2
  obtain ⟨L3, hL⟩ : ∃ L, L = L2 ++ Cod.uv x.opn.length := ⟨_, rfl⟩
  rw [← hL] at hO2
  have HE3 := Lib.hid hL
  have HN3 := Lib.hid (show L3.length ≤ 23 by rw [hL, List.length_append]; have h1 := HN2.out; have h2 := HP.out; omega)
  have HO := Lib.hid hO2
  clear hO2 hL
  have hrw := (HK.out.block _ (lt_of_block HROW.out)).trans HROW.out
  obtain ⟨-, -, -, -, -, -, -, -, -, -, -, -, -, q13, -⟩ := rec_cell hrw
  clear hrw
  go_wp2_with fail
  clear q13
  go_loopw [3, 5] (fun sx ix wr => ∃ (k : Nat) (sv : Value), sv = sx ∧ k ≤ x.opn.length ∧ ix = .int .i64 (k : Int) ∧ Own W.heap.size wr sv (L3 ++ Lr.chs (x.opn.take k)) ∧ Below W.heap.size W wr) (fun _ ix _ => x.opn.length - (intOf ix).toNat)
  case atStart => exact ⟨0, _, rfl, Nat.zero_le _, rfl, by rw [List.take_zero, show Lr.chs [] = [] from rfl, List.append_nil]; exact HO.out, HK.out⟩
  case round =>
    obtain ⟨k, sv, hsv, hk, rfl, hO, hB⟩ := hrel
    subst hsv
    have HOr := Lib.hid hO
    have HKr := Lib.hid hB
    have hrw := (hB.block _ (lt_of_block HROW.out)).trans HROW.out
    obtain ⟨-, -, -, -, -, -, -, -, -, -, -, -, -, q13, -⟩ := rec_cell hrw
    clear hrw hO
    by_cases hlt : k < x.opn.length
    · have hi : (k : Int) < (x.opn.length : Int) := by omega
      have hi0 : (0 : Int) ≤ (k : Int) := by omega
      have hwi := IntWalk.i64_in ((k : Int) + 1) (by have := HSP.out; omega)
      have HLT := Lib.hid hlt
      obtain ⟨ba, oa, ga, hpa⟩ := HA.out.opn.some (by omega)
      simp only [Value.slice.injEq, true_and] at hpa
      obtain ⟨rfl, rfl⟩ := hpa
      have hlen := Lr.chs_length (x.opn.take k)
      rw [List.length_take] at hlen
      have HLEN := Lib.hid (show (L3 ++ Lr.chs (x.opn.take k)).length ≤ 407 by rw [List.length_append, hlen]; have h1 := HN3.out; have h2 := HSP.out; omega)
      clear hlen hlt hk hB
      have ce := (HA.out.opn.below HKr.out).at k HLT.out 0 (by decide)
      simp only [Chr.enc, List.getElem?_cons_zero, Nat.add_zero] at ce
      generalize hx0 : (x.opn.getD k default).1 = a0 at *
      have HX0 := Lib.hid hx0
      clear hx0
      go_wp2_with fail
      refine (refFixed_any a0 8 _ (by decide)).mono ?_
      rintro ez0 xz0 ⟨uz0, rfl, hO2, hb2⟩
      have HOf := Lib.hid hO2
      have HBf := Lib.hid hb2
      clear hO2 hb2 ce q13
      dsimp only
      go_step
      refine wpList_append_Own rfl (.tmp 113) (.tmp 120) rfl W.heap.size sv (L3 ++ Lr.chs (x.opn.take k)) rfl (HOr.out.below HBf.out) uz0 _ rfl HOf.out.bts (by have h1 := HLEN.out; simp only [List.length_append, Cod.le_length] at h1 ⊢; omega) (Nat.le_trans HKr.out.size HBf.out.size) ?_
      intro vz0 wz0 hO2 hb2 _
      have HOz0 := Lib.hid hO2
      have HKz0 := Lib.hid ((HKr.out.trans (HBf.out.mono HKr.out.size)).trans hb2)
      clear hO2 hb2
      have hrw := (HKz0.out.block _ (lt_of_block HROW.out)).trans HROW.out
      obtain ⟨-, -, -, -, -, -, -, -, -, -, -, -, -, q13, -⟩ := rec_cell hrw
      clear hrw
      have ce := (HA.out.opn.below HKz0.out).at k HLT.out 1 (by decide)
      simp only [Chr.enc, List.getElem?_cons_zero, List.getElem?_cons_succ] at ce
      generalize hx1 : (x.opn.getD k default).2.1 = a1 at *
      have HX1 := Lib.hid hx1
      clear hx1
      go_wp2_with fail
      refine (refFixed_any a1 8 _ (by decide)).mono ?_
      rintro ez1 xz1 ⟨uz1, rfl, hO2, hb2⟩
      have HOf := Lib.hid hO2
      have HBf := Lib.hid hb2
      clear hO2 hb2 ce q13
      dsimp only
      go_step
      refine wpList_append_Own rfl (.tmp 122) (.tmp 129) rfl W.heap.size vz0 ((L3 ++ Lr.chs (x.opn.take k)) ++ Cod.le 8 a0) rfl (HOz0.out.below HBf.out) uz1 _ rfl HOf.out.bts (by have h1 := HLEN.out; simp only [List.length_append, Cod.le_length] at h1 ⊢; omega) (Nat.le_trans HKz0.out.size HBf.out.size) ?_
      intro vz1 wz1 hO2 hb2 _
      have HOz1 := Lib.hid hO2
      have HKz1 := Lib.hid ((HKz0.out.trans (HBf.out.mono HKz0.out.size)).trans hb2)
      clear hO2 hb2
      have hrw := (HKz1.out.block _ (lt_of_block HROW.out)).trans HROW.out
      obtain ⟨-, -, -, -, -, -, -, -, -, -, -, -, -, q13, -⟩ := rec_cell hrw
      clear hrw
      have ce := (HA.out.opn.below HKz1.out).at k HLT.out 2 (by decide)
      simp only [Chr.enc, List.getElem?_cons_zero, List.getElem?_cons_succ] at ce
      generalize hx2 : (x.opn.getD k default).2.2 = a2 at *
      have HX2 := Lib.hid hx2
      clear hx2
      go_wp2_with fail
      refine (refFixed_any a2 8 _ (by decide)).mono ?_
      rintro ez2 xz2 ⟨uz2, rfl, hO2, hb2⟩
      have HOf := Lib.hid hO2
      have HBf := Lib.hid hb2
      clear hO2 hb2 ce q13
      dsimp only
      go_step
      refine wpList_append_Own rfl (.tmp 131) (.tmp 138) rfl W.heap.size vz1 (((L3 ++ Lr.chs (x.opn.take k)) ++ Cod.le 8 a0) ++ Cod.le 8 a1) rfl (HOz1.out.below HBf.out) uz2 _ rfl HOf.out.bts (by have h1 := HLEN.out; simp only [List.length_append, Cod.le_length] at h1 ⊢; omega) (Nat.le_trans HKz1.out.size HBf.out.size) ?_
      intro vz2 wz2 hO2 hb2 _
      have HOz2 := Lib.hid hO2
      have HKz2 := Lib.hid ((HKz1.out.trans (HBf.out.mono HKz1.out.size)).trans hb2)
      clear hO2 hb2
      go_wp2_with fail
      go_roundw
      case rel =>
        refine ⟨k + 1, _, rfl, HLT.out, by go_num, ?_, HKz2.out⟩
        have h := HOz2.out
        rw [Chr.chs_snoc x.opn k HLT.out, HX0.out, HX1.out, HX2.out]
        simpa [les, List.append_assoc] using h
      case measure => have := HLT.out; simp [intOf]; omega
    · obtain rfl : k = x.opn.length := by omega
      have hi : ¬ (x.opn.length : Int) < (x.opn.length : Int) := by omega
      have HO := Lib.hid (show Own W.heap.size wr sv (L3 ++ Lr.chs x.opn) by have h := HOr.out; rw [List.take_length] at h; exact h)
      have HK := HKr
      have HP := Lib.hid (show (Lr.chs x.opn).length ≤ 384 by rw [Lr.chs_length]; have := HSP.out; omega)
      have hO2 := HO.out
      clear hlt hk hB HOr HKr
      obtain ⟨L4, hL⟩ : ∃ L, L = L3 ++ Lr.chs x.opn := ⟨_, rfl⟩
      rw [← hL] at hO2
      have HE4 := Lib.hid hL
      have HN4 := Lib.hid (show L4.length ≤ 407 by rw [hL, List.length_append]; have h1 := HN3.out; have h2 := HP.out; omega)
      have HO := Lib.hid hO2
      clear hO2 hL
      go_upto_region 32 with (fail)
      clear hi q13
      have hrw := (HK.out.block _ (lt_of_block HROW.out)).trans HROW.out
      obtain ⟨-, -, -, -, -, -, -, -, -, -, -, -, -, -, q14⟩ := rec_cell hrw
      clear hrw
      have hcv : IntKind.u64.wrap (x.dirt.length : Int) = (x.dirt.length : Int) := by rw [IntKind.wrap_u64]; have := HSP.out; omega
      go_wp2_with fail
      refine (refUv_any x.dirt.length _ (by have := HSP.out; omega)).mono ?_
      rintro e5 x5 ⟨u5, rfl, hO2, hb2⟩
      have HOf := Lib.hid hO2
      have HBf := Lib.hid hb2
      clear hO2 hb2
      clear q14 hcv
      dsimp only
      go_step
      have HP := Lib.hid (show (Cod.uv x.dirt.length).length ≤ 10 from Cod.uv_ten (by have := HSP.out; omega))
      refine wpList_append_Own rfl (.tmp 140) (.tmp 145) rfl W.heap.size sv L4 rfl (HO.out.below HBf.out) u5 _ rfl HOf.out.bts (by have h1 := HN4.out; have h2 := HP.out; omega) (Nat.le_trans HK.out.size HBf.out.size) ?_
      intro v5 w5 hO2 hb2 _
      have HK := Lib.hid ((HK.out.trans (HBf.out.mono HK.out.size)).trans hb2)
      clear hb2
      obtain ⟨L5, hL⟩ : ∃ L, L = L4 ++ Cod.uv x.dirt.length := ⟨_, rfl⟩
      rw [← hL] at hO2
      have HE5 := Lib.hid hL
      have HN5 := Lib.hid (show L5.length ≤ 417 by rw [hL, List.length_append]; have h1 := HN4.out; have h2 := HP.out; omega)
      have HO := Lib.hid hO2
      clear hO2 hL
      have hrw := (HK.out.block _ (lt_of_block HROW.out)).trans HROW.out
      obtain ⟨-, -, -, -, -, -, -, -, -, -, -, -, -, -, q14⟩ := rec_cell hrw
      clear hrw
      go_wp2_with fail
      clear q14
      go_loopw [3, 6] (fun sx ix wr => ∃ (k : Nat) (sv : Value), sv = sx ∧ k ≤ x.dirt.length ∧ ix = .int .i64 (k : Int) ∧ Own W.heap.size wr sv (L5 ++ Lr.dis (x.dirt.take k)) ∧ Below W.heap.size W wr) (fun _ ix _ => x.dirt.length - (intOf ix).toNat)
      case atStart => exact ⟨0, _, rfl, Nat.zero_le _, rfl, by rw [List.take_zero, show Lr.dis [] = [] from rfl, List.append_nil]; exact HO.out, HK.out⟩
      case round =>
        obtain ⟨k, sv, hsv, hk, rfl, hO, hB⟩ := hrel
        subst hsv
        have HOr := Lib.hid hO
        have HKr := Lib.hid hB
        have hrw := (hB.block _ (lt_of_block HROW.out)).trans HROW.out
        obtain ⟨-, -, -, -, -, -, -, -, -, -, -, -, -, -, q14⟩ := rec_cell hrw
        clear hrw hO
        by_cases hlt : k < x.dirt.length
        · have hi : (k : Int) < (x.dirt.length : Int) := by omega
          have hi0 : (0 : Int) ≤ (k : Int) := by omega
          have hwi := IntWalk.i64_in ((k : Int) + 1) (by have := HSP.out; omega)
          have HLT := Lib.hid hlt
          obtain ⟨ba, oa, ga, hpa⟩ := HA.out.dirt.some (by omega)
          simp only [Value.slice.injEq, true_and] at hpa
          obtain ⟨rfl, rfl⟩ := hpa
          have hlen := Lr.dis_length (x.dirt.take k)
          rw [List.length_take] at hlen
          have HLEN := Lib.hid (show (L5 ++ Lr.dis (x.dirt.take k)).length ≤ 1185 by rw [List.length_append, hlen]; have h1 := HN5.out; have h2 := HSP.out; omega)
          clear hlen hlt hk hB
          have ce := (HA.out.dirt.below HKr.out).at k HLT.out 0 (by decide)
          simp only [Dir.enc, List.getElem?_cons_zero, Nat.add_zero] at ce
          generalize hx0 : (x.dirt.getD k default).1 = a0 at *
          have HX0 := Lib.hid hx0
          clear hx0
          have hcv : IntKind.u64.wrap (a0 : Int) = (a0 : Int) := by rw [IntKind.wrap_u64]; have h1 := dirt_page HA.out.ok HLT.out; rw [HX0.out] at h1; omega
          go_wp2_with fail
          refine (refFixed_any a0 4 _ (by decide)).mono ?_
          rintro ez0 xz0 ⟨uz0, rfl, hO2, hb2⟩
          have HOf := Lib.hid hO2
          have HBf := Lib.hid hb2
          clear hO2 hb2 ce q14 hcv
          dsimp only
          go_step
          refine wpList_append_Own rfl (.tmp 154) (.tmp 162) rfl W.heap.size sv (L5 ++ Lr.dis (x.dirt.take k)) rfl (HOr.out.below HBf.out) uz0 _ rfl HOf.out.bts (by have h1 := HLEN.out; simp only [List.length_append, Cod.le_length] at h1 ⊢; omega) (Nat.le_trans HKr.out.size HBf.out.size) ?_
          intro vz0 wz0 hO2 hb2 _
          have HOz0 := Lib.hid hO2
          have HKz0 := Lib.hid ((HKr.out.trans (HBf.out.mono HKr.out.size)).trans hb2)
          clear hO2 hb2
          have hrw := (HKz0.out.block _ (lt_of_block HROW.out)).trans HROW.out
          obtain ⟨-, -, -, -, -, -, -, -, -, -, -, -, -, -, q14⟩ := rec_cell hrw
          clear hrw
          have ce := (HA.out.dirt.below HKz0.out).at k HLT.out 1 (by decide)
          simp only [Dir.enc, List.getElem?_cons_zero, List.getElem?_cons_succ] at ce
          generalize hx1 : (x.dirt.getD k default).2 = a1 at *
          have HX1 := Lib.hid hx1
          clear hx1
          go_wp2_with fail
          refine (refFixed_any a1 8 _ (by decide)).mono ?_
          rintro ez1 xz1 ⟨uz1, rfl, hO2, hb2⟩
          have HOf := Lib.hid hO2
          have HBf := Lib.hid hb2
          clear hO2 hb2 ce q14
          dsimp only
          go_step
          refine wpList_append_Own rfl (.tmp 164) (.tmp 171) rfl W.heap.size vz0 ((L5 ++ Lr.dis (x.dirt.take k)) ++ Cod.le 4 a0) rfl (HOz0.out.below HBf.out) uz1 _ rfl HOf.out.bts (by have h1 := HLEN.out; simp only [List.length_append, Cod.le_length] at h1 ⊢; omega) (Nat.le_trans HKz0.out.size HBf.out.size) ?_
          intro vz1 wz1 hO2 hb2 _
          have HOz1 := Lib.hid hO2
          have HKz1 := Lib.hid ((HKz0.out.trans (HBf.out.mono HKz0.out.size)).trans hb2)
          clear hO2 hb2
          go_wp2_with fail
          go_roundw
          case rel =>
            refine ⟨k + 1, _, rfl, HLT.out, by go_num, ?_, HKz1.out⟩
            have h := HOz1.out
            rw [Dir.dis_snoc x.dirt k HLT.out, HX0.out, HX1.out]
            simpa [les, List.append_assoc] using h
          case measure => have := HLT.out; simp [intOf]; omega
        · obtain rfl : k = x.dirt.length := by omega
          have hi : ¬ (x.dirt.length : Int) < (x.dirt.length : Int) := by omega
          have HO := Lib.hid (show Own W.heap.size wr sv (L5 ++ Lr.dis x.dirt) by have h := HOr.out; rw [List.take_length] at h; exact h)
          have HK := HKr
          have HP := Lib.hid (show (Lr.dis x.dirt).length ≤ 768 by rw [Lr.dis_length]; have := HSP.out; omega)
          have hO2 := HO.out
          clear hlt hk hB HOr HKr
          obtain ⟨L6, hL⟩ : ∃ L, L = L5 ++ Lr.dis x.dirt := ⟨_, rfl⟩
          rw [← hL] at hO2
          have HE6 := Lib.hid hL
          have HN6 := Lib.hid (show L6.length ≤ 1185 by rw [hL, List.length_append]; have h1 := HN5.out; have h2 := HP.out; omega)
          have HO := Lib.hid hO2
          clear hO2 hL
          go_upto_region 38 with (fail)
          clear hi q14
          obtain ⟨qq, kq, hvq⟩ := HO.out.bts.slice
          subst hvq
          have hN := HN6.out
          have hwa : wrap64 ((L6.length : Int) + 6) = (L6.length : Int) + 6 := IntWalk.wrap64_in _ ⟨by omega, by omega⟩
          have hwu : IntKind.u64.wrap ((L6.length : Int) + 6) = ((L6.length + 6 : Nat) : Int) := by rw [IntKind.wrap_u64]; omega
          obtain ⟨NN, hNN⟩ : ∃ N, N = L6.length := ⟨_, rfl⟩
          rw [← hNN] at hN hwa hwu ⊢
          have HNN := Lib.hid hNN
          clear hNN
          go_wp2_with fail
          rw [show ((NN : Int) + 6) = ((NN + 6 : Nat) : Int) by omega]
          refine (refFixed_any (NN + 6) 2 _ (by decide)).mono ?_
          rintro ea xa ⟨ua, rfl, hO2, hb2⟩
          have HOf := Lib.hid hO2
          have HBf := Lib.hid hb2
          have HOb := Lib.hid (HO.out.below hb2)
          have HK2 := Lib.hid (HK.out.trans (hb2.mono HK.out.size))
          clear hO2 hb2 hwa hwu hN
          go_upto_region 39 with (fail)
          iterate 7 go_step
          refine wpList_append_Own rfl (.tmp 178) (.tmp 179) rfl W.heap.size ua _ rfl (HOf.out.from HK.out.size) _ L6 rfl (by have h := HOb.out.bts; rw [← HNN.out] at h; exact h) (by have h1 := HN6.out; rw [Cod.le_length]; omega) HK2.out.size ?_
          intro vr wr hO2 hb2 _
          have HOr := Lib.hid (show Own W.heap.size wr vr (Lr.rest x) by
            have e : L6 = Lr.body x := by
              have hkt : x.kind.toNat = kk := by rw [HKK.out.1, Int.toNat_natCast]
              rw [HE6.out, HE5.out, HE4.out, HE3.out, HE2.out, HE1.out, HE0.out]
              unfold Lr.body
              rw [hkt, show Lr.own x = (Cod.uv x.opn.length ++ Lr.chs x.opn) ++ (Cod.uv x.dirt.length ++ Lr.dis x.dirt) from by unfold Lr.own; rw [if_neg (by rw [HKD.out]; decide), if_neg (by rw [HKD.out]; decide), if_neg (by rw [HKD.out]; decide), if_neg (by rw [HKD.out]; decide), if_pos HKD.out]]
              simp
            have e2 : NN + 6 = 19 + (Lr.own x).length := by
              rw [HNN.out, e, Lr.body_length]; omega
            rw [e2, e] at hO2
            exact hO2)
          have HKr := Lib.hid (HK2.out.trans hb2)
          clear hO2 hb2
          go_wp2_with fail
          refine (refSum_any vr _ _ HOr.out.bts).mono ?_
          rintro eb xb ⟨rfl, rfl⟩
          obtain ⟨S, hS⟩ : ∃ S, S = Crc.more 0 (Lr.rest x) := ⟨_, rfl⟩
          rw [← hS]
          have hcv : IntKind.u64.wrap (S : Int) = (S : Int) := by rw [IntKind.wrap_u64]; have := Lr.sum_lt (Lr.rest_lt HA.out.ok HM.out.1); omega
          have HSS := Lib.hid hS
          have HKb := HKr
          have HOb2 := HOr
          clear hS
          go_wp2_with fail
          refine (refFixed_any S 4 _ (by decide)).mono ?_
          rintro ec xc ⟨uc, rfl, hOc, hbc⟩
          have HOc := Lib.hid (hOc.from HKb.out.size)
          have HKc := Lib.hid (HKb.out.trans (hbc.mono HKb.out.size))
          have HOr2 := Lib.hid (HOb2.out.below hbc)
          clear hOc hbc hcv
          go_upto_region 41 with (fail)
          iterate 7 go_step
          refine wpList_append_Own rfl (.tmp 185) (.tmp 186) rfl W.heap.size uc _ rfl HOc.out vr _ rfl HOr2.out.bts (by rw [Cod.le_length, Lr.rest_length]; have := Lr.own_length HM.out.1; omega) HKc.out.size ?_
          intro vz wz hOz hbz _
          rw [HSS.out] at hOz
          have HOz := Lib.hid hOz
          have HKz := Lib.hid (HKc.out.trans hbz)
          clear hOz hbz
          go_wp2_with fail
          go_ret
          exact ⟨_, rfl, HOz.out.from HB.out.size, HB.out.trans (HKz.out.mono HB.out.size)⟩
end Go.Proofs.Ytkchoelegdknoaa
