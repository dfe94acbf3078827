/- A record's form, by the document's own way. Conditions: the value reads as a record that may be. -/
import Derived.Test.YtkchoelegdknoaaLrKnown
import Derived.Test.YtkchoelegdknoaaCodeRef
namespace Go.Proofs.Ytkchoelegdknoaa
open Go.RowKit

theorem Lr.may_short {x : Lr.R} (h : Lr.May x) : x.old.length ≤ 500 ∧ x.new.length ≤ 500 ∧ x.undo.length ≤ 500 := by
  have hb := h.2
  unfold Lr.bare at hb
  rcases h.1 with ⟨hk, h1, h2, h3⟩ | ⟨hk, h1, h2⟩ | ⟨hk, h1⟩ | ⟨hk, h1⟩ | ⟨hk, h1, h2⟩
  · rw [if_pos hk] at hb
    have e3 : x.undo = [] := by rw [hb]
    rw [e3]; simp; omega
  · rw [if_neg (by omega), if_pos hk] at hb
    have e1 : x.old = [] := by rw [hb]
    have e2 : x.new = [] := by rw [hb]
    have hu : x.undo.length ≤ 64 := by
      cases hc : x.clr
      · exact (h2 hc).1
      · have := h1 hc; omega
    rw [e1, e2]; simp; omega
  · rw [if_neg (by omega), if_neg (by omega), if_pos hk] at hb
    have e1 : x.old = [] := by rw [hb]
    have e2 : x.new = [] := by rw [hb]
    have e3 : x.undo = [] := by rw [hb]
    rw [e1, e2, e3]; simp
  · rw [if_neg (by omega), if_neg (by omega), if_neg (by omega), if_pos hk] at hb
    have e1 : x.old = [] := by rw [hb]
    have e2 : x.new = [] := by rw [hb]
    have e3 : x.undo = [] := by rw [hb]
    rw [e1, e2, e3]; simp
  · rw [if_neg (by omega), if_neg (by omega), if_neg (by omega), if_neg (by omega), if_pos hk] at hb
    have e1 : x.old = [] := by rw [hb]
    have e2 : x.new = [] := by rw [hb]
    have e3 : x.undo = [] := by rw [hb]
    rw [e1, e2, e3]; simp
set_option maxHeartbeats 6400000 in
set_option maxRecDepth 20000 in
theorem refForm_k4 (x : Lr.R) (o n u c d : Value) (w : World) (h : RecAt w x o n u c d) (hM : Lr.May x) (hk : x.kind = 4) :
    Calls Try.prog 17 #[RecV x o n u c d] w fun e w' => ∃ v, e = .returned v ∧ Own w.heap.size w' v (Lr.form x) ∧ Below w.heap.size w w' := by
  obtain ⟨W, hW⟩ : ∃ W, W = w.alloc (robj x o n u c d) := ⟨_, rfl⟩
  have hb := below_new1 w (robj x o n u c d)
  have hr := rblk w x o n u c d
  rw [← hW] at hb hr
  have HB := Lib.hid hb
  have HA := Lib.hid (h.below hb)
  have HROW := Lib.hid hr
  obtain ⟨p1, c1, p2, c2, p3, c3, p4, c4, p5, c5, rfl, rfl, rfl, rfl, rfl⟩ := rec_slices h
  have HF := Lib.hid (Lr.bare_lists hM).1
  have HM := Lib.hid hM
  have HS5 := Lib.hid (Lr.may_short hM)
  clear h hM hb hr
  unfold robj at hW
  go_enter Try.func17, Try.ntmps17
  have HKD := Lib.hid hk
  clear hk
  go_upto_region 1 with (fail)
  rw [← hW]
  clear hW
  have HK := Lib.hid (Below.refl W.heap.size W)
  have hrw := (HK.out.block _ (lt_of_block HROW.out)).trans HROW.out
  obtain ⟨-, q1, -, -, -, -, -, -, -, -, -, -, -, -, -⟩ := rec_cell hrw
  clear hrw
  go_wp2_with fail
  refine (refFixed_any x.lsn 8 _ (by decide)).mono ?_
  rintro e0 x0 ⟨u0, rfl, hO2, hb2⟩
  have HOf := Lib.hid hO2
  have HBf := Lib.hid hb2
  clear hO2 hb2
  clear q1
  obtain ⟨L0, hL⟩ : ∃ L, L = Cod.le 8 x.lsn := ⟨_, rfl⟩
  have HE0 := Lib.hid hL
  have HN0 := Lib.hid (show L0.length ≤ 8 by rw [hL, Cod.le_length]; decide)
  have HO := Lib.hid (show Own W.heap.size x0 u0 L0 by rw [hL]; exact HOf.out)
  have HK := Lib.hid HBf.out
  clear hL
  have hrw := (HK.out.block _ (lt_of_block HROW.out)).trans HROW.out
  obtain ⟨-, -, q2, -, -, -, -, -, -, -, -, -, -, -, -⟩ := rec_cell hrw
  clear hrw
  have hcv := (show IntKind.u64.wrap (x.epoch : Int) = (x.epoch : Int) by rw [IntKind.wrap_u64]; have := HA.out.ok.epoch; omega)
  go_wp2_with fail
  refine (refFixed_any x.epoch 4 _ (by decide)).mono ?_
  rintro e1 x1 ⟨u1, rfl, hO2, hb2⟩
  have HOf := Lib.hid hO2
  have HBf := Lib.hid hb2
  clear hO2 hb2
  clear q2 hcv
  dsimp only
  go_step
  have HP := Lib.hid (show (Cod.le 4 x.epoch).length ≤ 4 by rw [Cod.le_length]; decide)
  refine wpList_append_Own rfl (.tmp 12) (.tmp 16) rfl W.heap.size u0 L0 rfl (HO.out.below HBf.out) u1 _ rfl HOf.out.bts (by have h1 := HN0.out; have h2 := HP.out; omega) (Nat.le_trans HK.out.size HBf.out.size) ?_
  intro v1 w1 hO2 hb2 _
  have HK := Lib.hid ((HK.out.trans (HBf.out.mono HK.out.size)).trans hb2)
  clear hb2
  obtain ⟨L1, hL⟩ : ∃ L, L = L0 ++ Cod.le 4 x.epoch := ⟨_, rfl⟩
  rw [← hL] at hO2
  have HE1 := Lib.hid hL
  have HN1 := Lib.hid (show L1.length ≤ 12 by rw [hL, List.length_append]; have h1 := HN0.out; have h2 := HP.out; omega)
  have HO := Lib.hid hO2
  clear hO2 hL
  have hrw := (HK.out.block _ (lt_of_block HROW.out)).trans HROW.out
  obtain ⟨q0, -, -, -, -, -, -, -, -, -, -, -, -, -, -⟩ := rec_cell hrw
  clear hrw
  obtain ⟨kk, hkk, hk6⟩ : ∃ kk : Nat, x.kind = (kk : Int) ∧ kk < 6 := ⟨x.kind.toNat, by have := Lr.kind_lt HM.out.1; omega, by have := Lr.kind_lt HM.out.1; omega⟩
  rw [hkk] at q0
  have hw8 : IntKind.u8.wrap (kk : Int) = (kk : Int) := by rw [IntKind.wrap_u8]; omega
  have HKK : Hid (_ ∧ _) := ⟨hkk, hk6⟩
  clear hkk hk6
  go_upto_region 3 with (fail)
  iterate 16 go_step
  refine wpList_append_byte rfl (.tmp 18) (.tmp 22) rfl W.heap.size v1 _ rfl HO.out rfl kk (by first | rfl | exact hw8) (by have := HKK.out.2; omega) (by have h1 := HN1.out; omega) HK.out.size ?_
  intro v2 w2 hO2 hb2
  have HK := Lib.hid (HK.out.trans hb2)
  have HP := Lib.hid (show ([kk] : List Nat).length ≤ 1 by simp)
  clear hb2 hw8 q0
  obtain ⟨L2, hL⟩ : ∃ L, L = L1 ++ [kk] := ⟨_, rfl⟩
  rw [← hL] at hO2
  have HE2 := Lib.hid hL
  have HN2 := Lib.hid (show L2.length ≤ 13 by rw [hL, List.length_append]; have h1 := HN1.out; have h2 := HP.out; omega)
  have HO := Lib.hid hO2
  clear hO2 hL
  have hrw := (HK.out.block _ (lt_of_block HROW.out)).trans HROW.out
  obtain ⟨q0, -, -, -, -, -, -, -, -, -, -, -, -, -, -⟩ := rec_cell hrw
  clear hrw
  rw [HKD.out] at q0
  go_upto_region 23 with (fail)
  clear q0
  have hrw := (HK.out.block _ (lt_of_block HROW.out)).trans HROW.out
  obtain ⟨-, -, -, q3, -, -, -, -, -, -, -, -, -, -, -⟩ := rec_cell hrw
  clear hrw
  go_wp2_with fail
  refine (refFixed_any x.txn 8 _ (by decide)).mono ?_
  rintro e3 x3 ⟨u3, rfl, hO2, hb2⟩
  have HOf := Lib.hid hO2
  have HBf := Lib.hid hb2
  clear hO2 hb2
  clear q3
  dsimp only
  go_step
  have HP := Lib.hid (show (Cod.le 8 x.txn).length ≤ 8 by rw [Cod.le_length]; decide)
  refine wpList_append_Own rfl (.tmp 92) (.tmp 95) rfl W.heap.size v2 L2 rfl (HO.out.below HBf.out) u3 _ rfl HOf.out.bts (by have h1 := HN2.out; have h2 := HP.out; omega) (Nat.le_trans HK.out.size HBf.out.size) ?_
  intro v3 w3 hO2 hb2 _
  have HK := Lib.hid ((HK.out.trans (HBf.out.mono HK.out.size)).trans hb2)
  clear hb2
  obtain ⟨L3, hL⟩ : ∃ L, L = L2 ++ Cod.le 8 x.txn := ⟨_, rfl⟩
  rw [← hL] at hO2
  have HE3 := Lib.hid hL
  have HN3 := Lib.hid (show L3.length ≤ 21 by rw [hL, List.length_append]; have h1 := HN2.out; have h2 := HP.out; omega)
  have HO := Lib.hid hO2
  clear hO2 hL
  go_upto_region 38 with (fail)
  obtain ⟨qq, kq, hvq⟩ := HO.out.bts.slice
  subst hvq
  have hN := HN3.out
  have hwa : wrap64 ((L3.length : Int) + 6) = (L3.length : Int) + 6 := IntWalk.wrap64_in _ ⟨by omega, by omega⟩
  have hwu : IntKind.u64.wrap ((L3.length : Int) + 6) = ((L3.length + 6 : Nat) : Int) := by rw [IntKind.wrap_u64]; omega
  obtain ⟨NN, hNN⟩ : ∃ N, N = L3.length := ⟨_, rfl⟩
  rw [← hNN] at hN hwa hwu ⊢
  have HNN := Lib.hid hNN
  clear hNN
  go_wp2_with fail
  rw [show ((NN : Int) + 6) = ((NN + 6 : Nat) : Int) by omega]
  refine (refFixed_any (NN + 6) 2 _ (by decide)).mono ?_
  rintro ea xa ⟨ua, rfl, hO2, hb2⟩
  have HOf := Lib.hid hO2
  have HBf := Lib.hid hb2
  have HOb := Lib.hid (HO.out.below hb2)
  have HK2 := Lib.hid (HK.out.trans (hb2.mono HK.out.size))
  clear hO2 hb2 hwa hwu hN
  go_upto_region 39 with (fail)
  iterate 7 go_step
  refine wpList_append_Own rfl (.tmp 178) (.tmp 179) rfl W.heap.size ua _ rfl (HOf.out.from HK.out.size) _ L3 rfl (by have h := HOb.out.bts; rw [← HNN.out] at h; exact h) (by have h1 := HN3.out; rw [Cod.le_length]; omega) HK2.out.size ?_
  intro vr wr hO2 hb2 _
  have HOr := Lib.hid (show Own W.heap.size wr vr (Lr.rest x) by
    have e : L3 = Lr.body x := by
      have hkt : x.kind.toNat = kk := by rw [HKK.out.1, Int.toNat_natCast]
      rw [HE3.out, HE2.out, HE1.out, HE0.out]
      unfold Lr.body
      rw [hkt, show Lr.own x = Cod.le 8 x.txn from by unfold Lr.own; rw [if_neg (by rw [HKD.out]; decide), if_neg (by rw [HKD.out]; decide), if_neg (by rw [HKD.out]; decide), if_pos HKD.out]]
      simp
    have e2 : NN + 6 = 19 + (Lr.own x).length := by
      rw [HNN.out, e, Lr.body_length]; omega
    rw [e2, e] at hO2
    exact hO2)
  have HKr := Lib.hid (HK2.out.trans hb2)
  clear hO2 hb2
  go_wp2_with fail
  refine (refSum_any vr _ _ HOr.out.bts).mono ?_
  rintro eb xb ⟨rfl, rfl⟩
  obtain ⟨S, hS⟩ : ∃ S, S = Crc.more 0 (Lr.rest x) := ⟨_, rfl⟩
  rw [← hS]
  have hcv : IntKind.u64.wrap (S : Int) = (S : Int) := by rw [IntKind.wrap_u64]; have := Lr.sum_lt (Lr.rest_lt HA.out.ok HM.out.1); omega
  have HSS := Lib.hid hS
  have HKb := HKr
  have HOb2 := HOr
  clear hS
  go_wp2_with fail
  refine (refFixed_any S 4 _ (by decide)).mono ?_
  rintro ec xc ⟨uc, rfl, hOc, hbc⟩
  have HOc := Lib.hid (hOc.from HKb.out.size)
  have HKc := Lib.hid (HKb.out.trans (hbc.mono HKb.out.size))
  have HOr2 := Lib.hid (HOb2.out.below hbc)
  clear hOc hbc hcv
  go_upto_region 41 with (fail)
  iterate 7 go_step
  refine wpList_append_Own rfl (.tmp 185) (.tmp 186) rfl W.heap.size uc _ rfl HOc.out vr _ rfl HOr2.out.bts (by rw [Cod.le_length, Lr.rest_length]; have := Lr.own_length HM.out.1; omega) HKc.out.size ?_
  intro vz wz hOz hbz _
  rw [HSS.out] at hOz
  have HOz := Lib.hid hOz
  have HKz := Lib.hid (HKc.out.trans hbz)
  clear hOz hbz
  go_wp2_with fail
  go_ret
  exact ⟨_, rfl, HOz.out.from HB.out.size, HB.out.trans (HKz.out.mono HB.out.size)⟩
set_option maxHeartbeats 6400000 in
set_option maxRecDepth 20000 in
theorem refForm_k3 (x : Lr.R) (o n u c d : Value) (w : World) (h : RecAt w x o n u c d) (hM : Lr.May x) (hk : x.kind = 3) :
    Calls Try.prog 17 #[RecV x o n u c d] w fun e w' => ∃ v, e = .returned v ∧ Own w.heap.size w' v (Lr.form x) ∧ Below w.heap.size w w' := by
  obtain ⟨W, hW⟩ : ∃ W, W = w.alloc (robj x o n u c d) := ⟨_, rfl⟩
  have hb := below_new1 w (robj x o n u c d)
  have hr := rblk w x o n u c d
  rw [← hW] at hb hr
  have HB := Lib.hid hb
  have HA := Lib.hid (h.below hb)
  have HROW := Lib.hid hr
  obtain ⟨p1, c1, p2, c2, p3, c3, p4, c4, p5, c5, rfl, rfl, rfl, rfl, rfl⟩ := rec_slices h
  have HF := Lib.hid (Lr.bare_lists hM).1
  have HM := Lib.hid hM
  have HS5 := Lib.hid (Lr.may_short hM)
  clear h hM hb hr
  unfold robj at hW
  go_enter Try.func17, Try.ntmps17
  have HKD := Lib.hid hk
  clear hk
  go_upto_region 1 with (fail)
  rw [← hW]
  clear hW
  have HK := Lib.hid (Below.refl W.heap.size W)
  have hrw := (HK.out.block _ (lt_of_block HROW.out)).trans HROW.out
  obtain ⟨-, q1, -, -, -, -, -, -, -, -, -, -, -, -, -⟩ := rec_cell hrw
  clear hrw
  go_wp2_with fail
  refine (refFixed_any x.lsn 8 _ (by decide)).mono ?_
  rintro e0 x0 ⟨u0, rfl, hO2, hb2⟩
  have HOf := Lib.hid hO2
  have HBf := Lib.hid hb2
  clear hO2 hb2
  clear q1
  obtain ⟨L0, hL⟩ : ∃ L, L = Cod.le 8 x.lsn := ⟨_, rfl⟩
  have HE0 := Lib.hid hL
  have HN0 := Lib.hid (show L0.length ≤ 8 by rw [hL, Cod.le_length]; decide)
  have HO := Lib.hid (show Own W.heap.size x0 u0 L0 by rw [hL]; exact HOf.out)
  have HK := Lib.hid HBf.out
  clear hL
  have hrw := (HK.out.block _ (lt_of_block HROW.out)).trans HROW.out
  obtain ⟨-, -, q2, -, -, -, -, -, -, -, -, -, -, -, -⟩ := rec_cell hrw
  clear hrw
  have hcv := (show IntKind.u64.wrap (x.epoch : Int) = (x.epoch : Int) by rw [IntKind.wrap_u64]; have := HA.out.ok.epoch; omega)
  go_wp2_with fail
  refine (refFixed_any x.epoch 4 _ (by decide)).mono ?_
  rintro e1 x1 ⟨u1, rfl, hO2, hb2⟩
  have HOf := Lib.hid hO2
  have HBf := Lib.hid hb2
  clear hO2 hb2
  clear q2 hcv
  dsimp only
  go_step
  have HP := Lib.hid (show (Cod.le 4 x.epoch).length ≤ 4 by rw [Cod.le_length]; decide)
  refine wpList_append_Own rfl (.tmp 12) (.tmp 16) rfl W.heap.size u0 L0 rfl (HO.out.below HBf.out) u1 _ rfl HOf.out.bts (by have h1 := HN0.out; have h2 := HP.out; omega) (Nat.le_trans HK.out.size HBf.out.size) ?_
  intro v1 w1 hO2 hb2 _
  have HK := Lib.hid ((HK.out.trans (HBf.out.mono HK.out.size)).trans hb2)
  clear hb2
  obtain ⟨L1, hL⟩ : ∃ L, L = L0 ++ Cod.le 4 x.epoch := ⟨_, rfl⟩
  rw [← hL] at hO2
  have HE1 := Lib.hid hL
  have HN1 := Lib.hid (show L1.length ≤ 12 by rw [hL, List.length_append]; have h1 := HN0.out; have h2 := HP.out; omega)
  have HO := Lib.hid hO2
  clear hO2 hL
  have hrw := (HK.out.block _ (lt_of_block HROW.out)).trans HROW.out
  obtain ⟨q0, -, -, -, -, -, -, -, -, -, -, -, -, -, -⟩ := rec_cell hrw
  clear hrw
  obtain ⟨kk, hkk, hk6⟩ : ∃ kk : Nat, x.kind = (kk : Int) ∧ kk < 6 := ⟨x.kind.toNat, by have := Lr.kind_lt HM.out.1; omega, by have := Lr.kind_lt HM.out.1; omega⟩
  rw [hkk] at q0
  have hw8 : IntKind.u8.wrap (kk : Int) = (kk : Int) := by rw [IntKind.wrap_u8]; omega
  have HKK : Hid (_ ∧ _) := ⟨hkk, hk6⟩
  clear hkk hk6
  go_upto_region 3 with (fail)
  iterate 16 go_step
  refine wpList_append_byte rfl (.tmp 18) (.tmp 22) rfl W.heap.size v1 _ rfl HO.out rfl kk (by first | rfl | exact hw8) (by have := HKK.out.2; omega) (by have h1 := HN1.out; omega) HK.out.size ?_
  intro v2 w2 hO2 hb2
  have HK := Lib.hid (HK.out.trans hb2)
  have HP := Lib.hid (show ([kk] : List Nat).length ≤ 1 by simp)
  clear hb2 hw8 q0
  obtain ⟨L2, hL⟩ : ∃ L, L = L1 ++ [kk] := ⟨_, rfl⟩
  rw [← hL] at hO2
  have HE2 := Lib.hid hL
  have HN2 := Lib.hid (show L2.length ≤ 13 by rw [hL, List.length_append]; have h1 := HN1.out; have h2 := HP.out; omega)
  have HO := Lib.hid hO2
  clear hO2 hL
  have hrw := (HK.out.block _ (lt_of_block HROW.out)).trans HROW.out
  obtain ⟨q0, -, -, -, -, -, -, -, -, -, -, -, -, -, -⟩ := rec_cell hrw
  clear hrw
  rw [HKD.out] at q0
  go_upto_region 20 with (fail)
  clear q0
  have hrw := (HK.out.block _ (lt_of_block HROW.out)).trans HROW.out
  obtain ⟨-, -, -, q3, -, -, -, -, -, -, -, -, -, -, -⟩ := rec_cell hrw
  clear hrw
  go_wp2_with fail
  refine (refFixed_any x.txn 8 _ (by decide)).mono ?_
  rintro e3 x3 ⟨u3, rfl, hO2, hb2⟩
  have HOf := Lib.hid hO2
  have HBf := Lib.hid hb2
  clear hO2 hb2
  clear q3
  dsimp only
  go_step
  have HP := Lib.hid (show (Cod.le 8 x.txn).length ≤ 8 by rw [Cod.le_length]; decide)
  refine wpList_append_Own rfl (.tmp 80) (.tmp 83) rfl W.heap.size v2 L2 rfl (HO.out.below HBf.out) u3 _ rfl HOf.out.bts (by have h1 := HN2.out; have h2 := HP.out; omega) (Nat.le_trans HK.out.size HBf.out.size) ?_
  intro v3 w3 hO2 hb2 _
  have HK := Lib.hid ((HK.out.trans (HBf.out.mono HK.out.size)).trans hb2)
  clear hb2
  obtain ⟨L3, hL⟩ : ∃ L, L = L2 ++ Cod.le 8 x.txn := ⟨_, rfl⟩
  rw [← hL] at hO2
  have HE3 := Lib.hid hL
  have HN3 := Lib.hid (show L3.length ≤ 21 by rw [hL, List.length_append]; have h1 := HN2.out; have h2 := HP.out; omega)
  have HO := Lib.hid hO2
  clear hO2 hL
  have hrw := (HK.out.block _ (lt_of_block HROW.out)).trans HROW.out
  obtain ⟨-, -, -, -, -, -, -, -, -, -, -, -, q12, -, -⟩ := rec_cell hrw
  clear hrw
  go_wp2_with fail
  refine (refFixed_any x.stamp 8 _ (by decide)).mono ?_
  rintro e4 x4 ⟨u4, rfl, hO2, hb2⟩
  have HOf := Lib.hid hO2
  have HBf := Lib.hid hb2
  clear hO2 hb2
  clear q12
  dsimp only
  go_step
  have HP := Lib.hid (show (Cod.le 8 x.stamp).length ≤ 8 by rw [Cod.le_length]; decide)
  refine wpList_append_Own rfl (.tmp 85) (.tmp 88) rfl W.heap.size v3 L3 rfl (HO.out.below HBf.out) u4 _ rfl HOf.out.bts (by have h1 := HN3.out; have h2 := HP.out; omega) (Nat.le_trans HK.out.size HBf.out.size) ?_
  intro v4 w4 hO2 hb2 _
  have HK := Lib.hid ((HK.out.trans (HBf.out.mono HK.out.size)).trans hb2)
  clear hb2
  obtain ⟨L4, hL⟩ : ∃ L, L = L3 ++ Cod.le 8 x.stamp := ⟨_, rfl⟩
  rw [← hL] at hO2
  have HE4 := Lib.hid hL
  have HN4 := Lib.hid (show L4.length ≤ 29 by rw [hL, List.length_append]; have h1 := HN3.out; have h2 := HP.out; omega)
  have HO := Lib.hid hO2
  clear hO2 hL
  go_upto_region 38 with (fail)
  obtain ⟨qq, kq, hvq⟩ := HO.out.bts.slice
  subst hvq
  have hN := HN4.out
  have hwa : wrap64 ((L4.length : Int) + 6) = (L4.length : Int) + 6 := IntWalk.wrap64_in _ ⟨by omega, by omega⟩
  have hwu : IntKind.u64.wrap ((L4.length : Int) + 6) = ((L4.length + 6 : Nat) : Int) := by rw [IntKind.wrap_u64]; omega
  obtain ⟨NN, hNN⟩ : ∃ N, N = L4.length := ⟨_, rfl⟩
  rw [← hNN] at hN hwa hwu ⊢
  have HNN := Lib.hid hNN
  clear hNN
  go_wp2_with fail
  rw [show ((NN : Int) + 6) = ((NN + 6 : Nat) : Int) by omega]
  refine (refFixed_any (NN + 6) 2 _ (by decide)).mono ?_
  rintro ea xa ⟨ua, rfl, hO2, hb2⟩
  have HOf := Lib.hid hO2
  have HBf := Lib.hid hb2
  have HOb := Lib.hid (HO.out.below hb2)
  have HK2 := Lib.hid (HK.out.trans (hb2.mono HK.out.size))
  clear hO2 hb2 hwa hwu hN
  go_upto_region 39 with (fail)
  iterate 7 go_step
  refine wpList_append_Own rfl (.tmp 178) (.tmp 179) rfl W.heap.size ua _ rfl (HOf.out.from HK.out.size) _ L4 rfl (by have h := HOb.out.bts; rw [← HNN.out] at h; exact h) (by have h1 := HN4.out; rw [Cod.le_length]; omega) HK2.out.size ?_
  intro vr wr hO2 hb2 _
  have HOr := Lib.hid (show Own W.heap.size wr vr (Lr.rest x) by
    have e : L4 = Lr.body x := by
      have hkt : x.kind.toNat = kk := by rw [HKK.out.1, Int.toNat_natCast]
      rw [HE4.out, HE3.out, HE2.out, HE1.out, HE0.out]
      unfold Lr.body
      rw [hkt, show Lr.own x = Cod.le 8 x.txn ++ Cod.le 8 x.stamp from by unfold Lr.own; rw [if_neg (by rw [HKD.out]; decide), if_neg (by rw [HKD.out]; decide), if_pos HKD.out]]
      simp
    have e2 : NN + 6 = 19 + (Lr.own x).length := by
      rw [HNN.out, e, Lr.body_length]; omega
    rw [e2, e] at hO2
    exact hO2)
  have HKr := Lib.hid (HK2.out.trans hb2)
  clear hO2 hb2
  go_wp2_with fail
  refine (refSum_any vr _ _ HOr.out.bts).mono ?_
  rintro eb xb ⟨rfl, rfl⟩
  obtain ⟨S, hS⟩ : ∃ S, S = Crc.more 0 (Lr.rest x) := ⟨_, rfl⟩
  rw [← hS]
  have hcv : IntKind.u64.wrap (S : Int) = (S : Int) := by rw [IntKind.wrap_u64]; have := Lr.sum_lt (Lr.rest_lt HA.out.ok HM.out.1); omega
  have HSS := Lib.hid hS
  have HKb := HKr
  have HOb2 := HOr
  clear hS
  go_wp2_with fail
  refine (refFixed_any S 4 _ (by decide)).mono ?_
  rintro ec xc ⟨uc, rfl, hOc, hbc⟩
  have HOc := Lib.hid (hOc.from HKb.out.size)
  have HKc := Lib.hid (HKb.out.trans (hbc.mono HKb.out.size))
  have HOr2 := Lib.hid (HOb2.out.below hbc)
  clear hOc hbc hcv
  go_upto_region 41 with (fail)
  iterate 7 go_step
  refine wpList_append_Own rfl (.tmp 185) (.tmp 186) rfl W.heap.size uc _ rfl HOc.out vr _ rfl HOr2.out.bts (by rw [Cod.le_length, Lr.rest_length]; have := Lr.own_length HM.out.1; omega) HKc.out.size ?_
  intro vz wz hOz hbz _
  rw [HSS.out] at hOz
  have HOz := Lib.hid hOz
  have HKz := Lib.hid (HKc.out.trans hbz)
  clear hOz hbz
  go_wp2_with fail
  go_ret
  exact ⟨_, rfl, HOz.out.from HB.out.size, HB.out.trans (HKz.out.mono HB.out.size)⟩
set_option maxHeartbeats 6400000 in
set_option maxRecDepth 20000 in
theorem refForm_k1 (x : Lr.R) (o n u c d : Value) (w : World) (h : RecAt w x o n u c d) (hM : Lr.May x) (hk : x.kind = 1) :
    Calls Try.prog 17 #[RecV x o n u c d] w fun e w' => ∃ v, e = .returned v ∧ Own w.heap.size w' v (Lr.form x) ∧ Below w.heap.size w w' := by
  obtain ⟨W, hW⟩ : ∃ W, W = w.alloc (robj x o n u c d) := ⟨_, rfl⟩
  have hb := below_new1 w (robj x o n u c d)
  have hr := rblk w x o n u c d
  rw [← hW] at hb hr
  have HB := Lib.hid hb
  have HA := Lib.hid (h.below hb)
  have HROW := Lib.hid hr
  obtain ⟨p1, c1, p2, c2, p3, c3, p4, c4, p5, c5, rfl, rfl, rfl, rfl, rfl⟩ := rec_slices h
  have HF := Lib.hid (Lr.bare_lists hM).1
  have HM := Lib.hid hM
  have HS5 := Lib.hid (Lr.may_short hM)
  clear h hM hb hr
  unfold robj at hW
  go_enter Try.func17, Try.ntmps17
  have HKD := Lib.hid hk
  clear hk
  go_upto_region 1 with (fail)
  rw [← hW]
  clear hW
  have HK := Lib.hid (Below.refl W.heap.size W)
  have hrw := (HK.out.block _ (lt_of_block HROW.out)).trans HROW.out
  obtain ⟨-, q1, -, -, -, -, -, -, -, -, -, -, -, -, -⟩ := rec_cell hrw
  clear hrw
  go_wp2_with fail
  refine (refFixed_any x.lsn 8 _ (by decide)).mono ?_
  rintro e0 x0 ⟨u0, rfl, hO2, hb2⟩
  have HOf := Lib.hid hO2
  have HBf := Lib.hid hb2
  clear hO2 hb2
  clear q1
  obtain ⟨L0, hL⟩ : ∃ L, L = Cod.le 8 x.lsn := ⟨_, rfl⟩
  have HE0 := Lib.hid hL
  have HN0 := Lib.hid (show L0.length ≤ 8 by rw [hL, Cod.le_length]; decide)
  have HO := Lib.hid (show Own W.heap.size x0 u0 L0 by rw [hL]; exact HOf.out)
  have HK := Lib.hid HBf.out
  clear hL
  have hrw := (HK.out.block _ (lt_of_block HROW.out)).trans HROW.out
  obtain ⟨-, -, q2, -, -, -, -, -, -, -, -, -, -, -, -⟩ := rec_cell hrw
  clear hrw
  have hcv := (show IntKind.u64.wrap (x.epoch : Int) = (x.epoch : Int) by rw [IntKind.wrap_u64]; have := HA.out.ok.epoch; omega)
  go_wp2_with fail
  refine (refFixed_any x.epoch 4 _ (by decide)).mono ?_
  rintro e1 x1 ⟨u1, rfl, hO2, hb2⟩
  have HOf := Lib.hid hO2
  have HBf := Lib.hid hb2
  clear hO2 hb2
  clear q2 hcv
  dsimp only
  go_step
  have HP := Lib.hid (show (Cod.le 4 x.epoch).length ≤ 4 by rw [Cod.le_length]; decide)
  refine wpList_append_Own rfl (.tmp 12) (.tmp 16) rfl W.heap.size u0 L0 rfl (HO.out.below HBf.out) u1 _ rfl HOf.out.bts (by have h1 := HN0.out; have h2 := HP.out; omega) (Nat.le_trans HK.out.size HBf.out.size) ?_
  intro v1 w1 hO2 hb2 _
  have HK := Lib.hid ((HK.out.trans (HBf.out.mono HK.out.size)).trans hb2)
  clear hb2
  obtain ⟨L1, hL⟩ : ∃ L, L = L0 ++ Cod.le 4 x.epoch := ⟨_, rfl⟩
  rw [← hL] at hO2
  have HE1 := Lib.hid hL
  have HN1 := Lib.hid (show L1.length ≤ 12 by rw [hL, List.length_append]; have h1 := HN0.out; have h2 := HP.out; omega)
  have HO := Lib.hid hO2
  clear hO2 hL
  have hrw := (HK.out.block _ (lt_of_block HROW.out)).trans HROW.out
  obtain ⟨q0, -, -, -, -, -, -, -, -, -, -, -, -, -, -⟩ := rec_cell hrw
  clear hrw
  obtain ⟨kk, hkk, hk6⟩ : ∃ kk : Nat, x.kind = (kk : Int) ∧ kk < 6 := ⟨x.kind.toNat, by have := Lr.kind_lt HM.out.1; omega, by have := Lr.kind_lt HM.out.1; omega⟩
  rw [hkk] at q0
  have hw8 : IntKind.u8.wrap (kk : Int) = (kk : Int) := by rw [IntKind.wrap_u8]; omega
  have HKK : Hid (_ ∧ _) := ⟨hkk, hk6⟩
  clear hkk hk6
  go_upto_region 3 with (fail)
  iterate 16 go_step
  refine wpList_append_byte rfl (.tmp 18) (.tmp 22) rfl W.heap.size v1 _ rfl HO.out rfl kk (by first | rfl | exact hw8) (by have := HKK.out.2; omega) (by have h1 := HN1.out; omega) HK.out.size ?_
  intro v2 w2 hO2 hb2
  have HK := Lib.hid (HK.out.trans hb2)
  have HP := Lib.hid (show ([kk] : List Nat).length ≤ 1 by simp)
  clear hb2 hw8 q0
  obtain ⟨L2, hL⟩ : ∃ L, L = L1 ++ [kk] := ⟨_, rfl⟩
  rw [← hL] at hO2
  have HE2 := Lib.hid hL
  have HN2 := Lib.hid (show L2.length ≤ 13 by rw [hL, List.length_append]; have h1 := HN1.out; have h2 := HP.out; omega)
  have HO := Lib.hid hO2
  clear hO2 hL
  have hrw := (HK.out.block _ (lt_of_block HROW.out)).trans HROW.out
  obtain ⟨q0, -, -, -, -, -, -, -, -, -, -, -, -, -, -⟩ := rec_cell hrw
  clear hrw
  rw [HKD.out] at q0
  go_upto_region 6 with (fail)
  clear q0
  have hrw := (HK.out.block _ (lt_of_block HROW.out)).trans HROW.out
  obtain ⟨-, -, -, -, q4, -, -, -, -, -, -, -, -, -, -⟩ := rec_cell hrw
  clear hrw
  have hcv := (show IntKind.u64.wrap (x.page : Int) = (x.page : Int) by rw [IntKind.wrap_u64]; have := HA.out.ok.page; omega)
  go_wp2_with fail
  refine (refFixed_any x.page 4 _ (by decide)).mono ?_
  rintro e3 x3 ⟨u3, rfl, hO2, hb2⟩
  have HOf := Lib.hid hO2
  have HBf := Lib.hid hb2
  clear hO2 hb2
  clear q4 hcv
  dsimp only
  go_step
  have HP := Lib.hid (show (Cod.le 4 x.page).length ≤ 4 by rw [Cod.le_length]; decide)
  refine wpList_append_Own rfl (.tmp 28) (.tmp 32) rfl W.heap.size v2 L2 rfl (HO.out.below HBf.out) u3 _ rfl HOf.out.bts (by have h1 := HN2.out; have h2 := HP.out; omega) (Nat.le_trans HK.out.size HBf.out.size) ?_
  intro v3 w3 hO2 hb2 _
  have HK := Lib.hid ((HK.out.trans (HBf.out.mono HK.out.size)).trans hb2)
  clear hb2
  obtain ⟨L3, hL⟩ : ∃ L, L = L2 ++ Cod.le 4 x.page := ⟨_, rfl⟩
  rw [← hL] at hO2
  have HE3 := Lib.hid hL
  have HN3 := Lib.hid (show L3.length ≤ 17 by rw [hL, List.length_append]; have h1 := HN2.out; have h2 := HP.out; omega)
  have HO := Lib.hid hO2
  clear hO2 hL
  have hrw := (HK.out.block _ (lt_of_block HROW.out)).trans HROW.out
  obtain ⟨-, -, -, -, -, q5, -, -, -, -, -, -, -, -, -⟩ := rec_cell hrw
  clear hrw
  have hcv := (show IntKind.u64.wrap (x.off : Int) = (x.off : Int) by rw [IntKind.wrap_u64]; have := HA.out.ok.off; omega)
  go_wp2_with fail
  refine (refFixed_any x.off 2 _ (by decide)).mono ?_
  rintro e4 x4 ⟨u4, rfl, hO2, hb2⟩
  have HOf := Lib.hid hO2
  have HBf := Lib.hid hb2
  clear hO2 hb2
  clear q5 hcv
  dsimp only
  go_step
  have HP := Lib.hid (show (Cod.le 2 x.off).length ≤ 2 by rw [Cod.le_length]; decide)
  refine wpList_append_Own rfl (.tmp 34) (.tmp 38) rfl W.heap.size v3 L3 rfl (HO.out.below HBf.out) u4 _ rfl HOf.out.bts (by have h1 := HN3.out; have h2 := HP.out; omega) (Nat.le_trans HK.out.size HBf.out.size) ?_
  intro v4 w4 hO2 hb2 _
  have HK := Lib.hid ((HK.out.trans (HBf.out.mono HK.out.size)).trans hb2)
  clear hb2
  obtain ⟨L4, hL⟩ : ∃ L, L = L3 ++ Cod.le 2 x.off := ⟨_, rfl⟩
  rw [← hL] at hO2
  have HE4 := Lib.hid hL
  have HN4 := Lib.hid (show L4.length ≤ 19 by rw [hL, List.length_append]; have h1 := HN3.out; have h2 := HP.out; omega)
  have HO := Lib.hid hO2
  clear hO2 hL
  have hrw := (HK.out.block _ (lt_of_block HROW.out)).trans HROW.out
  obtain ⟨-, -, -, -, -, -, q6, -, -, -, -, -, -, -, -⟩ := rec_cell hrw
  clear hrw
  go_wp2_with fail
  refine (refText_any _ x.old _ (HA.out.old.below HK.out) (by have h1 := HF.out.old; omega)).mono ?_
  rintro e5 x5 ⟨u5, rfl, hO2, hb2⟩
  have HOf := Lib.hid hO2
  have HBf := Lib.hid hb2
  clear hO2 hb2
  clear q6
  dsimp only
  go_step
  have HP := Lib.hid (show (Cod.uv x.old.length ++ x.old).length ≤ 510 by have h1 := HS5.out.1; exact Lr.text_length x.old h1)
  refine wpList_append_Own rfl (.tmp 40) (.tmp 43) rfl W.heap.size v4 L4 rfl (HO.out.below HBf.out) u5 _ rfl HOf.out.bts (by have h1 := HN4.out; have h2 := HP.out; omega) (Nat.le_trans HK.out.size HBf.out.size) ?_
  intro v5 w5 hO2 hb2 _
  have HK := Lib.hid ((HK.out.trans (HBf.out.mono HK.out.size)).trans hb2)
  clear hb2
  obtain ⟨L5, hL⟩ : ∃ L, L = L4 ++ (Cod.uv x.old.length ++ x.old) := ⟨_, rfl⟩
  rw [← hL] at hO2
  have HE5 := Lib.hid hL
  have HN5 := Lib.hid (show L5.length ≤ 529 by rw [hL, List.length_append]; have h1 := HN4.out; have h2 := HP.out; omega)
  have HO := Lib.hid hO2
  clear hO2 hL
  have hrw := (HK.out.block _ (lt_of_block HROW.out)).trans HROW.out
  obtain ⟨-, -, -, -, -, -, -, q7, -, -, -, -, -, -, -⟩ := rec_cell hrw
  clear hrw
  go_wp2_with fail
  refine (refText_any _ x.new _ (HA.out.new.below HK.out) (by have h1 := HF.out.new; omega)).mono ?_
  rintro e6 x6 ⟨u6, rfl, hO2, hb2⟩
  have HOf := Lib.hid hO2
  have HBf := Lib.hid hb2
  clear hO2 hb2
  clear q7
  dsimp only
  go_step
  have HP := Lib.hid (show (Cod.uv x.new.length ++ x.new).length ≤ 510 by have h1 := HS5.out.2.1; exact Lr.text_length x.new h1)
  refine wpList_append_Own rfl (.tmp 45) (.tmp 48) rfl W.heap.size v5 L5 rfl (HO.out.below HBf.out) u6 _ rfl HOf.out.bts (by have h1 := HN5.out; have h2 := HP.out; omega) (Nat.le_trans HK.out.size HBf.out.size) ?_
  intro v6 w6 hO2 hb2 _
  have HK := Lib.hid ((HK.out.trans (HBf.out.mono HK.out.size)).trans hb2)
  clear hb2
  obtain ⟨L6, hL⟩ : ∃ L, L = L5 ++ (Cod.uv x.new.length ++ x.new) := ⟨_, rfl⟩
  rw [← hL] at hO2
  have HE6 := Lib.hid hL
  have HN6 := Lib.hid (show L6.length ≤ 1039 by rw [hL, List.length_append]; have h1 := HN5.out; have h2 := HP.out; omega)
  have HO := Lib.hid hO2
  clear hO2 hL
  go_upto_region 38 with (fail)
  obtain ⟨qq, kq, hvq⟩ := HO.out.bts.slice
  subst hvq
  have hN := HN6.out
  have hwa : wrap64 ((L6.length : Int) + 6) = (L6.length : Int) + 6 := IntWalk.wrap64_in _ ⟨by omega, by omega⟩
  have hwu : IntKind.u64.wrap ((L6.length : Int) + 6) = ((L6.length + 6 : Nat) : Int) := by rw [IntKind.wrap_u64]; omega
  obtain ⟨NN, hNN⟩ : ∃ N, N = L6.length := ⟨_, rfl⟩
  rw [← hNN] at hN hwa hwu ⊢
  have HNN := Lib.hid hNN
  clear hNN
  go_wp2_with fail
  rw [show ((NN : Int) + 6) = ((NN + 6 : Nat) : Int) by omega]
  refine (refFixed_any (NN + 6) 2 _ (by decide)).mono ?_
  rintro ea xa ⟨ua, rfl, hO2, hb2⟩
  have HOf := Lib.hid hO2
  have HBf := Lib.hid hb2
  have HOb := Lib.hid (HO.out.below hb2)
  have HK2 := Lib.hid (HK.out.trans (hb2.mono HK.out.size))
  clear hO2 hb2 hwa hwu hN
  go_upto_region 39 with (fail)
  iterate 7 go_step
  refine wpList_append_Own rfl (.tmp 178) (.tmp 179) rfl W.heap.size ua _ rfl (HOf.out.from HK.out.size) _ L6 rfl (by have h := HOb.out.bts; rw [← HNN.out] at h; exact h) (by have h1 := HN6.out; rw [Cod.le_length]; omega) HK2.out.size ?_
  intro vr wr hO2 hb2 _
  have HOr := Lib.hid (show Own W.heap.size wr vr (Lr.rest x) by
    have e : L6 = Lr.body x := by
      have hkt : x.kind.toNat = kk := by rw [HKK.out.1, Int.toNat_natCast]
      rw [HE6.out, HE5.out, HE4.out, HE3.out, HE2.out, HE1.out, HE0.out]
      unfold Lr.body
      rw [hkt, show Lr.own x = Cod.le 4 x.page ++ (Cod.le 2 x.off ++ (Lr.text x.old ++ Lr.text x.new)) from by unfold Lr.own; rw [if_pos HKD.out]]
      simp [Lr.text]
    have e2 : NN + 6 = 19 + (Lr.own x).length := by
      rw [HNN.out, e, Lr.body_length]; omega
    rw [e2, e] at hO2
    exact hO2)
  have HKr := Lib.hid (HK2.out.trans hb2)
  clear hO2 hb2
  go_wp2_with fail
  refine (refSum_any vr _ _ HOr.out.bts).mono ?_
  rintro eb xb ⟨rfl, rfl⟩
  obtain ⟨S, hS⟩ : ∃ S, S = Crc.more 0 (Lr.rest x) := ⟨_, rfl⟩
  rw [← hS]
  have hcv : IntKind.u64.wrap (S : Int) = (S : Int) := by rw [IntKind.wrap_u64]; have := Lr.sum_lt (Lr.rest_lt HA.out.ok HM.out.1); omega
  have HSS := Lib.hid hS
  have HKb := HKr
  have HOb2 := HOr
  clear hS
  go_wp2_with fail
  refine (refFixed_any S 4 _ (by decide)).mono ?_
  rintro ec xc ⟨uc, rfl, hOc, hbc⟩
  have HOc := Lib.hid (hOc.from HKb.out.size)
  have HKc := Lib.hid (HKb.out.trans (hbc.mono HKb.out.size))
  have HOr2 := Lib.hid (HOb2.out.below hbc)
  clear hOc hbc hcv
  go_upto_region 41 with (fail)
  iterate 7 go_step
  refine wpList_append_Own rfl (.tmp 185) (.tmp 186) rfl W.heap.size uc _ rfl HOc.out vr _ rfl HOr2.out.bts (by rw [Cod.le_length, Lr.rest_length]; have := Lr.own_length HM.out.1; omega) HKc.out.size ?_
  intro vz wz hOz hbz _
  rw [HSS.out] at hOz
  have HOz := Lib.hid hOz
  have HKz := Lib.hid (HKc.out.trans hbz)
  clear hOz hbz
  go_wp2_with fail
  go_ret
  exact ⟨_, rfl, HOz.out.from HB.out.size, HB.out.trans (HKz.out.mono HB.out.size)⟩
end Go.Proofs.Ytkchoelegdknoaa
