/- A record's form, by the program. Conditions: the value reads as a record; few of each. How long a record's form is, by the program. Conditions: the value reads as a record; few of each. -/
import Derived.Test.YtafpjcobagofcaaGreatLrMay
import Derived.Test.YtafpjcobagofcaaGreatLrFieldsM
import Derived.Test.YtafpjcobagofcaaGreatLrCrc
namespace Go.Proofs.YtafpjcobagofcaaGreat
open Go.RowKit

set_option maxHeartbeats 3200000 in
set_option maxRecDepth 20000 in
theorem recBytes_any (x : Lr.R) (o n u c d : Value) (w : World) (h : RecAt w x o n u c d) (hf : Lr.Few x) :
    Calls Tryz.prog 27 #[RecV x o n u c d] w fun e w' => ∃ v, e = .returned (.tuple #[v, .int .i64 ((Lr.ifP (Lr.May x) 0 2 : Nat) : Int)]) ∧ Own w.heap.size w' v (Lr.ifP (Lr.May x) (Lr.form x) []) ∧ Below w.heap.size w w' := by
  obtain ⟨W, hW⟩ : ∃ W, W = w.alloc (robj x o n u c d) := ⟨_, rfl⟩
  have hb := below_new1 w (robj x o n u c d)
  have hr := rblk w x o n u c d
  rw [← hW] at hb hr
  have HB := Lib.hid hb
  have HA := Lib.hid (h.below hb)
  have HS : Hid (w.heap.size < W.heap.size) := lt_of_block hr
  obtain ⟨p1, c1, p2, c2, p3, c3, p4, c4, p5, c5, rfl, rfl, rfl, rfl, rfl⟩ := rec_slices h
  have HROW := Lib.hid hr
  have HF := Lib.hid hf
  clear h hb hr hf
  unfold robj at hW
  by_cases hM : Lr.May x
  · rw [Lr.ifP_pos hM, Lr.ifP_pos hM]
    go_enter Tryz.func27, Tryz.ntmps27
    go_upto_region 1 with (fail)
    rw [← hW]
    clear hW
    go_step
    refine wpList_load_rec rfl (.tmp 1) rfl w.heap.size rfl _ HROW.out rfl ?_
    go_wp2_with fail
    refine (may_any x _ _ _ _ _ W HA.out HF.out).mono ?_
    rintro e w1 ⟨rfl, hb1⟩
    have HB1 := Lib.hid hb1
    have HROW1 := Lib.hid ((hb1.block _ HS.out).trans HROW.out)
    have HA1 := Lib.hid (HA.out.below hb1)
    clear hb1
    rw [Lr.may_true hM]
    have HM := Lib.hid hM
    clear hM
    go_upto_region 3 with (fail)
    go_step
    refine wpList_load_rec rfl (.tmp 1) rfl w.heap.size rfl _ HROW1.out rfl ?_
    go_wp2_with fail
    refine (fields_any x _ _ _ _ _ w1 HA1.out HF.out).mono ?_
    rintro e w2 ⟨v2, rfl, hO2, hb2⟩
    have hl := Lr.own_length HM.out.1
    have HO2 := Lib.hid hO2
    have HB2 := Lib.hid (HB1.out.trans (hb2.mono HB1.out.size))
    obtain ⟨q2, k2, rfl⟩ := hO2.bts.slice
    obtain ⟨L, hL⟩ : ∃ L, L = (Lr.own x).length := ⟨_, rfl⟩
    rw [← hL] at hl HO2 ⊢
    have hw1 : IntKind.u16.wrap (19 + (L : Int)) = ((19 + L : Nat) : Int) := by rw [IntKind.wrap_u16]; omega
    have HL := Lib.hid hL
    have HROW2 := Lib.hid ((hb2.block _ (lt_of_block HROW1.out)).trans HROW1.out)
    clear hO2 hb2 hL
    go_wp2_with fail
    rw [show (19 + (L : Int)) = ((19 + L : Nat) : Int) by omega]
    refine (Put16_any (.slice none 0 0) [] (19 + L) _ (bts_none _) (by decide)).mono ?_
    rintro e w3 ⟨v3, rfl, hO3, hb3⟩
    rw [List.nil_append] at hO3
    have hrow3 := (hb3.block _ (lt_of_block HROW2.out)).trans HROW2.out
    obtain ⟨-, e1, -, -, -, -, -, -, -, -, -, -, -, -, -⟩ := rec_cell hrow3
    have HO3 := Lib.hid hO3
    have HK3 := Lib.hid hb3
    clear hO3 hb3 hrow3 hw1
    go_wp2_with fail
    refine (Put64_any (.slice none 0 0) [] x.lsn _ (bts_none _) (by decide)).mono ?_
    rintro e w4 ⟨v4, rfl, hO4, hb4⟩
    rw [List.nil_append] at hO4
    have HO4 := Lib.hid hO4
    have HB4 := Lib.hid hb4
    clear hO4 hb4 e1
    dsimp only
    go_step
    refine wpList_append_Own rfl (.tmp 16) (.tmp 19) rfl w2.heap.size v3 _ rfl (HO3.out.below HB4.out) v4 _ rfl HO4.out.bts (by rw [Cod.le_length, Cod.le_length]; decide) (Nat.le_trans HK3.out.size HB4.out.size) ?_
    intro v5 w5 hO5 hb5 _
    have HO5 := Lib.hid hO5
    have HK5 := Lib.hid ((HK3.out.trans (HB4.out.mono HK3.out.size)).trans hb5)
    have hrow5 := (HK5.out.block _ (lt_of_block HROW2.out)).trans HROW2.out
    obtain ⟨-, -, e2, -, -, -, -, -, -, -, -, -, -, -, -⟩ := rec_cell hrow5
    clear hO5 hb5 hrow5
    go_wp2_with fail
    refine (Put32_any (.slice none 0 0) [] x.epoch _ (bts_none _) (by decide)).mono ?_
    rintro e w6 ⟨v6, rfl, hO6, hb6⟩
    rw [List.nil_append] at hO6
    have HO6 := Lib.hid hO6
    have HB6 := Lib.hid hb6
    clear hO6 hb6 e2
    dsimp only
    go_step
    refine wpList_append_Own rfl (.tmp 21) (.tmp 24) rfl w2.heap.size v5 _ rfl (HO5.out.below HB6.out) v6 _ rfl HO6.out.bts (by simp only [List.length_append, Cod.le_length]; decide) (Nat.le_trans HK5.out.size HB6.out.size) ?_
    intro v7 w7 hO7 hb7 _
    have HO7 := Lib.hid hO7
    have HK7 := Lib.hid ((HK5.out.trans (HB6.out.mono HK5.out.size)).trans hb7)
    have hrow7 := (HK7.out.block _ (lt_of_block HROW2.out)).trans HROW2.out
    obtain ⟨e0, -, -, -, -, -, -, -, -, -, -, -, -, -, -⟩ := rec_cell hrow7
    obtain ⟨kk, hkk, hk6⟩ : ∃ kk : Nat, x.kind = (kk : Int) ∧ kk < 6 := ⟨x.kind.toNat, by have := Lr.kind_lt HM.out.1; omega, by have := Lr.kind_lt HM.out.1; omega⟩
    rw [hkk] at e0
    have hw8 : IntKind.u8.wrap (kk : Int) = (kk : Int) := by rw [IntKind.wrap_u8]; omega
    have HKK : Hid (_ ∧ _) := ⟨hkk, hk6⟩
    clear hO7 hb7 hrow7 hkk hk6
    go_upto_region 7 with (fail)
    iterate 16 go_step
    refine wpList_append_byte rfl (.tmp 26) (.tmp 30) rfl w2.heap.size v7 _ rfl HO7.out rfl kk (by first | rfl | exact hw8) (by have := HKK.out.2; omega) (by simp only [List.length_append, Cod.le_length]; decide) HK7.out.size ?_
    intro v8 w8 hO8 hb8
    have HO8 := Lib.hid hO8
    have HK8 := Lib.hid (HK7.out.trans hb8)
    clear hO8 hb8 hw8 e0
    go_upto_region 8 with (fail)
    iterate 7 go_step
    refine wpList_append_Own rfl (.tmp 32) (.tmp 33) rfl w2.heap.size v8 _ rfl HO8.out (.slice q2 L k2) (Lr.own x) rfl (HO2.out.bts.below HK8.out) (by rw [← HL.out]; simp only [List.length_append, Cod.le_length, List.length_cons, List.length_nil]; omega) HK8.out.size ?_
    intro v9 w9 hO9 hb9 _
    have HO9 := Lib.hid (show Own w2.heap.size w9 v9 (Lr.rest x) by
      have e : Cod.le 2 (19 + L) ++ Cod.le 8 x.lsn ++ Cod.le 4 x.epoch ++ [kk] ++ Lr.own x = Lr.rest x := by
        unfold Lr.rest Lr.body
        rw [← HL.out, HKK.out.1, Int.toNat_natCast]
        simp only [List.append_assoc, List.cons_append, List.nil_append]
      rw [e] at hO9
      exact hO9)
    have HK9 := Lib.hid (HK8.out.trans hb9)
    clear hO9 hb9
    go_wp2_with fail
    refine (sum_any v9 _ _ HO9.out.bts).mono ?_
    rintro e wa ⟨rfl, hba⟩
    obtain ⟨S, hS⟩ : ∃ S, S = Crc.more 0 (Lr.rest x) := ⟨_, rfl⟩
    rw [← hS]
    have HSS := Lib.hid hS
    have HKa := Lib.hid (HK9.out.trans (hba.mono HK9.out.size))
    have HOa := Lib.hid (HO9.out.below hba)
    clear hS hba
    go_wp2_with fail
    refine (Put32_any (.slice none 0 0) [] S _ (bts_none _) (by decide)).mono ?_
    rintro e wb ⟨vb, rfl, hOb, hbb⟩
    rw [List.nil_append] at hOb
    have HOb := Lib.hid (hOb.from HKa.out.size)
    have HKb := Lib.hid (HKa.out.trans (hbb.mono HKa.out.size))
    have HOab := Lib.hid (HOa.out.below hbb)
    clear hOb hbb
    dsimp only
    iterate 4 go_step
    refine wpList_append_Own rfl (.tmp 37) (.tmp 38) rfl w2.heap.size vb _ rfl HOb.out v9 _ rfl HOab.out.bts (by rw [Cod.le_length, Lr.rest_length, ← HL.out]; omega) HKb.out.size ?_
    intro vc wc hOc hbc _
    rw [HSS.out] at hOc
    have HOc := Lib.hid hOc
    have HKc := Lib.hid (HKb.out.trans hbc)
    clear hOc hbc
    go_wp2_with fail
    go_ret2
    have hsz := Nat.le_trans HB.out.size HB2.out.size
    exact ⟨_, rfl, HOc.out.from hsz, (HB.out.trans (HB2.out.mono HB.out.size)).trans (HKc.out.mono hsz)⟩
  · rw [Lr.ifP_neg hM, Lr.ifP_neg hM]
    go_enter Tryz.func27, Tryz.ntmps27
    go_upto_region 1 with (fail)
    rw [← hW]
    clear hW
    go_step
    refine wpList_load_rec rfl (.tmp 1) rfl w.heap.size rfl _ HROW.out rfl ?_
    go_wp2_with fail
    refine (may_any x _ _ _ _ _ W HA.out HF.out).mono ?_
    rintro e w1 ⟨rfl, hb1⟩
    have HB1 := Lib.hid hb1
    have HROW1 := Lib.hid ((hb1.block _ HS.out).trans HROW.out)
    have HA1 := Lib.hid (HA.out.below hb1)
    clear hb1
    rw [Lr.may_false hM]
    go_wp2_with fail
    go_ret2
    exact ⟨_, rfl, own_nil _ _, HB.out.trans (HB1.out.mono HB.out.size)⟩
end Go.Proofs.YtafpjcobagofcaaGreat

namespace Go.Proofs.YtafpjcobagofcaaGreat
open Go.RowKit

end Go.Proofs.YtafpjcobagofcaaGreat
