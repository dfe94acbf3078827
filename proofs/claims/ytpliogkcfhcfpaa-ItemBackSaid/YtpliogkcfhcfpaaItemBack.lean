/- What the law ItemBack answers, for every record, every cut, every byte more. Conditions: the slices' cells hold what they tell. -/
import Derived.Test.YtpliogkcfhcfpaaItemOnce
import Derived.Test.YtpliogkcfhcfpaaItemRef
namespace Go.Proofs.Ytpliogkcfhcfpaa
open Go.RowKit

theorem Itm.large_no {n m : Nat} (h : Itm.large n m = false) : n ≤ 6000 ∧ m ≤ 4000 := by
  have := of_decide_eq_false h
  omega

set_option maxHeartbeats 3200000 in
set_option maxRecDepth 20000 in
theorem itemBack_any (k : Nat) (vv vm : Value) (v : List Int) (m : List Nat) (cut : Int) (mo : Nat) (w : World) (hI : ItemAt w k vv vm v m) (hmo : mo < 256) :
    Calls Try.prog 6 #[ItemV k vv vm, .int .i64 cut, .int .u8 (mo : Int)] w fun e w' => e = .returned (.bool true) ∧ Below w.heap.size w w' := by
  have HI := Lib.hid hI
  obtain ⟨p1, c1, rfl, -, -, -⟩ := hI.vec.form
  obtain ⟨p2, c2, rfl, -, -, -⟩ := hI.bytes.form
  have l1 := hI.vec.len
  have l2 := hI.bytes.len
  clear hI
  obtain ⟨W, hW⟩ : ∃ W, W = w.alloc (.cells #[.int .u64 (k : Int), .slice p1 v.length c1, .slice p2 m.length c2] 26) := ⟨_, rfl⟩
  have hr : W.heap[w.heap.size]? = some (.cells #[.int .u64 (k : Int), .slice p1 v.length c1, .slice p2 m.length c2] 26 (0, 0)) := by rw [hW]; exact heap_alloc_last _ _
  have hb0 : Below w.heap.size w W := by rw [hW]; exact (Below.refl _ _).alloc (Nat.le_refl _) _
  have HR := Lib.hid hr
  have HB0 := Lib.hid hb0
  have HI0 := Lib.hid (HI.out.below hb0)
  have HWW := Lib.hid hW
  clear hr hb0 hW
  cases hlg : Itm.large v.length m.length
  · obtain ⟨n1, n2⟩ := Itm.large_no hlg
    have HLG := Lib.hid hlg
    clear hlg
    obtain ⟨cu, hcu⟩ : ∃ cu : Nat, cu = (cut % 18446744073709551616).toNat := ⟨_, rfl⟩
    have hwc : IntKind.u64.wrap cut = (cu : Int) := by
      rw [show IntKind.u64.wrap cut = cut % 18446744073709551616 by simp [IntKind.wrap, IntKind.bits, IntKind.signed]]
      omega
    have HCL : Hid (cu < 18446744073709551616) := by show _ < _; omega
    have HWC := Lib.hid hwc
    clear hwc hcu
    go_enter Try.func6, Try.ntmps6
    go_wp2_with fail
    rw [← HWW.out]
    refine (large_any _ _ _ _ _ _ _ _ l1 l2).mono ?_
    rintro e w1 ⟨rfl, hb1⟩
    rw [HLG.out]
    have HR1 := Lib.hid (row3_below HR.out hb1)
    have HI1 := Lib.hid (HI0.out.below hb1)
    have HW1 := Lib.hid hb1
    clear hb1
    have hc0 := cell3_0 HR1.out
    have hc1 := cell3_1 HR1.out
    have hc2 := cell3_2 HR1.out
    go_wp2_with fail
    refine (bytes_any _ _ _ _ _ _ HI1.out).mono ?_
    rintro en w2 ⟨u, rfl, hO2, hb2⟩
    obtain ⟨e, he⟩ : ∃ e, Itm.mayE v.length m.length = e := ⟨_, rfl⟩
    have HE := Lib.hid he
    rw [he] at hO2 ⊢
    have HR2 := Lib.hid (row3_below HR1.out hb2)
    have HI2 := Lib.hid (HI1.out.below hb2)
    have HW2 := Lib.hid (HW1.out.trans (hb2.mono HW1.out.size))
    clear hb2 hc0 hc1 hc2 he
    have hc0 := cell3_0 HR2.out
    have hc1 := cell3_1 HR2.out
    have hc2 := cell3_2 HR2.out
    by_cases hz : e = 0
    · subst hz
      rw [if_pos rfl] at hO2
      obtain ⟨m1, m2, m3⟩ := Itm.may_zero HE.out
      have HCV : Hid (∀ c ∈ v, Itm.Comp c) := fun c hc => comp_of (HI.out.vec.small c hc)
      have HKB := Lib.hid HI.out.key
      have HSM := Lib.hid HI.out.bytes.small
      have HGOOD := Lib.hid (Itm.good_form HKB.out HCV.out m1 m2 m3)
      have hpf := (Itm.parts_form (m := m) [] HKB.out HCV.out m2 m3).1
      rw [List.append_nil] at hpf
      have HPF := Lib.hid hpf
      have HCUT := Lib.hid (fun n hn => Itm.not_good_cut (m := m) HKB.out HCV.out m2 m3 HSM.out n hn)
      have HMORE := Lib.hid (Itm.not_good_more (m := m) HKB.out HCV.out m2 m3 mo)
      have hlen : (Itm.form k v m).length ≤ 100000 := by
        have h1 := Cod.uv_ten (n := v.length) (by omega)
        have h2 := Cod.uv_ten (n := m.length) (by omega)
        rw [Itm.form_length]
        omega
      have hpos : 0 < (Itm.form k v m).length := by rw [Itm.form_length]; omega
      clear hpf
      generalize Itm.form k v m = L at *
      have HO2 := Lib.hid hO2
      obtain ⟨pu, cu2, hu, hcp, -, -⟩ := hO2.bts.form
      subst hu
      clear hO2
      go_wp2_with fail
      refine (read_any _ L _ HO2.out.bts).mono ?_
      rintro en w3 ⟨hb3, hgood, -⟩
      obtain ⟨yv, ym, rfl, hV, hM⟩ := hgood HGOOD.out
      rw [HPF.out] at hV hM ⊢
      have HIY : Hid (ItemAt w3 k yv ym v m) := ⟨HKB.out, hV.bts, hM.bts⟩
      obtain ⟨p3, c3, rfl⟩ := i32own_sl hV
      obtain ⟨p4, c4, rfl⟩ := own_sl hM
      have HBX := Lib.hid ((Below.refl w3.heap.size w3).alloc (Nat.le_refl _) (.cells #[.int .u64 (k : Int), .slice p3 v.length c3, .slice p4 m.length c4] 26))
      have HO3 := Lib.hid ((HO2.out.below hb3).below HBX.out)
      have HR3 := Lib.hid (row3_below (row3_below HR2.out hb3) HBX.out)
      have HI3 := Lib.hid ((HI2.out.below hb3).below HBX.out)
      have HIY3 := Lib.hid (HIY.out.below HBX.out)
      have HW3 := Lib.hid ((HW2.out.trans (hb3.mono HW2.out.size)).trans (HBX.out.mono (Nat.le_trans HW2.out.size hb3.size)))
      have HQ := Lib.hid (heap_alloc_last w3 (.cells #[.int .u64 (k : Int), .slice p3 v.length c3, .slice p4 m.length c4] 26))
      clear hb3 hgood hV hM hc0 hc1 hc2
      go_upto_region 7 with (fail)
      generalize w3.alloc (.cells #[.int .u64 (k : Int), .slice p3 v.length c3, .slice p4 m.length c4] 26) = w4 at *
      have hc0 := cell3_0 HR3.out
      have hc1 := cell3_1 HR3.out
      have hc2 := cell3_2 HR3.out
      have hq0 := cell3_0 HQ.out
      have hq1 := cell3_1 HQ.out
      have hq2 := cell3_2 HQ.out
      go_wp2_with fail
      refine (same_any _ _ _ _ _ _ _ _ _ _ _ HI3.out HIY3.out).mono ?_
      rintro en w5 ⟨rfl, hb5⟩
      rw [Itm.same_self]
      have HO5 := Lib.hid (HO3.out.below hb5)
      have HW5 := Lib.hid (HW3.out.trans (hb5.mono HW3.out.size))
      clear hb5 hc0 hc1 hc2 hq0 hq1 hq2
      obtain ⟨n, hn⟩ : ∃ n, n = cu % L.length := ⟨_, rfl⟩
      have hnl : n < L.length := by rw [hn]; exact Nat.mod_lt _ hpos
      have hmod : (cu : Int) % (L.length : Int) = (n : Int) := by rw [hn]; exact (Int.natCast_emod _ _).symm
      have HMOD := Lib.hid hmod
      have HNL := Lib.hid hnl
      clear hn hmod
      have hwc := HWC.out
      have hmod := HMOD.out
      go_upto_region 10 with (fail)
      have hncap : n ≤ cu2 := by omega
      clear hwc hmod
      go_wp2_with fail
      refine (read_any _ (L.take n) _ (HO5.out.bts.take n (Nat.le_of_lt hnl))).mono ?_
      rintro en w6 ⟨hb6, -, hnone⟩
      obtain rfl := hnone (HCUT.out n hnl)
      have HO6 := Lib.hid (HO5.out.below hb6)
      have HW6 := Lib.hid (HW5.out.trans (hb6.mono HW5.out.size))
      clear hb6 hnone
      go_upto_region 11 with (fail)
      have HBX2 := Lib.hid ((Below.refl w6.heap.size w6).alloc (Nat.le_refl _) (.cells #[.int .u64 0, .slice none 0 0, .slice none 0 0] 26))
      generalize w6.alloc (.cells #[.int .u64 0, .slice none 0 0, .slice none 0 0] 26) = w7 at *
      have HO7 := Lib.hid (HO6.out.below HBX2.out)
      have HW7 := Lib.hid (HW6.out.trans (HBX2.out.mono HW6.out.size))
      have HOE := Lib.hid (own_empty w7 w7.heap.size 0 #[] (Nat.le_refl _) (Nat.zero_le _) rfl)
      have HWE : Hid (Below w7.heap.size w7 (w7.alloc (.cells #[] 5))) := (Below.refl _ _).alloc (Nat.le_refl _) _
      clear hncap hnl
      iterate 7 go_step
      refine wpList_append_Own rfl (.tmp 61) (.tmp 62) rfl w7.heap.size _ [] rfl HOE.out _ L rfl (HO7.out.bts.below HWE.out) (by simp; omega) HWE.out.size ?_
      intro v8 w8 hO8 hb8 _
      rw [List.nil_append] at hO8
      have HO8 := Lib.hid hO8
      have HW8 := Lib.hid (HWE.out.trans hb8)
      clear hO8 hb8
      iterate 6 go_step
      refine wpList_append_byte rfl (.tmp 63) (.tmp 65) rfl w7.heap.size _ L rfl HO8.out rfl mo rfl hmo (by omega) HW8.out.size ?_
      intro v9 w9 hO9 hb9
      have HMORE := HMORE.out
      generalize L ++ [mo] = L2 at hO9 HMORE
      have HMORE := Lib.hid HMORE
      have HO9 := Lib.hid hO9
      have HW9 := Lib.hid (HW7.out.trans ((HW8.out.trans hb9).mono HW7.out.size))
      obtain ⟨p9, c9, rfl⟩ := own_sl hO9
      clear hO9 hb9
      go_wp2_with fail
      refine (read_any _ L2 _ HO9.out.bts).mono ?_
      rintro en w10 ⟨hb10, -, hnone⟩
      obtain rfl := hnone HMORE.out
      have HW10 := Lib.hid (HW9.out.trans (hb10.mono HW9.out.size))
      clear hb10 hnone
      go_upto_region 12 with (fail)
      have HBX3 := Lib.hid ((Below.refl w10.heap.size w10).alloc (Nat.le_refl _) (.cells #[.int .u64 0, .slice none 0 0, .slice none 0 0] 26))
      generalize w10.alloc (.cells #[.int .u64 0, .slice none 0 0, .slice none 0 0] 26) = w11 at *
      have HW11 := Lib.hid (HW10.out.trans (HBX3.out.mono HW10.out.size))
      go_wp2_with fail
      refine (known_any _).mono ?_
      rintro en w12 ⟨rfl, hb12⟩
      have HW12 := Lib.hid (HW11.out.trans (hb12.mono HW11.out.size))
      clear hb12
      go_wp2_with fail
      go_ret
      exact ⟨rfl, HB0.out.trans (HW12.out.mono HB0.out.size)⟩
    · obtain ⟨pu, cu2, rfl⟩ := own_sl hO2
      have hne : ((e : Nat) : Int) ≠ 0 := by omega
      have hne2 : ((e : Int) != 0) = true := by simp; omega
      have hne3 : ((e : Int) == 0) = false := by simp; omega
      have hee : ((e : Int) == (e : Int)) = true := by simp
      clear hz hO2
      go_wp2_with fail
      refine (may_any _ _ _ _ _ _ _ _ l1 l2).mono ?_
      rintro en w3 ⟨rfl, hb3⟩
      rw [HE.out]
      have HW3 := Lib.hid (HW2.out.trans (hb3.mono HW2.out.size))
      clear hb3 hc0 hc1 hc2
      go_wp2_with fail
      refine (known_any _).mono ?_
      rintro en w4 ⟨rfl, hb4⟩
      have HW4 := Lib.hid (HW3.out.trans (hb4.mono HW3.out.size))
      clear hb4
      go_wp2_with fail
      go_ret
      exact ⟨rfl, HB0.out.trans (HW4.out.mono HB0.out.size)⟩
  · have HLG := Lib.hid hlg
    clear hlg
    go_enter Try.func6, Try.ntmps6
    go_wp2_with fail
    rw [← HWW.out]
    refine (large_any _ _ _ _ _ _ _ _ l1 l2).mono ?_
    rintro e w1 ⟨rfl, hb1⟩
    rw [HLG.out]
    have HW1 := Lib.hid (HB0.out.trans (hb1.mono HB0.out.size))
    clear hb1
    go_wp2_with fail
    refine (known_any _).mono ?_
    rintro e w2 ⟨rfl, hb2⟩
    have HW2 := Lib.hid (HW1.out.trans (hb2.mono HW1.out.size))
    clear hb2
    go_wp2_with fail
    go_ret
    exact ⟨rfl, HW2.out⟩
end Go.Proofs.Ytpliogkcfhcfpaa
