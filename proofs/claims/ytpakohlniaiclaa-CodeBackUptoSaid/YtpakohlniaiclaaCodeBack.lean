/- What was put is read again, whatever is behind it; and cut anywhere it is told. Conditions: the slices' cells hold the bytes; the room. -/
import Derived.Test.YtpakohlniaiclaaCodeKnown
namespace Go.Proofs.Ytpakohlniaiclaa
open Go.RowKit

namespace Cod
theorem rd_fixed (k m : Nat) (t : List Nat) : rdNum k (le k m ++ t) 0 = (m % 256 ^ k, t, 0) := by
  unfold rdNum
  have hl := le_length k m
  rw [if_neg (by decide), if_neg (by simp; omega)]
  rw [List.take_append_of_le_length (by omega), List.drop_append_of_le_length (by omega), List.take_of_length_le (by omega), List.drop_of_length_le (by omega), num_le]
  rfl

theorem rd_uv {n : Nat} (h : n < 18446744073709551616) (t : List Nat) : rdUv (uv n ++ t) 0 = (n, t, 0) := by
  unfold rdUv
  rw [if_neg (by decide), cnt_of_uv t h]
  have hp := uv_pos n
  rw [if_neg (by show ¬ (uv n).length = 0; omega)]
  simp

theorem rd_text {s : List Nat} (h : s.length < 18446744073709551616) (t : List Nat) : rdText (s.length : Nat) ((uv s.length ++ s) ++ t) 0 = (s, t, 0) := by
  unfold rdText
  rw [List.append_assoc, if_neg (by decide), cnt_of_uv (s ++ t) h]
  have hp := uv_pos s.length
  simp only []
  rw [if_neg (by omega), if_neg (by omega), if_neg (by simp)]
  simp

/-- A form cut anywhere is told. -/
theorem cut_told (m n : Nat) (s : List Nat) (k : Nat) (hn : n < 18446744073709551616) (hs : s.length < 18446744073709551616) (hk : k < ((le 2 m ++ uv n) ++ (uv s.length ++ s)).length) :
    (rdText (s.length : Nat) (rdUv (rdNum 2 (((le 2 m ++ uv n) ++ (uv s.length ++ s)).take k) 0).2.1 (rdNum 2 (((le 2 m ++ uv n) ++ (uv s.length ++ s)).take k) 0).2.2).2.1 (rdUv (rdNum 2 (((le 2 m ++ uv n) ++ (uv s.length ++ s)).take k) 0).2.1 (rdNum 2 (((le 2 m ++ uv n) ++ (uv s.length ++ s)).take k) 0).2.2).2.2).2.2 = 4 := by
  have hl := le_length 2 m
  have hk' := hk
  simp only [List.length_append, hl] at hk'
  have uverr : ∀ l, rdUv l 4 = (0, l, 4) := fun l => by unfold rdUv; rw [if_pos (by decide)]
  have txerr : ∀ l, rdText (s.length : Nat) l 4 = ([], l, 4) := fun l => by unfold rdText; rw [if_pos (by decide)]
  by_cases h2 : k < 2
  · have e : rdNum 2 (((le 2 m ++ uv n) ++ (uv s.length ++ s)).take k) 0 = (0, ((le 2 m ++ uv n) ++ (uv s.length ++ s)).take k, 4) := by
      unfold rdNum
      rw [if_neg (by decide), if_pos (by rw [List.length_take]; omega)]
    rw [e, uverr, txerr]
  · obtain ⟨k2, rfl⟩ : ∃ k2, k = 2 + k2 := ⟨k - 2, by omega⟩
    have e0 : ((le 2 m ++ uv n) ++ (uv s.length ++ s)).take (2 + k2) = le 2 m ++ (uv n ++ (uv s.length ++ s)).take k2 := by
      rw [List.append_assoc]
      have := List.take_length_add_append (l₁ := le 2 m) (l₂ := uv n ++ (uv s.length ++ s)) k2
      rwa [hl] at this
    rw [e0, rd_fixed]
    simp only []
    by_cases h3 : k2 < (uv n).length
    · have e1 : rdUv ((uv n ++ (uv s.length ++ s)).take k2) 0 = (0, (uv n ++ (uv s.length ++ s)).take k2, 4) := by
        unfold rdUv
        rw [if_neg (by decide), List.take_append_of_le_length (by omega), cnt_cut n 0 k2 h3, if_pos rfl]
      rw [e1, txerr]
    · obtain ⟨k3, rfl⟩ : ∃ k3, k2 = (uv n).length + k3 := ⟨k2 - (uv n).length, by omega⟩
      rw [List.take_length_add_append, rd_uv hn]
      simp only []
      unfold rdText
      rw [if_neg (by decide)]
      by_cases h4 : k3 < (uv s.length).length
      · rw [List.take_append_of_le_length (by omega), cnt_cut s.length 0 k3 h4, if_pos rfl]
      · obtain ⟨k4, rfl⟩ : ∃ k4, k3 = (uv s.length).length + k4 := ⟨k3 - (uv s.length).length, by omega⟩
        rw [List.take_length_add_append, cnt_of_uv _ hs]
        have hp := uv_pos s.length
        simp only []
        rw [if_neg (by omega), if_neg (by omega), if_pos (by simp; omega)]
end Cod

set_option maxHeartbeats 3200000 in
set_option maxRecDepth 20000 in
theorem back_any (v1 v2 : Value) (s b : List Nat) (n : Nat) (w : World) (hS : Bts w v1 s) (hB : Bts w v2 b) (hn : n < 18446744073709551616) (hs : s.length ≤ 1048576) (hb : b.length ≤ 1048576) :
    Calls Try.prog 6 #[v1, v2, .int .u64 (n : Int)] w fun e w' => e = .returned (.bool true) ∧ Below w.heap.size w w' := by
  have HS := Lib.hid hS
  have HB := Lib.hid hB
  have HN := Lib.hid hn
  obtain ⟨p1, cap1, rfl, -, -, -⟩ := hS.form
  obtain ⟨p2, cap2, rfl, -, -, -⟩ := hB.form
  have hU1 := Cod.uv_ten hn
  have hU2 := Cod.uv_ten (n := s.length) (by omega)
  have HNIL := Lib.hid (own_nil w.heap.size w).bts
  clear hS hB hn
  obtain ⟨m, hm⟩ : ∃ m, m = n % 65536 := ⟨_, rfl⟩
  have hm2 : m < 65536 := by omega
  have hwr : IntKind.u16.wrap (n : Int) = (m : Int) := by
    rw [show IntKind.u16.wrap (n : Int) = (n : Int) % 65536 by simp [IntKind.wrap, IntKind.bits, IntKind.signed]]
    omega
  have HM := Lib.hid hm
  clear hm
  have hle := Cod.le_length 2 m
  have HL : Hid (((Cod.le 2 m ++ Cod.uv n) ++ (Cod.uv s.length ++ s)).length ≤ 1048610) := by
    show _ ≤ _
    simp only [List.length_append, hle]
    omega
  have HE := Lib.hid hle
  clear hle
  go_enter Try.func6, Try.ntmps6
  go_wp2_with fail
  refine (Put16_any _ [] m _ HNIL.out (by decide)).mono ?_
  rintro e w1 ⟨x1, rfl, hO1, hb1⟩
  rw [List.nil_append] at hO1
  have HO1 := Lib.hid hO1
  have HW1 := Lib.hid hb1
  clear hO1 hb1
  go_wp2_with fail
  refine (PutUv_any _ _ n _ HO1.out.bts HN.out (by have := HE.out; omega)).mono ?_
  rintro e w2 ⟨x2, rfl, hO2, hb2⟩
  have HO2 := Lib.hid hO2
  have HW2 := Lib.hid (HW1.out.trans (hb2.mono HW1.out.size))
  clear hO2 hb2
  go_wp2_with fail
  refine (PutText_any _ _ _ s _ HO2.out.bts (HS.out.below HW2.out) (by have := HE.out; simp only [List.length_append]; omega)).mono ?_
  rintro e w3 ⟨x3, rfl, hO3, hb3⟩
  have HW3 := Lib.hid (HW2.out.trans (hb3.mono HW2.out.size))
  obtain ⟨L, hL⟩ : ∃ L, L = (Cod.le 2 m ++ Cod.uv n) ++ (Cod.uv s.length ++ s) := ⟨_, rfl⟩
  rw [← hL] at hO3 HL
  have HO3 := Lib.hid (hO3.from HW2.out.size)
  have HLE := Lib.hid hL
  have hLl := HL.out
  clear hO3 hb3 hL HO1 HO2 HW1
  obtain ⟨p3, cap3, rfl, hr3, -, -⟩ := HO3.out.bts.form
  have hcap3 := hr3.1
  have hcap3b := hr3.2
  have HOE := Lib.hid (own_empty w3 w3.heap.size 0 #[] (Nat.le_refl _) (Nat.zero_le _) rfl)
  have HWE : Hid (Below w3.heap.size w3 (w3.alloc (.cells #[] 5))) := (Below.refl _ _).alloc (Nat.le_refl _) _
  clear hr3
  go_upto_region 2 with (fail)
  iterate 7 go_step
  refine wpList_append_Own rfl (.tmp 21) (.tmp 22) rfl w3.heap.size _ [] rfl HOE.out _ L rfl (HO3.out.bts.below ((Below.refl _ _).alloc (Nat.le_refl _) _)) (by simp; omega) (by simp) ?_
  intro v4 w4 hO4 hb4 _
  rw [List.nil_append] at hO4
  have HO4 := Lib.hid hO4
  have HW4 := Lib.hid (HWE.out.trans hb4)
  have HB4 := Lib.hid (HB.out.below (HW3.out.trans (HW4.out.mono HW3.out.size)))
  clear hO4 hb4
  iterate 3 go_step
  refine wpList_append_Own rfl (.tmp 23) (.tmp 24) rfl w3.heap.size _ L rfl HO4.out _ b rfl HB4.out (by omega) HW4.out.size ?_
  intro v5 w5 hO5 hb5 _
  have HO5 := Lib.hid hO5
  have HW5 := Lib.hid (HW4.out.trans hb5)
  clear hO5 hb5
  go_wp2_with fail
  refine (newReader_any _ _ _ HO5.out.bts).mono ?_
  rintro e w6 ⟨B, rfl, hR6, hB6, hb6⟩
  have HBB := Lib.hid (Nat.le_trans (Nat.le_trans HW3.out.size HW5.out.size) hB6)
  have HW6 := Lib.hid (HW3.out.trans ((HW5.out.trans (hb6.mono HW5.out.size)).mono HW3.out.size))
  have HO6 := Lib.hid ((HO3.out.below HW5.out).below hb6)
  have HNE : Hid ((Value.slice p3 L.length cap3).ownBlock = none ∨ (Value.slice p3 L.length cap3).ownBlock ≠ some B) := by
    right
    intro h
    have h1 := (World.ownsRow.lt HO3.out.own B h).2
    have h2 := HW5.out.size
    omega
  rw [HLE.out, List.append_assoc, List.append_assoc] at hR6
  have HR6 := Lib.hid hR6
  generalize (fun b => w5.heap.size ≤ b ∧ b < B) = lo at HR6
  clear hR6 hB6 hb6 HO4 HO5 HB4 HWE HOE
  go_wp2_with fail
  refine (U16_any _ _ _ _ _ HR6.out).mono ?_
  rintro e w7 ⟨rfl, hR7, hg7⟩
  rw [Cod.rd_fixed] at hR7 ⊢
  rw [show m % 256 ^ 2 = m from Nat.mod_eq_of_lt hm2]
  have HR7 := Lib.hid hR7
  have HW7 := Lib.hid (below_grown HW6.out hg7 HW6.out.size HBB.out)
  have HO7 := Lib.hid (hg7)
  clear hR7 hg7
  go_wp2_with fail
  refine (Uv_any _ _ _ _ _ HR7.out).mono ?_
  rintro e w8 ⟨rfl, hR8, hg8⟩
  rw [Cod.rd_uv HN.out] at hR8 ⊢
  have HR8 := Lib.hid hR8
  have HW8 := Lib.hid (below_grown HW7.out hg8 HW7.out.size HBB.out)
  have HG8 := Lib.hid (grownBy_trans HO7.out hg8)
  clear hR8 hg8
  go_wp2_with fail
  refine (Text_any _ _ _ _ _ _ HR8.out (by omega)).mono ?_
  rintro e w9 ⟨v9, rfl, hT9, hR9, hg9⟩
  rw [Cod.rd_text (by omega)] at hR9 hT9
  have HR9 := Lib.hid hR9
  have HT9 := Lib.hid hT9
  have HW9 := Lib.hid (below_grown HW8.out hg9 HW8.out.size HBB.out)
  have HG9 := Lib.hid (grownBy_trans HG8.out hg9)
  clear hR9 hg9 hT9
  have hc1 := strOf_conv HT9.out.bts
  have hc2 := strOf_conv (HS.out.below HW9.out)
  obtain ⟨p9, cap9, rfl, -, -, -⟩ := HT9.out.bts.form
  go_wp2_with fail
  refine (err_any _ _ _ _ _ HR9.out).mono ?_
  rintro e w' ⟨rfl, rfl⟩
  go_wp2_with fail
  refine (left_any _ _ _ _ _ HR9.out).mono ?_
  rintro e w' ⟨rfl, rfl⟩
  have HO9 := Lib.hid ((HO6.out.grown HG9.out HNE.out).bts)
  clear hc1 hc2 HT9 HR9 HG9 HW8 HG8 HR8 HO7 HW7 HR7 HR6 HO6 HW6 HW5 HW4 HO3 HW3 HW2 HNE HBB
  go_wp2_with fail
  go_loopw [12] (fun i wr => ∃ k : Nat, k ≤ L.length ∧ k ≤ 40 ∧ i = .int .i64 k ∧ Below w9.heap.size w9 wr) (fun i _ => 40 - (intOf i).toNat)
  case atStart => exact ⟨0, Nat.zero_le _, Nat.zero_le _, rfl, Below.refl _ _⟩
  case round =>
    obtain ⟨k, hk, hk40, rfl, hb9⟩ := hrel
    have HWR := Lib.hid hb9
    clear hb9
    by_cases hlt : k < L.length ∧ k < 40
    · obtain ⟨hlt1, hlt2⟩ := hlt
      obtain ⟨j, hj⟩ : ∃ j, j = L.length - 1 - k := ⟨_, rfl⟩
      have hjl : j < L.length := by omega
      have hje : (L.length : Int) - 1 - (k : Int) = (j : Int) := by omega
      have HT := Lib.hid ((HO9.out.below HWR.out).take j (by omega))
      clear hj
      go_wp2_with fail
      refine (newReader_any _ _ _ HT.out).mono ?_
      rintro e x1 ⟨B1, rfl, hR1, hB1, hx1⟩
      have HX1 := Lib.hid (HWR.out.trans (hx1.mono HWR.out.size))
      have HBB := Lib.hid (Nat.le_trans HWR.out.size hB1)
      have HR1 := Lib.hid hR1
      generalize (fun b => wr.heap.size ≤ b ∧ b < B1) = lo1 at HR1
      clear hR1 hB1 hx1
      go_wp2_with fail
      refine (U16_any _ _ _ _ _ HR1.out).mono ?_
      rintro e x2 ⟨rfl, hR2, hg2⟩
      have HR2 := Lib.hid hR2
      have HX2 := Lib.hid (below_grown HX1.out hg2 HX1.out.size HBB.out)
      clear hR2 hg2
      go_wp2_with fail
      refine (Uv_any _ _ _ _ _ HR2.out).mono ?_
      rintro e x3 ⟨rfl, hR3, hg3⟩
      have HR3 := Lib.hid hR3
      have HX3 := Lib.hid (below_grown HX2.out hg3 HX2.out.size HBB.out)
      clear hR3 hg3
      go_wp2_with fail
      refine (Text_any _ _ _ _ _ _ HR3.out (by omega)).mono ?_
      rintro e x4 ⟨v4, rfl, -, hR4, hg4⟩
      have hcut := Cod.cut_told m n s j HN.out (by omega) (by rw [← HLE.out]; exact hjl)
      rw [← HLE.out] at hcut
      rw [hcut] at hR4
      have HR4 := Lib.hid hR4
      have HX4 := Lib.hid (below_grown HX3.out hg4 HX3.out.size HBB.out)
      clear hR4 hg4 hcut
      go_wp2_with fail
      refine (err_any _ _ _ _ _ HR4.out).mono ?_
      rintro e w' ⟨rfl, rfl⟩
      go_wp2_with fail
      go_roundw
      case rel => exact ⟨k + 1, by omega, by omega, by go_num, HX4.out⟩
      case measure => simp [intOf]; omega
    · have hend : ¬ (k : Int) < (L.length : Int) ∨ ¬ (k : Int) < 40 := by omega
      go_wp2_with fail
      all_goals
        refine (known_any _).mono ?_
        rintro e x1 ⟨rfl, hx1⟩
        have HX1 := Lib.hid (HW9.out.trans ((HWR.out.trans (hx1.mono HWR.out.size)).mono HW9.out.size))
        clear hx1
        go_wp2_with fail
        go_ret
        exact ⟨rfl, HX1.out⟩
end Go.Proofs.Ytpakohlniaiclaa
