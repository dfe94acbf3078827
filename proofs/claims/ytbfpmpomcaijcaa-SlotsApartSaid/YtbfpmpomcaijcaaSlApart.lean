/- What the law SlotsApart answers, for every body and bytes. Conditions: the values read as a body and bytes. -/
import Derived.Test.YtbfpmpomcaijcaaSlLarge
namespace Go.Proofs.Ytbfpmpomcaijcaa
open Go.RowKit

namespace Sl
theorem May.insA {s : S} (hs : May s) (b : List Nat) (h : took (ins s b) ≤ 500) : May (ins s b) := by
  have hl := ins_len hs b
  have hmost : (ins s b).full.length ≤ 247 := by unfold took at h; omega
  refine ⟨hl.1, hmost, ?_, ?_, h⟩
  · intro h0
    unfold ins fa
    split
    · simp [List.getD_eq_getElem?_getD]
    · next hne =>
      have hlt : free s.full < s.full.length := by have := free_le s.full; omega
      simp only [List.length_set]
      by_cases e : free s.full = s.full.length - 1
      · rw [← e]; exact getD_set_self _ _ hlt
      · rw [getD_set_ne _ _ _ e]; exact hs.last (by omega)
  · intro i hi hf
    revert hi hf
    unfold ins fa da
    split
    · next he =>
      intro hi hf
      simp only [List.length_append, List.length_singleton] at hi
      by_cases e : i < s.full.length
      · have e1 : (s.full ++ [true]).getD i false = s.full.getD i false := by simp only [List.getD_eq_getElem?_getD]; rw [List.getElem?_append_left e]
        have e2 : (s.data ++ [b]).getD i [] = s.data.getD i [] := by simp only [List.getD_eq_getElem?_getD]; rw [List.getElem?_append_left (by rw [← hs.len]; exact e)]
        simp only [] at hf ⊢
        rw [e1] at hf
        rw [e2]
        exact hs.none i e hf
      · obtain rfl : i = s.full.length := by omega
        simp [List.getD_eq_getElem?_getD] at hf
    · next he =>
      intro hi hf
      simp only [List.length_set] at hi
      have hlt : free s.full < s.full.length := by have := free_le s.full; omega
      by_cases e : free s.full = i
      · subst e
        simp only [] at hf
        rw [getD_set_self _ _ hlt] at hf; cases hf
      · simp only [] at hf ⊢
        rw [getD_set_ne _ _ _ e] at hf ⊢
        exact hs.none i hi hf
theorem ins_fa {s : S} (hs : May s) (b : List Nat) : free s.full < (ins s b).full.length ∧ fa (ins s b) (free s.full) = true ∧ da (ins s b) (free s.full) = b := by
  have h1 := free_le s.full
  have h2 := hs.len
  unfold ins fa da
  split
  · next h =>
    refine ⟨by simp; omega, ?_, ?_⟩
    · rw [h]; simp [List.getD_eq_getElem?_getD]
    · rw [h, h2]; simp [List.getD_eq_getElem?_getD]
  · next h => exact ⟨by simp; omega, getD_set_self _ _ (by omega), getD_set_self _ _ (by omega)⟩
theorem ins_ne {s : S} (hs : May s) (b : List Nat) {i : Nat} (hi : i < (ins s b).full.length) (hne : i ≠ free s.full) : i < s.full.length ∧ fa (ins s b) i = fa s i ∧ da (ins s b) i = da s i := by
  have h1 := free_le s.full
  have h2 := hs.len
  revert hi
  unfold ins fa da
  split
  · next h =>
    intro hi
    simp only [List.length_append, List.length_singleton] at hi
    have hlt : i < s.full.length := by omega
    refine ⟨hlt, ?_, ?_⟩
    · simp only [List.getD_eq_getElem?_getD]; rw [List.getElem?_append_left hlt]
    · simp only [List.getD_eq_getElem?_getD]; rw [List.getElem?_append_left (by omega)]
  · next h =>
    intro hi
    simp only [List.length_set] at hi
    exact ⟨hi, getD_set_ne _ _ _ (Ne.symm hne), getD_set_ne _ _ _ (Ne.symm hne)⟩
theorem get_at {s : S} (hs : May s) {b : List Nat} (ht : May (ins s b)) : getR (ins s b) (free s.full : Nat) = (b, 0) ∧ getR s (free s.full : Nat) = ([], 7) := by
  obtain ⟨h1, h2, h3⟩ := ins_fa hs b
  constructor
  · unfold getR
    rw [ifP_pos ht, ifP_pos ⟨by omega, by omega, by rw [Int.toNat_natCast]; exact h2⟩, Int.toNat_natCast, h3]
  · unfold getR
    rw [ifP_pos hs, ifP_neg (fun hh => by
      have h4 := hh.2.2
      rw [Int.toNat_natCast] at h4
      have h5 : fa s (free s.full) = false := free_at _
      rw [h5] at h4; cases h4)]
theorem get_ne {s : S} (hs : May s) {b : List Nat} (ht : May (ins s b)) {i : Nat} (hi : i < (ins s b).full.length) (hne : i ≠ free s.full) : getR (ins s b) (i : Nat) = getR s (i : Nat) := by
  obtain ⟨h1, h2, h3⟩ := ins_ne hs b hi hne
  unfold getR
  rw [ifP_pos ht, ifP_pos hs]
  have hiff : has (ins s b) (i : Nat) ↔ has s (i : Nat) := by
    unfold has
    rw [Int.toNat_natCast, h2]
    constructor
    · intro h; exact ⟨by omega, by omega, h.2.2⟩
    · intro h; exact ⟨by omega, by omega, h.2.2⟩
  by_cases hh : has s (i : Nat)
  · rw [ifP_pos hh, ifP_pos (hiff.2 hh), Int.toNat_natCast, h3]
  · rw [ifP_neg hh, ifP_neg (fun h => hh (hiff.1 h))]
end Sl

/-- What was put in and taken out: what the operations left. -/
def ApF (bl rt rs : Nat) (mv uv sv tv : Value) (i : Nat) (v : Value) (_ : World) : Prop :=
  match i with
  | 0 => v = .int .i64 0
  | 1 => v = .bool true
  | 2 => v = .bool true
  | 3 => v = uv
  | 4 => v = sv
  | 5 => v = .bool true
  | 6 => v = .bool true
  | 7 => v = .bool true
  | 8 => v = uv
  | 9 => v = .int .i64 (rs : Int)
  | 10 => v = sv
  | 11 => v = .int .i64 (rs : Int)
  | 12 => v = .bool true
  | 13 => v = .bool true
  | 14 => v = .bool true
  | 15 => v = tv
  | 16 => v = .int .i64 (rt : Int)
  | 17 => v = sv
  | 18 => v = .int .i64 (rs : Int)
  | 19 => v = mv
  | 20 => v = .int .i64 (bl : Int)
  | 21 => v = .int .i64 ((rs : Int) - (bl : Int))
  | 22 => v = .bool true
  | 23 => v = .bool true
  | 24 => v = .bool true
  | 25 => v = .bool true
  | 26 => v = .bool true
  | 27 => v = .bool true
  | _ => True

set_option maxHeartbeats 2400000 in
set_option maxRecDepth 20000 in
theorem slotsApart_any (A : SlApi) (fv dv m : Value) (s : Sl.S) (b : List Nat) (w : World) (h : SlAt w fv dv s) (hB : Bts w m b) :
    Calls Try.prog 6 #[SlV s.kind s.next fv dv, m] w fun e w' => e = .returned (.bool true) ∧ Below w.heap.size w w' := by
  have HA := Lib.hid A
  obtain ⟨pm, cm, rfl, -, -, -⟩ := hB.form
  have hbl := hB.len
  obtain ⟨p1, c1, p2, c2, rfl, rfl⟩ := slv_slices h
  obtain ⟨W, hW⟩ : ∃ W, W = w.alloc (sobj s.kind s.next (.slice p1 s.full.length c1) (.slice p2 s.data.length c2)) := ⟨_, rfl⟩
  have hb0 : Below w.heap.size w W := by rw [hW]; exact below_new _ _
  have hrow := sblk w s.kind s.next (.slice p1 s.full.length c1) (.slice p2 s.data.length c2)
  rw [← hW] at hrow
  obtain ⟨q0, q1, q2, q3⟩ := four_cell hrow
  unfold sobj at hW
  have HB0 := Lib.hid hb0
  have HROW := Lib.hid hrow
  have HS := Lib.hid (h.below hb0)
  have HM := Lib.hid (hB.below hb0)
  have HLG := Lib.hid (large_any _ _ s W HS.out)
  have HBL := Lib.hid hbl
  clear hb0 hrow h hB hbl
  go_enter Try.func6, Try.ntmps6
  go_upto_region 1 with (fail)
  rw [← hW]
  clear hW
  obtain ⟨P, hP⟩ : ∃ P, P = w.heap.size := ⟨_, rfl⟩
  rw [← hP] at q0 q1 q2 q3 HROW ⊢
  clear hP
  go_wp2_with fail
  refine HLG.out.mono ?_
  rintro e w2 ⟨r, rfl, hsm, hb2⟩
  have HB2 := Lib.hid hb2
  clear HLG hb2 q0 q1 q2 q3
  have HBW : Hid (Below w.heap.size w w2) := HB0.out.trans (HB2.out.mono HB0.out.size)
  cases r with
  | true =>
    clear hsm
    go_wp2_with fail
    refine (known_any HA.out _).mono ?_
    rintro e wk ⟨rfl, hbk⟩
    have HBK := Lib.hid ((HBW.out).trans (hbk.mono (HBW.out).size))
    clear hbk
    go_wp2_with fail
    go_ret
    exact ⟨rfl, HBK.out⟩
  | false =>
    have HSM := Lib.hid (hsm rfl)
    clear hsm
    have hx2 := HB2.out.block P (lt_of_block HROW.out)
    rw [HROW.out] at hx2
    have HX2 := Lib.hid hx2
    obtain ⟨q0, q1, q2, q3⟩ := four_cell hx2
    have HS2 := Lib.hid (HS.out.below HB2.out)
    have HM2 := Lib.hid (HM.out.below HB2.out)
    clear hx2
    by_cases hb1 : b.length ≤ 1000
    · have hi1 : ¬ (1000 : Int) < (b.length : Int) := by omega
      have HB1 := Lib.hid hb1
      clear hb1
      go_wp2_with fail
      refine (HA.out.may HS2.out HSM.out).mono ?_
      rintro e w3 ⟨rfl, hb3⟩
      have HB3 := Lib.hid hb3
      have HBW3 := Lib.hid (HBW.out.trans (hb3.mono HBW.out.size))
      have hx3 := hb3.block P (lt_of_block HX2.out)
      rw [HX2.out] at hx3
      have HX3 := Lib.hid hx3
      have HS3 := Lib.hid (HS2.out.below hb3)
      have HM3 := Lib.hid (HM2.out.below hb3)
      clear hb3 hx3 q0 q1 q2 q3
      by_cases hmy : Sl.May s
      · have HMY := Lib.hid hmy
        rw [Sl.may_true hmy]
        obtain ⟨q0, q1, q2, q3⟩ := four_cell HX3.out
        clear hmy
        have htk := Sl.took_ins HMY.out b
        have hft := HMY.out.fit
        have hin := HA.out.insert HS3.out HSM.out HM3.out HB1.out
        by_cases hmi : Sl.May (Sl.ins s b)
        · have hv : Sl.insR s b = (Sl.ins s b, Sl.free s.full, 0) := by
            unfold Sl.insR
            rw [Sl.ifP_pos HMY.out, Sl.ifP_pos hmi]
          rw [hv] at hin
          obtain ⟨t, ht⟩ : ∃ t, t = Sl.ins s b := ⟨_, rfl⟩
          obtain ⟨at_, hat⟩ : ∃ at_, at_ = Sl.free s.full := ⟨_, rfl⟩
          have HNU : Hid (500 - Sl.took t ≤ 500 - Sl.took s - b.length ∧ b.length ≤ 500 - Sl.took s) := by
            have h1 := hmi.fit
            rw [ht]
            exact ⟨by omega, by omega⟩
          have HGA : Hid (Sl.getR t at_ = (b, 0) ∧ Sl.getR s at_ = ([], 7)) := by rw [ht, hat]; exact Sl.get_at HMY.out hmi
          have HGN : Hid (∀ i, i < t.full.length → i ≠ at_ → Sl.getR t (i : Nat) = Sl.getR s (i : Nat)) := fun i h1 h2 => by
            rw [ht] at h1 ⊢
            rw [hat] at h2
            exact Sl.get_ne HMY.out hmi h1 h2
          have HDE : Hid (Sl.delR t at_ = (s, 0)) := by
            obtain ⟨h1, h2, -⟩ := Sl.ins_fa HMY.out b
            show _ = _
            rw [ht, hat]
            unfold Sl.delR
            rw [Sl.ifP_pos hmi, Sl.ifP_pos ⟨by omega, by omega, by rw [Int.toNat_natCast]; exact h2⟩, Int.toNat_natCast, Sl.del_ins HMY.out]
          rw [← ht, ← hat] at hin
          rw [← ht] at hmi
          have HMT := Lib.hid hmi
          have HTL : Hid (t.full.length ≤ 247) := hmi.most
          have HIN := Lib.hid hin
          have HMYS : Hid (at_ ≤ 4000) := by show at_ ≤ _; rw [hat]; exact Nat.le_trans (Sl.free_le _) HSM.out.f
          clear htk hft hin hmi hv ht hat
          go_wp2_with fail
          refine HIN.out.mono ?_
          rintro e w5 ⟨f5, d5, rfl, hs5, hb5⟩
          obtain ⟨p5, c5, p6, c6, rfl, rfl⟩ := slv_slices hs5
          obtain ⟨w6, hw6⟩ : ∃ w6, w6 = w5.alloc (sobj t.kind t.next (.slice p5 t.full.length c5) (.slice p6 t.data.length c6)) := ⟨_, rfl⟩
          have hb6 : Below w5.heap.size w5 w6 := by rw [hw6]; exact below_new _ _
          have hb36 : Below w3.heap.size w3 w6 := hb5.trans (hb6.mono hb5.size)
          have ht6 := sblk w5 t.kind t.next (.slice p5 t.full.length c5) (.slice p6 t.data.length c6)
          rw [← hw6] at ht6
          have hx6 := hb36.block P (lt_of_block HX3.out)
          rw [HX3.out] at hx6
          have HX6 := Lib.hid hx6
          obtain ⟨X, hX⟩ : ∃ X, X = w5.heap.size := ⟨_, rfl⟩
          rw [← hX] at ht6
          have HT6 := Lib.hid ht6
          have HBW6 := Lib.hid (HBW3.out.trans (hb36.mono HBW3.out.size))
          have HM6 := Lib.hid (HM3.out.below hb36)
          have HSS6 := Lib.hid (HS3.out.below hb36)
          have HS6 := Lib.hid (hs5.below hb6)
          have HPL : Hid (P < w6.heap.size) := lt_of_block HX6.out
          have HXL : Hid (X < w6.heap.size) := lt_of_block HT6.out
          unfold sobj at hw6
          clear hs5 hb5 q0 q1 q2 q3 hb6 ht6 hx6 hb36 HIN
          go_upto_region 4 with (fail)
          rw [← hw6, ← hX]
          clear hw6 hX
          go_wp2_with fail
          obtain ⟨S, hS⟩ : ∃ S, S = strOfNums (b.map fun x : Nat => (x : Int)) := ⟨_, rfl⟩
          have HCS := Lib.hid hS
          clear hS
          go_loopw [8] (fun iv wr => ∃ k : Nat, k ≤ t.full.length ∧ iv = .int .i64 k ∧ Below w6.heap.size w6 wr) (fun iv _ => t.full.length - (intOf iv).toNat)
          case atStart => exact ⟨0, Nat.zero_le _, rfl, Below.refl _ _⟩
          case round =>
            obtain ⟨k, hk, rfl, hb⟩ := hrel
            have HBR := Lib.hid hb
            clear hb
            have hx := HBR.out.block P HPL.out
            rw [HX6.out] at hx
            have ht := HBR.out.block X HXL.out
            rw [HT6.out] at ht
            obtain ⟨q0, q1, q2, q3⟩ := four_cell hx
            obtain ⟨t0, t1, t2, t3⟩ := four_cell ht
            have HXR := Lib.hid hx
            have HTR := Lib.hid ht
            clear hx ht
            by_cases hlt : k < t.full.length
            · have HLT := Lib.hid hlt
              have hi : (k : Int) < (t.full.length : Int) := by omega
              have hw5 := IntWalk.i64_in ((k : Int) + 1) (by have := HTL.out; omega)
              clear hlt
              have hge := HA.out.get (k : Nat) (HS6.out.below HBR.out) HMT.out.small
              by_cases hka : k = at_
              · subst hka
                rw [HGA.out.1] at hge
                have HGE := Lib.hid hge
                clear hge
                go_wp2_with fail
                refine HGE.out.mono ?_
                rintro e w7 ⟨u7, rfl, hO7, hb7⟩
                obtain ⟨p7, c7, rfl⟩ := own_slv hO7
                have hx7 := hb7.block P (lt_of_block HXR.out)
                rw [HXR.out] at hx7
                have HB7 := Lib.hid (HBR.out.trans (hb7.mono HBR.out.size))
                have HO7 := Lib.hid hO7
                clear q0 q1 q2 q3 t0 t1 t2 t3
                obtain ⟨q0, q1, q2, q3⟩ := four_cell hx7
                clear hx7 hO7 hb7 HGE
                have hgs := HA.out.get (k : Nat) (HSS6.out.below HB7.out) HSM.out
                rw [HGA.out.2] at hgs
                have HGS := Lib.hid hgs
                clear hgs
                go_wp2_with fail
                refine HGS.out.mono ?_
                rintro e w8 ⟨u8, rfl, hO8, hb8⟩
                obtain ⟨p8, c8, rfl⟩ := own_slv hO8
                have HB8 := Lib.hid (HB7.out.trans (hb8.mono HB7.out.size))
                have hcv := strOf_conv (HO7.out.bts.below hb8)
                rw [← HCS.out] at hcv
                have hcm := strOf_conv (HM6.out.below HB8.out)
                rw [← HCS.out] at hcm
                clear hO8 hb8 HGS q0 q1 q2 q3
                go_wp2_with fail
                go_roundw
                case rel => exact ⟨k + 1, by have := HLT.out; omega, by go_num, HB8.out⟩
                case measure => have := HLT.out; simp [intOf]; omega
              · have hkA : ¬ (k : Int) = (at_ : Int) := by omega
                have hkB : ((k : Int) == (at_ : Int)) = false := by simp; omega
                have hgn := HGN.out k HLT.out hka
                obtain ⟨y, hy⟩ : ∃ y, y = Sl.getR s (k : Nat) := ⟨_, rfl⟩
                obtain ⟨xx, ff⟩ := y
                rw [hgn, ← hy] at hge
                have HGE := Lib.hid hge
                have HYY := Lib.hid hy
                clear hge hka hy hgn
                go_wp2_with fail
                refine HGE.out.mono ?_
                rintro e w7 ⟨u7, rfl, hO7, hb7⟩
                obtain ⟨p7, c7, rfl⟩ := own_slv hO7
                have hx7 := hb7.block P (lt_of_block HXR.out)
                rw [HXR.out] at hx7
                have HB7 := Lib.hid (HBR.out.trans (hb7.mono HBR.out.size))
                have HO7 := Lib.hid hO7
                clear q0 q1 q2 q3 t0 t1 t2 t3
                obtain ⟨q0, q1, q2, q3⟩ := four_cell hx7
                clear hx7 hO7 hb7 HGE
                have hgs := HA.out.get (k : Nat) (HSS6.out.below HB7.out) HSM.out
                rw [← HYY.out] at hgs
                have HGS := Lib.hid hgs
                clear hgs
                go_wp2_with fail
                refine HGS.out.mono ?_
                rintro e w8 ⟨u8, rfl, hO8, hb8⟩
                obtain ⟨p8, c8, rfl⟩ := own_slv hO8
                have HB8 := Lib.hid (HB7.out.trans (hb8.mono HB7.out.size))
                obtain ⟨S2, hS2⟩ : ∃ S2, S2 = strOfNums (xx.map fun x : Nat => (x : Int)) := ⟨_, rfl⟩
                have hcv := strOf_conv (HO7.out.bts.below hb8)
                rw [← hS2] at hcv
                have hcm := strOf_conv hO8.bts
                rw [← hS2] at hcm
                have hff : ((ff : Int) != (ff : Int)) = false := by simp
                clear hO8 hb8 HGS q0 q1 q2 q3 hS2
                dsimp only at *
                go_wp2_with fail
                go_roundw
                case rel => exact ⟨k + 1, by have := HLT.out; omega, by go_num, HB8.out⟩
                case measure => have := HLT.out; simp [intOf]; omega
            · obtain rfl : k = t.full.length := by omega
              have hde := HA.out.delete (at_ : Nat) (HS6.out.below HBR.out) HMT.out.small
              rw [HDE.out] at hde
              have HDD := Lib.hid hde
              clear hde hlt hk
              go_wp2_with fail
              refine HDD.out.mono ?_
              rintro e w8 ⟨f8, d8, rfl, hs8, hb8⟩
              obtain ⟨p8, c8, p9, c9, rfl, rfl⟩ := slv_slices hs8
              obtain ⟨w9, hw9⟩ : ∃ w9, w9 = w8.alloc (sobj s.kind s.next (.slice p8 s.full.length c8) (.slice p9 s.data.length c9)) := ⟨_, rfl⟩
              have hb9 : Below w8.heap.size w8 w9 := by rw [hw9]; exact below_new _ _
              have hbt9 : Below wr.heap.size wr w9 := hb8.trans (hb9.mono hb8.size)
              have hbl9 : Below w6.heap.size w6 w9 := HBR.out.trans (hbt9.mono HBR.out.size)
              have hu9 := sblk w8 s.kind s.next (.slice p8 s.full.length c8) (.slice p9 s.data.length c9)
              rw [← hw9] at hu9
              have hx9 := hbl9.block P HPL.out
              rw [HX6.out] at hx9
              have ht9 := hbl9.block X HXL.out
              rw [HT6.out] at ht9
              have HX9 := Lib.hid hx9
              have HT9 := Lib.hid ht9
              have HU9 := Lib.hid hu9
              have HBW9 := Lib.hid (HBW6.out.trans (hbl9.mono HBW6.out.size))
              have HSS9 := Lib.hid (HSS6.out.below hbl9)
              have HS9 := Lib.hid (HS6.out.below hbl9)
              have HU8 := Lib.hid (hs8.below hb9)
              unfold sobj at hw9
              clear hs8 hb8 hb9 hbt9 hu9 hx9 ht9 hbl9 q0 q1 q2 q3 t0 t1 t2 t3 HDD HXR HTR
              obtain ⟨rt, hrt⟩ : ∃ rt, rt = 500 - Sl.took t := ⟨_, rfl⟩
              obtain ⟨rs, hrs⟩ : ∃ rs, rs = 500 - Sl.took s := ⟨_, rfl⟩
              have HNU2 : Hid (rt ≤ rs - b.length ∧ b.length ≤ rs ∧ rs ≤ 500) := by
                obtain ⟨h1, h2⟩ := HNU.out
                rw [← hrs] at h1 h2
                rw [← hrt] at h1
                exact ⟨h1, h2, by omega⟩
              have hrou := fun (W' : World) (hb : Below w9.heap.size w9 W') => HA.out.room (HU8.out.below hb) HSM.out
              rw [Sl.ifP_pos HMY.out, ← hrs] at hrou
              have hros := fun (W' : World) (hb : Below w9.heap.size w9 W') => HA.out.room (HSS9.out.below hb) HSM.out
              rw [Sl.ifP_pos HMY.out, ← hrs] at hros
              have hrott := fun (W' : World) (hb : Below w9.heap.size w9 W') => HA.out.room (HS9.out.below hb) HMT.out.small
              rw [Sl.ifP_pos HMT.out, ← hrt] at hrott
              have HROU := Lib.hid hrou
              have HROS := Lib.hid hros
              have HROT := Lib.hid hrott
              have HX9L : Hid (P < w9.heap.size) := lt_of_block HX9.out
              have HT9L : Hid (X < w9.heap.size) := lt_of_block HT9.out
              have HU9L : Hid (w8.heap.size < w9.heap.size) := lt_of_block HU9.out
              clear hrt hrs hrou hros hrott
              go_upto_region 17 with (fail)
              rw [← hw9]
              clear hw9
              refine Ord.walk (ApF b.length rt rs (.slice pm b.length cm) (SlV s.kind s.next (.slice p8 s.full.length c8) (.slice p9 s.data.length c9)) (SlV s.kind s.next (.slice p1 s.full.length c1) (.slice p2 s.data.length c2)) (SlV t.kind t.next (.slice p5 t.full.length c5) (.slice p6 t.data.length c6))) (fun _ _ w' => Below w9.heap.size w9 w') (fun _ _ => True)
                (by kernel_rfl) (by kernel_rfl) ?fr17 ?hfr17 (fun _ _ _ _ _ h => h) (fun xs => (Below.refl _ _).go1) ?he17 ?hend17
              case hfr17 =>
                intro xs
                simp only [Ord.fill, Act.put, List.setIfInBounds_toArray, List.set_cons_zero, List.set_cons_succ]
                rfl
              case he17 =>
                refine Ord.each_cons (fun D xs w2 hD hC hP hR hA K hK => ?_) ?_
                · -- 0
                  clear hA
                  go_simp
                  exact hK _ _ ⟨_, rfl, trivial, hR, rfl⟩
                refine Ord.each_cons (fun D xs w2 hD hC hP hR hA K hK => ?_) ?_
                · -- 1
                  have q0 := Ord.ahead_get _ hA 0 (by decide)
                  simp only [ApF] at q0
                  simp only [q0] at hK
                  clear hA
                  go_simp
                  exact hK _ _ ⟨_, rfl, trivial, hR, rfl⟩
                refine Ord.each_cons (fun D xs w2 hD hC hP hR hA K hK => ?_) ?_
                · -- 2
                  have q1 := Ord.ahead_get _ hA 1 (by decide)
                  simp only [ApF] at q1
                  simp only [q1] at hK
                  clear hA
                  go_simp
                  exact hK _ _ ⟨_, rfl, trivial, hR, rfl⟩
                refine Ord.each_cons (fun D xs w2 hD hC hP hR hA K hK => ?_) ?_
                · -- 3
                  have q2 := Ord.ahead_get _ hA 2 (by decide)
                  simp only [ApF] at q2
                  simp only [q2] at hK
                  clear hA
                  have c0 := hR.cell (p := ⟨w8.heap.size, 0, none⟩) HU9L.out
                  rw [(four_cell HU9.out).1] at c0
                  have c1 := hR.cell (p := ⟨w8.heap.size, 1, none⟩) HU9L.out
                  rw [(four_cell HU9.out).2.1] at c1
                  have c2 := hR.cell (p := ⟨w8.heap.size, 2, none⟩) HU9L.out
                  rw [(four_cell HU9.out).2.2.1] at c2
                  have c3 := hR.cell (p := ⟨w8.heap.size, 3, none⟩) HU9L.out
                  rw [(four_cell HU9.out).2.2.2] at c3
                  go_simp
                  exact hK _ _ ⟨_, rfl, trivial, hR, rfl⟩
                refine Ord.each_cons (fun D xs w2 hD hC hP hR hA K hK => ?_) ?_
                · -- 4
                  have q2 := Ord.ahead_get _ hA 2 (by decide)
                  simp only [ApF] at q2
                  simp only [q2] at hK
                  clear hA
                  have c0 := hR.cell (p := ⟨P, 0, none⟩) HX9L.out
                  rw [(four_cell HX9.out).1] at c0
                  have c1 := hR.cell (p := ⟨P, 1, none⟩) HX9L.out
                  rw [(four_cell HX9.out).2.1] at c1
                  have c2 := hR.cell (p := ⟨P, 2, none⟩) HX9L.out
                  rw [(four_cell HX9.out).2.2.1] at c2
                  have c3 := hR.cell (p := ⟨P, 3, none⟩) HX9L.out
                  rw [(four_cell HX9.out).2.2.2] at c3
                  go_simp
                  exact hK _ _ ⟨_, rfl, trivial, hR, rfl⟩
                refine Ord.each_cons (fun D xs w2 hD hC hP hR hA K hK => ?_) ?_
                · -- 5
                  have q3 := Ord.ahead_get _ hA 3 (by decide)
                  simp only [ApF] at q3
                  have q4 := Ord.ahead_get _ hA 4 (by decide)
                  simp only [ApF] at q4
                  have q2 := Ord.ahead_get _ hA 2 (by decide)
                  simp only [ApF] at q2
                  simp only [q3, q4, q2] at hK
                  clear hA
                  go_simp
                  refine (refSame_any _ _ _ _ s s w2 (HU8.out.below hR) (HSS9.out.below hR) ⟨HSM.out.full, HSM.out.data⟩).mono ?_
                  rintro e w' ⟨rfl, hb⟩
                  rw [Sl.same_true rfl]
                  exact hK _ _ ⟨_, rfl, trivial, hR.trans (hb.mono hR.size), rfl⟩
                refine Ord.each_cons (fun D xs w2 hD hC hP hR hA K hK => ?_) ?_
                · -- 6
                  have q2 := Ord.ahead_get _ hA 2 (by decide)
                  simp only [ApF] at q2
                  have q5 := Ord.ahead_get _ hA 5 (by decide)
                  simp only [ApF] at q5
                  simp only [q2, q5] at hK
                  clear hA
                  go_simp
                  exact hK _ _ ⟨_, rfl, trivial, hR, rfl⟩
                refine Ord.each_cons (fun D xs w2 hD hC hP hR hA K hK => ?_) ?_
                · -- 7
                  have q6 := Ord.ahead_get _ hA 6 (by decide)
                  simp only [ApF] at q6
                  simp only [q6] at hK
                  clear hA
                  go_simp
                  exact hK _ _ ⟨_, rfl, trivial, hR, rfl⟩
                refine Ord.each_cons (fun D xs w2 hD hC hP hR hA K hK => ?_) ?_
                · -- 8
                  have q7 := Ord.ahead_get _ hA 7 (by decide)
                  simp only [ApF] at q7
                  simp only [q7] at hK
                  clear hA
                  have c0 := hR.cell (p := ⟨w8.heap.size, 0, none⟩) HU9L.out
                  rw [(four_cell HU9.out).1] at c0
                  have c1 := hR.cell (p := ⟨w8.heap.size, 1, none⟩) HU9L.out
                  rw [(four_cell HU9.out).2.1] at c1
                  have c2 := hR.cell (p := ⟨w8.heap.size, 2, none⟩) HU9L.out
                  rw [(four_cell HU9.out).2.2.1] at c2
                  have c3 := hR.cell (p := ⟨w8.heap.size, 3, none⟩) HU9L.out
                  rw [(four_cell HU9.out).2.2.2] at c3
                  go_simp
                  exact hK _ _ ⟨_, rfl, trivial, hR, rfl⟩
                refine Ord.each_cons (fun D xs w2 hD hC hP hR hA K hK => ?_) ?_
                · -- 9
                  have q8 := Ord.ahead_get _ hA 8 (by decide)
                  simp only [ApF] at q8
                  have q7 := Ord.ahead_get _ hA 7 (by decide)
                  simp only [ApF] at q7
                  simp only [q8, q7] at hK
                  clear hA
                  go_simp
                  refine (HROU.out w2 hR).mono ?_
                  rintro e w' ⟨rfl, hb⟩
                  exact hK _ _ ⟨_, rfl, trivial, hR.trans (hb.mono hR.size), rfl⟩
                refine Ord.each_cons (fun D xs w2 hD hC hP hR hA K hK => ?_) ?_
                · -- 10
                  have q7 := Ord.ahead_get _ hA 7 (by decide)
                  simp only [ApF] at q7
                  simp only [q7] at hK
                  clear hA
                  have c0 := hR.cell (p := ⟨P, 0, none⟩) HX9L.out
                  rw [(four_cell HX9.out).1] at c0
                  have c1 := hR.cell (p := ⟨P, 1, none⟩) HX9L.out
                  rw [(four_cell HX9.out).2.1] at c1
                  have c2 := hR.cell (p := ⟨P, 2, none⟩) HX9L.out
                  rw [(four_cell HX9.out).2.2.1] at c2
                  have c3 := hR.cell (p := ⟨P, 3, none⟩) HX9L.out
                  rw [(four_cell HX9.out).2.2.2] at c3
                  go_simp
                  exact hK _ _ ⟨_, rfl, trivial, hR, rfl⟩
                refine Ord.each_cons (fun D xs w2 hD hC hP hR hA K hK => ?_) ?_
                · -- 11
                  have q10 := Ord.ahead_get _ hA 10 (by decide)
                  simp only [ApF] at q10
                  have q7 := Ord.ahead_get _ hA 7 (by decide)
                  simp only [ApF] at q7
                  simp only [q10, q7] at hK
                  clear hA
                  go_simp
                  refine (HROS.out w2 hR).mono ?_
                  rintro e w' ⟨rfl, hb⟩
                  exact hK _ _ ⟨_, rfl, trivial, hR.trans (hb.mono hR.size), rfl⟩
                refine Ord.each_cons (fun D xs w2 hD hC hP hR hA K hK => ?_) ?_
                · -- 12
                  have q9 := Ord.ahead_get _ hA 9 (by decide)
                  simp only [ApF] at q9
                  have q11 := Ord.ahead_get _ hA 11 (by decide)
                  simp only [ApF] at q11
                  have q7 := Ord.ahead_get _ hA 7 (by decide)
                  simp only [ApF] at q7
                  simp only [q9, q11, q7] at hK
                  clear hA
                  go_simp
                  exact hK _ _ ⟨_, rfl, trivial, hR, rfl⟩
                refine Ord.each_cons (fun D xs w2 hD hC hP hR hA K hK => ?_) ?_
                · -- 13
                  have q7 := Ord.ahead_get _ hA 7 (by decide)
                  simp only [ApF] at q7
                  have q12 := Ord.ahead_get _ hA 12 (by decide)
                  simp only [ApF] at q12
                  simp only [q7, q12] at hK
                  clear hA
                  go_simp
                  exact hK _ _ ⟨_, rfl, trivial, hR, rfl⟩
                refine Ord.each_cons (fun D xs w2 hD hC hP hR hA K hK => ?_) ?_
                · -- 14
                  have q13 := Ord.ahead_get _ hA 13 (by decide)
                  simp only [ApF] at q13
                  simp only [q13] at hK
                  clear hA
                  go_simp
                  exact hK _ _ ⟨_, rfl, trivial, hR, rfl⟩
                refine Ord.each_cons (fun D xs w2 hD hC hP hR hA K hK => ?_) ?_
                · -- 15
                  have q14 := Ord.ahead_get _ hA 14 (by decide)
                  simp only [ApF] at q14
                  simp only [q14] at hK
                  clear hA
                  have c0 := hR.cell (p := ⟨X, 0, none⟩) HT9L.out
                  rw [(four_cell HT9.out).1] at c0
                  have c1 := hR.cell (p := ⟨X, 1, none⟩) HT9L.out
                  rw [(four_cell HT9.out).2.1] at c1
                  have c2 := hR.cell (p := ⟨X, 2, none⟩) HT9L.out
                  rw [(four_cell HT9.out).2.2.1] at c2
                  have c3 := hR.cell (p := ⟨X, 3, none⟩) HT9L.out
                  rw [(four_cell HT9.out).2.2.2] at c3
                  go_simp
                  exact hK _ _ ⟨_, rfl, trivial, hR, rfl⟩
                refine Ord.each_cons (fun D xs w2 hD hC hP hR hA K hK => ?_) ?_
                · -- 16
                  have q15 := Ord.ahead_get _ hA 15 (by decide)
                  simp only [ApF] at q15
                  have q14 := Ord.ahead_get _ hA 14 (by decide)
                  simp only [ApF] at q14
                  simp only [q15, q14] at hK
                  clear hA
                  go_simp
                  refine (HROT.out w2 hR).mono ?_
                  rintro e w' ⟨rfl, hb⟩
                  exact hK _ _ ⟨_, rfl, trivial, hR.trans (hb.mono hR.size), rfl⟩
                refine Ord.each_cons (fun D xs w2 hD hC hP hR hA K hK => ?_) ?_
                · -- 17
                  have q14 := Ord.ahead_get _ hA 14 (by decide)
                  simp only [ApF] at q14
                  simp only [q14] at hK
                  clear hA
                  have c0 := hR.cell (p := ⟨P, 0, none⟩) HX9L.out
                  rw [(four_cell HX9.out).1] at c0
                  have c1 := hR.cell (p := ⟨P, 1, none⟩) HX9L.out
                  rw [(four_cell HX9.out).2.1] at c1
                  have c2 := hR.cell (p := ⟨P, 2, none⟩) HX9L.out
                  rw [(four_cell HX9.out).2.2.1] at c2
                  have c3 := hR.cell (p := ⟨P, 3, none⟩) HX9L.out
                  rw [(four_cell HX9.out).2.2.2] at c3
                  go_simp
                  exact hK _ _ ⟨_, rfl, trivial, hR, rfl⟩
                refine Ord.each_cons (fun D xs w2 hD hC hP hR hA K hK => ?_) ?_
                · -- 18
                  have q17 := Ord.ahead_get _ hA 17 (by decide)
                  simp only [ApF] at q17
                  have q14 := Ord.ahead_get _ hA 14 (by decide)
                  simp only [ApF] at q14
                  simp only [q17, q14] at hK
                  clear hA
                  go_simp
                  refine (HROS.out w2 hR).mono ?_
                  rintro e w' ⟨rfl, hb⟩
                  exact hK _ _ ⟨_, rfl, trivial, hR.trans (hb.mono hR.size), rfl⟩
                refine Ord.each_cons (fun D xs w2 hD hC hP hR hA K hK => ?_) ?_
                · -- 19
                  have q14 := Ord.ahead_get _ hA 14 (by decide)
                  simp only [ApF] at q14
                  simp only [q14] at hK
                  clear hA
                  go_simp
                  exact hK _ _ ⟨_, rfl, trivial, hR, rfl⟩
                refine Ord.each_cons (fun D xs w2 hD hC hP hR hA K hK => ?_) ?_
                · -- 20
                  have q19 := Ord.ahead_get _ hA 19 (by decide)
                  simp only [ApF] at q19
                  have q14 := Ord.ahead_get _ hA 14 (by decide)
                  simp only [ApF] at q14
                  simp only [q19, q14] at hK
                  clear hA
                  go_simp
                  exact hK _ _ ⟨_, rfl, trivial, hR, rfl⟩
                refine Ord.each_cons (fun D xs w2 hD hC hP hR hA K hK => ?_) ?_
                · -- 21
                  have q18 := Ord.ahead_get _ hA 18 (by decide)
                  simp only [ApF] at q18
                  have q20 := Ord.ahead_get _ hA 20 (by decide)
                  simp only [ApF] at q20
                  have q14 := Ord.ahead_get _ hA 14 (by decide)
                  simp only [ApF] at q14
                  simp only [q18, q20, q14] at hK
                  clear hA
                  have hww := IntWalk.i64_in ((rs : Int) - (b.length : Int)) (by have h1 := HNU2.out; have h2 := HB1.out; omega)
                  go_simp
                  exact hK _ _ ⟨_, rfl, trivial, hR, rfl⟩
                refine Ord.each_cons (fun D xs w2 hD hC hP hR hA K hK => ?_) ?_
                · -- 22
                  have q16 := Ord.ahead_get _ hA 16 (by decide)
                  simp only [ApF] at q16
                  have q21 := Ord.ahead_get _ hA 21 (by decide)
                  simp only [ApF] at q21
                  have q14 := Ord.ahead_get _ hA 14 (by decide)
                  simp only [ApF] at q14
                  simp only [q16, q21, q14] at hK
                  clear hA
                  have hle : (rt : Int) ≤ (rs : Int) - (b.length : Int) := by have h1 := HNU2.out; omega
                  go_simp
                  exact hK _ _ ⟨_, rfl, trivial, hR, rfl⟩
                refine Ord.each_cons (fun D xs w2 hD hC hP hR hA K hK => ?_) ?_
                · -- 23
                  have q14 := Ord.ahead_get _ hA 14 (by decide)
                  simp only [ApF] at q14
                  have q22 := Ord.ahead_get _ hA 22 (by decide)
                  simp only [ApF] at q22
                  simp only [q14, q22] at hK
                  clear hA
                  go_simp
                  exact hK _ _ ⟨_, rfl, trivial, hR, rfl⟩
                refine Ord.each_cons (fun D xs w2 hD hC hP hR hA K hK => ?_) ?_
                · -- 24
                  have q23 := Ord.ahead_get _ hA 23 (by decide)
                  simp only [ApF] at q23
                  simp only [q23] at hK
                  clear hA
                  go_simp
                  exact hK _ _ ⟨_, rfl, trivial, hR, rfl⟩
                refine Ord.each_cons (fun D xs w2 hD hC hP hR hA K hK => ?_) ?_
                · -- 25
                  have q24 := Ord.ahead_get _ hA 24 (by decide)
                  simp only [ApF] at q24
                  simp only [q24] at hK
                  clear hA
                  go_simp
                  refine (known_any HA.out w2).mono ?_
                  rintro e w' ⟨rfl, hb⟩
                  exact hK _ _ ⟨_, rfl, trivial, hR.trans (hb.mono hR.size), rfl⟩
                refine Ord.each_cons (fun D xs w2 hD hC hP hR hA K hK => ?_) ?_
                · -- 26
                  have q24 := Ord.ahead_get _ hA 24 (by decide)
                  simp only [ApF] at q24
                  have q25 := Ord.ahead_get _ hA 25 (by decide)
                  simp only [ApF] at q25
                  simp only [q24, q25] at hK
                  clear hA
                  go_simp
                  exact hK _ _ ⟨_, rfl, trivial, hR, rfl⟩
                refine Ord.each_cons (fun D xs w2 hD hC hP hR hA K hK => ?_) ?_
                · -- 27
                  have q26 := Ord.ahead_get _ hA 26 (by decide)
                  simp only [ApF] at q26
                  simp only [q26] at hK
                  clear hA
                  go_simp
                  exact hK _ _ ⟨_, rfl, trivial, hR, rfl⟩
                exact Ord.each_nil
              case hend17 =>
                intro D xs wz hRz hF
                have e27 := (hF 27 (by decide)).2
                simp only [ApF] at e27
                rw [e27]
                have HBZ := Lib.hid (HBW9.out.trans (hRz.mono HBW9.out.size))
                clear e27 hF hRz
                generalize xs 0 = z0 at *
                generalize xs 1 = z1 at *
                generalize xs 2 = z2 at *
                generalize xs 3 = z3 at *
                generalize xs 4 = z4 at *
                generalize xs 5 = z5 at *
                generalize xs 6 = z6 at *
                generalize xs 7 = z7 at *
                generalize xs 8 = z8 at *
                generalize xs 9 = z9 at *
                generalize xs 10 = z10 at *
                generalize xs 11 = z11 at *
                generalize xs 12 = z12 at *
                generalize xs 13 = z13 at *
                generalize xs 14 = z14 at *
                generalize xs 15 = z15 at *
                generalize xs 16 = z16 at *
                generalize xs 17 = z17 at *
                generalize xs 18 = z18 at *
                generalize xs 19 = z19 at *
                generalize xs 20 = z20 at *
                generalize xs 21 = z21 at *
                generalize xs 22 = z22 at *
                generalize xs 23 = z23 at *
                generalize xs 24 = z24 at *
                generalize xs 25 = z25 at *
                generalize xs 26 = z26 at *
                go_wp2_with fail
                go_ret
                exact ⟨rfl, HBZ.out⟩
        · have hv : Sl.insR s b = (Sl.none_, 0, 5) := by
            unfold Sl.insR
            rw [Sl.ifP_pos HMY.out, Sl.ifP_neg hmi]
          rw [hv] at hin
          have hbig : 500 < Sl.took s + b.length + 2 := by
            rcases Nat.lt_or_ge 500 (Sl.took (Sl.ins s b)) with h1 | h1
            · split at htk <;> omega
            · exact absurd (HMY.out.insA b h1) hmi
          have HIN := Lib.hid hin
          have HBIG := Lib.hid hbig
          clear htk hft hin hmi hv hbig
          go_wp2_with fail
          refine HIN.out.mono ?_
          rintro e w5 ⟨f5, d5, rfl, hs5, hb5⟩
          obtain ⟨p5, c5, p6, c6, rfl, rfl⟩ := slv_slices hs5
          obtain ⟨w6, hw6⟩ : ∃ w6, w6 = w5.alloc (sobj Sl.none_.kind Sl.none_.next (.slice p5 Sl.none_.full.length c5) (.slice p6 Sl.none_.data.length c6)) := ⟨_, rfl⟩
          have hb6 : Below w5.heap.size w5 w6 := by rw [hw6]; exact below_new _ _
          have hb36 : Below w3.heap.size w3 w6 := hb5.trans (hb6.mono hb5.size)
          have hx6 := hb36.block P (lt_of_block HX3.out)
          rw [HX3.out] at hx6
          have HBW6 := Lib.hid (HBW3.out.trans (hb36.mono HBW3.out.size))
          have HSS6 := Lib.hid (HS3.out.below hb36)
          have hro := HA.out.room HSS6.out HSM.out
          rw [Sl.ifP_pos HMY.out] at hro
          obtain ⟨ro, hroe⟩ : ∃ ro, ro = 500 - Sl.took s := ⟨_, rfl⟩
          rw [← hroe] at hro
          have HRO := Lib.hid hro
          have hft := HMY.out.fit
          have hbg := HBIG.out
          have hb1000 := HB1.out
          have hlt : (ro : Int) - 2 < (b.length : Int) + 2 := by omega
          have hww := IntWalk.i64_in ((ro : Int) - 2) (by omega)
          have hwx := IntWalk.i64_in ((b.length : Int) + 2) (by omega)
          unfold sobj at hw6
          clear hs5 hb5 q0 q1 q2 q3 hb6 hb36 HIN hro hroe hft hbg hb1000
          obtain ⟨q0, q1, q2, q3⟩ := four_cell hx6
          clear hx6
          go_upto_region 4 with (fail)
          rw [← hw6]
          clear hw6
          generalize b.length = bl at *
          go_wp2_with fail
          refine HRO.out.mono ?_
          rintro e w7 ⟨rfl, hb7⟩
          have HBW7 := Lib.hid (HBW6.out.trans (hb7.mono HBW6.out.size))
          clear hb7 q0 q1 q2 q3
          go_wp2_with fail
          refine (known_any HA.out _).mono ?_
          rintro e wk ⟨rfl, hbk⟩
          have HBK := Lib.hid ((HBW7.out).trans (hbk.mono (HBW7.out).size))
          clear hbk
          go_wp2_with fail
          go_ret
          exact ⟨rfl, HBK.out⟩
      · rw [Sl.may_false hmy]
        clear hmy
        go_wp2_with fail
        refine (known_any HA.out _).mono ?_
        rintro e wk ⟨rfl, hbk⟩
        have HBK := Lib.hid ((HBW3.out).trans (hbk.mono (HBW3.out).size))
        clear hbk
        go_wp2_with fail
        go_ret
        exact ⟨rfl, HBK.out⟩
    · have hi1 : (1000 : Int) < (b.length : Int) := by omega
      clear hb1
      generalize b.length = bl at *
      go_wp2_with fail
      refine (known_any HA.out _).mono ?_
      rintro e wk ⟨rfl, hbk⟩
      have HBK := Lib.hid ((HBW.out).trans (hbk.mono (HBW.out).size))
      clear hbk
      go_wp2_with fail
      go_ret
      exact ⟨rfl, HBK.out⟩
end Go.Proofs.Ytbfpmpomcaijcaa
