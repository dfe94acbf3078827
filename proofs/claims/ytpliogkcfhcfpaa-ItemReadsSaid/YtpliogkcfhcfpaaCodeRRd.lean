/- What the document's reader tells, over any world. Conditions: the reader's block and its bytes. -/
import Derived.Test.YtpliogkcfhcfpaaCodeText
namespace Go.Proofs.Ytpliogkcfhcfpaa
open Go.RowKit

theorem drop_num (l : List Nat) (c k : Nat) (hk : k < c) (hc : c ≤ l.length) : Cod.num ((l.take c).drop k) = l.getD k 0 + 256 * Cod.num ((l.take c).drop (k + 1)) := by
  rw [List.drop_eq_getElem_cons (by simp; omega), Cod.num]
  congr 1
  simp [List.getElem?_eq_getElem (show k < l.length by omega)]

theorem num_small (l : List Nat) (c k : Nat) (hs : ∀ y ∈ l, y < 256) (hk : 1 ≤ k) (hc : c ≤ 8) : Cod.num ((l.take c).drop k) < 72057594037927936 := by
  have h := Cod.num_lt ((l.take c).drop k) (fun y hy => hs y (List.mem_of_mem_take (List.mem_of_mem_drop hy)))
  have hl : ((l.take c).drop k).length ≤ 7 := by simp; omega
  exact Nat.lt_of_lt_of_le h (Nat.pow_le_pow_right (i := ((l.take c).drop k).length) (j := 7) (by decide : 256 > 0) hl)

set_option maxHeartbeats 1600000 in
set_option maxRecDepth 20000 in
theorem refNum_any (lo : Nat → Prop) (B e c : Nat) (l : List Nat) (w : World) (hR : Rd 59 lo w B l e) (hc1 : 1 ≤ c) (hc8 : c ≤ 8) :
    Calls Try.prog 36 #[.pointer (some ⟨B, 0, none⟩), .int .i64 (c : Int)] w fun en w' => en = .returned (.int .u64 ((Cod.rdNum c l e).1 : Nat)) ∧ Rd 59 lo w' B (Cod.rdNum c l e).2.1 (Cod.rdNum c l e).2.2 ∧ w.grownBy w' (some B) := by
  have HR := Lib.hid hR
  obtain ⟨s, hS⟩ := hR
  have HS := Lib.hid hS
  have HB := Lib.hid hS.2.1
  obtain ⟨p, cap, rfl, hr, hn, hp⟩ := HB.out.form
  have hcap := hr.1
  have hcap2 := hr.2
  have hlen := HB.out.len
  have g0 := cell2_0 hS.1
  have g1 := cell2_1 hS.1
  have hf0 := free2 hS.1 0
  have hf1 := free2 hS.1 1
  have HP := Lib.hid hp
  clear hS hr hn hp
  unfold Cod.rdNum
  by_cases he : e ≠ 0
  · rw [if_pos he]
    have h0 : ((e : Int) == 0) = false := by simp; omega
    have h1 : ((e : Int) != 0) = true := by simp; omega
    have h2 : ¬ (e : Int) = 0 := by omega
    clear he
    go_enter Try.func36, Try.ntmps36
    go_wp2
    go_ret
    exact ⟨rfl, HR.out, grownBy_refl _ _⟩
  · obtain rfl : e = 0 := by omega
    rw [if_neg he]
    clear he
    by_cases hl : l.length < c
    · rw [if_pos hl]
      go_enter Try.func36, Try.ntmps36
      go_wp2
      go_ret
      exact ⟨rfl, HR.out.fail 4, grownBy_setCell _ _ _ _⟩
    · rw [if_neg hl]
      obtain ⟨b, off, rfl, hc⟩ := HP.out (by omega)
      clear HP
      have HC := Lib.hid hc
      clear hc
      go_enter Try.func36, Try.ntmps36
      go_wp2
      go_loop [5, 6] (fun n i => ∃ k : Nat, k ≤ c ∧ i = .int .i64 ((k : Int) - 1) ∧ n = .int .u64 (Cod.num ((l.take c).drop k) : Nat)) (fun _ i => (intOf i + 1).toNat)
      case atStart => exact ⟨c, Nat.le_refl _, rfl, by rw [List.drop_eq_nil_of_le (by simp; omega)]; rfl⟩
      case round =>
        obtain ⟨k, hk, rfl, rfl⟩ := hrel
        by_cases h0 : k = 0
        · subst h0
          go_wp2
          all_goals
            go_ret
            refine ⟨rfl, HS.out.move ?_ rfl, grownBy_setCell _ _ _ _⟩
            first
              | exact HB.out.drop c (by omega)
              | (rw [show l.drop c = [] from List.drop_eq_nil_of_le (by omega)]
                 exact bts_zero _ _ _ _ (by omega) (by omega))
        · obtain ⟨j, rfl⟩ : ∃ j, k = j + 1 := ⟨k - 1, by omega⟩
          have hx := HB.out.getD j
          have hck := HC.out j (by omega)
          have HN := Lib.hid (drop_num l c j (by omega) (by omega))
          have hsm := num_small l c (j + 1) HB.out.small (by omega) hc8
          generalize l.getD j 0 = x at hck hx HN
          generalize Cod.num ((l.take c).drop (j + 1)) = n at HN hsm ⊢
          go_wp2
          go_round
          case rel => exact ⟨j, by omega, rfl, by rw [HN.out]; congr 1; omega⟩
          case measure => simp [intOf]

set_option maxHeartbeats 1600000 in
set_option maxRecDepth 20000 in
theorem refRUv_any (lo : Nat → Prop) (B e : Nat) (l : List Nat) (w : World) (hR : Rd 59 lo w B l e) :
    Calls Try.prog 37 #[.pointer (some ⟨B, 0, none⟩)] w fun en w' => en = .returned (.int .u64 ((Cod.rdUv l e).1 : Nat)) ∧ Rd 59 lo w' B (Cod.rdUv l e).2.1 (Cod.rdUv l e).2.2 ∧ w.grownBy w' (some B) := by
  have HR := Lib.hid hR
  obtain ⟨s, hS⟩ := hR
  have HS := Lib.hid hS
  have HB := Lib.hid hS.2.1
  have hkl := Cod.cnt_len l 0
  have HF := Lib.hid (refCount_any s l w HB.out)
  obtain ⟨p, cap, rfl, hr, hn, hp⟩ := HB.out.form
  have hcap := hr.1
  have hcap2 := hr.2
  have hlen := HB.out.len
  have g0 := cell2_0 hS.1
  have g1 := cell2_1 hS.1
  have hf0 := free2 hS.1 0
  have hf1 := free2 hS.1 1
  have HP := Lib.hid hp
  clear hS hr hn hp
  unfold Cod.rdUv
  by_cases he : e ≠ 0
  · rw [if_pos he]
    have h0 : ((e : Int) == 0) = false := by simp; omega
    have h1 : ((e : Int) != 0) = true := by simp; omega
    have h2 : ¬ (e : Int) = 0 := by omega
    clear he
    go_enter Try.func37, Try.ntmps37
    go_wp2_with fail
    go_ret
    exact ⟨rfl, HR.out, grownBy_refl _ _⟩
  · obtain rfl : e = 0 := by omega
    rw [if_neg he]
    clear he
    generalize Cod.cnt 0 l = c at hkl HF ⊢
    obtain ⟨n, k⟩ := c
    have hk2 : k ≤ l.length := hkl
    clear hkl
    by_cases hk : k = 0
    · rw [if_pos hk]
      subst hk
      go_enter Try.func37, Try.ntmps37
      go_wp2_with fail
      refine HF.out.mono ?_
      rintro e w' ⟨rfl, rfl⟩
      go_wp2_with fail
      go_ret
      exact ⟨rfl, HR.out.fail 4, grownBy_setCell _ _ _ _⟩
    · rw [if_neg hk]
      obtain ⟨b, off, rfl, hc⟩ := HP.out (by omega)
      have hk1 : 0 < k := by omega
      clear HP hc hk
      go_enter Try.func37, Try.ntmps37
      go_wp2_with fail
      refine HF.out.mono ?_
      rintro e w' ⟨rfl, rfl⟩
      go_wp2_with fail
      all_goals
        go_ret
        refine ⟨rfl, HS.out.move ?_ rfl, grownBy_setCell _ _ _ _⟩
        first
          | exact HB.out.drop k hk2
          | (rw [show l.drop k = [] from List.drop_eq_nil_of_le (by omega)]
             exact bts_zero _ _ _ _ (by omega) (by omega))

theorem own_ne {T : TypeId} {B : Nat} {w w2 : World} {a b v : Value} {l : List Nat} (hh : w.heap[B]? = some (.cells #[a, b] T (0, 0))) (hO : Own w.heap.size w2 v l) : v.ownBlock = none ∨ v.ownBlock ≠ some B := by
  right
  intro h
  have := World.ownsRow.lt hO.own B h
  have := lt_of_block hh
  omega

set_option maxHeartbeats 3200000 in
set_option maxRecDepth 20000 in
theorem refRText_any (lo : Nat → Prop) (B e : Nat) (l : List Nat) (most : Int) (w : World) (hR : Rd 59 lo w B l e) (hm : most ≤ 9223372036854775807) :
    Calls Try.prog 38 #[.pointer (some ⟨B, 0, none⟩), .int .i64 most] w fun en w' => ∃ v, en = .returned v ∧ Own w.heap.size w' v (Cod.rdText most l e).1 ∧ Rd 59 lo w' B (Cod.rdText most l e).2.1 (Cod.rdText most l e).2.2 ∧ w.grownBy w' (some B) := by
  have HR := Lib.hid hR
  obtain ⟨s, hS⟩ := hR
  have HS := Lib.hid hS
  have HB := Lib.hid hS.2.1
  have hkl := Cod.cnt_len l 0
  have HF := Lib.hid (refCount_any s l w HB.out)
  obtain ⟨p, cap, rfl, hr, hn, hp⟩ := HB.out.form
  have hcap := hr.1
  have hcap2 := hr.2
  have hlen := HB.out.len
  have g0 := cell2_0 hS.1
  have g1 := cell2_1 hS.1
  have hf0 := free2 hS.1 0
  have hf1 := free2 hS.1 1
  have HP := Lib.hid hp
  clear hS hr hn hp
  unfold Cod.rdText
  by_cases he : e ≠ 0
  · rw [if_pos he]
    have h0 : ((e : Int) == 0) = false := by simp; omega
    have h1 : ((e : Int) != 0) = true := by simp; omega
    have h2 : ¬ (e : Int) = 0 := by omega
    clear he
    go_enter Try.func38, Try.ntmps38
    go_wp2_with fail
    go_ret
    exact ⟨_, rfl, own_nil _ _, HR.out, grownBy_refl _ _⟩
  · obtain rfl : e = 0 := by omega
    rw [if_neg he]
    clear he
    generalize Cod.cnt 0 l = c at hkl HF ⊢
    obtain ⟨n, k⟩ := c
    have hk2 : k ≤ l.length := hkl
    clear hkl
    by_cases hk : k = 0
    · rw [if_pos hk]
      subst hk
      go_enter Try.func38, Try.ntmps38
      go_wp2_with fail
      refine HF.out.mono ?_
      rintro e w' ⟨rfl, rfl⟩
      go_wp2_with fail
      go_ret
      exact ⟨_, rfl, own_nil _ _, HR.out.fail 4, grownBy_setCell _ _ _ _⟩
    · rw [if_neg hk]
      obtain ⟨b, off, rfl, hc⟩ := HP.out (by omega)
      have hk1 : 0 < k := by omega
      obtain ⟨M, hM⟩ : ∃ M : Nat, max most 0 = (M : Int) := ⟨(max most 0).toNat, by omega⟩
      have hM2 : M ≤ 9223372036854775807 := by omega
      clear HP hc hk hm
      by_cases hlong : max most 0 < (n : Int)
      · rw [if_pos hlong]
        rw [hM] at hlong
        go_enter Try.func38, Try.ntmps38
        go_wp2_with fail
        refine HF.out.mono ?_
        rintro e w' ⟨rfl, rfl⟩
        go_wp2_with fail
        go_ret
        exact ⟨_, rfl, own_nil _ _, HR.out.fail 3, grownBy_setCell _ _ _ _⟩
      · rw [if_neg hlong]
        rw [hM] at hlong
        by_cases hs : l.length - k < n
        · rw [if_pos hs]
          have hs2 : (l.length : Int) - (k : Int) < n := by omega
          go_enter Try.func38, Try.ntmps38
          go_wp2_with fail
          refine HF.out.mono ?_
          rintro e w' ⟨rfl, rfl⟩
          go_wp2_with fail
          go_ret
          exact ⟨_, rfl, own_nil _ _, HR.out.fail 4, grownBy_setCell _ _ _ _⟩
        · rw [if_neg hs]
          have hs2 : n ≤ l.length - k := by omega
          have hs3 : ¬ (l.length : Int) - (k : Int) < n := by omega
          have HO := Lib.hid (own_empty w w.heap.size 0 #[] (Nat.le_refl _) (Nat.zero_le _) rfl)
          have HW0 : Hid (Below w.heap.size w (w.alloc (.cells #[] 5))) := (Below.refl _ _).alloc (Nat.le_refl _) _
          have hways : (cap = k ∧ l.length = k ∧ n = 0) ∨ (cap = k + n ∧ 0 < n ∧ l.length = k + n) ∨ k + n < cap := by omega
          rcases hways with ⟨rfl, hl, rfl⟩ | ⟨rfl, h0, hl⟩ | hw
          · have HL := Lib.hid hl
            clear hl
            have HMID : Hid (Bts w (.slice (some ⟨b, off, none⟩) 0 0) ((l.drop cap).take 0)) := bts_zero _ _ _ _ rfl (by omega)
            have HREST : Hid (Bts w (.slice (some ⟨b, off, none⟩) 0 0) ((l.drop cap).drop 0)) := by
              have h := HL.out
              rw [show l.drop cap = [] from List.drop_eq_nil_of_le (by omega)]
              exact bts_zero _ _ _ _ rfl (by omega)
            go_enter Try.func38, Try.ntmps38
            go_wp2_with fail
            refine HF.out.mono ?_
            rintro e w' ⟨rfl, rfl⟩
            have g0a := cell2_0 (HS.out.below HW0.out).1
            go_upto_region 13 with (fail)
            iterate 34 go_step
            refine wpList_append_Own rfl (.tmp 47) (.tmp 57) rfl w.heap.size _ [] rfl HO.out _ ((l.drop cap).take 0) rfl (HMID.out.below HW0.out) (by simp) HW0.out.size ?_
            intro v2 w2 hown2 hb2 _
            rw [List.nil_append] at hown2
            have HO2 := Lib.hid hown2
            have HW2 := Lib.hid (HW0.out.trans hb2)
            have HS2 := Lib.hid (HS.out.below HW2.out)
            clear hown2 hb2 g0 g1 hf0 hf1 g0a
            have g0 := cell2_0 HS2.out.1
            have hf0 := free2 HS2.out.1 0
            go_wp2
            go_ret
            exact ⟨_, rfl, HO2.out.grown (grownBy_setCell _ _ _ _) (own_ne HS.out.1 HO2.out), HS2.out.move (HREST.out.below HW2.out) rfl, grownBy_trans (grownBy_below HW2.out _) (grownBy_setCell _ _ _ _)⟩
          · have HL := Lib.hid hl
            clear hl
            have hm := HB.out.mid k n hs2 hk2
            have HMID : Hid (Bts w (.slice (some ⟨b, off + k, none⟩) (k + n - k) n) ((l.drop k).take n)) := by
              show Bts w _ _
              simpa only [Nat.add_sub_cancel_left] using hm
            have HREST : Hid (Bts w (.slice (some ⟨b, off, none⟩) 0 0) ((l.drop k).drop n)) := by
              have h := HL.out
              rw [List.drop_drop, show l.drop (k + n) = [] from List.drop_eq_nil_of_le (by omega)]
              exact bts_zero _ _ _ _ rfl (by omega)
            clear hm
            go_enter Try.func38, Try.ntmps38
            go_wp2_with fail
            refine HF.out.mono ?_
            rintro e w' ⟨rfl, rfl⟩
            have g0a := cell2_0 (HS.out.below HW0.out).1
            go_upto_region 13 with (fail)
            iterate 34 go_step
            refine wpList_append_Own rfl (.tmp 47) (.tmp 57) rfl w.heap.size _ [] rfl HO.out _ ((l.drop k).take n) rfl (HMID.out.below HW0.out) (by simp; omega) HW0.out.size ?_
            intro v2 w2 hown2 hb2 _
            rw [List.nil_append] at hown2
            have HO2 := Lib.hid hown2
            have HW2 := Lib.hid (HW0.out.trans hb2)
            have HS2 := Lib.hid (HS.out.below HW2.out)
            clear hown2 hb2 g0 g1 hf0 hf1 g0a
            have g0 := cell2_0 HS2.out.1
            have hf0 := free2 HS2.out.1 0
            go_wp2
            go_ret
            exact ⟨_, rfl, HO2.out.grown (grownBy_setCell _ _ _ _) (own_ne HS.out.1 HO2.out), HS2.out.move (HREST.out.below HW2.out) rfl, grownBy_trans (grownBy_below HW2.out _) (grownBy_setCell _ _ _ _)⟩
          · have hm := HB.out.mid k n hs2 hk2
            have HMID : Hid (Bts w (.slice (some ⟨b, off + k, none⟩) (k + n - k) (cap - k)) ((l.drop k).take n)) := by
              show Bts w _ _
              simpa only [Nat.add_sub_cancel_left] using hm
            clear hm
            have hr := HB.out.drop (k + n) (by omega)
            rw [← List.drop_drop] at hr
            have HREST := Lib.hid hr
            clear hr
            go_enter Try.func38, Try.ntmps38
            go_wp2_with fail
            refine HF.out.mono ?_
            rintro e w' ⟨rfl, rfl⟩
            have g0a := cell2_0 (HS.out.below HW0.out).1
            go_upto_region 13 with (fail)
            iterate 34 go_step
            refine wpList_append_Own rfl (.tmp 47) (.tmp 57) rfl w.heap.size _ [] rfl HO.out _ ((l.drop k).take n) rfl (HMID.out.below HW0.out) (by simp; omega) HW0.out.size ?_
            intro v2 w2 hown2 hb2 _
            rw [List.nil_append] at hown2
            have HO2 := Lib.hid hown2
            have HW2 := Lib.hid (HW0.out.trans hb2)
            have HS2 := Lib.hid (HS.out.below HW2.out)
            clear hown2 hb2 g0 g1 hf0 hf1 g0a
            have g0 := cell2_0 HS2.out.1
            have hf0 := free2 HS2.out.1 0
            go_wp2
            go_ret
            exact ⟨_, rfl, HO2.out.grown (grownBy_setCell _ _ _ _) (own_ne HS.out.1 HO2.out), HS2.out.move (HREST.out.below HW2.out) rfl, grownBy_trans (grownBy_below HW2.out _) (grownBy_setCell _ _ _ _)⟩
end Go.Proofs.Ytpliogkcfhcfpaa
