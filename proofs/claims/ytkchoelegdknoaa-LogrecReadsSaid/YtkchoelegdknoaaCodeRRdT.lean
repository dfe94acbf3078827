/- What the document's reader tells of counts and texts. Conditions: the slice's cells hold the bytes. -/
import Derived.Test.YtkchoelegdknoaaCodeRRd
import Derived.Test.YtkchoelegdknoaaCodeText
namespace Go.Proofs.Ytkchoelegdknoaa
open Go.RowKit

set_option maxHeartbeats 1600000 in
set_option maxRecDepth 20000 in
theorem refRUv_any (lo : Nat → Prop) (B e : Nat) (l : List Nat) (w : World) (hR : Rd 79 lo w B l e) :
    Calls Try.prog 58 #[.pointer (some ⟨B, 0, none⟩)] w fun en w' => en = .returned (.int .u64 ((Cod.rdUv l e).1 : Nat)) ∧ Rd 79 lo w' B (Cod.rdUv l e).2.1 (Cod.rdUv l e).2.2 ∧ w.grownBy w' (some B) := by
  have HR := Lib.hid hR
  obtain ⟨s, hS⟩ := hR
  have HS := Lib.hid hS
  have HB := Lib.hid hS.2.1
  have hkl := Cod.cnt_len l 0
  have HF := Lib.hid (refCount_any s l w HB.out)
  obtain ⟨p, cap, rfl, hr, hn, hp⟩ := HB.out.form
  have hcap := hr.1
  have hcap2 := hr.2
  have hlen := HB.out.len
  have g0 := cell2_0 hS.1
  have g1 := cell2_1 hS.1
  have hf0 := free2 hS.1 0
  have hf1 := free2 hS.1 1
  have HP := Lib.hid hp
  clear hS hr hn hp
  unfold Cod.rdUv
  by_cases he : e ≠ 0
  · rw [if_pos he]
    have h0 : ((e : Int) == 0) = false := by simp; omega
    have h1 : ((e : Int) != 0) = true := by simp; omega
    have h2 : ¬ (e : Int) = 0 := by omega
    clear he
    go_enter Try.func58, Try.ntmps58
    go_wp2_with fail
    go_ret
    exact ⟨rfl, HR.out, grownBy_refl _ _⟩
  · obtain rfl : e = 0 := by omega
    rw [if_neg he]
    clear he
    generalize Cod.cnt 0 l = c at hkl HF ⊢
    obtain ⟨n, k⟩ := c
    have hk2 : k ≤ l.length := hkl
    clear hkl
    by_cases hk : k = 0
    · rw [if_pos hk]
      subst hk
      go_enter Try.func58, Try.ntmps58
      go_wp2_with fail
      refine HF.out.mono ?_
      rintro e w' ⟨rfl, rfl⟩
      go_wp2_with fail
      go_ret
      exact ⟨rfl, HR.out.fail 4, grownBy_setCell _ _ _ _⟩
    · rw [if_neg hk]
      obtain ⟨b, off, rfl, hc⟩ := HP.out (by omega)
      have hk1 : 0 < k := by omega
      clear HP hc hk
      go_enter Try.func58, Try.ntmps58
      go_wp2_with fail
      refine HF.out.mono ?_
      rintro e w' ⟨rfl, rfl⟩
      go_wp2_with fail
      all_goals
        go_ret
        refine ⟨rfl, HS.out.move ?_ rfl, grownBy_setCell _ _ _ _⟩
        first
          | exact HB.out.drop k hk2
          | (rw [show l.drop k = [] from List.drop_eq_nil_of_le (by omega)]
             exact bts_zero _ _ _ _ (by omega) (by omega))

theorem own_ne {T : TypeId} {B : Nat} {w w2 : World} {a b v : Value} {l : List Nat} (hh : w.heap[B]? = some (.cells #[a, b] T (0, 0))) (hO : Own w.heap.size w2 v l) : v.ownBlock = none ∨ v.ownBlock ≠ some B := by
  right
  intro h
  have := World.ownsRow.lt hO.own B h
  have := lt_of_block hh
  omega

set_option maxHeartbeats 3200000 in
set_option maxRecDepth 20000 in
theorem refRText_any (lo : Nat → Prop) (B e : Nat) (l : List Nat) (most : Int) (w : World) (hR : Rd 79 lo w B l e) (hm : most ≤ 9223372036854775807) :
    Calls Try.prog 57 #[.pointer (some ⟨B, 0, none⟩), .int .i64 most] w fun en w' => ∃ v, en = .returned v ∧ Own w.heap.size w' v (Cod.rdText most l e).1 ∧ Rd 79 lo w' B (Cod.rdText most l e).2.1 (Cod.rdText most l e).2.2 ∧ w.grownBy w' (some B) := by
  have HR := Lib.hid hR
  obtain ⟨s, hS⟩ := hR
  have HS := Lib.hid hS
  have HB := Lib.hid hS.2.1
  have hkl := Cod.cnt_len l 0
  have HF := Lib.hid (refCount_any s l w HB.out)
  obtain ⟨p, cap, rfl, hr, hn, hp⟩ := HB.out.form
  have hcap := hr.1
  have hcap2 := hr.2
  have hlen := HB.out.len
  have g0 := cell2_0 hS.1
  have g1 := cell2_1 hS.1
  have hf0 := free2 hS.1 0
  have hf1 := free2 hS.1 1
  have HP := Lib.hid hp
  clear hS hr hn hp
  unfold Cod.rdText
  by_cases he : e ≠ 0
  · rw [if_pos he]
    have h0 : ((e : Int) == 0) = false := by simp; omega
    have h1 : ((e : Int) != 0) = true := by simp; omega
    have h2 : ¬ (e : Int) = 0 := by omega
    clear he
    go_enter Try.func57, Try.ntmps57
    go_wp2_with fail
    go_ret
    exact ⟨_, rfl, own_nil _ _, HR.out, grownBy_refl _ _⟩
  · obtain rfl : e = 0 := by omega
    rw [if_neg he]
    clear he
    generalize Cod.cnt 0 l = c at hkl HF ⊢
    obtain ⟨n, k⟩ := c
    have hk2 : k ≤ l.length := hkl
    clear hkl
    by_cases hk : k = 0
    · rw [if_pos hk]
      subst hk
      go_enter Try.func57, Try.ntmps57
      go_wp2_with fail
      refine HF.out.mono ?_
      rintro e w' ⟨rfl, rfl⟩
      go_wp2_with fail
      go_ret
      exact ⟨_, rfl, own_nil _ _, HR.out.fail 4, grownBy_setCell _ _ _ _⟩
    · rw [if_neg hk]
      obtain ⟨b, off, rfl, hc⟩ := HP.out (by omega)
      have hk1 : 0 < k := by omega
      obtain ⟨M, hM⟩ : ∃ M : Nat, max most 0 = (M : Int) := ⟨(max most 0).toNat, by omega⟩
      have hM2 : M ≤ 9223372036854775807 := by omega
      clear HP hc hk hm
      by_cases hlong : max most 0 < (n : Int)
      · rw [if_pos hlong]
        rw [hM] at hlong
        go_enter Try.func57, Try.ntmps57
        go_wp2_with fail
        refine HF.out.mono ?_
        rintro e w' ⟨rfl, rfl⟩
        go_wp2_with fail
        go_ret
        exact ⟨_, rfl, own_nil _ _, HR.out.fail 3, grownBy_setCell _ _ _ _⟩
      · rw [if_neg hlong]
        rw [hM] at hlong
        by_cases hs : l.length - k < n
        · rw [if_pos hs]
          have hs2 : (l.length : Int) - (k : Int) < n := by omega
          go_enter Try.func57, Try.ntmps57
          go_wp2_with fail
          refine HF.out.mono ?_
          rintro e w' ⟨rfl, rfl⟩
          go_wp2_with fail
          go_ret
          exact ⟨_, rfl, own_nil _ _, HR.out.fail 4, grownBy_setCell _ _ _ _⟩
        · rw [if_neg hs]
          have hs2 : n ≤ l.length - k := by omega
          have hs3 : ¬ (l.length : Int) - (k : Int) < n := by omega
          have HO := Lib.hid (own_empty w w.heap.size 0 #[] (Nat.le_refl _) (Nat.zero_le _) rfl)
          have HW0 : Hid (Below w.heap.size w (w.alloc (.cells #[] 5))) := (Below.refl _ _).alloc (Nat.le_refl _) _
          have hways : (cap = k ∧ l.length = k ∧ n = 0) ∨ (cap = k + n ∧ 0 < n ∧ l.length = k + n) ∨ k + n < cap := by omega
          rcases hways with ⟨rfl, hl, rfl⟩ | ⟨rfl, h0, hl⟩ | hw
          · have HL := Lib.hid hl
            clear hl
            have HMID : Hid (Bts w (.slice (some ⟨b, off, none⟩) 0 0) ((l.drop cap).take 0)) := bts_zero _ _ _ _ rfl (by omega)
            have HREST : Hid (Bts w (.slice (some ⟨b, off, none⟩) 0 0) ((l.drop cap).drop 0)) := by
              have h := HL.out
              rw [show l.drop cap = [] from List.drop_eq_nil_of_le (by omega)]
              exact bts_zero _ _ _ _ rfl (by omega)
            go_enter Try.func57, Try.ntmps57
            go_wp2_with fail
            refine HF.out.mono ?_
            rintro e w' ⟨rfl, rfl⟩
            have g0a := cell2_0 (HS.out.below HW0.out).1
            go_upto_region 13 with (fail)
            iterate 34 go_step
            refine wpList_append_Own rfl (.tmp 47) (.tmp 57) rfl w.heap.size _ [] rfl HO.out _ ((l.drop cap).take 0) rfl (HMID.out.below HW0.out) (by simp) HW0.out.size ?_
            intro v2 w2 hown2 hb2 _
            rw [List.nil_append] at hown2
            have HO2 := Lib.hid hown2
            have HW2 := Lib.hid (HW0.out.trans hb2)
            have HS2 := Lib.hid (HS.out.below HW2.out)
            clear hown2 hb2 g0 g1 hf0 hf1 g0a
            have g0 := cell2_0 HS2.out.1
            have hf0 := free2 HS2.out.1 0
            go_wp2
            go_ret
            exact ⟨_, rfl, HO2.out.grown (grownBy_setCell _ _ _ _) (own_ne HS.out.1 HO2.out), HS2.out.move (HREST.out.below HW2.out) rfl, grownBy_trans (grownBy_below HW2.out _) (grownBy_setCell _ _ _ _)⟩
          · have HL := Lib.hid hl
            clear hl
            have hm := HB.out.mid k n hs2 hk2
            have HMID : Hid (Bts w (.slice (some ⟨b, off + k, none⟩) (k + n - k) n) ((l.drop k).take n)) := by
              show Bts w _ _
              simpa only [Nat.add_sub_cancel_left] using hm
            have HREST : Hid (Bts w (.slice (some ⟨b, off, none⟩) 0 0) ((l.drop k).drop n)) := by
              have h := HL.out
              rw [List.drop_drop, show l.drop (k + n) = [] from List.drop_eq_nil_of_le (by omega)]
              exact bts_zero _ _ _ _ rfl (by omega)
            clear hm
            go_enter Try.func57, Try.ntmps57
            go_wp2_with fail
            refine HF.out.mono ?_
            rintro e w' ⟨rfl, rfl⟩
            have g0a := cell2_0 (HS.out.below HW0.out).1
            go_upto_region 13 with (fail)
            iterate 34 go_step
            refine wpList_append_Own rfl (.tmp 47) (.tmp 57) rfl w.heap.size _ [] rfl HO.out _ ((l.drop k).take n) rfl (HMID.out.below HW0.out) (by simp; omega) HW0.out.size ?_
            intro v2 w2 hown2 hb2 _
            rw [List.nil_append] at hown2
            have HO2 := Lib.hid hown2
            have HW2 := Lib.hid (HW0.out.trans hb2)
            have HS2 := Lib.hid (HS.out.below HW2.out)
            clear hown2 hb2 g0 g1 hf0 hf1 g0a
            have g0 := cell2_0 HS2.out.1
            have hf0 := free2 HS2.out.1 0
            go_wp2
            go_ret
            exact ⟨_, rfl, HO2.out.grown (grownBy_setCell _ _ _ _) (own_ne HS.out.1 HO2.out), HS2.out.move (HREST.out.below HW2.out) rfl, grownBy_trans (grownBy_below HW2.out _) (grownBy_setCell _ _ _ _)⟩
          · have hm := HB.out.mid k n hs2 hk2
            have HMID : Hid (Bts w (.slice (some ⟨b, off + k, none⟩) (k + n - k) (cap - k)) ((l.drop k).take n)) := by
              show Bts w _ _
              simpa only [Nat.add_sub_cancel_left] using hm
            clear hm
            have hr := HB.out.drop (k + n) (by omega)
            rw [← List.drop_drop] at hr
            have HREST := Lib.hid hr
            clear hr
            go_enter Try.func57, Try.ntmps57
            go_wp2_with fail
            refine HF.out.mono ?_
            rintro e w' ⟨rfl, rfl⟩
            have g0a := cell2_0 (HS.out.below HW0.out).1
            go_upto_region 13 with (fail)
            iterate 34 go_step
            refine wpList_append_Own rfl (.tmp 47) (.tmp 57) rfl w.heap.size _ [] rfl HO.out _ ((l.drop k).take n) rfl (HMID.out.below HW0.out) (by simp; omega) HW0.out.size ?_
            intro v2 w2 hown2 hb2 _
            rw [List.nil_append] at hown2
            have HO2 := Lib.hid hown2
            have HW2 := Lib.hid (HW0.out.trans hb2)
            have HS2 := Lib.hid (HS.out.below HW2.out)
            clear hown2 hb2 g0 g1 hf0 hf1 g0a
            have g0 := cell2_0 HS2.out.1
            have hf0 := free2 HS2.out.1 0
            go_wp2
            go_ret
            exact ⟨_, rfl, HO2.out.grown (grownBy_setCell _ _ _ _) (own_ne HS.out.1 HO2.out), HS2.out.move (HREST.out.below HW2.out) rfl, grownBy_trans (grownBy_below HW2.out _) (grownBy_setCell _ _ _ _)⟩
end Go.Proofs.Ytkchoelegdknoaa
