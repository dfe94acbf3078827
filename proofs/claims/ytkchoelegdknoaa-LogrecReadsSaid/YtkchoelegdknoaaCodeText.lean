/- What the program's reader tells of texts that begin with a count, over any world. Conditions: the reader's block and its bytes. -/
import Derived.Test.YtkchoelegdknoaaCodeUv
namespace Go.Proofs.Ytkchoelegdknoaa
open Go.RowKit

theorem Bts.mid {w : World} {b off cap : Nat} {l : List Nat} (h : Bts w (.slice (some ⟨b, off, none⟩) l.length cap) l) (k n : Nat) (hn : n ≤ l.length - k) (hk : k ≤ l.length) : Bts w (.slice (some ⟨b, off + k, none⟩) n (cap - k)) ((l.drop k).take n) := by
  have h1 := h.drop k hk
  have e : l.length - k = (l.drop k).length := by simp
  rw [e] at h1 hn
  exact h1.take n hn
theorem Bts.rest {w : World} {b off cap : Nat} {l : List Nat} (h : Bts w (.slice (some ⟨b, off, none⟩) l.length cap) l) (k n : Nat) (hn : n ≤ l.length - k) (hk : k ≤ l.length) : Bts w (.slice (some ⟨b, off + k + n, none⟩) (l.length - k - n) (cap - k - n)) ((l.drop k).drop n) := by
  have h1 := h.drop k hk
  have e : l.length - k = (l.drop k).length := by simp
  rw [e] at h1 hn ⊢
  exact h1.drop n hn

theorem mid_set {T : TypeId} {lo : Nat → Prop} {B e : Nat} {w : World} {s m u : Value} {l t : List Nat} (hS : RdS T lo w B s l e) (hm : Bts w m t) (ho : m.ownBlock = s.ownBlock) (hl : t.length ≤ l.length := by (simp only [List.length_take, List.length_drop, List.length_tail, List.length_nil]; omega)) : Bts (w.setCell ⟨B, 0, none⟩ u) m t :=
  hm.grown (grownBy_setCell w B 0 u) (fun h0 he => hS.2.2.1 (hS.2.2.2 (by omega) B (by rw [← ho, he])))

theorem text_end {T : TypeId} {lo : Nat → Prop} {B e : Nat} {w w1 : World} {s s' v : Value} {l r t : List Nat} (hS : RdS T lo w B s l e) (hR : Bts w s' r) (ho : s'.ownBlock = s.ownBlock) (hl : r.length ≤ l.length)
    (hO : Own (w.setCell ⟨B, 0, none⟩ s').heap.size w1 v t) (hb : Below (w.setCell ⟨B, 0, none⟩ s').heap.size (w.setCell ⟨B, 0, none⟩ s') w1) : Own w.heap.size w1 v t ∧ Rd T lo w1 B r e ∧ w.grownBy w1 (some B) :=
  ⟨hO.from (by simp [World.setCell]), (hS.move hR ho hl).below hb, grownBy_trans (grownBy_setCell _ _ _ _) (grownBy_below hb _)⟩

set_option maxHeartbeats 1600000 in
set_option maxRecDepth 20000 in
theorem Text_long (lo : Nat → Prop) (B : Nat) (l : List Nat) (most : Int) (w : World) (hR : Rd 77 lo w B l 0) (hk : (Cod.cnt 0 l).2 ≠ 0) (hm : most ≤ 9223372036854775807) (hlong : max most 0 < ((Cod.cnt 0 l).1 : Int)) :
    Calls Try.prog 51 #[.pointer (some ⟨B, 0, none⟩), .int .i64 most] w fun e w' => e = .returned (.slice none 0 0) ∧ Rd 77 lo w' B l 3 ∧ w.grownBy w' (some B) := by
  have HR := Lib.hid hR
  obtain ⟨s, hS⟩ := hR
  have HS := Lib.hid hS
  have HB := Lib.hid hS.2.1
  have hkl := Cod.cnt_len l 0
  have HF := Lib.hid (firstUv_any s l w HB.out)
  generalize Cod.cnt 0 l = c at hk hkl HF hlong ⊢
  obtain ⟨n, k⟩ := c
  have hk1 : 0 < k := by simp at hk; omega
  have hk2 : k ≤ l.length := hkl
  obtain ⟨M, hM⟩ : ∃ M : Nat, max most 0 = (M : Int) := ⟨(max most 0).toNat, by omega⟩
  have hM2 : M ≤ 9223372036854775807 := by omega
  have hMn : M < n := by rw [hM] at hlong; exact Int.ofNat_lt.1 hlong
  obtain ⟨p, cap, rfl, hr, hn, hp⟩ := HB.out.form
  obtain ⟨b, off, rfl, hc⟩ := hp (by omega)
  have hcap := hr.1
  have hcap2 := hr.2
  have hlen := HB.out.len
  have hc0 := cell2_0 hS.1
  have hc1 := cell2_1 hS.1
  have hf := free2 hS.1 1
  clear hS hk hkl hr hn hp hc hm hlong
  go_enter Try.func51, Try.ntmps51
  go_wp2_with fail
  refine (err_any lo B 0 l _ HR.out).mono ?_
  rintro e w' ⟨rfl, rfl⟩
  go_wp2_with fail
  refine HF.out.mono ?_
  rintro e w' ⟨rfl, rfl⟩
  go_wp2_with fail
  all_goals
    go_ret
    exact ⟨rfl, HR.out.fail 3, grownBy_setCell _ _ _ _⟩

set_option maxHeartbeats 1600000 in
set_option maxRecDepth 20000 in
theorem Text_short (lo : Nat → Prop) (B : Nat) (l : List Nat) (most : Int) (w : World) (hR : Rd 77 lo w B l 0) (hk : (Cod.cnt 0 l).2 ≠ 0) (hm : most ≤ 9223372036854775807) (hlong : ¬ max most 0 < ((Cod.cnt 0 l).1 : Int)) (hs : l.length - (Cod.cnt 0 l).2 < (Cod.cnt 0 l).1) :
    Calls Try.prog 51 #[.pointer (some ⟨B, 0, none⟩), .int .i64 most] w fun e w' => e = .returned (.slice none 0 0) ∧ Rd 77 lo w' B l 4 ∧ w.grownBy w' (some B) := by
  have HR := Lib.hid hR
  obtain ⟨s, hS⟩ := hR
  have HS := Lib.hid hS
  have HB := Lib.hid hS.2.1
  have hkl := Cod.cnt_len l 0
  have HF := Lib.hid (firstUv_any s l w HB.out)
  generalize Cod.cnt 0 l = c at hk hkl HF hlong hs ⊢
  obtain ⟨n, k⟩ := c
  have hk1 : 0 < k := by simp at hk; omega
  have hk2 : k ≤ l.length := hkl
  obtain ⟨M, hM⟩ : ∃ M : Nat, max most 0 = (M : Int) := ⟨(max most 0).toNat, by omega⟩
  have hM2 : M ≤ 9223372036854775807 := by omega
  have hMn : n ≤ M := by rw [hM] at hlong; exact Int.ofNat_le.1 (Int.not_lt.1 hlong)
  have hs2 : l.length - k < n := hs
  obtain ⟨p, cap, rfl, hr, hn, hp⟩ := HB.out.form
  obtain ⟨b, off, rfl, hc⟩ := hp (by omega)
  have hcap := hr.1
  have hcap2 := hr.2
  have hlen := HB.out.len
  have hc0 := cell2_0 hS.1
  have hc1 := cell2_1 hS.1
  have hf := free2 hS.1 1
  clear hS hk hkl hr hn hp hc hm hlong hs
  go_enter Try.func51, Try.ntmps51
  go_wp2_with fail
  refine (err_any lo B 0 l _ HR.out).mono ?_
  rintro e w' ⟨rfl, rfl⟩
  go_wp2_with fail
  refine HF.out.mono ?_
  rintro e w' ⟨rfl, rfl⟩
  go_wp2_with fail
  all_goals
    go_ret
    exact ⟨rfl, HR.out.fail 4, grownBy_setCell _ _ _ _⟩

set_option maxHeartbeats 1600000 in
set_option maxRecDepth 20000 in
theorem Text_ok (lo : Nat → Prop) (B : Nat) (l : List Nat) (most : Int) (w : World) (hR : Rd 77 lo w B l 0) (hk : (Cod.cnt 0 l).2 ≠ 0) (hm : most ≤ 9223372036854775807) (hlong : ¬ max most 0 < ((Cod.cnt 0 l).1 : Int)) (hs : ¬ l.length - (Cod.cnt 0 l).2 < (Cod.cnt 0 l).1) :
    Calls Try.prog 51 #[.pointer (some ⟨B, 0, none⟩), .int .i64 most] w fun e w' => ∃ v, e = .returned v ∧ Own w.heap.size w' v ((l.drop (Cod.cnt 0 l).2).take (Cod.cnt 0 l).1) ∧ Rd 77 lo w' B ((l.drop (Cod.cnt 0 l).2).drop (Cod.cnt 0 l).1) 0 ∧ w.grownBy w' (some B) := by
  have HR := Lib.hid hR
  obtain ⟨s, hS⟩ := hR
  have HS := Lib.hid hS
  have HB := Lib.hid hS.2.1
  have hkl := Cod.cnt_len l 0
  have HF := Lib.hid (firstUv_any s l w HB.out)
  generalize Cod.cnt 0 l = c at hk hkl HF hlong hs ⊢
  obtain ⟨n, k⟩ := c
  have hk1 : 0 < k := by simp at hk; omega
  have hk2 : k ≤ l.length := hkl
  obtain ⟨M, hM⟩ : ∃ M : Nat, max most 0 = (M : Int) := ⟨(max most 0).toNat, by omega⟩
  have hM2 : M ≤ 9223372036854775807 := by omega
  have hMn : n ≤ M := by rw [hM] at hlong; exact Int.ofNat_le.1 (Int.not_lt.1 hlong)
  have hs2 : n ≤ l.length - k := by simp at hs; exact hs
  obtain ⟨p, cap, rfl, hr, hn, hp⟩ := HB.out.form
  obtain ⟨b, off, rfl, hc⟩ := hp (by omega)
  have hcap := hr.1
  have hcap2 := hr.2
  have hlen := HB.out.len
  have hc0 := cell2_0 hS.1
  have hf := free2 hS.1 0
  clear hS hk hkl hr hn hp hc hm hlong hs
  have hways : (cap = k ∧ l.length = k ∧ n = 0) ∨ (cap = k + n ∧ 0 < n ∧ l.length = k + n) ∨ k + n < cap := by omega
  rcases hways with ⟨rfl, hl, rfl⟩ | ⟨rfl, h0, hl⟩ | hw
  · have HL := Lib.hid hl
    clear hl
    go_enter Try.func51, Try.ntmps51
    go_wp2_with fail
    refine (err_any lo B 0 l _ HR.out).mono ?_
    rintro e w' ⟨rfl, rfl⟩
    go_wp2_with fail
    refine HF.out.mono ?_
    rintro e w' ⟨rfl, rfl⟩
    go_wp2_with fail
    have hrest : Bts w (.slice (some ⟨b, off, none⟩) 0 0) ((l.drop cap).drop 0) := by
      rw [show l.drop cap = [] from List.drop_eq_nil_of_le (by have := HL.out; omega)]
      exact bts_zero _ _ _ _ rfl (by omega)
    have HREST := Lib.hid hrest
    clear hrest
    have hmid : Bts (w.setCell ⟨B, 0, none⟩ (.slice (some ⟨b, off, none⟩) 0 0)) (.slice (some ⟨b, off, none⟩) 0 0) ((l.drop cap).take 0) := bts_zero _ _ _ _ rfl (by omega)
    refine (clone_any _ _ _ hmid).mono ?_
    rintro e w1 ⟨v1, rfl, hO1, hb1⟩
    have HEND := Lib.hid (text_end HS.out HREST.out rfl (by simp only [List.length_drop]; omega) hO1 hb1)
    clear hO1 hb1 hmid
    go_wp2_with fail
    go_ret
    exact ⟨_, rfl, HEND.out⟩
  · have HL := Lib.hid hl
    clear hl
    go_enter Try.func51, Try.ntmps51
    go_wp2_with fail
    refine (err_any lo B 0 l _ HR.out).mono ?_
    rintro e w' ⟨rfl, rfl⟩
    go_wp2_with fail
    refine HF.out.mono ?_
    rintro e w' ⟨rfl, rfl⟩
    go_wp2_with fail
    have hrest : Bts w (.slice (some ⟨b, off + k, none⟩) (l.length - k - n) 0) ((l.drop k).drop n) := by
      rw [List.drop_drop, show l.drop (k + n) = [] from List.drop_eq_nil_of_le (by have := HL.out; omega)]
      exact bts_zero _ _ _ _ (by have := HL.out; omega) (by omega)
    have HREST := Lib.hid hrest
    clear hrest
    have hm := HB.out.mid k n hs2 hk2
    rw [Nat.add_sub_cancel_left] at hm
    have HM := Lib.hid (mid_set (u := .slice (some ⟨b, off + k, none⟩) (l.length - k - n) 0) HS.out hm rfl)
    clear hm
    refine (clone_any _ _ _ HM.out).mono ?_
    rintro e w1 ⟨v1, rfl, hO1, hb1⟩
    have HEND := Lib.hid (text_end HS.out HREST.out rfl (by simp only [List.length_drop]; omega) hO1 hb1)
    clear hO1 hb1
    go_wp2_with fail
    go_ret
    exact ⟨_, rfl, HEND.out⟩
  · go_enter Try.func51, Try.ntmps51
    go_wp2_with fail
    refine (err_any lo B 0 l _ HR.out).mono ?_
    rintro e w' ⟨rfl, rfl⟩
    go_wp2_with fail
    refine HF.out.mono ?_
    rintro e w' ⟨rfl, rfl⟩
    go_wp2_with fail
    have HREST := Lib.hid (HB.out.rest k n hs2 hk2)
    have HM := Lib.hid (mid_set (u := .slice (some ⟨b, off + k + n, none⟩) (l.length - k - n) (cap - k - n)) HS.out (HB.out.mid k n hs2 hk2) rfl)
    refine (clone_any _ _ _ HM.out).mono ?_
    rintro e w1 ⟨v1, rfl, hO1, hb1⟩
    have HEND := Lib.hid (text_end HS.out HREST.out rfl (by simp only [List.length_drop]; omega) hO1 hb1)
    clear hO1 hb1
    go_wp2_with fail
    go_ret
    exact ⟨_, rfl, HEND.out⟩

/-- A text is read. -/
theorem Text_any (lo : Nat → Prop) (B e : Nat) (l : List Nat) (most : Int) (w : World) (hR : Rd 77 lo w B l e) (hm : most ≤ 9223372036854775807) :
    Calls Try.prog 51 #[.pointer (some ⟨B, 0, none⟩), .int .i64 most] w fun en w' => ∃ v, en = .returned v ∧ Own w.heap.size w' v (Cod.rdText most l e).1 ∧ Rd 77 lo w' B (Cod.rdText most l e).2.1 (Cod.rdText most l e).2.2 ∧ w.grownBy w' (some B) := by
  unfold Cod.rdText
  by_cases he : e ≠ 0
  · rw [if_pos he]
    exact (Text_err lo B e l most w hR he).mono fun en w' ⟨h1, h2⟩ => by subst h2; exact ⟨_, h1, own_nil _ _, hR, grownBy_refl _ _⟩
  · obtain rfl : e = 0 := by omega
    rw [if_neg he]
    by_cases hk : (Cod.cnt 0 l).2 = 0
    · rw [if_pos hk]; exact (Text_none lo B l most w hR hk).mono fun en w' ⟨h1, h2⟩ => ⟨_, h1, own_nil _ _, h2⟩
    · rw [if_neg hk]
      by_cases hl : max most 0 < ((Cod.cnt 0 l).1 : Int)
      · rw [if_pos hl]; exact (Text_long lo B l most w hR hk hm hl).mono fun en w' ⟨h1, h2⟩ => ⟨_, h1, own_nil _ _, h2⟩
      · rw [if_neg hl]
        by_cases hs : l.length - (Cod.cnt 0 l).2 < (Cod.cnt 0 l).1
        · rw [if_pos hs]; exact (Text_short lo B l most w hR hk hm hl hs).mono fun en w' ⟨h1, h2⟩ => ⟨_, h1, own_nil _ _, h2⟩
        · rw [if_neg hs]; exact Text_ok lo B l most w hR hk hm hl hs
end Go.Proofs.Ytkchoelegdknoaa
