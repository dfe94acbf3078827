/- What the document's May and Same answer. Conditions: the slices' cells hold what they tell. -/
import Derived.Test.YtpliogkcfhcfpaaItemSame
namespace Go.Proofs.Ytpliogkcfhcfpaa
open Go.RowKit

set_option maxHeartbeats 800000 in
set_option maxRecDepth 20000 in
theorem refMay_any (k : Nat) (p1 p2 : Option Addr) (n1 c1 n2 c2 : Nat) (w : World) (h1 : n1 ≤ 35184372088832) (h2 : n2 ≤ 140737488355328) :
    Calls Try.prog 14 #[ItemV k (.slice p1 n1 c1) (.slice p2 n2 c2)] w fun e w' => e = .returned (.int .i64 (Itm.mayE n1 n2 : Nat)) ∧ Below w.heap.size w w' := by
  have HB : Hid (Below w.heap.size w (w.alloc (.cells #[.int .u64 (k : Int), .slice p1 n1 c1, .slice p2 n2 c2] 26))) := (Below.refl _ _).alloc (Nat.le_refl _) _
  by_cases ha : n1 < 1
  · rw [show Itm.mayE n1 n2 = 9 by unfold Itm.mayE; rw [if_pos (by omega)]]
    go_enter Try.func14, Try.ntmps14
    go_wp2
    go_ret
    exact ⟨rfl, HB.out⟩
  by_cases hb : 4096 < n1
  · rw [show Itm.mayE n1 n2 = 9 by unfold Itm.mayE; rw [if_pos (by omega)]]
    go_enter Try.func14, Try.ntmps14
    go_wp2
    go_ret
    exact ⟨rfl, HB.out⟩
  by_cases hc : 1024 < n2
  · rw [show Itm.mayE n1 n2 = 3 by unfold Itm.mayE; rw [if_neg (by omega), if_pos hc]]
    go_enter Try.func14, Try.ntmps14
    go_wp2
    go_ret
    exact ⟨rfl, HB.out⟩
  · rw [show Itm.mayE n1 n2 = 0 by unfold Itm.mayE; rw [if_neg (by omega), if_neg (by omega)]]
    go_enter Try.func14, Try.ntmps14
    go_wp2
    go_ret
    exact ⟨rfl, HB.out⟩

theorem str_ne {a b : List Nat} (ha : ∀ x ∈ a, x < 256) (hb : ∀ x ∈ b, x < 256) (h : a ≠ b) : ((strOfNums (a.map fun x : Nat => (x : Int))).toList == (strOfNums (b.map fun x : Nat => (x : Int))).toList) = false := by
  rw [beq_eq_false_iff_ne]
  intro e
  rw [ByteArray.toList_eq, ByteArray.toList_eq] at e
  exact h (str_inj ha hb (Go.WideShapes.bytes_inj e))

set_option maxHeartbeats 3200000 in
set_option maxRecDepth 20000 in
theorem refSame_any (k1 k2 : Nat) (v1 m1 v2 m2 : Value) (a b : List Int) (s t : List Nat) (w : World) (hA : ItemAt w k1 v1 m1 a s) (hB : ItemAt w k2 v2 m2 b t) :
    Calls Try.prog 19 #[ItemV k1 v1 m1, ItemV k2 v2 m2] w fun e w' => e = .returned (.bool (Itm.same k1 a s k2 b t)) ∧ Below w.heap.size w w' := by
  have HW := Lib.hid (below_two w (.cells #[.int .u64 (k1 : Int), v1, m1] 26) (.cells #[.int .u64 (k2 : Int), v2, m2] 26))
  have hcA := fun W (hb : Below w.heap.size w W) => strOf_conv (hA.bytes.below hb)
  have hcB := fun W (hb : Below w.heap.size w W) => strOf_conv (hB.bytes.below hb)
  obtain ⟨p1, c1, rfl, -, -, hp1⟩ := hA.vec.form
  obtain ⟨p2, c2, rfl, -, -, hp2⟩ := hB.vec.form
  obtain ⟨q1, d1, rfl, -, -, -⟩ := hA.bytes.form
  obtain ⟨q2, d2, rfl, -, -, -⟩ := hB.bytes.form
  have la := hA.vec.len
  have lb := hB.vec.len
  have ls := hA.bytes.len
  have lt := hB.bytes.len
  generalize hna : a.length = n at *
  generalize hnb : b.length = n2 at *
  have HNA := Lib.hid hna
  have HNB := Lib.hid hnb
  clear hna hnb
  by_cases hk : k1 = k2
  · subst hk
    by_cases hv : n = n2
    · subst hv
      by_cases hs : s = t
      · subst hs
        have e1 := hcA _ HW.out
        have e2 := hcB _ HW.out
        have HPA := Lib.hid hp1
        have HPB := Lib.hid hp2
        have HR : Hid (Itm.same k1 a s k1 b s = decide (a = b)) := by
          show _ = _
          by_cases hab : a = b
          · rw [Itm.same_true rfl hab rfl, decide_eq_true hab]
          · rw [Itm.same_vec hab, decide_eq_false hab]
        obtain ⟨r, hr⟩ : ∃ r, r = decide (a = b) := ⟨_, rfl⟩
        rw [HR.out, ← hr]
        have HQ := Lib.hid hr
        clear hp1 hp2 hr HR hA hB hcA hcB
        generalize strOfNums (s.map fun x : Nat => (x : Int)) = S at *
        go_enter Try.func19, Try.ntmps19
        go_wp2_with fail
        clear e1 e2
        obtain ⟨W0, hW0⟩ : ∃ W0, W0 = (w.alloc (.cells #[.int .u64 (k1 : Int), .slice p1 n c1, .slice q1 s.length d1] 26)).alloc (.cells #[.int .u64 (k1 : Int), .slice p2 n c2, .slice q2 s.length d2] 26) := ⟨_, rfl⟩
        have z1 : W0.cell? ⟨w.heap.size, 1, none⟩ = some (.slice p1 n c1) := by rw [hW0]; simp
        have z2 : W0.cell? ⟨w.heap.size + 1, 1, none⟩ = some (.slice p2 n c2) := by rw [hW0]; simp
        rw [← hW0] at HW ⊢
        clear hW0
        obtain ⟨B, hB⟩ : ∃ B, B = w.heap.size := ⟨_, rfl⟩
        rw [← hB] at HW z1 z2 ⊢
        have Z1 := Lib.hid z1
        have Z2 := Lib.hid z2
        have HB := Lib.hid hB
        clear z1 z2 hB
        go_loopw [5] (fun i wr => ∃ k q : Nat, k ≤ n ∧ i = .int .i64 k ∧ a.take k = b.take k ∧ wr = W0.drewN q) (fun i _ => n - (intOf i).toNat)
        case atStart => exact ⟨0, 0, by omega, rfl, by simp, rfl⟩
        case round =>
          obtain ⟨k, q, hk, rfl, ht, rfl⟩ := hrel
          have HT := Lib.hid ht
          have z1 := Z1.out
          have z2 := Z2.out
          clear ht
          by_cases hlt : k < n
          · have HS := Lib.hid (take_eq_step a b 0 k (HNA.out.trans HNB.out.symm) (by have := HNA.out; omega) HT.out)
            obtain ⟨ba, oa, rfl, hca⟩ := HPA.out (by omega)
            obtain ⟨bb, ob, rfl, hcb⟩ := HPB.out (by omega)
            have hc1 := HW.out.cell (p := ⟨ba, oa + k, none⟩) (by rw [HB.out]; exact block_lt_of_cell (hca k hlt))
            have hc2 := HW.out.cell (p := ⟨bb, ob + k, none⟩) (by rw [HB.out]; exact block_lt_of_cell (hcb k hlt))
            rw [hca k hlt] at hc1
            rw [hcb k hlt] at hc2
            clear hca hcb
            by_cases hxy : a.getD k 0 = b.getD k 0
            · have hs := HS.out hxy
              have HS2 := Lib.hid hs
              rw [← hxy] at hc2
              clear hs hxy HS
              generalize a.getD k 0 = x at *
              go_wp2
              go_quiet (fail)
              go_wp2
              go_roundw
              case rel => exact ⟨k + 1, _, by omega, by go_num, HS2.out, rfl⟩
              case measure => simp [intOf]; omega
            · have hne : a ≠ b := fun e => hxy (by rw [e])
              have HD := Lib.hid (HQ.out.trans (decide_eq_false hne))
              clear hne HS
              generalize a.getD k 0 = x at *
              generalize b.getD k 0 = y at *
              go_wp2
              go_quiet (fail)
              go_wp2
              go_ret
              exact ⟨ret_bool HD.out.symm, by rw [World.drewN_drewN, ← HB.out]; exact HW.out.goN _⟩
          · have hd : decide (a = b) = true := by
              rw [decide_eq_true_iff]
              have h2 := HT.out
              have h3 := HNA.out
              have h4 := HNB.out
              rw [List.take_of_length_le (by omega), List.take_of_length_le (by omega)] at h2
              exact h2
            have HD := Lib.hid (HQ.out.trans hd)
            clear hd
            go_wp2_with fail
            go_ret
            exact ⟨ret_bool HD.out.symm, by rw [← HB.out]; exact HW.out.goN _⟩
      · have e1 := hcA _ HW.out
        have e2 := hcB _ HW.out
        have hne := str_ne hA.bytes.small hB.bytes.small hs
        rw [Itm.same_bytes hs]
        clear hA hB hcA hcB hp1 hp2 hs
        generalize strOfNums (s.map fun x : Nat => (x : Int)) = S at *
        generalize strOfNums (t.map fun x : Nat => (x : Int)) = T at *
        go_enter Try.func19, Try.ntmps19
        go_wp2_with fail
        go_ret
        exact ⟨rfl, HW.out⟩
    · have hne : a ≠ b := fun e => hv (by rw [← HNA.out, ← HNB.out, e])
      rw [Itm.same_vec hne]
      have hv1 : ((n : Int) == (n2 : Int)) = false := by rw [beq_eq_false_iff_ne]; omega
      have hv2 : ¬ (n : Int) = (n2 : Int) := by omega
      clear hne hA hB hcA hcB hp1 hp2
      go_enter Try.func19, Try.ntmps19
      go_wp2_with fail
      go_ret
      exact ⟨rfl, HW.out⟩
  · rw [Itm.same_key hk]
    have hk' : ¬ (k1 : Int) = (k2 : Int) := by omega
    have hk2 : ((k1 : Int) == (k2 : Int)) = false := by rw [beq_eq_false_iff_ne]; omega
    clear hA hB hcA hcB hp1 hp2
    go_enter Try.func19, Try.ntmps19
    go_wp2_with fail
    go_ret
    exact ⟨rfl, HW.out⟩
end Go.Proofs.Ytpliogkcfhcfpaa
