/- What the document's Dist and the law's same, known and cut answer. Conditions: the slices' cells hold the numbers. -/
import Derived.Test.YtljichhmfbefaaaVectDist
import Derived.Deep.QuietTactic
import Derived.BigQuiet
namespace Go.Proofs.Ytljichhmfbefaaa
open Go.RowKit

set_option maxHeartbeats 1600000 in
set_option maxRecDepth 20000 in
theorem refDist_any (va vb : Value) (a b : List Int) (w : World) (hA : I32.Bts w va a) (hB : I32.Bts w vb b) :
    Calls Try.prog 11 #[va, vb] w fun e w' => e = .returned (.tuple #[.int .i64 (Vp.far a b), .int .i64 (Vp.ferr a b)]) ∧ ∃ n, w' = w.drewN n := by
  have HA := Lib.hid hA
  have HB := Lib.hid hB
  obtain ⟨pa, ca, rfl, hra, -, hpa⟩ := hA.form
  obtain ⟨pb, cb, rfl, hrb, -, hpb⟩ := hB.form
  have la := hA.len
  have lb := hB.len
  have HPA := Lib.hid hpa
  have HPB := Lib.hid hpb
  clear hpa hpb hA hB
  by_cases hm : Vp.may a b
  · have e1 : Vp.far a b = Vp.dsum a b := if_pos hm
    have e2 : Vp.ferr a b = 0 := if_pos hm
    rw [e1, e2]
    clear e1 e2
    obtain ⟨h1, h2, h3⟩ := hm
    go_enter Try.func11, Try.ntmps11
    go_wp2_with fail
    go_loopw [6, 7] (fun s i wr => ∃ k n : Nat, k ≤ a.length ∧ i = .int .i64 k ∧ s = .int .i64 (Vp.dsum (a.take k) (b.take k)) ∧ wr = w.drewN n) (fun _ i _ => a.length - (intOf i).toNat)
    case atStart => exact ⟨0, 0, by omega, rfl, by simp [Vp.dsum], rfl⟩
    case round =>
      obtain ⟨k, n, hk, rfl, rfl, rfl⟩ := hrel
      by_cases hlt : k < a.length
      · have HS := Lib.hid (Vp.dsum_step a b k h1 hlt)
        have hle := Vp.dsum_le (a.take k) (b.take k) (HA.out.mem_take k) (HB.out.mem_take k)
        rw [List.length_take] at hle
        have hge := Vp.dsum_nonneg (a.take k) (b.take k)
        have hx := Vp.okk32 (HA.out.getD k)
        have hy := Vp.okk32 (HB.out.getD k)
        have hxy := Vp.ab_le (HA.out.getD k) (HB.out.getD k)
        have hxy0 := Vp.ab_nonneg (a.getD k 0 - b.getD k 0)
        obtain ⟨ba, oa, rfl, hca⟩ := HPA.out (by omega)
        obtain ⟨bb, ob, rfl, hcb⟩ := HPB.out (by omega)
        have hc1 := hca k hlt
        have hc2 := hcb k (by omega)
        clear hca hcb HPA HPB HA HB
        generalize a.getD k 0 = x at *
        generalize b.getD k 0 = y at *
        generalize Vp.dsum (a.take k) (b.take k) = s at *
        have hs := HS.out
        have c1 : IntKind.i64.wrap x = x := IntWalk.i64_in _ (by omega)
        have c2 : IntKind.i64.wrap y = y := IntWalk.i64_in _ (by omega)
        have c3 : IntKind.i64.wrap (x - y) = x - y := IntWalk.i64_in _ (by omega)
        have hk' : k < b.length := by omega
        clear hs
        by_cases hn : x - y < 0
        · have ha : Vp.ab (x - y) = -(x - y) := if_pos hn
          rw [ha] at HS hxy hxy0
          have c5 : IntKind.i64.wrap (-(x - y)) = -(x - y) := IntWalk.i64_in _ (by omega)
          have c4 : IntKind.i64.wrap (s + -(x - y)) = s + -(x - y) := IntWalk.i64_in _ (by omega)
          clear ha
          go_wp2
          go_quiet (fail)
          go_wp2
          go_roundw
          case rel => exact ⟨k + 1, _, by omega, by go_num, by rw [HS.out], rfl⟩
          case measure => simp [intOf]; omega
        · have ha : Vp.ab (x - y) = x - y := if_neg hn
          rw [ha] at HS hxy hxy0
          have c4 : IntKind.i64.wrap (s + (x - y)) = s + (x - y) := IntWalk.i64_in _ (by omega)
          clear ha
          go_wp2
          go_quiet (fail)
          go_wp2
          go_roundw
          case rel => exact ⟨k + 1, _, by omega, by go_num, by rw [HS.out], rfl⟩
          case measure => simp [intOf]; omega
      · have e1 : a.take k = a := List.take_of_length_le (by omega)
        have e2 : b.take k = b := List.take_of_length_le (by omega)
        rw [e1, e2]
        clear e1 e2
        go_wp2_with fail
        go_ret2
        exact ⟨rfl, n, rfl⟩
  · have e1 : Vp.far a b = 0 := if_neg hm
    have e2 : Vp.ferr a b = 9 := if_neg hm
    rw [e1, e2]
    unfold Vp.may at hm
    clear e1 e2
    go_enter Try.func11, Try.ntmps11
    by_cases h1 : a.length = b.length
    · by_cases h2 : 1 ≤ a.length
      · have h3 : 4096 < a.length := by omega
        go_wp2_with fail
        go_ret2
        exact ⟨rfl, 0, rfl⟩
      · have h3 : a.length < 1 := by omega
        go_wp2_with fail
        go_ret2
        exact ⟨rfl, 0, rfl⟩
    · go_wp2_with fail
      go_ret2
      exact ⟨rfl, 0, rfl⟩

theorem take_eq_step {α : Type} [Inhabited α] (a b : List α) (d : α) (k : Nat) (hl : a.length = b.length) (hk : k < a.length) (h : a.take k = b.take k) (hx : a.getD k d = b.getD k d) : a.take (k + 1) = b.take (k + 1) := by
  rw [List.take_succ_eq_append_getElem hk, List.take_succ_eq_append_getElem (by omega), h]
  rw [List.getD_eq_getElem?_getD, List.getElem?_eq_getElem hk, List.getD_eq_getElem?_getD, List.getElem?_eq_getElem (by omega)] at hx
  simp only [Option.getD_some] at hx
  rw [hx]

set_option maxHeartbeats 1600000 in
set_option maxRecDepth 20000 in
theorem same_any (va vb : Value) (a b : List Int) (w : World) (hA : I32.Bts w va a) (hB : I32.Bts w vb b) :
    Calls Try.prog 12 #[va, vb] w fun e w' => e = .returned (.bool (decide (a = b))) ∧ ∃ n, w' = w.drewN n := by
  obtain ⟨pa, ca, rfl, hra, -, hpa⟩ := hA.form
  obtain ⟨pb, cb, rfl, hrb, -, hpb⟩ := hB.form
  have la := hA.len
  have lb := hB.len
  have HPA := Lib.hid hpa
  have HPB := Lib.hid hpb
  clear hpa hpb hA hB
  obtain ⟨r, hr⟩ : ∃ r, decide (a = b) = r := ⟨_, rfl⟩
  rw [hr]
  have HR := Lib.hid hr
  clear hr
  by_cases h1 : a.length = b.length
  · go_enter Try.func12, Try.ntmps12
    go_wp2_with fail
    go_loopw [5] (fun i wr => ∃ k n : Nat, k ≤ a.length ∧ i = .int .i64 k ∧ a.take k = b.take k ∧ wr = w.drewN n) (fun i _ => a.length - (intOf i).toNat)
    case atStart => exact ⟨0, 0, by omega, rfl, by simp, rfl⟩
    case round =>
      obtain ⟨k, n, hk, rfl, ht, rfl⟩ := hrel
      have HT := Lib.hid ht
      clear ht
      by_cases hlt : k < a.length
      · have HS := Lib.hid (take_eq_step a b 0 k h1 hlt HT.out)
        obtain ⟨ba, oa, rfl, hca⟩ := HPA.out (by omega)
        obtain ⟨bb, ob, rfl, hcb⟩ := HPB.out (by omega)
        have hc1 := hca k hlt
        have hc2 := hcb k (by omega)
        have hk' : k < b.length := by omega
        clear hca hcb
        by_cases hxy : a.getD k 0 = b.getD k 0
        · have hs := HS.out hxy
          have HS2 := Lib.hid hs
          rw [← hxy] at hc2
          clear hs hxy HS
          generalize a.getD k 0 = x at *
          go_wp2
          go_quiet (fail)
          go_wp2
          go_roundw
          case rel => exact ⟨k + 1, _, by omega, by go_num, HS2.out, rfl⟩
          case measure => simp [intOf]; omega
        · have hne : a ≠ b := fun e => hxy (by rw [e])
          have HD := Lib.hid (HR.out.symm.trans (decide_eq_false hne))
          clear hne HS
          generalize a.getD k 0 = x at *
          generalize b.getD k 0 = y at *
          go_wp2
          go_quiet (fail)
          go_wp2
          go_ret
          exact ⟨ret_bool HD.out.symm, _, World.drewN_drewN _ _ _⟩
      · have hd : decide (a = b) = true := by
          rw [decide_eq_true_iff]
          have h2 := HT.out
          rw [List.take_of_length_le (by omega), List.take_of_length_le (by omega)] at h2
          exact h2
        have HD := Lib.hid (HR.out.symm.trans hd)
        clear hd
        go_wp2_with fail
        go_ret
        exact ⟨ret_bool HD.out.symm, n, rfl⟩
  · have hd : decide (a = b) = false := decide_eq_false (fun e => h1 (by rw [e]))
    have HD := Lib.hid (HR.out.symm.trans hd)
    clear hd
    go_enter Try.func12, Try.ntmps12
    go_wp2_with fail
    go_ret
    exact ⟨ret_bool HD.out.symm, 0, rfl⟩
end Go.Proofs.Ytljichhmfbefaaa
