/- When bytes, and slices of open transactions and dirty pages, are alike, and whether bytes begin with others. Conditions: the slices' cells hold what they tell. -/
import Derived.Test.YtafpjcobagofcaaGreatRecM
import Derived.Laws.StructEq
namespace Go.Proofs.YtafpjcobagofcaaGreat
open Go.RowKit

theorem str_inj {a b : List Nat} (ha : ∀ x ∈ a, x < 256) (hb : ∀ x ∈ b, x < 256) (h : strOfNums (a.map fun x : Nat => (x : Int)) = strOfNums (b.map fun x : Nat => (x : Int))) : a = b := by
  have h2 := congrArg (fun s : ByteArray => s.data.toList.map UInt8.toNat) h
  simp only [strOfNums_data, List.map_map] at h2
  have e : ∀ l : List Nat, (∀ x ∈ l, x < 256) → l.map (UInt8.toNat ∘ (fun n : Int => UInt8.ofNat n.toNat) ∘ fun x : Nat => (x : Int)) = l := by
    intro l hl
    rw [List.map_congr_left (g := id), List.map_id]
    intro x hx
    have := hl x hx
    simp
    omega
  rw [e a ha, e b hb] at h2
  exact h2

theorem take_eq_step {α : Type} [Inhabited α] (a b : List α) (d : α) (k : Nat) (hl : a.length = b.length) (hk : k < a.length) (h : a.take k = b.take k) (hx : a.getD k d = b.getD k d) : a.take (k + 1) = b.take (k + 1) := by
  rw [List.take_succ_eq_append_getElem hk, List.take_succ_eq_append_getElem (by omega), h]
  rw [List.getD_eq_getElem?_getD, List.getElem?_eq_getElem hk, List.getD_eq_getElem?_getD, List.getElem?_eq_getElem (by omega)] at hx
  simp only [Option.getD_some] at hx
  rw [hx]

set_option maxHeartbeats 1600000 in
set_option maxRecDepth 20000 in
theorem btEqual_any (va vb : Value) (a b : List Nat) (w : World) (hA : Bts w va a) (hB : Bts w vb b) :
    Calls Tryz.prog 65 #[va, vb] w fun e w' => e = .returned (.bool (decide (a = b))) ∧ w = w' := by
  have hc1 := strOf_conv hA
  have hc2 := strOf_conv hB
  have hi := fun h => str_inj hA.small hB.small h
  obtain ⟨pa, ca, rfl, -, -, -⟩ := hA.form
  obtain ⟨pb, cb, rfl, -, -, -⟩ := hB.form
  clear hA hB
  by_cases h : a = b
  · subst h
    rw [decide_eq_true rfl]
    clear hi
    generalize strOfNums (a.map fun x : Nat => (x : Int)) = S at *
    go_enter Tryz.func65, Tryz.ntmps65
    go_wp2
    go_ret
    exact ⟨rfl, rfl⟩
  · rw [decide_eq_false h]
    have hne := fun e => h (hi e)
    clear hi
    generalize strOfNums (a.map fun x : Nat => (x : Int)) = S at *
    generalize strOfNums (b.map fun x : Nat => (x : Int)) = T at *
    have hb : (S.toList == T.toList) = false := by
      rw [beq_eq_false_iff_ne]
      intro e
      rw [ByteArray.toList_eq, ByteArray.toList_eq] at e
      exact hne (Go.WideShapes.bytes_inj e)
    go_enter Tryz.func65, Tryz.ntmps65
    go_wp2
    go_ret
    exact ⟨rfl, rfl⟩

theorem Chr.el_eq (x y : Chr.El) : x = y ↔ (x.1 : Int) = (y.1 : Int) ∧ (x.2.1 : Int) = (y.2.1 : Int) ∧ (x.2.2 : Int) = (y.2.2 : Int) := by
  constructor
  · rintro rfl; exact ⟨rfl, rfl, rfl⟩
  · rintro ⟨h0, h1, h2⟩; exact Prod.ext (by omega) (Prod.ext (by omega) (by omega))

set_option maxHeartbeats 3200000 in
set_option maxRecDepth 20000 in
theorem Chr.equal_any (va vb : Value) (a b : List Chr.El) (w : World) (hA : Chr.Bts w va a) (hB : Chr.Bts w vb b) (la : a.length ≤ 1000000) :
    Calls Tryz.prog 98 #[va, vb] w fun e w' => e = .returned (.bool (decide (a = b))) ∧ ∃ n, w' = w.drewN n := by
  have HA := Lib.hid hA
  have HB := Lib.hid hB
  obtain ⟨pa, ca, rfl, hra, -, hpa⟩ := hA.form
  obtain ⟨pb, cb, rfl, hrb, -, hpb⟩ := hB.form
  have HPA := Lib.hid hpa
  have HPB := Lib.hid hpb
  clear hpa hpb hA hB
  obtain ⟨r, hr⟩ : ∃ r, decide (a = b) = r := ⟨_, rfl⟩
  rw [hr]
  have HR := Lib.hid hr
  clear hr
  by_cases h1 : a.length = b.length
  · have H1 := Lib.hid h1
    go_enter Tryz.func98, Tryz.ntmps98
    go_wp2_with fail
    clear h1
    go_loopw [13] (fun i wr => ∃ k n : Nat, k ≤ a.length ∧ i = .int .i64 k ∧ a.take k = b.take k ∧ wr = w.drewN n) (fun i _ => a.length - (intOf i).toNat)
    case atStart => exact ⟨0, 0, by omega, rfl, by simp, rfl⟩
    case round =>
      obtain ⟨k, n, hk, rfl, ht, rfl⟩ := hrel
      have HT := Lib.hid ht
      clear ht
      by_cases hlt : k < a.length
      · have HS := Lib.hid (take_eq_step a b default k H1.out hlt HT.out)
        have hk' : k < b.length := by have := H1.out; omega
        obtain ⟨ba, oa, rfl, -⟩ := HPA.out (by omega)
        obtain ⟨bb, ob, rfl, -⟩ := HPB.out (by omega)
        have ca0 := HA.out.at k hlt 0 (by decide)
        have ca1 := HA.out.at k hlt 1 (by decide)
        have ca2 := HA.out.at k hlt 2 (by decide)
        have cb0 := HB.out.at k hk' 0 (by decide)
        have cb1 := HB.out.at k hk' 1 (by decide)
        have cb2 := HB.out.at k hk' 2 (by decide)
        simp only [Chr.enc, List.getElem?_cons_zero, List.getElem?_cons_succ, Nat.add_zero] at ca0 ca1 ca2 cb0 cb1 cb2
        by_cases hxy : a.getD k default = b.getD k default
        · have hs := HS.out hxy
          have HS2 := Lib.hid hs
          rw [← hxy] at cb0 cb1 cb2
          clear hs hxy HS
          generalize ((a.getD k default).1 : Int) = x0 at *
          generalize ((a.getD k default).2.1 : Int) = x1 at *
          generalize ((a.getD k default).2.2 : Int) = x2 at *
          go_wp2
          go_quiet (fail)
          go_wp2
          go_roundw
          case rel => exact ⟨k + 1, _, by omega, by go_num, HS2.out, rfl⟩
          case measure => simp [intOf]; omega
        · have hne : a ≠ b := fun e => hxy (by rw [e])
          have HD := Lib.hid (HR.out.symm.trans (decide_eq_false hne))
          rw [Chr.el_eq] at hxy
          clear hne HS
          generalize ((a.getD k default).1 : Int) = x0 at *
          generalize ((a.getD k default).2.1 : Int) = x1 at *
          generalize ((a.getD k default).2.2 : Int) = x2 at *
          generalize ((b.getD k default).1 : Int) = y0 at *
          generalize ((b.getD k default).2.1 : Int) = y1 at *
          generalize ((b.getD k default).2.2 : Int) = y2 at *
          have hcase : (x0 == y0) = false ∨ ((x0 == y0) = true ∧ (x1 == y1) = false) ∨ ((x0 == y0) = true ∧ (x1 == y1) = true ∧ (x2 == y2) = false) := by
            simp only [beq_eq_false_iff_ne, beq_iff_eq]; omega
          clear hxy
          rcases hcase with e0 | ⟨e0, e1⟩ | ⟨e0, e1, e2⟩
          all_goals
            go_wp2
            go_quiet (fail)
            go_wp2
            go_ret
            exact ⟨ret_bool HD.out.symm, _, World.drewN_drewN _ _ _⟩
      · have hd : decide (a = b) = true := by
          rw [decide_eq_true_iff]
          have h2 := HT.out
          have h1 := H1.out
          rw [List.take_of_length_le (by omega), List.take_of_length_le (by omega)] at h2
          exact h2
        have HD := Lib.hid (HR.out.symm.trans hd)
        have hlb : ¬ k < b.length := by have := H1.out; omega
        clear hd
        go_wp2_with fail
        go_ret
        exact ⟨ret_bool HD.out.symm, n, rfl⟩
  · have hd : decide (a = b) = false := decide_eq_false (fun e => h1 (by rw [e]))
    have HD := Lib.hid (HR.out.symm.trans hd)
    clear hd
    go_enter Tryz.func98, Tryz.ntmps98
    go_wp2_with fail
    go_ret
    exact ⟨ret_bool HD.out.symm, 0, rfl⟩

theorem Dir.el_eq (x y : Dir.El) : x = y ↔ (x.1 : Int) = (y.1 : Int) ∧ (x.2 : Int) = (y.2 : Int) := by
  constructor
  · rintro rfl; exact ⟨rfl, rfl⟩
  · rintro ⟨h0, h1⟩; exact Prod.ext (by omega) (by omega)

set_option maxHeartbeats 3200000 in
set_option maxRecDepth 20000 in
theorem Dir.equal_any (va vb : Value) (a b : List Dir.El) (w : World) (hA : Dir.Bts w va a) (hB : Dir.Bts w vb b) (la : a.length ≤ 1000000) :
    Calls Tryz.prog 99 #[va, vb] w fun e w' => e = .returned (.bool (decide (a = b))) ∧ ∃ n, w' = w.drewN n := by
  have HA := Lib.hid hA
  have HB := Lib.hid hB
  obtain ⟨pa, ca, rfl, hra, -, hpa⟩ := hA.form
  obtain ⟨pb, cb, rfl, hrb, -, hpb⟩ := hB.form
  have HPA := Lib.hid hpa
  have HPB := Lib.hid hpb
  clear hpa hpb hA hB
  obtain ⟨r, hr⟩ : ∃ r, decide (a = b) = r := ⟨_, rfl⟩
  rw [hr]
  have HR := Lib.hid hr
  clear hr
  by_cases h1 : a.length = b.length
  · have H1 := Lib.hid h1
    go_enter Tryz.func99, Tryz.ntmps99
    go_wp2_with fail
    clear h1
    go_loopw [13] (fun i wr => ∃ k n : Nat, k ≤ a.length ∧ i = .int .i64 k ∧ a.take k = b.take k ∧ wr = w.drewN n) (fun i _ => a.length - (intOf i).toNat)
    case atStart => exact ⟨0, 0, by omega, rfl, by simp, rfl⟩
    case round =>
      obtain ⟨k, n, hk, rfl, ht, rfl⟩ := hrel
      have HT := Lib.hid ht
      clear ht
      by_cases hlt : k < a.length
      · have HS := Lib.hid (take_eq_step a b default k H1.out hlt HT.out)
        have hk' : k < b.length := by have := H1.out; omega
        obtain ⟨ba, oa, rfl, -⟩ := HPA.out (by omega)
        obtain ⟨bb, ob, rfl, -⟩ := HPB.out (by omega)
        have ca0 := HA.out.at k hlt 0 (by decide)
        have ca1 := HA.out.at k hlt 1 (by decide)
        have cb0 := HB.out.at k hk' 0 (by decide)
        have cb1 := HB.out.at k hk' 1 (by decide)
        simp only [Dir.enc, List.getElem?_cons_zero, List.getElem?_cons_succ, Nat.add_zero] at ca0 ca1 cb0 cb1
        by_cases hxy : a.getD k default = b.getD k default
        · have hs := HS.out hxy
          have HS2 := Lib.hid hs
          rw [← hxy] at cb0 cb1
          clear hs hxy HS
          generalize ((a.getD k default).1 : Int) = x0 at *
          generalize ((a.getD k default).2 : Int) = x1 at *
          go_wp2
          go_quiet (fail)
          go_wp2
          go_roundw
          case rel => exact ⟨k + 1, _, by omega, by go_num, HS2.out, rfl⟩
          case measure => simp [intOf]; omega
        · have hne : a ≠ b := fun e => hxy (by rw [e])
          have HD := Lib.hid (HR.out.symm.trans (decide_eq_false hne))
          rw [Dir.el_eq] at hxy
          clear hne HS
          generalize ((a.getD k default).1 : Int) = x0 at *
          generalize ((a.getD k default).2 : Int) = x1 at *
          generalize ((b.getD k default).1 : Int) = y0 at *
          generalize ((b.getD k default).2 : Int) = y1 at *
          have hcase : (x0 == y0) = false ∨ ((x0 == y0) = true ∧ (x1 == y1) = false) := by
            simp only [beq_eq_false_iff_ne, beq_iff_eq]; omega
          clear hxy
          rcases hcase with e0 | ⟨e0, e1⟩
          all_goals
            go_wp2
            go_quiet (fail)
            go_wp2
            go_ret
            exact ⟨ret_bool HD.out.symm, _, World.drewN_drewN _ _ _⟩
      · have hd : decide (a = b) = true := by
          rw [decide_eq_true_iff]
          have h2 := HT.out
          have h1 := H1.out
          rw [List.take_of_length_le (by omega), List.take_of_length_le (by omega)] at h2
          exact h2
        have HD := Lib.hid (HR.out.symm.trans hd)
        have hlb : ¬ k < b.length := by have := H1.out; omega
        clear hd
        go_wp2_with fail
        go_ret
        exact ⟨ret_bool HD.out.symm, n, rfl⟩
  · have hd : decide (a = b) = false := decide_eq_false (fun e => h1 (by rw [e]))
    have HD := Lib.hid (HR.out.symm.trans hd)
    clear hd
    go_enter Tryz.func99, Tryz.ntmps99
    go_wp2_with fail
    go_ret
    exact ⟨ret_bool HD.out.symm, 0, rfl⟩

set_option maxHeartbeats 1600000 in
set_option maxRecDepth 20000 in
theorem hasPrefix_any (va vb : Value) (a b : List Nat) (w : World) (hA : Bts w va a) (hB : Bts w vb b) :
    Calls Tryz.prog 57 #[va, vb] w fun e w' => e = .returned (.bool (decide (b.length ≤ a.length ∧ a.take b.length = b))) ∧ w = w' := by
  have HA := Lib.hid hA
  have HB := Lib.hid hB
  obtain ⟨pa, ca, rfl, hra, -, -⟩ := hA.form
  obtain ⟨pb, cb, rfl, hrb, -, -⟩ := hB.form
  have la := hA.len
  have lb := hB.len
  clear hA hB
  by_cases h : b.length ≤ a.length
  · have HT := Lib.hid (HA.out.take b.length h)
    have hr : decide (b.length ≤ a.length ∧ a.take b.length = b) = decide (a.take b.length = b) := by rw [decide_eq_decide]; simp [h]
    rw [hr]
    clear hr
    obtain ⟨r, hr⟩ : ∃ r, decide (a.take b.length = b) = r := ⟨_, rfl⟩
    rw [hr]
    have HR := Lib.hid hr
    clear hr
    go_enter Tryz.func57, Tryz.ntmps57
    go_wp2_with fail
    refine (btEqual_any _ _ _ b w HT.out HB.out).mono ?_
    rintro e w' ⟨rfl, rfl⟩
    rw [HR.out]
    go_wp2_with fail
    go_ret
    exact ⟨rfl, rfl⟩
  · rw [decide_eq_false (by simp [h])]
    have h' : ¬ (b.length : Int) ≤ (a.length : Int) := by omega
    go_enter Tryz.func57, Tryz.ntmps57
    go_wp2_with fail
    go_ret
    exact ⟨rfl, rfl⟩
end Go.Proofs.YtafpjcobagofcaaGreat
