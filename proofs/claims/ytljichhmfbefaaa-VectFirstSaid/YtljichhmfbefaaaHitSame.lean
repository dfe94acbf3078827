/- The document's Ahead and Same. Conditions: the slices' cells hold the hits. -/
import Derived.Test.YtljichhmfbefaaaHitOpen
import Derived.Laws.StructEq
namespace Go.Proofs.Ytljichhmfbefaaa
open Go.RowKit Go.Sort

set_option maxHeartbeats 800000 in
theorem ahead_any (x y : Hit) (w : World) :
    Calls Try.prog 18 #[.agg #[.int .u64 (x.1.toNat : Int), .int .i64 x.2.toInt], .agg #[.int .u64 (y.1.toNat : Int), .int .i64 y.2.toInt]] w fun e w' => e = .returned (.bool (decide (Hp.rk x < Hp.rk y))) ∧ Went w w' := by
  obtain ⟨r, hr⟩ : ∃ r, decide (Hp.rk x < Hp.rk y) = r := ⟨_, rfl⟩
  have hlt := @Hp.rk_lt x y
  rw [hr]
  have hr2 : r = true ↔ x.2.toInt < y.2.toInt ∨ x.2.toInt = y.2.toInt ∧ (x.1.toNat : Int) < (y.1.toNat : Int) := by
    rw [← hr, decide_eq_true_iff, hlt]; omega
  clear hr hlt
  generalize (x.1.toNat : Int) = kx at *
  generalize x.2.toInt = dx at *
  generalize (y.1.toNat : Int) = ky at *
  generalize y.2.toInt = dy at *
  by_cases h1 : dx < dy
  · obtain rfl : r = true := hr2.2 (.inl h1)
    clear hr2
    go_enter Try.func18, Try.ntmps18
    go_wp2
    go_ret
    exact ⟨ret_bool (by first | rfl | (simp <;> omega)), ((Went.refl w).alloc _).alloc _⟩
  · by_cases h2 : dx = dy
    · by_cases h3 : kx < ky
      · obtain rfl : r = true := hr2.2 (.inr ⟨h2, h3⟩)
        clear hr2
        go_enter Try.func18, Try.ntmps18
        go_wp2
        go_ret
        exact ⟨ret_bool (by first | rfl | (simp <;> omega)), ((Went.refl w).alloc _).alloc _⟩
      · obtain rfl : r = false := by
          cases r with
          | false => rfl
          | true => have := hr2.1 rfl; omega
        clear hr2
        go_enter Try.func18, Try.ntmps18
        go_wp2
        go_ret
        exact ⟨ret_bool (by first | rfl | (simp <;> omega)), ((Went.refl w).alloc _).alloc _⟩
    · obtain rfl : r = false := by
        cases r with
        | false => rfl
        | true => have := hr2.1 rfl; omega
      clear hr2
      go_enter Try.func18, Try.ntmps18
      go_wp2
      go_ret
      exact ⟨ret_bool (by first | rfl | (simp <;> omega)), ((Went.refl w).alloc _).alloc _⟩

theorem hit_eq (x y : Hit) : x = y ↔ (x.1.toNat : Int) = (y.1.toNat : Int) ∧ x.2.toInt = y.2.toInt := by
  constructor
  · rintro rfl; exact ⟨rfl, rfl⟩
  · rintro ⟨h1, h2⟩; exact Prod.ext (UInt64.toNat_inj.1 (by omega)) (Int64.toInt_inj.1 h2)

set_option maxHeartbeats 1600000 in
set_option maxRecDepth 20000 in
theorem hsame_any (va vb : Value) (a b : List Hit) (w : World) (hA : HBts w va a) (hB : HBts w vb b) (la : a.length ≤ 1000000) :
    Calls Try.prog 20 #[va, vb] w fun e w' => e = .returned (.bool (decide (a = b))) ∧ ∃ n, w' = w.drewN n := by
  have HA := Lib.hid hA
  have HB := Lib.hid hB
  obtain ⟨pa, ca, rfl, hra, -, hpa⟩ := hA.form
  obtain ⟨pb, cb, rfl, hrb, -, hpb⟩ := hB.form
  have HPA := Lib.hid hpa
  have HPB := Lib.hid hpb
  clear hpa hpb hA hB
  obtain ⟨r, hr⟩ : ∃ r, decide (a = b) = r := ⟨_, rfl⟩
  rw [hr]
  have HR := Lib.hid hr
  clear hr
  by_cases h1 : a.length = b.length
  · go_enter Try.func20, Try.ntmps20
    go_wp2_with fail
    go_loopw [5] (fun i wr => ∃ k n : Nat, k ≤ a.length ∧ i = .int .i64 k ∧ a.take k = b.take k ∧ wr = w.drewN n) (fun i _ => a.length - (intOf i).toNat)
    case atStart => exact ⟨0, 0, by omega, rfl, by simp, rfl⟩
    case round =>
      obtain ⟨k, n, hk, rfl, ht, rfl⟩ := hrel
      have HT := Lib.hid ht
      clear ht
      by_cases hlt : k < a.length
      · have HS := Lib.hid (take_eq_step a b default k h1 hlt HT.out)
        obtain ⟨ba, oa, rfl, -⟩ := HPA.out (by omega)
        obtain ⟨bb, ob, rfl, -⟩ := HPB.out (by omega)
        obtain ⟨hc1, hc2⟩ := HA.out.at k hlt
        obtain ⟨hc3, hc4⟩ := HB.out.at k (by omega)
        have hk' : k < b.length := by omega
        by_cases hxy : a.getD k default = b.getD k default
        · have hs := HS.out hxy
          have HS2 := Lib.hid hs
          rw [← hxy] at hc3 hc4
          clear hs hxy HS
          generalize ((a.getD k default).1.toNat : Int) = x1 at *
          generalize (a.getD k default).2.toInt = x2 at *
          go_wp2
          go_quiet (fail)
          go_wp2
          go_roundw
          case rel => exact ⟨k + 1, _, by omega, by go_num, HS2.out, rfl⟩
          case measure => simp [intOf]; omega
        · have hne : a ≠ b := fun e => hxy (by rw [e])
          have HD := Lib.hid (HR.out.symm.trans (decide_eq_false hne))
          rw [hit_eq] at hxy
          clear hne HS
          generalize ((a.getD k default).1.toNat : Int) = x1 at *
          generalize (a.getD k default).2.toInt = x2 at *
          generalize ((b.getD k default).1.toNat : Int) = y1 at *
          generalize (b.getD k default).2.toInt = y2 at *
          have hcase : x1 = y1 ∧ ¬ x2 = y2 ∨ ¬ x1 = y1 := by omega
          clear hxy
          rcases hcase with ⟨rfl, hne⟩ | hne
          all_goals
            go_wp2
            go_quiet (fail)
            go_wp2
            go_ret
            exact ⟨ret_bool HD.out.symm, _, World.drewN_drewN _ _ _⟩
      · have hd : decide (a = b) = true := by
          rw [decide_eq_true_iff]
          have h2 := HT.out
          rw [List.take_of_length_le (by omega), List.take_of_length_le (by omega)] at h2
          exact h2
        have HD := Lib.hid (HR.out.symm.trans hd)
        clear hd
        go_wp2_with fail
        go_ret
        exact ⟨ret_bool HD.out.symm, n, rfl⟩
  · have hd : decide (a = b) = false := decide_eq_false (fun e => h1 (by rw [e]))
    have HD := Lib.hid (HR.out.symm.trans hd)
    clear hd
    go_enter Try.func20, Try.ntmps20
    go_wp2_with fail
    go_ret
    exact ⟨ret_bool HD.out.symm, 0, rfl⟩
end Go.Proofs.Ytljichhmfbefaaa
