/- The library's search in a slice that rises. Conditions: it rises; at most 100000 numbers. -/
import Derived.Test.YtafpjcobagofcaaGreatWlQuM
import Derived.Test.YtafpjcobagofcaaGreatCodeR
import Derived.IntWalk
namespace Go.Proofs.YtafpjcobagofcaaGreat
open Go.RowKit

theorem nanS_any (x : Int) (w : World) : Calls Tryz.prog 53 #[.int .u64 x] w fun e w' => e = .returned (.bool false) ∧ w = w' := by
  have hx : (x != x) = false := by simp
  go_enter Tryz.func53, Tryz.ntmps53
  go_wp2
  go_ret
  exact ⟨rfl, rfl⟩
theorem nanC_any (x : Int) (w : World) : Calls Tryz.prog 81 #[.int .u64 x] w fun e w' => e = .returned (.bool false) ∧ w = w' := by
  have hx : (x != x) = false := by simp
  go_enter Tryz.func81, Tryz.ntmps81
  go_wp2
  go_ret
  exact ⟨rfl, rfl⟩
theorem lessC_any (x y : Int) (w : World) : Calls Tryz.prog 52 #[.int .u64 x, .int .u64 y] w fun e w' => e = .returned (.bool (decide (x < y))) ∧ w = w' := by
  have h1 := fun z w => nanC_any z w
  go_enter Tryz.func52, Tryz.ntmps52
  go_wp2_with (go_at_call 81; refine (h1 _ _).mono ?_; rintro e w' ⟨rfl, rfl⟩)
  go_ret
  exact ⟨rfl, rfl⟩

/-- Where a number stands, or would, in a list that rises. -/
def Spot (l : List Nat) (x i : Nat) : Prop := i ≤ l.length ∧ (∀ j, j < i → l.getD j 0 < x) ∧ ∀ j, i ≤ j → j < l.length → x ≤ l.getD j 0
/-- What the search answers: where, and whether it is there. -/
def SearchR (l : List Nat) (x : Nat) (e : Ending) : Prop := ∃ (i : Nat) (b : Bool), Spot l x i ∧ (b = true ↔ i < l.length ∧ l.getD i 0 = x) ∧ e = .returned (.tuple #[.int .i64 (i : Int), .bool b])
def Rises (l : List Nat) : Prop := ∀ i j, i ≤ j → j < l.length → l.getD i 0 ≤ l.getD j 0

set_option maxHeartbeats 1600000 in
set_option maxRecDepth 20000 in
theorem search_any {base : Nat} {v : Value} {l : List Nat} {w : World} (hq : Qu base w v l) (x : Nat) (hr : Rises l) (hl : l.length ≤ 100000) :
    Calls Tryz.prog 28 #[v, .int .u64 (x : Int)] w fun e w' => SearchR l x e ∧ w = w' := by
  obtain ⟨p, cap, rfl⟩ := hq.slice
  have HQ := Lib.hid hq
  have HR := Lib.hid hr
  have HL := Lib.hid hl
  have hless := fun a b w => lessC_any a b w
  have hnan := fun a w => nanS_any a w
  clear hq hr
  go_enter Tryz.func28, Tryz.ntmps28
  go_wp2_with fail
  go_loopw [7, 8] (fun a b wr => ∃ i j : Nat, a = .int .i64 (i : Int) ∧ b = .int .i64 (j : Int) ∧ i ≤ j ∧ j ≤ l.length ∧ (∀ t, t < i → l.getD t 0 < x) ∧ (∀ t, j ≤ t → t < l.length → x ≤ l.getD t 0) ∧ wr = w) (fun a b _ => (intOf b).toNat - (intOf a).toNat)
  case atStart => exact ⟨0, l.length, rfl, rfl, Nat.zero_le _, Nat.le_refl _, fun t h => absurd h (Nat.not_lt_zero t), fun t h1 h2 => absurd h2 (by omega), rfl⟩
  case round =>
    obtain ⟨i, j, rfl, rfl, hij, hj, hlo, hhi, rfl⟩ := hrel
    have HLO := Lib.hid hlo
    have HHI := Lib.hid hhi
    have HIJ : Hid (i ≤ j ∧ j ≤ l.length) := ⟨hij, hj⟩
    clear hlo hhi
    by_cases hlt : i < j
    · obtain ⟨m, hm⟩ : ∃ m, m = (i + j) / 2 := ⟨_, rfl⟩
      have HM : Hid (i ≤ m ∧ m < j) := ⟨by omega, by omega⟩
      have hs1 := IntWalk.i64_in ((i : Int) + (j : Int)) (by omega)
      have hs2 := IntWalk.u64_in ((i : Int) + (j : Int)) (by omega)
      have hs3 : ((i : Int) + (j : Int)) / 2 = (m : Int) := by omega
      have hs4 := IntWalk.i64_in (m : Int) (by omega)
      have hs5 := IntWalk.u64_in (m : Int) (by omega)
      have hs6 := IntWalk.i64_in ((m : Int) + 1) (by omega)
      have hij2 : (i : Int) < (j : Int) := by omega
      obtain ⟨g, off, cap', hv, -, hc1, hc2, hcell⟩ := HQ.out.some (by omega)
      simp only [Value.slice.injEq, true_and] at hv
      obtain ⟨rfl, rfl⟩ := hv
      have hcm := hcell m (by have := HM.out; omega)
      have hmn : m < l.length := by have := HM.out; omega
      generalize hy : l.getD m 0 = y at hcm
      have HY := Lib.hid hy
      clear hcell hy hm hlt
      by_cases hyx : y < x
      · have hd : decide ((y : Int) < (x : Int)) = true := decide_eq_true (by omega)
        go_wp2_with (go_at_call 52; refine (hless _ _ _).mono ?_; rintro e w' ⟨rfl, rfl⟩)
        go_roundw
        case rel => exact ⟨m + 1, j, by go_num, rfl, by have := HM.out; omega, HIJ.out.2, fun t ht => by
            have := HR.out t m (by omega) hmn
            have := HY.out
            omega, HHI.out, trivial⟩
        case measure => simp [intOf]; have := HM.out; omega
      · have hd : decide ((y : Int) < (x : Int)) = false := decide_eq_false (by omega)
        go_wp2_with (go_at_call 52; refine (hless _ _ _).mono ?_; rintro e w' ⟨rfl, rfl⟩)
        go_roundw
        case rel => exact ⟨i, m, rfl, by go_num, by have := HM.out; omega, by omega, HLO.out, fun t h1 h2 => by
            have := HR.out m t h1 h2
            have := HY.out
            omega, trivial⟩
        case measure => simp [intOf]; have := HM.out; omega
    · obtain rfl : i = j := by omega
      by_cases hin : i < l.length
      · obtain ⟨g, off, cap', hv, -, hc1, hc2, hcell⟩ := HQ.out.some (by omega)
        simp only [Value.slice.injEq, true_and] at hv
        obtain ⟨rfl, rfl⟩ := hv
        have hcm := hcell i hin
        have HSP : Hid (Spot l x i) := ⟨HIJ.out.2, HLO.out, HHI.out⟩
        have hi2 : (i : Int) < (l.length : Int) := by omega
        generalize hy : l.getD i 0 = y at hcm
        have HY := Lib.hid hy
        have HIN := Lib.hid hin
        clear hcell hy hlt
        by_cases hyx : y = x
        · subst hyx
          go_wp2_with (go_at_call 53; refine (hnan _ _).mono ?_; rintro e w' ⟨rfl, rfl⟩)
          go_ret2
          exact ⟨⟨i, true, HSP.out, ⟨fun _ => ⟨HIN.out, HY.out⟩, fun _ => rfl⟩, rfl⟩, rfl⟩
        · have hne : ((y : Int) == (x : Int)) = false := by rw [beq_eq_false_iff_ne]; omega
          have hne2 : ¬ (y : Int) = (x : Int) := by omega
          go_wp2_with (go_at_call 53; refine (hnan _ _).mono ?_; rintro e w' ⟨rfl, rfl⟩)
          go_ret2
          exact ⟨⟨i, false, HSP.out, ⟨fun h => Bool.noConfusion h, fun h => absurd h fun h => hyx (HY.out.symm.trans h.2)⟩, rfl⟩, rfl⟩
      · have hi2 : ¬ (i : Int) < (l.length : Int) := by omega
        have HSP : Hid (Spot l x i) := ⟨HIJ.out.2, HLO.out, HHI.out⟩
        have HIN := Lib.hid hin
        go_wp2_with (go_at_call 53; refine (hnan _ _).mono ?_; rintro e w' ⟨rfl, rfl⟩)
        go_ret2
        exact ⟨⟨i, false, HSP.out, ⟨fun h => Bool.noConfusion h, fun h => absurd h fun h => HIN.out h.1⟩, rfl⟩, rfl⟩
end Go.Proofs.YtafpjcobagofcaaGreat
