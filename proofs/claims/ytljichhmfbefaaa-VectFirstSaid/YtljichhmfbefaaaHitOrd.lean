/- The order of hits: what cmp.Compare, cmp.Or and Order answer, and the document's Ahead. -/
import Derived.Test.YtljichhmfbefaaaVectKnown
import Derived.Test.YtljichhmfbefaaaHitPure
import Derived.Shelf.SlSortCmp.NoneTotal
import Derived.Deep.RegionWith
namespace Go.Proofs.Ytljichhmfbefaaa
open Go.RowKit Go.Sort

/-- A hit's two cells. -/
def encH (h : Hit) : List Value := [.int .u64 (h.1.toNat : Int), .int .i64 h.2.toInt]

theorem nan64_any (x : Int) (w : World) : Calls Try.prog 32 #[.int .i64 x] w fun e w' => e = .returned (.bool false) ∧ w = w' := by
  go_enter Try.func32, Try.ntmps32
  go_wp2
  go_ret
  exact ⟨ret_bool (by simp), rfl⟩

theorem nanU_any (x : Int) (w : World) : Calls Try.prog 33 #[.int .u64 x] w fun e w' => e = .returned (.bool false) ∧ w = w' := by
  go_enter Try.func33, Try.ntmps33
  go_wp2
  go_ret
  exact ⟨ret_bool (by simp), rfl⟩

theorem cmp64_any (a b : Int) (w : World) : Calls Try.prog 27 #[.int .i64 a, .int .i64 b] w fun e w' => e = .returned (.int .i64 (Vp.cmp3 a b)) ∧ w = w' := by
  by_cases h1 : a < b
  · rw [show Vp.cmp3 a b = -1 from if_pos h1]
    go_enter Try.func27, Try.ntmps27
    go_wp2_with ((with_reducible refine (nan64_any _ _).mono ?_); rintro e w' ⟨rfl, rfl⟩)
    go_ret
    exact ⟨rfl, rfl⟩
  · have h0 : Vp.cmp3 a b = if b < a then 1 else 0 := if_neg h1
    by_cases h2 : b < a
    · rw [h0, if_pos h2]
      clear h0
      go_enter Try.func27, Try.ntmps27
      go_wp2_with ((with_reducible refine (nan64_any _ _).mono ?_); rintro e w' ⟨rfl, rfl⟩)
      go_ret
      exact ⟨rfl, rfl⟩
    · rw [h0, if_neg h2]
      clear h0
      go_enter Try.func27, Try.ntmps27
      go_wp2_with ((with_reducible refine (nan64_any _ _).mono ?_); rintro e w' ⟨rfl, rfl⟩)
      go_ret
      exact ⟨rfl, rfl⟩

theorem cmpU_any (a b : Int) (w : World) : Calls Try.prog 28 #[.int .u64 a, .int .u64 b] w fun e w' => e = .returned (.int .i64 (Vp.cmp3 a b)) ∧ w = w' := by
  by_cases h1 : a < b
  · rw [show Vp.cmp3 a b = -1 from if_pos h1]
    go_enter Try.func28, Try.ntmps28
    go_wp2_with ((with_reducible refine (nanU_any _ _).mono ?_); rintro e w' ⟨rfl, rfl⟩)
    go_ret
    exact ⟨rfl, rfl⟩
  · have h0 : Vp.cmp3 a b = if b < a then 1 else 0 := if_neg h1
    by_cases h2 : b < a
    · rw [h0, if_pos h2]
      clear h0
      go_enter Try.func28, Try.ntmps28
      go_wp2_with ((with_reducible refine (nanU_any _ _).mono ?_); rintro e w' ⟨rfl, rfl⟩)
      go_ret
      exact ⟨rfl, rfl⟩
    · rw [h0, if_neg h2]
      clear h0
      go_enter Try.func28, Try.ntmps28
      go_wp2_with ((with_reducible refine (nanU_any _ _).mono ?_); rintro e w' ⟨rfl, rfl⟩)
      go_ret
      exact ⟨rfl, rfl⟩

/-- The first of two that is not nought. -/
def orI (x y : Int) : Int := if x = 0 then y else x

set_option maxHeartbeats 400000 in
theorem or_any (b : Nat) (x y : Int) (w : World) (h0 : w.cell? ⟨b, 0, none⟩ = some (.int .i64 x)) (h1 : w.cell? ⟨b, 1, none⟩ = some (.int .i64 y)) :
    Calls Try.prog 26 #[.slice (some ⟨b, 0, none⟩) 2 2] w fun e w' => e = .returned (.int .i64 (orI x y)) ∧ w = w' := by
  by_cases hx : x = 0
  · by_cases hy : y = 0
    · have e : orI x y = 0 := by unfold orI; rw [if_pos hx, hy]
      rw [e]
      clear e
      subst hx
      subst hy
      go_enter Try.func26, Try.ntmps26
      go_wp2
      refine wp_loop_rounds 3 ?_
      rw [rounds_succ]
      go_wp2
      rw [rounds_succ]
      go_wp2
      rw [rounds_succ]
      go_wp2
      go_ret
      exact ⟨rfl, rfl⟩
    · have e : orI x y = y := by unfold orI; rw [if_pos hx]
      rw [e]
      clear e
      subst hx
      go_enter Try.func26, Try.ntmps26
      go_wp2
      refine wp_loop_rounds 3 ?_
      rw [rounds_succ]
      go_wp2
      rw [rounds_succ]
      go_wp2
      go_ret
      exact ⟨rfl, rfl⟩
  · have e : orI x y = x := by unfold orI; rw [if_neg hx]
    rw [e]
    clear e
    go_enter Try.func26, Try.ntmps26
    go_wp2
    refine wp_loop_rounds 3 ?_
    rw [rounds_succ]
    go_wp2
    go_ret
    exact ⟨rfl, rfl⟩

theorem ord_or (x y : Hit) : orI (Vp.cmp3 x.2.toInt y.2.toInt) (Vp.cmp3 (x.1.toNat : Int) (y.1.toNat : Int)) = Hp.ord x y := by
  have h1 := @Hp.rk_lt x y
  have h2 := @Hp.rk_lt y x
  unfold orI Vp.cmp3 Hp.ord
  by_cases a : x.2.toInt < y.2.toInt
  · rw [if_pos a, if_neg (by decide), if_pos (h1.2 (.inl a))]
  · rw [if_neg a]
    by_cases b : y.2.toInt < x.2.toInt
    · rw [if_pos b, if_neg (by decide), if_neg (fun h => by have := h1.1 h; omega), if_pos (h2.2 (.inl b))]
    · rw [if_neg b, if_pos rfl]
      have hd : x.2.toInt = y.2.toInt := by omega
      split <;> (try split) <;> (try split) <;> (try split) <;> omega

end Go.Proofs.Ytljichhmfbefaaa
