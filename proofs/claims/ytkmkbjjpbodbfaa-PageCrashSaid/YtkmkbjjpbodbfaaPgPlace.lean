/- Where the program looks for a page. Conditions: none. -/
import Derived.Test.YtkmkbjjpbodbfaaDkSmall
import Derived.Test.YtkmkbjjpbodbfaaPageBody
namespace Go.Proofs.Ytkmkbjjpbodbfaa
open Go.RowKit

theorem none_nil (w : World) : Calls Try.prog 42 #[.pointer none] w fun e w' => e = .returned (.bool true) ∧ w' = w := by
  go_enter Try.func42, Try.ntmps42
  go_wp2
  go_ret
  exact ⟨rfl, rfl⟩
theorem sectors_nil (w : World) : Calls Try.prog 51 #[.pointer none] w fun e w' => e = .returned (.int .i64 0) ∧ w' = w := by
  have hn := none_nil w
  go_enter Try.func51, Try.ntmps51
  go_wp2_with (go_at_call 42; refine hn.mono ?_; rintro e w' ⟨rfl, rfl⟩)
  go_ret
  exact ⟨rfl, rfl⟩

/-- No device: told ahead of all else. -/
theorem place_nil (base n : Int) (w : World) : Calls Try.prog 36 #[.pointer none, .int .i64 base, .int .i64 n] w fun e w' => e = .returned (.tuple #[.int .i64 0, .int .i64 1]) ∧ w' = w := by
  have hn := sectors_nil w
  go_enter Try.func36, Try.ntmps36
  go_wp2_with (go_at_call 51; refine hn.mono ?_; rintro e w' ⟨rfl, rfl⟩)
  go_ret2
  exact ⟨rfl, rfl⟩

theorem pair_of {x y a b : Int} (h : x = y) (h2 : a = b) : Ending.returned (.tuple #[.int .i64 x, .int .i64 a]) = .returned (.tuple #[.int .i64 y, .int .i64 b]) := by rw [h, h2]
theorem lies_four {s base n : Int} (h0 : 0 ≤ base) (h1 : 0 ≤ n) (h2 : base ≤ s - 4) : Pg.lies s base n = decide (n ≤ (s - 4 - base) / 4) := by
  unfold Pg.lies
  by_cases h3 : base ≤ s
  · rw [Int.tdiv_eq_ediv_of_nonneg (by omega)]
    by_cases h : n ≤ (s - 4 - base) / 4
    · rw [decide_eq_true h]; exact decide_eq_true ⟨h0, h1, h3, by omega⟩
    · rw [decide_eq_false h]; exact decide_eq_false fun ⟨_, _, _, h5⟩ => h (by omega)
  · omega

set_option maxHeartbeats 1600000 in
set_option maxRecDepth 20000 in
theorem place_any {B m1 m2 : Nat} {d : Dk.Dev} {w : World} (h : PDev w B m1 m2 d) (base n : Int) (hn : n ≤ 9223372036854775807) :
    Calls Try.prog 36 #[.pointer (some ⟨B, 0, none⟩), .int .i64 base, .int .i64 n] w fun e w' => (Pg.lies (Dk.size d) base n = true → e = .returned (.tuple #[.int .i64 (base + 4 * n), .int .i64 0])) ∧ (Pg.lies (Dk.size d) base n = false → e = .returned (.tuple #[.int .i64 0, .int .i64 2])) ∧ w' = w := by
  have hs := Lib.hid (sectors_any h)
  have h1 := h.own.one
  have h2 := h.own.size
  clear h
  obtain ⟨s, hsz⟩ : ∃ s, s = Dk.size d := ⟨_, rfl⟩
  rw [← hsz] at hs h1 h2 ⊢
  clear hsz
  have hs1 : ¬ (s : Int) = 0 := by omega
  have hs2 : ((s : Int) == 0) = false := by rw [beq_eq_false_iff_ne]; omega
  have hw := IntWalk.i64_in ((s : Int) - 4) (by omega)
  have H2 := Lib.hid h2
  have H1 := Lib.hid h1
  by_cases k1 : base < 0
  · have hl := lies_false (s := s) (base := base) (n := n) (fun h => by omega)
    rw [hl]
    go_enter Try.func36, Try.ntmps36
    go_wp2_with (go_at_call 51; refine hs.out.mono ?_; rintro e w' ⟨rfl, rfl⟩)
    go_ret2
    exact ⟨fun h => (by cases h), fun _ => rfl, rfl⟩
  by_cases k2 : n < 0
  · have hl := lies_false (s := s) (base := base) (n := n) (fun h => by omega)
    rw [hl]
    go_enter Try.func36, Try.ntmps36
    go_wp2_with (go_at_call 51; refine hs.out.mono ?_; rintro e w' ⟨rfl, rfl⟩)
    go_ret2
    exact ⟨fun h => (by cases h), fun _ => rfl, rfl⟩
  by_cases k3 : (s : Int) - 4 < base
  · have hl := lies_false (s := s) (base := base) (n := n) (fun ⟨a1, a2, a3, a4⟩ => by
      rw [Int.tdiv_eq_ediv_of_nonneg (by omega)] at a4
      omega)
    rw [hl]
    go_enter Try.func36, Try.ntmps36
    go_wp2_with (go_at_call 51; refine hs.out.mono ?_; rintro e w' ⟨rfl, rfl⟩)
    go_ret2
    exact ⟨fun h => (by cases h), fun _ => rfl, rfl⟩
  have hl := lies_four (s := s) (base := base) (n := n) (by omega) (by omega) (by omega)
  have hw2 := IntWalk.i64_in ((s : Int) - 4 - base) (by omega)
  have hq : wrap64 (((s : Int) - 4 - base).tdiv 4) = ((s : Int) - 4 - base) / 4 := by
    rw [Int.tdiv_eq_ediv_of_nonneg (by omega)]
    unfold wrap64
    omega
  rw [hl]
  by_cases k4 : ((s : Int) - 4 - base) / 4 < n
  · rw [decide_eq_false (by omega)]
    have HK := Lib.hid k4
    clear hl
    go_enter Try.func36, Try.ntmps36
    go_wp2_with (go_at_call 51; refine hs.out.mono ?_; rintro e w' ⟨rfl, rfl⟩)
    go_ret2
    exact ⟨fun h => (by cases h), fun _ => rfl, rfl⟩
  · rw [decide_eq_true (by omega)]
    have HK := Lib.hid k4
    have hw3 := IntWalk.i64_in (4 * n) (by omega)
    have hw4 := IntWalk.i64_in (base + 4 * n) (by omega)
    clear hl
    go_enter Try.func36, Try.ntmps36
    go_wp2_with (go_at_call 51; refine hs.out.mono ?_; rintro e w' ⟨rfl, rfl⟩)
    go_ret2
    exact ⟨fun _ => rfl, fun h => (by cases h), rfl⟩
end Go.Proofs.Ytkmkbjjpbodbfaa
