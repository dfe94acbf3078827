/- The statement's known and cut. -/
import Derived.Test.YtljichhmfbefaaaVectSame
import Derived.OwnWalk
namespace Go.Proofs.Ytljichhmfbefaaa
open Go.RowKit

theorem okk_of {x : Int} (a : -2147483648 ≤ x) (b : x ≤ 2147483647) : I32.Okk x := by
  have h1 : IntKind.i32.min = -2147483648 := rfl
  have h2 : IntKind.i32.max = 2147483647 := rfl
  unfold I32.Okk
  simp only [Lit.wf, Bool.and_eq_true, decide_eq_true_eq]
  omega
theorem far7 : Vp.far [1, -2] [4, 2] = 7 := by simp [Vp.far, Vp.may, Vp.dsum, Vp.ab]
theorem ferr7 : Vp.ferr [1, -2] [4, 2] = 0 := by simp [Vp.ferr, Vp.may]
theorem bts_two (w : World) (x y : Int) (hx : I32.Okk x) (hy : I32.Okk y) (t : TypeId) : I32.Bts (w.alloc (.cells #[.int .i32 x, .int .i32 y] t)) (.slice (some ⟨w.heap.size, 0, none⟩) 2 2) [x, y] :=
  I32.bts_alloc w [x, y] 2 (by simp) t (0, 0) (by intro z hz; simp at hz; rcases hz with rfl | rfl <;> assumption) (by simp)

set_option maxHeartbeats 400000 in
set_option maxRecDepth 20000 in
/-- The statement's known: true. -/
theorem known_any (w : World) : Calls Try.prog 13 #[] w fun e w' => e = .returned (.bool true) ∧ Below w.heap.size w w' := by
  have k1 : I32.Okk 1 := okk_of (by decide) (by decide)
  have k2 : I32.Okk (-2) := okk_of (by decide) (by decide)
  have k3 : I32.Okk 4 := okk_of (by decide) (by decide)
  have k4 : I32.Okk 2 := okk_of (by decide) (by decide)
  have f1 := far7
  have f2 := ferr7
  have h1 := bts_two w 1 (-2) k1 k2 21
  have hb1 : Below w.heap.size w (w.alloc (.cells #[.int .i32 1, .int .i32 (-2)] 21)) := (Below.refl _ _).alloc (Nat.le_refl _) _
  have h2 := bts_two (w.alloc (.cells #[.int .i32 1, .int .i32 (-2)] 21)) 4 2 k3 k4 21
  rw [show (w.alloc (.cells #[.int .i32 1, .int .i32 (-2)] 21)).heap.size = w.heap.size + 1 by simp] at h2
  have hb2 := hb1.alloc hb1.size (.cells #[.int .i32 4, .int .i32 2] 21)
  have h3 := h1.below ((Below.refl _ _).alloc (Nat.le_refl _) (.cells #[.int .i32 4, .int .i32 2] 21))
  have HD := Lib.hid (dist_any _ _ _ _ _ h3 h2)
  unfold DistAns at HD
  rw [f1, f2] at HD
  have HB := Lib.hid hb2
  clear h1 hb1 h2 hb2 h3 f1 f2 k1 k2 k3 k4
  go_enter Try.func13, Try.ntmps13
  go_wp2_with fail
  refine HD.out.mono ?_
  rintro e w' ⟨rfl, rfl⟩
  go_wp2_with fail
  refine (low_any 9 4 _ (by omega) (by omega) (by omega) (by omega)).mono ?_
  rintro e w' ⟨rfl, rfl⟩
  go_wp2_with fail
  go_ret
  exact ⟨rfl, HB.out⟩

theorem run_min_four {P : Program} {w : World} (ts : Array TypeId) (t : TypeId) (a b c : Nat) :
    (Builtin.min_ ts t #[.int .i64 (a : Int), .int .i64 (b : Int), .int .i64 (c : Int), .int .i64 5000]).run P w = .ok (.int .i64 ((min (min (min a b) c) 5000 : Nat) : Int)) w := by
  have h2 : ∀ x y : Int, (Builtin.min2 (.int .i64 x) (.int .i64 y)).run P w = .ok (.int .i64 (if y < x then y else x)) w := by intro x y; simp [Builtin.min2]
  have h : (Builtin.min_ ts t #[.int .i64 (a : Int), .int .i64 (b : Int), .int .i64 (c : Int), .int .i64 5000]).run P w = .ok (.int .i64 (if (5000 : Int) < (if (c : Int) < (if (b : Int) < a then (b : Int) else a) then (c : Int) else (if (b : Int) < a then (b : Int) else a)) then 5000 else (if (c : Int) < (if (b : Int) < a then (b : Int) else a) then (c : Int) else (if (b : Int) < a then (b : Int) else a)))) w := by
    simp [Builtin.min_, Builtin.min2]
  rw [h]
  have e : (if (5000 : Int) < (if (c : Int) < (if (b : Int) < a then (b : Int) else a) then (c : Int) else (if (b : Int) < a then (b : Int) else a)) then 5000 else (if (c : Int) < (if (b : Int) < a then (b : Int) else a) then (c : Int) else (if (b : Int) < a then (b : Int) else a))) = ((min (min (min a b) c) 5000 : Nat) : Int) := by
    split <;> split <;> (try split) <;> omega
  rw [e]

/-- The statement's cut: as many components of each as all have. -/
theorem cut_any (pa pb pc : Option Addr) (a b c : List Int) (ca cb cc : Nat) (w : World) (hA : I32.Bts w (.slice pa a.length ca) a) (hB : I32.Bts w (.slice pb b.length cb) b) (hC : I32.Bts w (.slice pc c.length cc) c) :
    Calls Try.prog 14 #[.slice pa a.length ca, .slice pb b.length cb, .slice pc c.length cc] w fun e w' => ∃ n m : Nat, e = .returned (.tuple #[.slice pa n ca, .slice pb n cb, .slice pc n cc]) ∧ w' = w.drewN m ∧ n ≤ a.length ∧ n ≤ b.length ∧ n ≤ c.length ∧ n ≤ 5000 := by
  obtain ⟨_, _, ea, ha, -, -⟩ := hA.form
  obtain ⟨_, _, eb, hb, -, -⟩ := hB.form
  obtain ⟨_, _, ec, hc, -, -⟩ := hC.form
  simp only [Value.slice.injEq] at ea eb ec
  obtain ⟨rfl, -, rfl⟩ := ea
  obtain ⟨rfl, -, rfl⟩ := eb
  obtain ⟨rfl, -, rfl⟩ := ec
  have la := hA.len
  have lb := hB.len
  have lc := hC.len
  clear hA hB hC
  obtain ⟨n, hn⟩ : ∃ n, n = min (min (min a.length b.length) c.length) 5000 := ⟨_, rfl⟩
  have h1 : n ≤ a.length := by omega
  have h2 : n ≤ b.length := by omega
  have h3 : n ≤ c.length := by omega
  have h7 : n ≤ 5000 := by omega
  have h4 : n ≤ ca := by omega
  have h5 : n ≤ cb := by omega
  have h6 : n ≤ cc := by omega
  have hmin := fun (P : Program) (w : World) ts t => run_min_four (P := P) (w := w) ts t a.length b.length c.length
  rw [← hn] at hmin
  clear hn
  go_enter Try.func14, Try.ntmps14
  go_wp2
  go_quiet (fail)
  go_wp2
  go_ret3
  exact ⟨n, _, rfl, rfl, h1, h2, h3, h7⟩
end Go.Proofs.Ytljichhmfbefaaa
