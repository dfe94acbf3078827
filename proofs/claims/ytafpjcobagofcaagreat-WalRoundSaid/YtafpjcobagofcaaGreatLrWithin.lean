/- Whether a record's kind is one of the five and what it has within its bounds, as the program finds. Conditions: the value reads as a record. -/
import Derived.Test.YtafpjcobagofcaaGreatRecM
namespace Go.Proofs.YtafpjcobagofcaaGreat
open Go.RowKit

namespace Lr
def within (x : R) : Bool :=
  if x.kind = 1 then decide (x.old.length = x.new.length) && decide (1 ≤ x.new.length) && decide (x.off + x.new.length ≤ 500)
  else if x.kind = 2 then (if x.clr then decide (x.undo.length = 0) else decide (x.undo.length ≤ 64) && decide (x.next = 0))
  else if x.kind = 3 then decide (x.txn ≠ 0)
  else if x.kind = 4 then decide (x.txn ≠ 0)
  else if x.kind = 5 then decide (x.opn.length ≤ 16) && decide (x.dirt.length ≤ 64)
  else false
theorem within_iff (x : R) : within x = true ↔ Within x := by
  unfold within Within
  by_cases h1 : x.kind = 1
  · rw [if_pos h1]
    simp only [Bool.and_eq_true, decide_eq_true_eq]
    constructor
    · rintro ⟨⟨a, b⟩, c⟩; exact Or.inl ⟨h1, a, b, c⟩
    · rintro (⟨_, a, b, c⟩ | ⟨h, _⟩ | ⟨h, _⟩ | ⟨h, _⟩ | ⟨h, _⟩)
      · exact ⟨⟨a, b⟩, c⟩
      all_goals omega
  rw [if_neg h1]
  by_cases h2 : x.kind = 2
  · rw [if_pos h2]
    cases hc : x.clr
    · simp only [Bool.false_eq_true, if_false, Bool.and_eq_true, decide_eq_true_eq]
      constructor
      · rintro ⟨a, b⟩; exact Or.inr (Or.inl ⟨h2, (fun h => by cases h), fun _ => ⟨a, b⟩⟩)
      · rintro (⟨h, _⟩ | ⟨_, _, h⟩ | ⟨h, _⟩ | ⟨h, _⟩ | ⟨h, _⟩)
        · omega
        · exact h trivial
        all_goals omega
    · simp only [if_true, decide_eq_true_eq]
      constructor
      · intro a; exact Or.inr (Or.inl ⟨h2, fun _ => a, (fun h => by cases h)⟩)
      · rintro (⟨h, _⟩ | ⟨_, h, _⟩ | ⟨h, _⟩ | ⟨h, _⟩ | ⟨h, _⟩)
        · omega
        · exact h trivial
        all_goals omega
  rw [if_neg h2]
  by_cases h3 : x.kind = 3
  · rw [if_pos h3, decide_eq_true_eq]
    constructor
    · intro a; exact Or.inr (Or.inr (Or.inl ⟨h3, a⟩))
    · rintro (⟨h, _⟩ | ⟨h, _⟩ | ⟨_, h⟩ | ⟨h, _⟩ | ⟨h, _⟩)
      · omega
      · omega
      · exact h
      all_goals omega
  rw [if_neg h3]
  by_cases h4 : x.kind = 4
  · rw [if_pos h4, decide_eq_true_eq]
    constructor
    · intro a; exact Or.inr (Or.inr (Or.inr (Or.inl ⟨h4, a⟩)))
    · rintro (⟨h, _⟩ | ⟨h, _⟩ | ⟨h, _⟩ | ⟨_, h⟩ | ⟨h, _⟩)
      · omega
      · omega
      · omega
      · exact h
      · omega
  rw [if_neg h4]
  by_cases h5 : x.kind = 5
  · rw [if_pos h5]
    simp only [Bool.and_eq_true, decide_eq_true_eq]
    constructor
    · rintro ⟨a, b⟩; exact Or.inr (Or.inr (Or.inr (Or.inr ⟨h5, a, b⟩)))
    · rintro (⟨h, _⟩ | ⟨h, _⟩ | ⟨h, _⟩ | ⟨h, _⟩ | ⟨_, h⟩)
      · omega
      · omega
      · omega
      · omega
      · exact h
  rw [if_neg h5]
  constructor
  · intro h; cases h
  · rintro (⟨h, _⟩ | ⟨h, _⟩ | ⟨h, _⟩ | ⟨h, _⟩ | ⟨h, _⟩) <;> omega
theorem within_false {x : R} (h : ¬ Within x) : within x = false := by
  cases hw : within x
  · rfl
  · exact absurd ((within_iff x).1 hw) h
end Lr
/-- What is compared, as numbers. -/
theorem eqI {a b : Nat} : ((a : Int) == (b : Int)) = decide (a = b) := by
  rw [Bool.eq_iff_iff, beq_iff_eq, decide_eq_true_eq]; omega
theorem leI {a b : Nat} : decide ((a : Int) ≤ (b : Int)) = decide (a ≤ b) := by
  rw [Bool.eq_iff_iff]; simp

set_option maxHeartbeats 1600000 in
set_option maxRecDepth 20000 in
theorem within_any (x : Lr.R) (o n u c d : Value) (w : World) (h : RecAt w x o n u c d) :
    Calls Tryz.prog 70 #[RecV x o n u c d] w fun e w' => e = .returned (.bool (Lr.within x)) ∧ Below w.heap.size w w' := by
  obtain ⟨W, hW⟩ : ∃ W, W = w.alloc (robj x o n u c d) := ⟨_, rfl⟩
  have hb := below_new1 w (robj x o n u c d)
  have hr := rblk w x o n u c d
  rw [← hW] at hb hr
  have HB := Lib.hid hb
  obtain ⟨q0, q1, q2, q3, q4, q5, q6, q7, q8, q9, q10, q11, q12, q13, q14⟩ := rec_cell hr
  obtain ⟨p1, c1, p2, c2, p3, c3, p4, c4, p5, c5, rfl, rfl, rfl, rfl, rfl⟩ := rec_slices h
  have hoff := h.ok.off
  clear h hb hr
  unfold robj at hW
  obtain ⟨k, lsn, ep, txn, pg, off, ol, nw, un, pv, nx, cl, st, op, di⟩ := x
  dsimp only at *
  have hsub : wrap64 (500 - (off : Int)) = 500 - (off : Int) := IntWalk.wrap64_in _ ⟨by omega, by omega⟩
  have f1 : ((ol.length : Int) == (nw.length : Int)) = decide (ol.length = nw.length) := eqI
  have f2 : decide ((1 : Int) ≤ (nw.length : Int)) = decide (1 ≤ nw.length) := leI (a := 1)
  have f3 : decide ((nw.length : Int) ≤ 500 - (off : Int)) = decide (off + nw.length ≤ 500) := by rw [decide_eq_decide]; omega
  have f4 : ((un.length : Int) == 0) = decide (un.length = 0) := eqI (b := 0)
  have f5 : decide ((un.length : Int) ≤ 64) = decide (un.length ≤ 64) := leI (b := 64)
  have f6 : ((nx : Int) == 0) = decide (nx = 0) := eqI (b := 0)
  have f7 : ((txn : Int) != 0) = decide (txn ≠ 0) := by rw [Bool.eq_iff_iff]; simp
  have f8 : decide ((op.length : Int) ≤ 16) = decide (op.length ≤ 16) := leI (b := 16)
  have f9 : decide ((di.length : Int) ≤ 64) = decide (di.length ≤ 64) := leI (b := 64)
  unfold Lr.within
  dsimp only
  generalize decide (ol.length = nw.length) = b1 at *
  generalize decide (1 ≤ nw.length) = b2 at *
  generalize decide (off + nw.length ≤ 500) = b3 at *
  generalize decide (un.length = 0) = b4 at *
  generalize decide (un.length ≤ 64) = b5 at *
  generalize decide (nx = 0) = b6 at *
  generalize decide (txn ≠ 0) = b7 at *
  generalize decide (op.length ≤ 16) = b8 at *
  generalize decide (di.length ≤ 64) = b9 at *
  by_cases h1 : k = 1
  · subst h1
    clear f4 f5 f6 f7 f8 f9
    rw [if_pos rfl]
    cases b1 <;> cases b2 <;> cases b3
    all_goals
      go_enter Tryz.func70, Tryz.ntmps70
      go_upto_region 1 with (fail)
      rw [← hW]
      clear hW
      go_wp2_with fail
      go_ret
      exact ⟨rfl, HB.out⟩
  have k1 : (k == 1) = false := by rw [beq_eq_false_iff_ne]; exact h1
  rw [if_neg h1]
  by_cases h2 : k = 2
  · subst h2
    clear f1 f2 f3 f7 f8 f9 k1
    rw [if_pos rfl]
    cases cl <;> cases b4 <;> cases b5 <;> cases b6
    all_goals
      go_enter Tryz.func70, Tryz.ntmps70
      go_upto_region 1 with (fail)
      rw [← hW]
      clear hW
      go_wp2_with fail
      go_ret
      exact ⟨rfl, HB.out⟩
  have k2 : (k == 2) = false := by rw [beq_eq_false_iff_ne]; exact h2
  rw [if_neg h2]
  clear f1 f2 f3 f4 f5 f6
  by_cases h3 : k = 3
  · subst h3
    clear f8 f9 k1 k2
    rw [if_pos rfl]
    go_enter Tryz.func70, Tryz.ntmps70
    go_upto_region 1 with (fail)
    rw [← hW]
    clear hW
    go_wp2_with fail
    go_ret
    exact ⟨rfl, HB.out⟩
  have k3 : (k == 3) = false := by rw [beq_eq_false_iff_ne]; exact h3
  rw [if_neg h3]
  by_cases h4 : k = 4
  · subst h4
    clear f8 f9 k1 k2 k3
    rw [if_pos rfl]
    go_enter Tryz.func70, Tryz.ntmps70
    go_upto_region 1 with (fail)
    rw [← hW]
    clear hW
    go_wp2_with fail
    go_ret
    exact ⟨rfl, HB.out⟩
  have k4 : (k == 4) = false := by rw [beq_eq_false_iff_ne]; exact h4
  rw [if_neg h4]
  by_cases h5 : k = 5
  · subst h5
    clear f7 k1 k2 k3 k4
    rw [if_pos rfl]
    cases b8 <;> cases b9
    all_goals
      go_enter Tryz.func70, Tryz.ntmps70
      go_upto_region 1 with (fail)
      rw [← hW]
      clear hW
      go_wp2_with fail
      go_ret
      exact ⟨rfl, HB.out⟩
  have k5 : (k == 5) = false := by rw [beq_eq_false_iff_ne]; exact h5
  rw [if_neg h5]
  clear f7 f8 f9
  go_enter Tryz.func70, Tryz.ntmps70
  go_upto_region 1 with (fail)
  rw [← hW]
  clear hW
  go_wp2_with fail
  go_ret
  exact ⟨rfl, HB.out⟩
end Go.Proofs.YtafpjcobagofcaaGreat
