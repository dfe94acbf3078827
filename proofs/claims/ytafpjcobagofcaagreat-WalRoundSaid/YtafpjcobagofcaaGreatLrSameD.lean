/- When two records are one. Conditions: none. -/
import Derived.Test.YtafpjcobagofcaaGreatRecM
namespace Go.Proofs.YtafpjcobagofcaaGreat
namespace Lr
noncomputable def same (x y : R) : Bool := @decide (x = y) (Classical.propDecidable _)
theorem same_true {s t : R} (h : s = t) : same s t = true := by unfold same; exact @decide_eq_true _ (_) h
theorem same_false {s t : R} (h : s ≠ t) : same s t = false := by unfold same; exact @decide_eq_false _ (_) h
theorem same_of {s t : R} (h : same s t = true) : s = t := by unfold same at h; exact @of_decide_eq_true _ (_) h
theorem same_comm (s t : R) : same t s = same s t := by
  by_cases h : s = t
  · rw [same_true h, same_true h.symm]
  · rw [same_false h, same_false fun e => h e.symm]
end Lr
end Go.Proofs.YtafpjcobagofcaaGreat
