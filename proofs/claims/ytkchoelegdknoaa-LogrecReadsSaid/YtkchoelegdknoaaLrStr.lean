/- Texts that differ, as strings. Conditions: none. -/
import Derived.Test.YtkchoelegdknoaaLrEq
namespace Go.Proofs.Ytkchoelegdknoaa
open Go.RowKit
theorem str_ne {a b : List Nat} (ha : ∀ x ∈ a, x < 256) (hb : ∀ x ∈ b, x < 256) (h : a ≠ b) : ((strOfNums (a.map fun x : Nat => (x : Int))).toList == (strOfNums (b.map fun x : Nat => (x : Int))).toList) = false := by
  rw [beq_eq_false_iff_ne]
  intro e
  rw [ByteArray.toList_eq, ByteArray.toList_eq] at e
  exact h (str_inj ha hb (Go.WideShapes.bytes_inj e))
end Go.Proofs.Ytkchoelegdknoaa
