/- A record's form, by the document's own way. Conditions: the value reads as a record that may be. -/
import Derived.Test.YtkchoelegdknoaaLrFormR2
import Derived.Test.YtkchoelegdknoaaLrFormR3
namespace Go.Proofs.Ytkchoelegdknoaa
open Go.RowKit

theorem refForm_any (x : Lr.R) (o n u c d : Value) (w : World) (h : RecAt w x o n u c d) (hM : Lr.May x) :
    Calls Try.prog 17 #[RecV x o n u c d] w fun e w' => ∃ v, e = .returned v ∧ Own w.heap.size w' v (Lr.form x) ∧ Below w.heap.size w w' := by
  have hk := Lr.kind_lt hM.1
  have hn : x.kind = 1 ∨ x.kind = 2 ∨ x.kind = 3 ∨ x.kind = 4 ∨ x.kind = 5 := by omega
  rcases hn with hk | hk | hk | hk | hk
  · exact refForm_k1 x _ _ _ _ _ w h hM hk
  · cases hc : x.clr
    · exact refForm_k2f x _ _ _ _ _ w h hM hk hc
    · exact refForm_k2t x _ _ _ _ _ w h hM hk hc
  · exact refForm_k3 x _ _ _ _ _ w h hM hk
  · exact refForm_k4 x _ _ _ _ _ w h hM hk
  · exact refForm_k5 x _ _ _ _ _ w h hM hk
end Go.Proofs.Ytkchoelegdknoaa
