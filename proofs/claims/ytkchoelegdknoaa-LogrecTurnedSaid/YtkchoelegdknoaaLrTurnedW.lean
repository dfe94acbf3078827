/- LogrecTurned's law with the number as the row hands it. Conditions: the value reads as a record. -/
import Derived.Test.YtkchoelegdknoaaLrTurned
namespace Go.Proofs.Ytkchoelegdknoaa
open Go.RowKit

theorem turned_row (x : Lr.R) (o n u c d m : Value) (at0 t : Int) (bh : List Nat) (w : World) (h : RecAt w x o n u c d) (ht : (Lit.int .u32 t).wf = true) (hm : Bts w m bh) :
    Calls Try.prog 6 #[RecV x o n u c d, .int .i64 at0, .int .u32 t, m] w fun e w' => e = .returned (.bool true) ∧ Below w.heap.size w w' := by
  obtain ⟨k, hk, rfl⟩ := nat_of_u32 ht
  exact turned_any x o n u c d m at0 k bh w h hk hm
end Go.Proofs.Ytkchoelegdknoaa
