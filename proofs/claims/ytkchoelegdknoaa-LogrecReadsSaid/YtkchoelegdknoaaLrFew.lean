/- Records with few of each. Conditions: none. -/
import Derived.Test.YtkchoelegdknoaaLrPure
namespace Go.Proofs.Ytkchoelegdknoaa
/-- Few of each. -/
structure Lr.Few (x : Lr.R) : Prop where
  old : x.old.length ≤ 6000
  new : x.new.length ≤ 6000
  undo : x.undo.length ≤ 6000
  opn : x.opn.length ≤ 6000
  dirt : x.dirt.length ≤ 6000

end Go.Proofs.Ytkchoelegdknoaa
