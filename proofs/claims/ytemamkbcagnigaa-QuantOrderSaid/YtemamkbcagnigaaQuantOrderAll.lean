/- What the law QuantOrder answers, with nothing left open. -/
import Derived.Test.YtemamkbcagnigaaQuantOrderLaw
import Derived.Test.YtemamkbcagnigaaQuantSortedAny
namespace Go.Proofs.Ytemamkbcagnigaa
open Go.RowKit

theorem order_any (v : Value) (l : List Int) (a b c : Nat) (w : World) (hB : U64.Bts w v l) (ha : a < 18446744073709551616) (hb : b < 18446744073709551616) (hc : c < 18446744073709551616) :
    Calls Try.prog 6 #[v, .int .u64 (a : Int), .int .u64 (b : Int), .int .u64 (c : Int)] w fun e w' => e = .returned (.bool true) ∧ Below w.heap.size w w' :=
  orderLaw_any (fun g cap l w hg hB hl => (sorted_any g cap l w hg hB hl).mono fun _ _ h => h) v l a b c w hB ha hb hc
end Go.Proofs.Ytemamkbcagnigaa
