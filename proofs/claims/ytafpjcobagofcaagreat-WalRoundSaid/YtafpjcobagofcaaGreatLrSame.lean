/- Whether two records are alike, by the program. Conditions: the values read as records. -/
import Derived.Test.YtafpjcobagofcaaGreatLrSame1
import Derived.Test.YtafpjcobagofcaaGreatLrSameP
import Derived.Test.YtafpjcobagofcaaGreatLrSameD
namespace Go.Proofs.YtafpjcobagofcaaGreat
open Go.RowKit

theorem same_any (x1 x2 : Lr.R) (o1 n1 u1 c1 d1 o2 n2 u2 c2 d2 : Value) (w : World) (h1 : RecAt w x1 o1 n1 u1 c1 d1) (h2 : RecAt w x2 o2 n2 u2 c2 d2) (hl1 : x1.opn.length ≤ 1000000 ∧ x1.dirt.length ≤ 1000000) :
    Calls Tryz.prog 71 #[RecV x1 o1 n1 u1 c1 d1, RecV x2 o2 n2 u2 c2 d2] w fun e w' => e = .returned (.bool (Lr.same x1 x2)) ∧ Below w.heap.size w w' := by
  by_cases e_0 : x1.kind = x2.kind
  case neg =>
    rw [Lr.same_false fun e => e_0 (congrArg Lr.R.kind e)]
    exact sameD0 x1 x2 _ _ _ _ _ _ _ _ _ _ w h1 h2 hl1  e_0
  by_cases e_1 : x1.lsn = x2.lsn
  case neg =>
    rw [Lr.same_false fun e => e_1 (congrArg Lr.R.lsn e)]
    exact sameD1 x1 x2 _ _ _ _ _ _ _ _ _ _ w h1 h2 hl1 e_0 e_1
  by_cases e_2 : x1.epoch = x2.epoch
  case neg =>
    rw [Lr.same_false fun e => e_2 (congrArg Lr.R.epoch e)]
    exact sameD2 x1 x2 _ _ _ _ _ _ _ _ _ _ w h1 h2 hl1 e_0 e_1 e_2
  by_cases e_3 : x1.txn = x2.txn
  case neg =>
    rw [Lr.same_false fun e => e_3 (congrArg Lr.R.txn e)]
    exact sameD3 x1 x2 _ _ _ _ _ _ _ _ _ _ w h1 h2 hl1 e_0 e_1 e_2 e_3
  by_cases e_4 : x1.page = x2.page
  case neg =>
    rw [Lr.same_false fun e => e_4 (congrArg Lr.R.page e)]
    exact sameD4 x1 x2 _ _ _ _ _ _ _ _ _ _ w h1 h2 hl1 e_0 e_1 e_2 e_3 e_4
  by_cases e_5 : x1.off = x2.off
  case neg =>
    rw [Lr.same_false fun e => e_5 (congrArg Lr.R.off e)]
    exact sameD5 x1 x2 _ _ _ _ _ _ _ _ _ _ w h1 h2 hl1 e_0 e_1 e_2 e_3 e_4 e_5
  by_cases e_6 : x1.old = x2.old
  case neg =>
    rw [Lr.same_false fun e => e_6 (congrArg Lr.R.old e)]
    exact sameD6 x1 x2 _ _ _ _ _ _ _ _ _ _ w h1 h2 hl1 e_0 e_1 e_2 e_3 e_4 e_5 e_6
  by_cases e_7 : x1.new = x2.new
  case neg =>
    rw [Lr.same_false fun e => e_7 (congrArg Lr.R.new e)]
    exact sameD7 x1 x2 _ _ _ _ _ _ _ _ _ _ w h1 h2 hl1 e_0 e_1 e_2 e_3 e_4 e_5 e_6 e_7
  by_cases e_8 : x1.undo = x2.undo
  case neg =>
    rw [Lr.same_false fun e => e_8 (congrArg Lr.R.undo e)]
    exact sameD8 x1 x2 _ _ _ _ _ _ _ _ _ _ w h1 h2 hl1 e_0 e_1 e_2 e_3 e_4 e_5 e_6 e_7 e_8
  by_cases e_9 : x1.prev = x2.prev
  case neg =>
    rw [Lr.same_false fun e => e_9 (congrArg Lr.R.prev e)]
    exact sameD9 x1 x2 _ _ _ _ _ _ _ _ _ _ w h1 h2 hl1 e_0 e_1 e_2 e_3 e_4 e_5 e_6 e_7 e_8 e_9
  by_cases e_10 : x1.next = x2.next
  case neg =>
    rw [Lr.same_false fun e => e_10 (congrArg Lr.R.next e)]
    exact sameD10 x1 x2 _ _ _ _ _ _ _ _ _ _ w h1 h2 hl1 e_0 e_1 e_2 e_3 e_4 e_5 e_6 e_7 e_8 e_9 e_10
  by_cases e_11 : x1.clr = x2.clr
  case neg =>
    rw [Lr.same_false fun e => e_11 (congrArg Lr.R.clr e)]
    exact sameD11 x1 x2 _ _ _ _ _ _ _ _ _ _ w h1 h2 hl1 e_0 e_1 e_2 e_3 e_4 e_5 e_6 e_7 e_8 e_9 e_10 e_11
  by_cases e_12 : x1.stamp = x2.stamp
  case neg =>
    rw [Lr.same_false fun e => e_12 (congrArg Lr.R.stamp e)]
    exact sameD12 x1 x2 _ _ _ _ _ _ _ _ _ _ w h1 h2 hl1 e_0 e_1 e_2 e_3 e_4 e_5 e_6 e_7 e_8 e_9 e_10 e_11 e_12
  by_cases e_13 : x1.opn = x2.opn
  case neg =>
    rw [Lr.same_false fun e => e_13 (congrArg Lr.R.opn e)]
    exact sameD13 x1 x2 _ _ _ _ _ _ _ _ _ _ w h1 h2 hl1 e_0 e_1 e_2 e_3 e_4 e_5 e_6 e_7 e_8 e_9 e_10 e_11 e_12 e_13
  by_cases e_14 : x1.dirt = x2.dirt
  case neg =>
    rw [Lr.same_false fun e => e_14 (congrArg Lr.R.dirt e)]
    exact sameD14 x1 x2 _ _ _ _ _ _ _ _ _ _ w h1 h2 hl1 e_0 e_1 e_2 e_3 e_4 e_5 e_6 e_7 e_8 e_9 e_10 e_11 e_12 e_13 e_14
  rw [Lr.same_true (Lr.mk_eq e_0 e_1 e_2 e_3 e_4 e_5 e_6 e_7 e_8 e_9 e_10 e_11 e_12 e_13 e_14)]
  exact sameD15 x1 x2 _ _ _ _ _ _ _ _ _ _ w h1 h2 hl1 e_0 e_1 e_2 e_3 e_4 e_5 e_6 e_7 e_8 e_9 e_10 e_11 e_12 e_13 e_14
end Go.Proofs.YtafpjcobagofcaaGreat
