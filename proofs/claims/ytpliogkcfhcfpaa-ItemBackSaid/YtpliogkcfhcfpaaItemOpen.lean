/- Records that come in: opened to their numbers. Conditions: none. -/
import Derived.Test.YtpliogkcfhcfpaaItemMay
import Derived.Lib.SmallJoins
import Derived.ProofKit
import Derived.OpenShut
import Derived.SizedLaws
namespace Go.Proofs.Ytpliogkcfhcfpaa
open Go.ChangeShapes Go.WideShapes Go.ChangeAt Go.RowKit Go.Joins

theorem open_item {H : Type} {enc : TypeId × Value → H} {W : World} {base b0 : Nat} {spare : Nat → Bool} {held : Bool} {r : Reach} {v : Value} {d : DataW H} {ps : List MemPlace}
    (hv : Value.okWide Try.prog W r b0 26 v) (h : DataW.Trod enc Try.prog W base spare held 26 v d ps) :
    ∃ (k : Nat) (vv vm : Value) (d0 d1 d2 : DataW H) (lv : List Int) (lm : List Nat), k < 18446744073709551616 ∧ v = ItemV k vv vm ∧ d = .agg [d0, d1, d2] ∧
      (lv.length ≤ 35184372088832 → I32.Bts W vv lv) ∧ (lv = [] ∨ ∃ elems rest, d1 = .slice elems rest ∧ lv.length ≤ elems.length) ∧
      (lm.length ≤ 140737488355328 → Bts W vm lm) ∧ (lm = [] ∨ ∃ elems rest, d2 = .slice elems rest ∧ lm.length ≤ elems.length) := by
  obtain ⟨c0, c1, c2, y0, y1, y2, m, rfl, rfl, rfl, hy0, hy1, hy2⟩ := open_agg3 Try.underlying26 (by kernel_rfl) (by kernel_rfl) hv h
  obtain ⟨a, e0, e0', wa⟩ := DataW.trod_int (k := .u64) Try.underlying22 hy0
  obtain ⟨k, hk, rfl⟩ := nat_of_u64 wa
  simp only [List.cons.injEq, and_true] at e0
  subst e0
  obtain ⟨a1, n1, k1, e1⟩ := slice_form Try.underlying23 hy1
  simp only [List.cons.injEq, and_true] at e1
  subst e1
  obtain ⟨a2, n2, k2, e2⟩ := slice_form Try.underlying24 hy2
  simp only [List.cons.injEq, and_true] at e2
  subst e2
  have t1 : DataW.Trod enc Try.prog W base spare held 23 (.slice a1 n1 k1) y1.1 y1.2 := ⟨m, by simpa [Value.cells] using hy1⟩
  have t2 : DataW.Trod enc Try.prog W base spare held 24 (.slice a2 n2 k2) y2.1 y2.2 := ⟨m, by simpa [Value.cells] using hy2⟩
  obtain ⟨lv, w1, r1⟩ := I32.open_bts t1
  obtain ⟨lm, w2, r2⟩ := open_bts t2
  exact ⟨k, _, _, _, _, _, lv, lm, hk, rfl, rfl, w1, r1, w2, r2⟩

theorem item_sized {H : Type} {ts : List TypeId} {ds : List (DataW H)} {d0 d1 d2 : DataW H} (h : (DataW.weightsEach Try.prog ts ds).all (· ≤ reachBytes) = true) {j : Nat} (ht : ts[j]? = some 26) (hd : ds[j]? = some (.agg [d0, d1, d2])) :
    (DataW.weightsEach Try.prog [22, 23, 24] [d0, d1, d2]).all (· ≤ reachBytes) = true := by
  refine List.all_eq_true.2 fun n hn => List.all_eq_true.1 h n (DataW.weights_mem_each ht hd n ?_)
  simp only [DataW.weights, Try.underlying26]
  exact hn
end Go.Proofs.Ytpliogkcfhcfpaa
