/- Pages that come in: opened to their numbers. Conditions: none. -/
import Derived.Test.YtkmkbjjpbodbfaaPageRef
import Derived.Lib.SmallJoins
import Derived.ProofKit
import Derived.OpenShut
import Derived.SizedLaws
namespace Go.Proofs.Ytkmkbjjpbodbfaa
open Go.ChangeShapes Go.WideShapes Go.ChangeAt Go.RowKit Go.Joins

set_option maxRecDepth 20000 in
theorem open_page {H : Type} {enc : TypeId × Value → H} {W : World} {base b0 : Nat} {spare : Nat → Bool} {held : Bool} {r : Reach} {v : Value} {d : DataW H} {ps : List MemPlace}
    (hv : Value.okWide Try.prog W r b0 25 v) (h : DataW.Trod enc Try.prog W base spare held 25 v d ps) :
    ∃ (k : Nat) (vm : Value) (d0 d1 : DataW H) (lm : List Nat), k < 18446744073709551616 ∧ v = PgV k vm ∧ d = .agg [d0, d1] ∧
      (lm.length ≤ 140737488355328 → Bts W vm lm) ∧ (lm = [] ∨ ∃ elems rest, d1 = .slice elems rest ∧ lm.length ≤ elems.length) := by
  obtain ⟨c0, c1, y0, y1, m, rfl, rfl, rfl, hy0, hy1⟩ := open_agg2 Try.underlying25 (by kernel_rfl) (by kernel_rfl) hv h
  obtain ⟨a, e0, e0', wa⟩ := DataW.trod_int (k := .u64) Try.underlying22 hy0
  obtain ⟨k, hk, rfl⟩ := nat_of_u64 wa
  simp only [List.cons.injEq, and_true] at e0
  subst e0
  obtain ⟨a2, n2, k2, e2⟩ := slice_form Try.underlying23 hy1
  simp only [List.cons.injEq, and_true] at e2
  subst e2
  have t2 : DataW.Trod enc Try.prog W base spare held 23 (.slice a2 n2 k2) y1.1 y1.2 := ⟨m, by simpa [Value.cells] using hy1⟩
  obtain ⟨lm, w2, r2⟩ := open_bts t2
  exact ⟨k, _, _, _, lm, hk, rfl, rfl, w2, r2⟩

theorem page_sized {H : Type} {ts : List TypeId} {ds : List (DataW H)} {d0 d1 : DataW H} (h : (DataW.weightsEach Try.prog ts ds).all (· ≤ reachBytes) = true) {j : Nat} (ht : ts[j]? = some 25) (hd : ds[j]? = some (.agg [d0, d1])) :
    (DataW.weightsEach Try.prog [22, 23] [d0, d1]).all (· ≤ reachBytes) = true := by
  refine List.all_eq_true.2 fun n hn => List.all_eq_true.1 h n (DataW.weights_mem_each ht hd n ?_)
  simp only [DataW.weights, Try.underlying25]
  exact hn
end Go.Proofs.Ytkmkbjjpbodbfaa
