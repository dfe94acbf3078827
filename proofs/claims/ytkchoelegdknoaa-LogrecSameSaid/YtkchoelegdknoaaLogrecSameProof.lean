/- For every two records with lists of at most 2000 elements: Same answers as the document's, both ways, and each record is alike its copy; both stay as they were. Conditions: none beyond the row's own. -/
import Derived.Test.YtkchoelegdknoaaRows
import Derived.Test.YtkchoelegdknoaaLrOpen
import Derived.Test.YtkchoelegdknoaaLrSameLaw
import Derived.WalkKit
import Derived.ProofKit
import Derived.SizedLaws
import Derived.OpenShut
import Derived.ShutString
import Derived.ChangeOld
import Derived.Below
namespace Go.Proofs.Ytkchoelegdknoaa.logrecSame
open Go.ChangeShapes Go.WideShapes Go.ChangeAt Go.RowKit
open Go.ChangeMaps (open_string shut_string)

theorem own : ownKnob Try.prog.godebug = none := by kernel_rfl
theorem laidOut : laidOutB Try.prog = true := by kernel_rfl

set_option maxRecDepth 100000 in
theorem contract (H : Type) (enc : TypeId × Value → H) (W : World) (base : Nat) (args : Array Value) (ds gs : List (DataW H)) (before : List MemPlace)
    (hval : ∀ (j : Nat) t v, Try.f5.params[j]? = some t → args[j]? = some v → Value.okWide Try.prog W .any base t v)
    (hW : DataW.Whole enc Try.prog Try.f5.params.toList Rows.logrecSameSpec.vars false W args.toList ds gs before)
    (hsz : (DataW.weightsEach Try.prog (Try.f5.params.toList ++ Rows.logrecSameSpec.plain.varTypes Try.prog) (ds ++ gs)).all (· ≤ reachBytes) = true) :
    Calls Try.prog 5 args W fun e W' => ∃ v, e = .returned v ∧ Rows.logrecSameSpec.post enc Try.prog Try.f5 false true false false W args v W' := by
  have hW' := hW
  obtain ⟨p, q, hA0, hV, rfl, _, _⟩ := hW
  have hA : DataW.TrodAll enc Try.prog W 0 (fun _ => true) true Try.f5.params.toList args.toList ds p := hA0
  rw [Try.params5] at hA hval hsz
  obtain ⟨v0, vs0, d0, ds0, p0, q0, hargs, rfl, rfl, h0, r0⟩ := trodAll_cons hA
  obtain ⟨v1, vs1, d1, ds1, p1, q1, rfl, rfl, rfl, h1, r1⟩ := trodAll_cons r0
  obtain ⟨rfl, rfl, rfl⟩ := trodAll_nil r1
  obtain rfl : args = #[v0, v1] := by cases args; simp_all
  obtain ⟨rfl, rfl⟩ := trodVars_none hV
  have lt0 : ∀ x ∈ p0, x.block < W.heap.size := by obtain ⟨m, hm⟩ := h0; exact DataW.trod_lt m _ _ _ hm
  obtain ⟨x0, vo0, vn0, vu0, vc0, vd0, es0, e60, e70, e80, rfl, hd0, g60, g70, g80, c60, c70, c80, J0⟩ := open_rec (hval 0 30 v0 rfl rfl) h0
  subst hd0
  have z0 := rec_sized hsz (j := 0) rfl rfl
  have s60 : x0.old.length ≤ 140737488351232 := reach_bts rfl z0 (j := 6) rfl g60 c60
  have s70 : x0.new.length ≤ 140737488351232 := reach_bts rfl z0 (j := 7) rfl g70 c70
  have s80 : x0.undo.length ≤ 140737488351232 := reach_bts rfl z0 (j := 8) rfl g80 c80
  have I0 : RecAt W x0 vo0 vn0 vu0 vc0 vd0 := J0 (by omega) (by omega) (by omega)
  have lt1 : ∀ x ∈ p1, x.block < W.heap.size := by obtain ⟨m, hm⟩ := h1; exact DataW.trod_lt m _ _ _ hm
  obtain ⟨x1, vo1, vn1, vu1, vc1, vd1, es1, e61, e71, e81, rfl, hd1, g61, g71, g81, c61, c71, c81, J1⟩ := open_rec (hval 1 30 v1 rfl rfl) h1
  subst hd1
  have z1 := rec_sized hsz (j := 1) rfl rfl
  have s61 : x1.old.length ≤ 140737488351232 := reach_bts rfl z1 (j := 6) rfl g61 c61
  have s71 : x1.new.length ≤ 140737488351232 := reach_bts rfl z1 (j := 7) rfl g71 c71
  have s81 : x1.undo.length ≤ 140737488351232 := reach_bts rfl z1 (j := 8) rfl g81 c81
  have I1 : RecAt W x1 vo1 vn1 vu1 vc1 vd1 := J1 (by omega) (by omega) (by omega)
  clear hA0
  refine (logrecSame_any x0 x1 _ _ _ _ _ _ _ _ _ _ W I0 I1).mono fun e W' ⟨he, bel⟩ => ?_
  subst he
  exact ⟨_, rfl, _, _, _, [], _, [], hW', trodAll_mk1 (shut_bool Try.underlying4 _), (trodAll_cons_mk (Below.trod laidOut (by kernel_rfl) (of_decide_eq_true (by kernel_rfl)) h0 bel lt0) (trodAll_cons_mk (Below.trod laidOut (by kernel_rfl) (of_decide_eq_true (by kernel_rfl)) h1 bel lt1) trodAll_mk0)), rfl, bel.frame _, fun h => by cases h⟩

set_option maxRecDepth 100000 in
theorem lifted (os : Os) (started : os.Started) (H : Type) (enc : TypeId × Value → H) :
    ReturnsInHanded {} Try.checked os 5 .any (Rows.logrecSameSpec.pre6 enc Try.prog Try.f5 Rows.logrecSameRow.domain false) (Rows.logrecSameSpec.post enc Try.prog Try.f5 false true false false) := by
  refine returnsInHanded_of_change_sized (C := Try.checked) own started (by kernel_rfl) Try.func5
    (ChangeSpec.witness6 (enc := enc) (C := Try.checked) false ⟨#[], #[.agg #[.int .i64 0, .int .u64 0, .int .u32 0, .int .u64 0, .int .u32 0, .int .u16 0, .slice none 0 0, .slice none 0 0, .slice none 0 0, .int .u64 0, .int .u64 0, .bool false, .int .u64 0, .slice none 0 0, .slice none 0 0], .agg #[.int .i64 0, .int .u64 0, .int .u32 0, .int .u64 0, .int .u32 0, .int .u16 0, .slice none 0 0, .slice none 0 0, .slice none 0 0, .int .u64 0, .int .u64 0, .bool false, .int .u64 0, .slice none 0 0, .slice none 0 0]], []⟩ 8 (by kernel_rfl) (by kernel_rfl) (by kernel_rfl) (by kernel_rfl)) ?_
  intro W base args ds gs before hval hW _ hsz _
  exact contract H enc W base args ds gs before hval hW hsz

theorem over : Rows.logrecSameRow.holds Try.pinned (OpenSpec.ofChange Rows.logrecSameSpec) :=
  OpenClaim.holds_of_wide 5 Try.f5 rfl rfl rfl rfl rfl rfl rfl ⟨rfl, rfl, rfl, rfl, rfl⟩ rfl rfl rfl rfl rfl (by kernel_rfl) Try.func5 (by kernel_rfl)
    (of_decide_eq_true (by kernel_rfl)) (by unfold Func.isWrapper; first | (rw [if_pos (by decide +kernel)]; kernel_rfl) | (rw [if_neg (by decide +kernel)]; exact ⟨rfl, rfl⟩))
    (fun os started H enc _ => lifted os started H enc)

theorem proved : Rows.LogrecSameSaid := over
end Go.Proofs.Ytkchoelegdknoaa.logrecSame
