/- Which records may be: what May answers. Conditions: the lengths' bounds. -/
import Derived.Test.YtpliogkcfhcfpaaByte
import Derived.Test.YtpliogkcfhcfpaaI32
import Derived.Test.YtpliogkcfhcfpaaItemPure
import Derived.Laws.StructEq
namespace Go.Proofs.Ytpliogkcfhcfpaa
open Go.RowKit

/-- A record's value. -/
abbrev ItemV (k : Nat) (vv vm : Value) : Value := .agg #[.int .u64 (k : Int), vv, vm]

/-- The value reads as a record. -/
structure ItemAt (w : World) (k : Nat) (vv vm : Value) (v : List Int) (m : List Nat) : Prop where
  key : k < 18446744073709551616
  vec : I32.Bts w vv v
  bytes : Bts w vm m

theorem ItemAt.below {w w' : World} {k : Nat} {vv vm : Value} {v : List Int} {m : List Nat} (h : ItemAt w k vv vm v m) (hb : Below w.heap.size w w') : ItemAt w' k vv vm v m :=
  ⟨h.key, h.vec.below hb, h.bytes.below hb⟩

theorem _root_.Go.RowKit.Below.goN {B0 : Nat} {a b : World} (h : Below B0 a b) (n : Nat) : Below B0 a (b.drewN n) :=
  ⟨h.os, h.tape, h.output, h.size, fun k hk => h.block k hk⟩
theorem _root_.Go.RowKit.Below.go1 {B0 : Nat} {a b : World} (h : Below B0 a b) : Below B0 a b.drew := ⟨h.os, h.tape, h.output, h.size, fun k hk => h.block k hk⟩

theorem comp_of {x : Int} (h : I32.Okk x) : Itm.Comp x := by
  have h1 : IntKind.i32.min = -2147483648 := rfl
  have h2 : IntKind.i32.max = 2147483647 := rfl
  unfold I32.Okk at h
  simp only [Lit.wf, Bool.and_eq_true, decide_eq_true_eq] at h
  unfold Itm.Comp
  omega
theorem okk_of {x : Int} (h : Itm.Comp x) : I32.Okk x := by
  have h1 : IntKind.i32.min = -2147483648 := rfl
  have h2 : IntKind.i32.max = 2147483647 := rfl
  unfold Itm.Comp at h
  unfold I32.Okk
  simp only [Lit.wf, Bool.and_eq_true, decide_eq_true_eq]
  omega

set_option maxHeartbeats 800000 in
set_option maxRecDepth 20000 in
theorem may_any (k : Nat) (p1 p2 : Option Addr) (n1 c1 n2 c2 : Nat) (w : World) (h1 : n1 ≤ 35184372088832) (h2 : n2 ≤ 140737488355328) :
    Calls Try.prog 11 #[ItemV k (.slice p1 n1 c1) (.slice p2 n2 c2)] w fun e w' => e = .returned (.int .i64 (Itm.mayE n1 n2 : Nat)) ∧ Below w.heap.size w w' := by
  have HB : Hid (Below w.heap.size w (w.alloc (.cells #[.int .u64 (k : Int), .slice p1 n1 c1, .slice p2 n2 c2] 26))) := (Below.refl _ _).alloc (Nat.le_refl _) _
  by_cases ha : n1 < 1
  · rw [show Itm.mayE n1 n2 = 9 by unfold Itm.mayE; rw [if_pos (by omega)]]
    go_enter Try.func11, Try.ntmps11
    go_wp2
    go_ret
    exact ⟨rfl, HB.out⟩
  by_cases hb : 4096 < n1
  · rw [show Itm.mayE n1 n2 = 9 by unfold Itm.mayE; rw [if_pos (by omega)]]
    go_enter Try.func11, Try.ntmps11
    go_wp2
    go_ret
    exact ⟨rfl, HB.out⟩
  by_cases hc : 1024 < n2
  · rw [show Itm.mayE n1 n2 = 3 by unfold Itm.mayE; rw [if_neg (by omega), if_pos hc]]
    go_enter Try.func11, Try.ntmps11
    go_wp2
    go_ret
    exact ⟨rfl, HB.out⟩
  · rw [show Itm.mayE n1 n2 = 0 by unfold Itm.mayE; rw [if_neg (by omega), if_neg (by omega)]]
    go_enter Try.func11, Try.ntmps11
    go_wp2
    go_ret
    exact ⟨rfl, HB.out⟩
end Go.Proofs.Ytpliogkcfhcfpaa
