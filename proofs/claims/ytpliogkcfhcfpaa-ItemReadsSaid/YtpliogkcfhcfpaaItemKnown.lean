/- The statements' known and large. Conditions: none. -/
import Derived.Test.YtpliogkcfhcfpaaItemBytes
import Derived.Lib.SmallJoins
namespace Go.Proofs.Ytpliogkcfhcfpaa
open Go.RowKit

theorem form_small : Itm.form 1 [-1] [97] = [1, 0, 0, 0, 0, 0, 0, 0, 1, 255, 255, 255, 255, 1, 97] := by
  have h : Cod.uv 1 = [1] := Cod.uv_small (by decide)
  simp [Itm.form, h, Itm.comps, Itm.u32, Cod.le]

set_option maxHeartbeats 1600000 in
set_option maxRecDepth 20000 in
theorem known_any (w : World) : Calls Try.prog 9 #[] w fun e w' => e = .returned (.bool true) ∧ Below w.heap.size w w' := by
  have h1 : I32.Bts (w.alloc (.cells #[.int .i32 (-1)] 21)) (.slice (some ⟨w.heap.size, 0, none⟩) 1 1) [-1] :=
    I32.bts_alloc w [-1] 1 (by simp) 21 (0, 0) (by intro z hz; simp at hz; subst hz; exact okk_of ⟨by decide, by decide⟩) (by simp)
  have h2 : Bts ((w.alloc (.cells #[.int .i32 (-1)] 21)).alloc (.cells #[.int .u8 97] 5 (1, 2))) (.slice (some ⟨w.heap.size + 1, 0, none⟩) 1 1) [97] := by
    have := bts_alloc (w.alloc (.cells #[.int .i32 (-1)] 21)) [97] 1 (by simp) 5 (1, 2) (by simp) (by simp)
    rwa [show (w.alloc (Obj.cells #[Value.int IntKind.i32 (-1)] 21)).heap.size = w.heap.size + 1 by simp] at this
  have hI : ItemAt ((w.alloc (.cells #[.int .i32 (-1)] 21)).alloc (.cells #[.int .u8 97] 5 (1, 2))) 1 (.slice (some ⟨w.heap.size, 0, none⟩) 1 1) (.slice (some ⟨w.heap.size + 1, 0, none⟩) 1 1) [-1] [97] :=
    ⟨by decide, h1.below ((Below.refl _ _).alloc (Nat.le_refl _) _), h2⟩
  have HB := Lib.hid (bytes_any _ _ _ _ _ _ hI)
  have HW := Lib.hid (below_two w (.cells #[.int .i32 (-1)] 21) (.cells #[.int .u8 97] 5 (1, 2)))
  have kc := Joins.run_convert_bytes_const_at (P := Try.prog) (w.alloc (.cells #[.int .i32 (-1)] 21)) 24 5 #[.int .u8 97] 1 1 (w.heap.size + 1) (by simp) Try.underlying24 Try.underlying5
  rw [show (#[Value.int IntKind.u8 97]).size = 1 from rfl] at kc
  clear h1 h2 hI
  go_enter Try.func9, Try.ntmps9
  go_wp2_with fail
  refine HB.out.mono ?_
  rintro e w1 ⟨u, rfl, hO, hb⟩
  rw [show Itm.mayE [(-1 : Int)].length [97].length = 0 by rfl] at hO ⊢
  rw [if_pos rfl, form_small] at hO
  obtain ⟨p, c, rfl, -, -, -⟩ := hO.bts.form
  have hconv : (convert 24 9 (.slice p 15 c)).run Try.prog w1 = .ok (.string { data := #[1, 0, 0, 0, 0, 0, 0, 0, 1, 255, 255, 255, 255, 1, 97] }) w1 := strOf_conv hO.bts
  have HK := Lib.hid (HW.out.trans (hb.mono HW.out.size))
  clear hO hb
  go_wp2_with fail
  go_ret
  exact ⟨rfl, HK.out⟩

/-- Is a record longer than is looked at? -/
def Itm.large (n1 n2 : Nat) : Bool := decide (6000 < n1 ∨ 4000 < n2)

set_option maxHeartbeats 800000 in
set_option maxRecDepth 20000 in
theorem large_any (k : Nat) (p1 p2 : Option Addr) (n1 c1 n2 c2 : Nat) (w : World) (h1 : n1 ≤ 35184372088832) (h2 : n2 ≤ 140737488355328) :
    Calls Try.prog 8 #[ItemV k (.slice p1 n1 c1) (.slice p2 n2 c2)] w fun e w' => e = .returned (.bool (Itm.large n1 n2)) ∧ Below w.heap.size w w' := by
  have HB : Hid (Below w.heap.size w (w.alloc (.cells #[.int .u64 (k : Int), .slice p1 n1 c1, .slice p2 n2 c2] 26))) := (Below.refl _ _).alloc (Nat.le_refl _) _
  by_cases ha : 6000 < n1
  · rw [show Itm.large n1 n2 = true from decide_eq_true (Or.inl ha)]
    go_enter Try.func8, Try.ntmps8
    go_wp2
    go_ret
    exact ⟨ret_bool (by simp <;> omega), HB.out⟩
  by_cases hb : 4000 < n2
  · rw [show Itm.large n1 n2 = true from decide_eq_true (Or.inr hb)]
    go_enter Try.func8, Try.ntmps8
    go_wp2
    go_ret
    exact ⟨ret_bool (by simp <;> omega), HB.out⟩
  · rw [show Itm.large n1 n2 = false from decide_eq_false (by omega)]
    go_enter Try.func8, Try.ntmps8
    go_wp2
    go_ret
    exact ⟨ret_bool (by simp <;> omega), HB.out⟩
end Go.Proofs.Ytpliogkcfhcfpaa
