/- How many bytes are left of a reader. Conditions: the slice's cells hold the bytes. -/
import Derived.Test.YtbfpmpomcaijcaaCodeRd
namespace Go.Proofs.Ytbfpmpomcaijcaa
open Go.RowKit

set_option maxHeartbeats 400000 in
set_option maxRecDepth 20000 in
theorem left_any (lo : Nat → Prop) (B e : Nat) (l : List Nat) (w : World) (hR : Rd 75 lo w B l e) :
    Calls Try.prog 38 #[.pointer (some ⟨B, 0, none⟩)] w fun e w' => e = .returned (.int .i64 (l.length : Nat)) ∧ w = w' := by
  obtain ⟨s, hh, hB, -, -⟩ := hR
  obtain ⟨p, cap, rfl, -, -, -⟩ := hB.form
  have hc0 := cell2_0 hh
  clear hB hh
  go_enter Try.func38, Try.ntmps38
  go_wp2
  go_ret
  exact ⟨rfl, rfl⟩
set_option maxHeartbeats 400000 in
set_option maxRecDepth 20000 in
theorem left_nil (w : World) : Calls Try.prog 38 #[.pointer none] w fun e w' => e = .returned (.int .i64 0) ∧ w = w' := by
  go_enter Try.func38, Try.ntmps38
  go_wp2
  go_ret
  exact ⟨rfl, rfl⟩
end Go.Proofs.Ytbfpmpomcaijcaa
