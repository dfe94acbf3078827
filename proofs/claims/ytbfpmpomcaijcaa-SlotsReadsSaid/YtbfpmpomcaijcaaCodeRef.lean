/- What the document's fixed numbers, counts and texts are, over any world. Conditions: numbers are below 2^64; the slices' cells hold the bytes; the room. -/
import Derived.Test.YtbfpmpomcaijcaaCodeFix
namespace Go.Proofs.Ytbfpmpomcaijcaa
open Go.RowKit

set_option maxHeartbeats 800000 in
set_option maxRecDepth 20000 in
theorem refFixed_any (n c : Nat) (w : World) (hc : c ≤ 8) :
    Calls Try.prog 41 #[.int .u64 (n : Int), .int .i64 (c : Int)] w fun e w' => ∃ v', e = .returned v' ∧ Own w.heap.size w' v' (Cod.le c n) ∧ Below w.heap.size w w' := by
  go_enter Try.func41, Try.ntmps41
  go_wp2
  go_loopw [5, 6] (fun s i wr => ∃ k : Nat, k ≤ c ∧ i = .int .i64 k ∧ Own w.heap.size wr s (Cod.le k n) ∧ Below w.heap.size w wr) (fun _ i _ => c - (intOf i).toNat)
  case atStart => exact ⟨0, by omega, rfl, own_nil _ _, Below.refl _ _⟩
  case round =>
    obtain ⟨k, hk, rfl, hO, hb⟩ := hrel
    have HO := Lib.hid hO
    have HW := Lib.hid hb
    clear hO hb
    by_cases hlt : k < c
    · have HZ := Lib.hid (shr_byte n k)
      have HL := Lib.hid (Cod.le_length k n)
      go_upto_region 5 with (fail)
      iterate 25 go_step
      refine wpList_append_byte rfl (.tmp 12) (.tmp 19) rfl w.heap.size _ (Cod.le k n) rfl HO.out rfl (n / 256 ^ k % 256) HZ.out (Nat.mod_lt _ (by decide)) (by rw [HL.out]; omega) HW.out.size ?_
      intro v2 w2 hown2 hb2
      have HO2 := Lib.hid hown2
      have HW2 := Lib.hid (HW.out.trans hb2)
      clear hown2 hb2
      go_wp2
      go_roundw
      case rel => exact ⟨k + 1, by omega, by go_num, by rw [Cod.le_snoc]; exact HO2.out, HW2.out⟩
      case measure => simp [intOf]; omega
    · obtain rfl : k = c := by omega
      go_wp2
      go_ret
      exact ⟨_, rfl, HO.out, HW.out⟩

theorem wrap_div128 (k : Nat) (h : k < 18446744073709551616) : IntKind.u64.wrap ((k : Int) / 128) = ((k / 128 : Nat) : Int) := by
  rw [show IntKind.u64.wrap ((k : Int) / 128) = ((k : Int) / 128) % 18446744073709551616 by simp [IntKind.wrap, IntKind.bits, IntKind.signed]]; omega


end Go.Proofs.Ytbfpmpomcaijcaa
