/- What the document's fixed numbers, counts and texts are, over any world. Conditions: numbers are below 2^64; the slices' cells hold the bytes; the room. -/
import Derived.Test.YtkchoelegdknoaaCodeFix
namespace Go.Proofs.Ytkchoelegdknoaa
open Go.RowKit

set_option maxHeartbeats 800000 in
set_option maxRecDepth 20000 in
theorem refFixed_any (n c : Nat) (w : World) (hc : c ≤ 8) :
    Calls Try.prog 31 #[.int .u64 (n : Int), .int .i64 (c : Int)] w fun e w' => ∃ v', e = .returned v' ∧ Own w.heap.size w' v' (Cod.le c n) ∧ Below w.heap.size w w' := by
  go_enter Try.func31, Try.ntmps31
  go_wp2
  go_loopw [5, 6] (fun s i wr => ∃ k : Nat, k ≤ c ∧ i = .int .i64 k ∧ Own w.heap.size wr s (Cod.le k n) ∧ Below w.heap.size w wr) (fun _ i _ => c - (intOf i).toNat)
  case atStart => exact ⟨0, by omega, rfl, own_nil _ _, Below.refl _ _⟩
  case round =>
    obtain ⟨k, hk, rfl, hO, hb⟩ := hrel
    have HO := Lib.hid hO
    have HW := Lib.hid hb
    clear hO hb
    by_cases hlt : k < c
    · have HZ := Lib.hid (shr_byte n k)
      have HL := Lib.hid (Cod.le_length k n)
      go_upto_region 5 with (fail)
      iterate 25 go_step
      refine wpList_append_byte rfl (.tmp 12) (.tmp 19) rfl w.heap.size _ (Cod.le k n) rfl HO.out rfl (n / 256 ^ k % 256) HZ.out (Nat.mod_lt _ (by decide)) (by rw [HL.out]; omega) HW.out.size ?_
      intro v2 w2 hown2 hb2
      have HO2 := Lib.hid hown2
      have HW2 := Lib.hid (HW.out.trans hb2)
      clear hown2 hb2
      go_wp2
      go_roundw
      case rel => exact ⟨k + 1, by omega, by go_num, by rw [Cod.le_snoc]; exact HO2.out, HW2.out⟩
      case measure => simp [intOf]; omega
    · obtain rfl : k = c := by omega
      go_wp2
      go_ret
      exact ⟨_, rfl, HO.out, HW.out⟩

theorem wrap_div128 (k : Nat) (h : k < 18446744073709551616) : IntKind.u64.wrap ((k : Int) / 128) = ((k / 128 : Nat) : Int) := by
  rw [show IntKind.u64.wrap ((k : Int) / 128) = ((k : Int) / 128) % 18446744073709551616 by simp [IntKind.wrap, IntKind.bits, IntKind.signed]]; omega

set_option maxHeartbeats 800000 in
set_option maxRecDepth 20000 in
theorem refUv_any (n : Nat) (w : World) (hn : n < 18446744073709551616) :
    Calls Try.prog 33 #[.int .u64 (n : Int)] w fun e w' => ∃ v', e = .returned v' ∧ Own w.heap.size w' v' (Cod.uv n) ∧ Below w.heap.size w w' := by
  have HT := Cod.uv_ten hn
  have HN := Lib.hid hn
  clear hn
  go_enter Try.func33, Try.ntmps33
  go_wp2
  go_loopw [0, 3] (fun m s wr => ∃ (acc : List Nat) (k : Nat), k < 18446744073709551616 ∧ m = .int .u64 k ∧ Own w.heap.size wr s acc ∧ acc ++ Cod.uv k = Cod.uv n ∧ Below w.heap.size w wr) (fun m _ _ => (intOf m).toNat)
  case atStart => exact ⟨[], n, HN.out, rfl, own_nil _ _, rfl, Below.refl _ _⟩
  case round =>
    obtain ⟨acc, k, hk, rfl, hO, hu, hb⟩ := hrel
    have hlen : acc.length + (Cod.uv k).length ≤ 10 := by
      rw [← List.length_append, hu]; exact HT
    have hpos := Cod.uv_pos k
    have HO := Lib.hid hO
    have HU := Lib.hid hu
    have HW := Lib.hid hb
    have HK := Lib.hid hk
    clear hO hu hb
    by_cases hlt : k < 128
    · clear hk
      go_upto_region 5 with (fail)
      iterate 13 go_step
      refine wpList_append_byte rfl (.tmp 15) (.tmp 18) rfl w.heap.size _ acc rfl HO.out rfl k (by omega) (by omega) (by omega) HW.out.size ?_
      intro v2 w2 hown2 hb2
      have HO2 := Lib.hid hown2
      have HW2 := Lib.hid (HW.out.trans hb2)
      clear hown2 hb2
      go_wp2
      go_ret
      refine ⟨_, rfl, ?_, HW2.out⟩
      rw [← HU.out, Cod.uv_small hlt]
      exact HO2.out
    · have HWR := Lib.hid (wrap_div128 k hk)
      clear hk
      go_upto_region 3 with (fail)
      iterate 19 go_step
      refine wpList_append_byte rfl (.tmp 6) (.tmp 11) rfl w.heap.size _ acc rfl HO.out rfl (k % 128 + 128) (by omega) (by omega) (by omega) HW.out.size ?_
      intro v2 w2 hown2 hb2
      have HO2 := Lib.hid hown2
      have HW2 := Lib.hid (HW.out.trans hb2)
      clear hown2 hb2
      go_wp2
      go_roundw
      case rel =>
        refine ⟨acc ++ [k % 128 + 128], k / 128, by have := HK.out; omega, by rw [HWR.out], HO2.out, ?_, HW2.out⟩
        rw [List.append_assoc, ← HU.out, Cod.uv_big hlt]
        rfl
      case measure =>
        simp [intOf]
        rw [HWR.out]
        omega

set_option maxHeartbeats 400000 in
set_option maxRecDepth 20000 in
theorem refText_any (s : Value) (t : List Nat) (w : World) (hS : Bts w s t) (hl : 10 + t.length ≤ 140737488355328) :
    Calls Try.prog 32 #[s] w fun e w' => ∃ v', e = .returned v' ∧ Own w.heap.size w' v' (Cod.uv t.length ++ t) ∧ Below w.heap.size w w' := by
  have HS := Lib.hid hS
  obtain ⟨p, cap, rfl, -, -, -⟩ := hS.form
  have HU := Lib.hid (Cod.uv_ten (n := t.length) (by omega))
  clear hS
  go_enter Try.func32, Try.ntmps32
  go_wp2_with fail
  refine (refUv_any t.length _ (by omega)).mono ?_
  rintro e w2 ⟨v2, rfl, hO2, hb2⟩
  have HO2 := Lib.hid hO2
  have HW2 := Lib.hid hb2
  clear hO2 hb2
  go_upto_region 2 with (fail)
  iterate 7 go_step
  refine wpList_append_Own rfl (.tmp 8) (.tmp 9) rfl w.heap.size _ _ rfl HO2.out _ t rfl (HS.out.below HW2.out) (by have := HU.out; omega) HW2.out.size ?_
  intro v3 w3 hown3 hb3 _
  have HO3 := Lib.hid hown3
  have HW3 := Lib.hid (HW2.out.trans hb3)
  clear hown3 hb3
  go_wp2
  go_ret
  exact ⟨_, rfl, HO3.out, HW3.out⟩
end Go.Proofs.Ytkchoelegdknoaa
