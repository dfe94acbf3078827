/- What the program's puts, and the document's, answer, over any world. Conditions: numbers are below 2^64; the slices' cells hold the bytes; the room. -/
import Derived.Test.YtkchoelegdknoaaByte
import Derived.Test.YtkchoelegdknoaaCodePure
import Derived.Test.YtkchoelegdknoaaCodeLen
namespace Go.Proofs.Ytkchoelegdknoaa
open Go.RowKit

set_option maxHeartbeats 400000 in
theorem width8 (w : World) : Calls Try.prog 78 #[] w fun e w' => e = .returned (.int .i64 1) ∧ w = w' := by
  go_enter Try.func78, Try.ntmps78
  go_wp2_with (go_at_call 76; refine (len64_8 _ _ (by decide) (by decide)).mono ?_; rintro e w' ⟨rfl, rfl⟩)
  go_ret
  exact ⟨rfl, rfl⟩

set_option maxHeartbeats 400000 in
theorem width16 (w : World) : Calls Try.prog 62 #[] w fun e w' => e = .returned (.int .i64 2) ∧ w = w' := by
  go_enter Try.func62, Try.ntmps62
  go_wp2_with (go_at_call 76; refine (len64_16 _ _ (by decide) (by decide)).mono ?_; rintro e w' ⟨rfl, rfl⟩)
  go_ret
  exact ⟨rfl, rfl⟩

set_option maxHeartbeats 400000 in
theorem width32 (w : World) : Calls Try.prog 64 #[] w fun e w' => e = .returned (.int .i64 4) ∧ w = w' := by
  go_enter Try.func64, Try.ntmps64
  go_wp2_with (go_at_call 76; refine (len64_32 _ _ (by decide) (by decide)).mono ?_; rintro e w' ⟨rfl, rfl⟩)
  go_ret
  exact ⟨rfl, rfl⟩

set_option maxHeartbeats 400000 in
theorem width64 (w : World) : Calls Try.prog 63 #[] w fun e w' => e = .returned (.int .i64 8) ∧ w = w' := by
  go_enter Try.func63, Try.ntmps63
  go_wp2_with (go_at_call 76; refine (len64_64 _ _ (by decide) (by decide)).mono ?_; rintro e w' ⟨rfl, rfl⟩)
  go_ret
  exact ⟨rfl, rfl⟩

set_option maxHeartbeats 400000 in
theorem withRoom_any (v : Value) (l : List Nat) (n : Nat) (w : World) (hB : Bts w v l) (hn : l.length + n ≤ 140737488355328) :
    Calls Try.prog 60 #[v, .int .i64 (n : Int)] w fun e w' => ∃ v', e = .returned v' ∧ Own w.heap.size w' v' l ∧ Below w.heap.size w w' := by
  have HB := Lib.hid hB
  obtain ⟨p, cap, rfl, -, -, -⟩ := hB.form
  clear hB
  go_enter Try.func60, Try.ntmps60
  go_upto_region 1 with (fail)
  iterate 13 go_step
  refine wpList_make_Own rfl (.const (.int .i64 0)) (.tmp 8) rfl w.heap.size .i64 .i64 _ (l.length + n) rfl rfl (by simp) hn (Nat.le_refl _) ?_
  intro v1 w1 hown1 hb1
  have HO1 := Lib.hid hown1
  have HB1 := Lib.hid (HB.out.below hb1)
  have HW1 := Lib.hid hb1
  clear hown1 hb1
  iterate 3 go_step
  refine wpList_append_Own rfl (.tmp 9) (.tmp 10) rfl w.heap.size _ [] rfl HO1.out _ l rfl HB1.out (by simp; omega) HW1.out.size ?_
  intro v2 w2 hown2 hb2 _
  rw [List.nil_append] at hown2
  have HO2 := Lib.hid hown2
  have HW2 := Lib.hid (HW1.out.trans hb2)
  clear hown2 hb2
  go_wp2
  go_ret
  exact ⟨_, rfl, HO2.out, HW2.out⟩

set_option maxRecDepth 100000 in
theorem or128 (n : Nat) : bits .or .u8 ((n : Int) % 256) 128 = ((n % 128 + 128 : Nat) : Int) := by
  have h : ∀ m, m < 256 → m ||| 128 = m % 128 + 128 := by decide
  rw [show ((n : Int) % 256) = ((n % 256 : Nat) : Int) by omega, show (128 : Int) = ((128 : Nat) : Int) from rfl, u8_or_nat _ _ (by omega) (by decide), h _ (by omega)]
  congr 2
  omega

set_option maxHeartbeats 800000 in
set_option maxRecDepth 20000 in
theorem addUv_any (v : Value) (l : List Nat) (n base : Nat) (w : World) (hO : Own base w v l) (hn : n < 18446744073709551616) (hl : l.length + 10 ≤ 140737488355328) (hbase : base ≤ w.heap.size) :
    Calls Try.prog 59 #[v, .int .u64 (n : Int)] w fun e w' => ∃ v', e = .returned v' ∧ Own base w' v' (l ++ Cod.uv n) ∧ Below base w w' := by
  have HO := Lib.hid hO
  have HT := Cod.uv_ten hn
  have HN := Lib.hid hn
  clear hO hn
  go_enter Try.func59, Try.ntmps59
  go_wp2
  go_loopw [0, 1] (fun s m wr => ∃ (acc : List Nat) (k : Nat), k < 18446744073709551616 ∧ m = .int .u64 k ∧ Own base wr s (l ++ acc) ∧ acc ++ Cod.uv k = Cod.uv n ∧ Below base w wr) (fun _ m _ => (intOf m).toNat)
  case atStart => exact ⟨[], n, HN.out, rfl, by simpa using HO.out, rfl, Below.refl _ _⟩
  case round =>
    obtain ⟨acc, k, hk, rfl, hO, hu, hb⟩ := hrel
    have hlen : acc.length + (Cod.uv k).length ≤ 10 := by
      rw [← List.length_append, hu]; exact HT
    have hpos := Cod.uv_pos k
    have HO := Lib.hid hO
    have HU := Lib.hid hu
    have HW := Lib.hid hb
    have HK := Lib.hid hk
    clear hO hu hb hk
    by_cases hlt : k < 128
    · go_upto_region 4 with (fail)
      iterate 13 go_step
      refine wpList_append_byte rfl (.tmp 15) (.tmp 18) rfl base _ (l ++ acc) rfl HO.out rfl k (by omega) (by omega) (by simp; omega) (Nat.le_trans hbase HW.out.size) ?_
      intro v2 w2 hown2 hb2
      have HO2 := Lib.hid hown2
      have HW2 := Lib.hid (HW.out.trans hb2)
      clear hown2 hb2
      go_wp2
      go_ret
      refine ⟨_, rfl, ?_, HW2.out⟩
      rw [← HU.out, Cod.uv_small hlt, ← List.append_assoc]
      exact HO2.out
    · have HOR := Lib.hid (or128 k)
      go_upto_region 3 with (fail)
      iterate 16 go_step
      refine wpList_append_byte rfl (.tmp 9) (.tmp 13) rfl base _ (l ++ acc) rfl HO.out rfl (k % 128 + 128) HOR.out (by omega) (by simp; omega) (Nat.le_trans hbase HW.out.size) ?_
      intro v2 w2 hown2 hb2
      have HO2 := Lib.hid hown2
      have HW2 := Lib.hid (HW.out.trans hb2)
      clear hown2 hb2
      go_wp2
      go_roundw
      case rel =>
        refine ⟨acc ++ [k % 128 + 128], k / 128, by have := HK.out; omega, by go_num, by rw [← List.append_assoc]; exact HO2.out, ?_, HW2.out⟩
        rw [List.append_assoc, ← HU.out, Cod.uv_big hlt]
        rfl
      case measure => simp [intOf]; omega
end Go.Proofs.Ytkchoelegdknoaa
