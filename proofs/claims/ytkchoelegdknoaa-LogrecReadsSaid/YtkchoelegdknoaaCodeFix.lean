/- What the program's fixed numbers, counts and texts, put behind bytes, are, and the document's, over any world. Conditions: numbers are below their types' bounds; the slices' cells hold the bytes; the room. -/
import Derived.Test.YtkchoelegdknoaaCodePut
namespace Go.Proofs.Ytkchoelegdknoaa
open Go.RowKit

theorem shr_byte (n k : Nat) : (n : Int) / 2 ^ (8 * k) % 256 = ((n / 256 ^ k % 256 : Nat) : Int) := by
  have e : (2 : Nat) ^ (8 * k) = 256 ^ k := by rw [Nat.pow_mul]
  have e2 : (2 : Int) ^ (8 * k) = ((256 ^ k : Nat) : Int) := by rw [← e, Int.natCast_pow]; rfl
  rw [e2, ← Int.natCast_ediv]
  omega

set_option maxHeartbeats 800000 in
set_option maxRecDepth 20000 in
theorem put16_any (v : Value) (l : List Nat) (n : Nat) (w : World) (hB : Bts w v l) (hl : l.length + 2 ≤ 140737488355328) :
    Calls Try.prog 43 #[v, .int .u16 (n : Int)] w fun e w' => ∃ v', e = .returned v' ∧ Own w.heap.size w' v' (l ++ Cod.le 2 n) ∧ Below w.heap.size w w' := by
  have HB := Lib.hid hB
  clear hB
  go_enter Try.func43, Try.ntmps43
  go_wp2_with fail
  refine (width16 _).mono ?_
  rintro e w' ⟨rfl, rfl⟩
  go_wp2_with fail
  refine (withRoom_any _ l 2 _ HB.out hl).mono ?_
  rintro e w1 ⟨v1, rfl, hO1, hb1⟩
  have HO1 := Lib.hid hO1
  have HW1 := Lib.hid hb1
  clear hO1 hb1
  go_wp2_with fail
  refine (width16 _).mono ?_
  rintro e w' ⟨rfl, rfl⟩
  go_wp2_with fail
  go_loopw [5, 11] (fun s i wr => ∃ k : Nat, k ≤ 2 ∧ i = .int .i64 k ∧ Own w.heap.size wr s (l ++ Cod.le k n) ∧ Below w.heap.size w wr) (fun _ i _ => 2 - (intOf i).toNat)
  case atStart => exact ⟨0, by omega, rfl, by simpa [Cod.le] using HO1.out, HW1.out⟩
  case round =>
    obtain ⟨k, hk, rfl, hO, hb⟩ := hrel
    have HO := Lib.hid hO
    have HW := Lib.hid hb
    clear hO hb
    by_cases hlt : k < 2
    · have HZ := Lib.hid (shr_byte n k)
      have HL := Lib.hid (Cod.le_length k n)
      go_upto_region 5 with (fail)
      iterate 22 go_step
      refine wpList_append_byte rfl (.tmp 14) (.tmp 20) rfl w.heap.size _ (l ++ Cod.le k n) rfl HO.out rfl (n / 256 ^ k % 256) HZ.out (Nat.mod_lt _ (by decide)) (by rw [List.length_append, HL.out]; omega) HW.out.size ?_
      intro v2 w2 hown2 hb2
      have HO2 := Lib.hid hown2
      have HW2 := Lib.hid (HW.out.trans hb2)
      clear hown2 hb2
      go_wp2
      go_roundw
      case rel => exact ⟨k + 1, by omega, by go_num, by rw [Cod.le_snoc, ← List.append_assoc]; exact HO2.out, HW2.out⟩
      case measure => simp [intOf]; omega
    · obtain rfl : k = 2 := by omega
      go_wp2
      go_ret
      exact ⟨_, rfl, HO.out, HW.out⟩

set_option maxHeartbeats 400000 in
set_option maxRecDepth 20000 in
theorem Put16_any (v : Value) (l : List Nat) (n : Nat) (w : World) (hB : Bts w v l) (hl : l.length + 2 ≤ 140737488355328) :
    Calls Try.prog 21 #[v, .int .u16 (n : Int)] w fun e w' => ∃ v', e = .returned v' ∧ Own w.heap.size w' v' (l ++ Cod.le 2 n) ∧ Below w.heap.size w w' := by
  have HB := Lib.hid hB
  clear hB
  go_enter Try.func21, Try.ntmps21
  go_wp2_with fail
  refine (put16_any _ l n _ HB.out hl).mono ?_
  rintro e w1 ⟨v1, rfl, hO1, hb1⟩
  have HO1 := Lib.hid hO1
  have HW1 := Lib.hid hb1
  clear hO1 hb1
  go_wp2
  go_ret
  exact ⟨_, rfl, HO1.out, HW1.out⟩

set_option maxHeartbeats 800000 in
set_option maxRecDepth 20000 in
theorem put32_any (v : Value) (l : List Nat) (n : Nat) (w : World) (hB : Bts w v l) (hl : l.length + 4 ≤ 140737488355328) :
    Calls Try.prog 45 #[v, .int .u32 (n : Int)] w fun e w' => ∃ v', e = .returned v' ∧ Own w.heap.size w' v' (l ++ Cod.le 4 n) ∧ Below w.heap.size w w' := by
  have HB := Lib.hid hB
  clear hB
  go_enter Try.func45, Try.ntmps45
  go_wp2_with fail
  refine (width32 _).mono ?_
  rintro e w' ⟨rfl, rfl⟩
  go_wp2_with fail
  refine (withRoom_any _ l 4 _ HB.out hl).mono ?_
  rintro e w1 ⟨v1, rfl, hO1, hb1⟩
  have HO1 := Lib.hid hO1
  have HW1 := Lib.hid hb1
  clear hO1 hb1
  go_wp2_with fail
  refine (width32 _).mono ?_
  rintro e w' ⟨rfl, rfl⟩
  go_wp2_with fail
  go_loopw [5, 11] (fun s i wr => ∃ k : Nat, k ≤ 4 ∧ i = .int .i64 k ∧ Own w.heap.size wr s (l ++ Cod.le k n) ∧ Below w.heap.size w wr) (fun _ i _ => 4 - (intOf i).toNat)
  case atStart => exact ⟨0, by omega, rfl, by simpa [Cod.le] using HO1.out, HW1.out⟩
  case round =>
    obtain ⟨k, hk, rfl, hO, hb⟩ := hrel
    have HO := Lib.hid hO
    have HW := Lib.hid hb
    clear hO hb
    by_cases hlt : k < 4
    · have HZ := Lib.hid (shr_byte n k)
      have HL := Lib.hid (Cod.le_length k n)
      go_upto_region 5 with (fail)
      iterate 22 go_step
      refine wpList_append_byte rfl (.tmp 14) (.tmp 20) rfl w.heap.size _ (l ++ Cod.le k n) rfl HO.out rfl (n / 256 ^ k % 256) HZ.out (Nat.mod_lt _ (by decide)) (by rw [List.length_append, HL.out]; omega) HW.out.size ?_
      intro v2 w2 hown2 hb2
      have HO2 := Lib.hid hown2
      have HW2 := Lib.hid (HW.out.trans hb2)
      clear hown2 hb2
      go_wp2
      go_roundw
      case rel => exact ⟨k + 1, by omega, by go_num, by rw [Cod.le_snoc, ← List.append_assoc]; exact HO2.out, HW2.out⟩
      case measure => simp [intOf]; omega
    · obtain rfl : k = 4 := by omega
      go_wp2
      go_ret
      exact ⟨_, rfl, HO.out, HW.out⟩

set_option maxHeartbeats 400000 in
set_option maxRecDepth 20000 in
theorem Put32_any (v : Value) (l : List Nat) (n : Nat) (w : World) (hB : Bts w v l) (hl : l.length + 4 ≤ 140737488355328) :
    Calls Try.prog 23 #[v, .int .u32 (n : Int)] w fun e w' => ∃ v', e = .returned v' ∧ Own w.heap.size w' v' (l ++ Cod.le 4 n) ∧ Below w.heap.size w w' := by
  have HB := Lib.hid hB
  clear hB
  go_enter Try.func23, Try.ntmps23
  go_wp2_with fail
  refine (put32_any _ l n _ HB.out hl).mono ?_
  rintro e w1 ⟨v1, rfl, hO1, hb1⟩
  have HO1 := Lib.hid hO1
  have HW1 := Lib.hid hb1
  clear hO1 hb1
  go_wp2
  go_ret
  exact ⟨_, rfl, HO1.out, HW1.out⟩

set_option maxHeartbeats 800000 in
set_option maxRecDepth 20000 in
theorem put64_any (v : Value) (l : List Nat) (n : Nat) (w : World) (hB : Bts w v l) (hl : l.length + 8 ≤ 140737488355328) :
    Calls Try.prog 44 #[v, .int .u64 (n : Int)] w fun e w' => ∃ v', e = .returned v' ∧ Own w.heap.size w' v' (l ++ Cod.le 8 n) ∧ Below w.heap.size w w' := by
  have HB := Lib.hid hB
  clear hB
  go_enter Try.func44, Try.ntmps44
  go_wp2_with fail
  refine (width64 _).mono ?_
  rintro e w' ⟨rfl, rfl⟩
  go_wp2_with fail
  refine (withRoom_any _ l 8 _ HB.out hl).mono ?_
  rintro e w1 ⟨v1, rfl, hO1, hb1⟩
  have HO1 := Lib.hid hO1
  have HW1 := Lib.hid hb1
  clear hO1 hb1
  go_wp2_with fail
  refine (width64 _).mono ?_
  rintro e w' ⟨rfl, rfl⟩
  go_wp2_with fail
  go_loopw [5, 11] (fun s i wr => ∃ k : Nat, k ≤ 8 ∧ i = .int .i64 k ∧ Own w.heap.size wr s (l ++ Cod.le k n) ∧ Below w.heap.size w wr) (fun _ i _ => 8 - (intOf i).toNat)
  case atStart => exact ⟨0, by omega, rfl, by simpa [Cod.le] using HO1.out, HW1.out⟩
  case round =>
    obtain ⟨k, hk, rfl, hO, hb⟩ := hrel
    have HO := Lib.hid hO
    have HW := Lib.hid hb
    clear hO hb
    by_cases hlt : k < 8
    · have HZ := Lib.hid (shr_byte n k)
      have HL := Lib.hid (Cod.le_length k n)
      go_upto_region 5 with (fail)
      iterate 22 go_step
      refine wpList_append_byte rfl (.tmp 14) (.tmp 20) rfl w.heap.size _ (l ++ Cod.le k n) rfl HO.out rfl (n / 256 ^ k % 256) HZ.out (Nat.mod_lt _ (by decide)) (by rw [List.length_append, HL.out]; omega) HW.out.size ?_
      intro v2 w2 hown2 hb2
      have HO2 := Lib.hid hown2
      have HW2 := Lib.hid (HW.out.trans hb2)
      clear hown2 hb2
      go_wp2
      go_roundw
      case rel => exact ⟨k + 1, by omega, by go_num, by rw [Cod.le_snoc, ← List.append_assoc]; exact HO2.out, HW2.out⟩
      case measure => simp [intOf]; omega
    · obtain rfl : k = 8 := by omega
      go_wp2
      go_ret
      exact ⟨_, rfl, HO.out, HW.out⟩

set_option maxHeartbeats 400000 in
set_option maxRecDepth 20000 in
theorem Put64_any (v : Value) (l : List Nat) (n : Nat) (w : World) (hB : Bts w v l) (hl : l.length + 8 ≤ 140737488355328) :
    Calls Try.prog 22 #[v, .int .u64 (n : Int)] w fun e w' => ∃ v', e = .returned v' ∧ Own w.heap.size w' v' (l ++ Cod.le 8 n) ∧ Below w.heap.size w w' := by
  have HB := Lib.hid hB
  clear hB
  go_enter Try.func22, Try.ntmps22
  go_wp2_with fail
  refine (put64_any _ l n _ HB.out hl).mono ?_
  rintro e w1 ⟨v1, rfl, hO1, hb1⟩
  have HO1 := Lib.hid hO1
  have HW1 := Lib.hid hb1
  clear hO1 hb1
  go_wp2
  go_ret
  exact ⟨_, rfl, HO1.out, HW1.out⟩

set_option maxHeartbeats 400000 in
set_option maxRecDepth 20000 in
theorem PutUv_any (v : Value) (l : List Nat) (n : Nat) (w : World) (hB : Bts w v l) (hn : n < 18446744073709551616) (hl : l.length + 10 ≤ 140737488355328) :
    Calls Try.prog 61 #[v, .int .u64 (n : Int)] w fun e w' => ∃ v', e = .returned v' ∧ Own w.heap.size w' v' (l ++ Cod.uv n) ∧ Below w.heap.size w w' := by
  have HB := Lib.hid hB
  have HN := Lib.hid hn
  clear hB hn
  go_enter Try.func61, Try.ntmps61
  go_wp2_with fail
  refine (withRoom_any _ l 10 _ HB.out hl).mono ?_
  rintro e w1 ⟨v1, rfl, hO1, hb1⟩
  have HO1 := Lib.hid hO1
  have HW1 := Lib.hid hb1
  clear hO1 hb1
  go_wp2_with fail
  refine (addUv_any _ l n w.heap.size _ HO1.out HN.out hl HW1.out.size).mono ?_
  rintro e w2 ⟨v2, rfl, hO2, hb2⟩
  have HO2 := Lib.hid hO2
  have HW2 := Lib.hid (HW1.out.trans hb2)
  clear hO2 hb2
  go_wp2
  go_ret
  exact ⟨_, rfl, HO2.out, HW2.out⟩

set_option maxHeartbeats 800000 in
set_option maxRecDepth 20000 in
theorem PutText_any (v s : Value) (l t : List Nat) (w : World) (hB : Bts w v l) (hS : Bts w s t) (hl : l.length + 10 + t.length ≤ 140737488355328) :
    Calls Try.prog 39 #[v, s] w fun e w' => ∃ v', e = .returned v' ∧ Own w.heap.size w' v' (l ++ (Cod.uv t.length ++ t)) ∧ Below w.heap.size w w' := by
  have HB := Lib.hid hB
  have HS := Lib.hid hS
  obtain ⟨p, cap, rfl, -, -, -⟩ := hS.form
  have HU := Lib.hid (Cod.uv_ten (n := t.length) (by omega))
  clear hB hS
  go_enter Try.func39, Try.ntmps39
  go_wp2_with fail
  refine (withRoom_any _ l (10 + t.length) _ HB.out (by omega)).mono ?_
  rintro e w1 ⟨v1, rfl, hO1, hb1⟩
  have HO1 := Lib.hid hO1
  have HW1 := Lib.hid hb1
  clear hO1 hb1
  go_wp2_with fail
  refine (addUv_any _ l t.length w.heap.size _ HO1.out (by omega) (by omega) HW1.out.size).mono ?_
  rintro e w2 ⟨v2, rfl, hO2, hb2⟩
  have HO2 := Lib.hid hO2
  have HW2 := Lib.hid (HW1.out.trans hb2)
  clear hO2 hb2
  go_upto_region 2 with (fail)
  iterate 7 go_step
  refine wpList_append_Own rfl (.tmp 15) (.tmp 16) rfl w.heap.size _ _ rfl HO2.out _ t rfl (HS.out.below HW2.out) (by have := HU.out; simp; omega) HW2.out.size ?_
  intro v3 w3 hown3 hb3 _
  rw [List.append_assoc] at hown3
  have HO3 := Lib.hid hown3
  have HW3 := Lib.hid (HW2.out.trans hb3)
  clear hown3 hb3
  go_wp2
  go_ret
  exact ⟨_, rfl, HO3.out, HW3.out⟩

end Go.Proofs.Ytkchoelegdknoaa
