/- What the program's puts, and the document's, answer, over any world. Conditions: numbers are below 2^64; the slices' cells hold the bytes; the room. What the program's fixed numbers, counts and texts, put behind bytes, are, and the document's, over any world. Conditions: numbers are below their types' bounds; the slices' cells hold the bytes; the room. -/
import Derived.Test.YtafpjcobagofcaaGreatBase
import Derived.Test.YtafpjcobagofcaaGreatCodePure
import Derived.Test.YtafpjcobagofcaaGreatCodeLen
namespace Go.Proofs.YtafpjcobagofcaaGreat
open Go.RowKit

set_option maxHeartbeats 400000 in
theorem width8 (w : World) : Calls Tryz.prog 120 #[] w fun e w' => e = .returned (.int .i64 1) ∧ w = w' := by
  go_enter Tryz.func120, Tryz.ntmps120
  go_wp2_with (go_at_call 118; refine (len64_8 _ _ (by decide) (by decide)).mono ?_; rintro e w' ⟨rfl, rfl⟩)
  go_ret
  exact ⟨rfl, rfl⟩

set_option maxHeartbeats 400000 in
theorem width16 (w : World) : Calls Tryz.prog 103 #[] w fun e w' => e = .returned (.int .i64 2) ∧ w = w' := by
  go_enter Tryz.func103, Tryz.ntmps103
  go_wp2_with (go_at_call 118; refine (len64_16 _ _ (by decide) (by decide)).mono ?_; rintro e w' ⟨rfl, rfl⟩)
  go_ret
  exact ⟨rfl, rfl⟩

set_option maxHeartbeats 400000 in
theorem width32 (w : World) : Calls Tryz.prog 105 #[] w fun e w' => e = .returned (.int .i64 4) ∧ w = w' := by
  go_enter Tryz.func105, Tryz.ntmps105
  go_wp2_with (go_at_call 118; refine (len64_32 _ _ (by decide) (by decide)).mono ?_; rintro e w' ⟨rfl, rfl⟩)
  go_ret
  exact ⟨rfl, rfl⟩

set_option maxHeartbeats 400000 in
theorem width64 (w : World) : Calls Tryz.prog 104 #[] w fun e w' => e = .returned (.int .i64 8) ∧ w = w' := by
  go_enter Tryz.func104, Tryz.ntmps104
  go_wp2_with (go_at_call 118; refine (len64_64 _ _ (by decide) (by decide)).mono ?_; rintro e w' ⟨rfl, rfl⟩)
  go_ret
  exact ⟨rfl, rfl⟩

set_option maxHeartbeats 400000 in
theorem withRoom_any (v : Value) (l : List Nat) (n : Nat) (w : World) (hB : Bts w v l) (hn : l.length + n ≤ 140737488355328) :
    Calls Tryz.prog 101 #[v, .int .i64 (n : Int)] w fun e w' => ∃ v', e = .returned v' ∧ Own w.heap.size w' v' l ∧ Below w.heap.size w w' := by
  have HB := Lib.hid hB
  obtain ⟨p, cap, rfl, -, -, -⟩ := hB.form
  clear hB
  go_enter Tryz.func101, Tryz.ntmps101
  go_upto_region 1 with (fail)
  iterate 13 go_step
  refine wpList_make_Own rfl (.const (.int .i64 0)) (.tmp 8) rfl w.heap.size .i64 .i64 _ (l.length + n) rfl rfl (by simp) hn (Nat.le_refl _) ?_
  intro v1 w1 hown1 hb1
  have HO1 := Lib.hid hown1
  have HB1 := Lib.hid (HB.out.below hb1)
  have HW1 := Lib.hid hb1
  clear hown1 hb1
  iterate 3 go_step
  refine wpList_append_Own rfl (.tmp 9) (.tmp 10) rfl w.heap.size _ [] rfl HO1.out _ l rfl HB1.out (by simp; omega) HW1.out.size ?_
  intro v2 w2 hown2 hb2 _
  rw [List.nil_append] at hown2
  have HO2 := Lib.hid hown2
  have HW2 := Lib.hid (HW1.out.trans hb2)
  clear hown2 hb2
  go_wp2
  go_ret
  exact ⟨_, rfl, HO2.out, HW2.out⟩

set_option maxRecDepth 100000 in
theorem or128 (n : Nat) : bits .or .u8 ((n : Int) % 256) 128 = ((n % 128 + 128 : Nat) : Int) := by
  have h : ∀ m, m < 256 → m ||| 128 = m % 128 + 128 := by decide
  rw [show ((n : Int) % 256) = ((n % 256 : Nat) : Int) by omega, show (128 : Int) = ((128 : Nat) : Int) from rfl, u8_or_nat _ _ (by omega) (by decide), h _ (by omega)]
  congr 2
  omega

set_option maxHeartbeats 800000 in
set_option maxRecDepth 20000 in
theorem addUv_any (v : Value) (l : List Nat) (n base : Nat) (w : World) (hO : Own base w v l) (hn : n < 18446744073709551616) (hl : l.length + 10 ≤ 140737488355328) (hbase : base ≤ w.heap.size) :
    Calls Tryz.prog 100 #[v, .int .u64 (n : Int)] w fun e w' => ∃ v', e = .returned v' ∧ Own base w' v' (l ++ Cod.uv n) ∧ Below base w w' := by
  have HO := Lib.hid hO
  have HT := Cod.uv_ten hn
  have HN := Lib.hid hn
  clear hO hn
  go_enter Tryz.func100, Tryz.ntmps100
  go_wp2
  go_loopw [0, 1] (fun s m wr => ∃ (acc : List Nat) (k : Nat), k < 18446744073709551616 ∧ m = .int .u64 k ∧ Own base wr s (l ++ acc) ∧ acc ++ Cod.uv k = Cod.uv n ∧ Below base w wr) (fun _ m _ => (intOf m).toNat)
  case atStart => exact ⟨[], n, HN.out, rfl, by simpa using HO.out, rfl, Below.refl _ _⟩
  case round =>
    obtain ⟨acc, k, hk, rfl, hO, hu, hb⟩ := hrel
    have hlen : acc.length + (Cod.uv k).length ≤ 10 := by
      rw [← List.length_append, hu]; exact HT
    have hpos := Cod.uv_pos k
    have HO := Lib.hid hO
    have HU := Lib.hid hu
    have HW := Lib.hid hb
    have HK := Lib.hid hk
    clear hO hu hb hk
    by_cases hlt : k < 128
    · go_upto_region 4 with (fail)
      iterate 13 go_step
      refine wpList_append_byte rfl (.tmp 15) (.tmp 18) rfl base _ (l ++ acc) rfl HO.out rfl k (by omega) (by omega) (by simp; omega) (Nat.le_trans hbase HW.out.size) ?_
      intro v2 w2 hown2 hb2
      have HO2 := Lib.hid hown2
      have HW2 := Lib.hid (HW.out.trans hb2)
      clear hown2 hb2
      go_wp2
      go_ret
      refine ⟨_, rfl, ?_, HW2.out⟩
      rw [← HU.out, Cod.uv_small hlt, ← List.append_assoc]
      exact HO2.out
    · have HOR := Lib.hid (or128 k)
      go_upto_region 3 with (fail)
      iterate 16 go_step
      refine wpList_append_byte rfl (.tmp 9) (.tmp 13) rfl base _ (l ++ acc) rfl HO.out rfl (k % 128 + 128) HOR.out (by omega) (by simp; omega) (Nat.le_trans hbase HW.out.size) ?_
      intro v2 w2 hown2 hb2
      have HO2 := Lib.hid hown2
      have HW2 := Lib.hid (HW.out.trans hb2)
      clear hown2 hb2
      go_wp2
      go_roundw
      case rel =>
        refine ⟨acc ++ [k % 128 + 128], k / 128, by have := HK.out; omega, by go_num, by rw [← List.append_assoc]; exact HO2.out, ?_, HW2.out⟩
        rw [List.append_assoc, ← HU.out, Cod.uv_big hlt]
        rfl
      case measure => simp [intOf]; omega
end Go.Proofs.YtafpjcobagofcaaGreat

namespace Go.Proofs.YtafpjcobagofcaaGreat
open Go.RowKit

theorem shr_byte (n k : Nat) : (n : Int) / 2 ^ (8 * k) % 256 = ((n / 256 ^ k % 256 : Nat) : Int) := by
  have e : (2 : Nat) ^ (8 * k) = 256 ^ k := by rw [Nat.pow_mul]
  have e2 : (2 : Int) ^ (8 * k) = ((256 ^ k : Nat) : Int) := by rw [← e, Int.natCast_pow]; rfl
  rw [e2, ← Int.natCast_ediv]
  omega

set_option maxHeartbeats 800000 in
set_option maxRecDepth 20000 in
theorem put16_any (v : Value) (l : List Nat) (n : Nat) (w : World) (hB : Bts w v l) (hl : l.length + 2 ≤ 140737488355328) :
    Calls Tryz.prog 77 #[v, .int .u16 (n : Int)] w fun e w' => ∃ v', e = .returned v' ∧ Own w.heap.size w' v' (l ++ Cod.le 2 n) ∧ Below w.heap.size w w' := by
  have HB := Lib.hid hB
  clear hB
  go_enter Tryz.func77, Tryz.ntmps77
  go_wp2_with fail
  refine (width16 _).mono ?_
  rintro e w' ⟨rfl, rfl⟩
  go_wp2_with fail
  refine (withRoom_any _ l 2 _ HB.out hl).mono ?_
  rintro e w1 ⟨v1, rfl, hO1, hb1⟩
  have HO1 := Lib.hid hO1
  have HW1 := Lib.hid hb1
  clear hO1 hb1
  go_wp2_with fail
  refine (width16 _).mono ?_
  rintro e w' ⟨rfl, rfl⟩
  go_wp2_with fail
  go_loopw [5, 11] (fun s i wr => ∃ k : Nat, k ≤ 2 ∧ i = .int .i64 k ∧ Own w.heap.size wr s (l ++ Cod.le k n) ∧ Below w.heap.size w wr) (fun _ i _ => 2 - (intOf i).toNat)
  case atStart => exact ⟨0, by omega, rfl, by simpa [Cod.le] using HO1.out, HW1.out⟩
  case round =>
    obtain ⟨k, hk, rfl, hO, hb⟩ := hrel
    have HO := Lib.hid hO
    have HW := Lib.hid hb
    clear hO hb
    by_cases hlt : k < 2
    · have HZ := Lib.hid (shr_byte n k)
      have HL := Lib.hid (Cod.le_length k n)
      go_upto_region 5 with (fail)
      iterate 22 go_step
      refine wpList_append_byte rfl (.tmp 14) (.tmp 20) rfl w.heap.size _ (l ++ Cod.le k n) rfl HO.out rfl (n / 256 ^ k % 256) HZ.out (Nat.mod_lt _ (by decide)) (by rw [List.length_append, HL.out]; omega) HW.out.size ?_
      intro v2 w2 hown2 hb2
      have HO2 := Lib.hid hown2
      have HW2 := Lib.hid (HW.out.trans hb2)
      clear hown2 hb2
      go_wp2
      go_roundw
      case rel => exact ⟨k + 1, by omega, by go_num, by rw [Cod.le_snoc, ← List.append_assoc]; exact HO2.out, HW2.out⟩
      case measure => simp [intOf]; omega
    · obtain rfl : k = 2 := by omega
      go_wp2
      go_ret
      exact ⟨_, rfl, HO.out, HW.out⟩

set_option maxHeartbeats 400000 in
set_option maxRecDepth 20000 in
theorem Put16_any (v : Value) (l : List Nat) (n : Nat) (w : World) (hB : Bts w v l) (hl : l.length + 2 ≤ 140737488355328) :
    Calls Tryz.prog 48 #[v, .int .u16 (n : Int)] w fun e w' => ∃ v', e = .returned v' ∧ Own w.heap.size w' v' (l ++ Cod.le 2 n) ∧ Below w.heap.size w w' := by
  have HB := Lib.hid hB
  clear hB
  go_enter Tryz.func48, Tryz.ntmps48
  go_wp2_with fail
  refine (put16_any _ l n _ HB.out hl).mono ?_
  rintro e w1 ⟨v1, rfl, hO1, hb1⟩
  have HO1 := Lib.hid hO1
  have HW1 := Lib.hid hb1
  clear hO1 hb1
  go_wp2
  go_ret
  exact ⟨_, rfl, HO1.out, HW1.out⟩

set_option maxHeartbeats 800000 in
set_option maxRecDepth 20000 in
theorem put32_any (v : Value) (l : List Nat) (n : Nat) (w : World) (hB : Bts w v l) (hl : l.length + 4 ≤ 140737488355328) :
    Calls Tryz.prog 79 #[v, .int .u32 (n : Int)] w fun e w' => ∃ v', e = .returned v' ∧ Own w.heap.size w' v' (l ++ Cod.le 4 n) ∧ Below w.heap.size w w' := by
  have HB := Lib.hid hB
  clear hB
  go_enter Tryz.func79, Tryz.ntmps79
  go_wp2_with fail
  refine (width32 _).mono ?_
  rintro e w' ⟨rfl, rfl⟩
  go_wp2_with fail
  refine (withRoom_any _ l 4 _ HB.out hl).mono ?_
  rintro e w1 ⟨v1, rfl, hO1, hb1⟩
  have HO1 := Lib.hid hO1
  have HW1 := Lib.hid hb1
  clear hO1 hb1
  go_wp2_with fail
  refine (width32 _).mono ?_
  rintro e w' ⟨rfl, rfl⟩
  go_wp2_with fail
  go_loopw [5, 11] (fun s i wr => ∃ k : Nat, k ≤ 4 ∧ i = .int .i64 k ∧ Own w.heap.size wr s (l ++ Cod.le k n) ∧ Below w.heap.size w wr) (fun _ i _ => 4 - (intOf i).toNat)
  case atStart => exact ⟨0, by omega, rfl, by simpa [Cod.le] using HO1.out, HW1.out⟩
  case round =>
    obtain ⟨k, hk, rfl, hO, hb⟩ := hrel
    have HO := Lib.hid hO
    have HW := Lib.hid hb
    clear hO hb
    by_cases hlt : k < 4
    · have HZ := Lib.hid (shr_byte n k)
      have HL := Lib.hid (Cod.le_length k n)
      go_upto_region 5 with (fail)
      iterate 22 go_step
      refine wpList_append_byte rfl (.tmp 14) (.tmp 20) rfl w.heap.size _ (l ++ Cod.le k n) rfl HO.out rfl (n / 256 ^ k % 256) HZ.out (Nat.mod_lt _ (by decide)) (by rw [List.length_append, HL.out]; omega) HW.out.size ?_
      intro v2 w2 hown2 hb2
      have HO2 := Lib.hid hown2
      have HW2 := Lib.hid (HW.out.trans hb2)
      clear hown2 hb2
      go_wp2
      go_roundw
      case rel => exact ⟨k + 1, by omega, by go_num, by rw [Cod.le_snoc, ← List.append_assoc]; exact HO2.out, HW2.out⟩
      case measure => simp [intOf]; omega
    · obtain rfl : k = 4 := by omega
      go_wp2
      go_ret
      exact ⟨_, rfl, HO.out, HW.out⟩

set_option maxHeartbeats 400000 in
set_option maxRecDepth 20000 in
theorem Put32_any (v : Value) (l : List Nat) (n : Nat) (w : World) (hB : Bts w v l) (hl : l.length + 4 ≤ 140737488355328) :
    Calls Tryz.prog 50 #[v, .int .u32 (n : Int)] w fun e w' => ∃ v', e = .returned v' ∧ Own w.heap.size w' v' (l ++ Cod.le 4 n) ∧ Below w.heap.size w w' := by
  have HB := Lib.hid hB
  clear hB
  go_enter Tryz.func50, Tryz.ntmps50
  go_wp2_with fail
  refine (put32_any _ l n _ HB.out hl).mono ?_
  rintro e w1 ⟨v1, rfl, hO1, hb1⟩
  have HO1 := Lib.hid hO1
  have HW1 := Lib.hid hb1
  clear hO1 hb1
  go_wp2
  go_ret
  exact ⟨_, rfl, HO1.out, HW1.out⟩

set_option maxHeartbeats 800000 in
set_option maxRecDepth 20000 in
theorem put64_any (v : Value) (l : List Nat) (n : Nat) (w : World) (hB : Bts w v l) (hl : l.length + 8 ≤ 140737488355328) :
    Calls Tryz.prog 78 #[v, .int .u64 (n : Int)] w fun e w' => ∃ v', e = .returned v' ∧ Own w.heap.size w' v' (l ++ Cod.le 8 n) ∧ Below w.heap.size w w' := by
  have HB := Lib.hid hB
  clear hB
  go_enter Tryz.func78, Tryz.ntmps78
  go_wp2_with fail
  refine (width64 _).mono ?_
  rintro e w' ⟨rfl, rfl⟩
  go_wp2_with fail
  refine (withRoom_any _ l 8 _ HB.out hl).mono ?_
  rintro e w1 ⟨v1, rfl, hO1, hb1⟩
  have HO1 := Lib.hid hO1
  have HW1 := Lib.hid hb1
  clear hO1 hb1
  go_wp2_with fail
  refine (width64 _).mono ?_
  rintro e w' ⟨rfl, rfl⟩
  go_wp2_with fail
  go_loopw [5, 11] (fun s i wr => ∃ k : Nat, k ≤ 8 ∧ i = .int .i64 k ∧ Own w.heap.size wr s (l ++ Cod.le k n) ∧ Below w.heap.size w wr) (fun _ i _ => 8 - (intOf i).toNat)
  case atStart => exact ⟨0, by omega, rfl, by simpa [Cod.le] using HO1.out, HW1.out⟩
  case round =>
    obtain ⟨k, hk, rfl, hO, hb⟩ := hrel
    have HO := Lib.hid hO
    have HW := Lib.hid hb
    clear hO hb
    by_cases hlt : k < 8
    · have HZ := Lib.hid (shr_byte n k)
      have HL := Lib.hid (Cod.le_length k n)
      go_upto_region 5 with (fail)
      iterate 22 go_step
      refine wpList_append_byte rfl (.tmp 14) (.tmp 20) rfl w.heap.size _ (l ++ Cod.le k n) rfl HO.out rfl (n / 256 ^ k % 256) HZ.out (Nat.mod_lt _ (by decide)) (by rw [List.length_append, HL.out]; omega) HW.out.size ?_
      intro v2 w2 hown2 hb2
      have HO2 := Lib.hid hown2
      have HW2 := Lib.hid (HW.out.trans hb2)
      clear hown2 hb2
      go_wp2
      go_roundw
      case rel => exact ⟨k + 1, by omega, by go_num, by rw [Cod.le_snoc, ← List.append_assoc]; exact HO2.out, HW2.out⟩
      case measure => simp [intOf]; omega
    · obtain rfl : k = 8 := by omega
      go_wp2
      go_ret
      exact ⟨_, rfl, HO.out, HW.out⟩

set_option maxHeartbeats 400000 in
set_option maxRecDepth 20000 in
theorem Put64_any (v : Value) (l : List Nat) (n : Nat) (w : World) (hB : Bts w v l) (hl : l.length + 8 ≤ 140737488355328) :
    Calls Tryz.prog 49 #[v, .int .u64 (n : Int)] w fun e w' => ∃ v', e = .returned v' ∧ Own w.heap.size w' v' (l ++ Cod.le 8 n) ∧ Below w.heap.size w w' := by
  have HB := Lib.hid hB
  clear hB
  go_enter Tryz.func49, Tryz.ntmps49
  go_wp2_with fail
  refine (put64_any _ l n _ HB.out hl).mono ?_
  rintro e w1 ⟨v1, rfl, hO1, hb1⟩
  have HO1 := Lib.hid hO1
  have HW1 := Lib.hid hb1
  clear hO1 hb1
  go_wp2
  go_ret
  exact ⟨_, rfl, HO1.out, HW1.out⟩

set_option maxHeartbeats 400000 in
set_option maxRecDepth 20000 in
theorem PutUv_any (v : Value) (l : List Nat) (n : Nat) (w : World) (hB : Bts w v l) (hn : n < 18446744073709551616) (hl : l.length + 10 ≤ 140737488355328) :
    Calls Tryz.prog 102 #[v, .int .u64 (n : Int)] w fun e w' => ∃ v', e = .returned v' ∧ Own w.heap.size w' v' (l ++ Cod.uv n) ∧ Below w.heap.size w w' := by
  have HB := Lib.hid hB
  have HN := Lib.hid hn
  clear hB hn
  go_enter Tryz.func102, Tryz.ntmps102
  go_wp2_with fail
  refine (withRoom_any _ l 10 _ HB.out hl).mono ?_
  rintro e w1 ⟨v1, rfl, hO1, hb1⟩
  have HO1 := Lib.hid hO1
  have HW1 := Lib.hid hb1
  clear hO1 hb1
  go_wp2_with fail
  refine (addUv_any _ l n w.heap.size _ HO1.out HN.out hl HW1.out.size).mono ?_
  rintro e w2 ⟨v2, rfl, hO2, hb2⟩
  have HO2 := Lib.hid hO2
  have HW2 := Lib.hid (HW1.out.trans hb2)
  clear hO2 hb2
  go_wp2
  go_ret
  exact ⟨_, rfl, HO2.out, HW2.out⟩

set_option maxHeartbeats 800000 in
set_option maxRecDepth 20000 in
theorem PutText_any (v s : Value) (l t : List Nat) (w : World) (hB : Bts w v l) (hS : Bts w s t) (hl : l.length + 10 + t.length ≤ 140737488355328) :
    Calls Tryz.prog 73 #[v, s] w fun e w' => ∃ v', e = .returned v' ∧ Own w.heap.size w' v' (l ++ (Cod.uv t.length ++ t)) ∧ Below w.heap.size w w' := by
  have HB := Lib.hid hB
  have HS := Lib.hid hS
  obtain ⟨p, cap, rfl, -, -, -⟩ := hS.form
  have HU := Lib.hid (Cod.uv_ten (n := t.length) (by omega))
  clear hB hS
  go_enter Tryz.func73, Tryz.ntmps73
  go_wp2_with fail
  refine (withRoom_any _ l (10 + t.length) _ HB.out (by omega)).mono ?_
  rintro e w1 ⟨v1, rfl, hO1, hb1⟩
  have HO1 := Lib.hid hO1
  have HW1 := Lib.hid hb1
  clear hO1 hb1
  go_wp2_with fail
  refine (addUv_any _ l t.length w.heap.size _ HO1.out (by omega) (by omega) HW1.out.size).mono ?_
  rintro e w2 ⟨v2, rfl, hO2, hb2⟩
  have HO2 := Lib.hid hO2
  have HW2 := Lib.hid (HW1.out.trans hb2)
  clear hO2 hb2
  go_upto_region 2 with (fail)
  iterate 7 go_step
  refine wpList_append_Own rfl (.tmp 15) (.tmp 16) rfl w.heap.size _ _ rfl HO2.out _ t rfl (HS.out.below HW2.out) (by have := HU.out; simp; omega) HW2.out.size ?_
  intro v3 w3 hown3 hb3 _
  rw [List.append_assoc] at hown3
  have HO3 := Lib.hid hown3
  have HW3 := Lib.hid (HW2.out.trans hb3)
  clear hown3 hb3
  go_wp2
  go_ret
  exact ⟨_, rfl, HO3.out, HW3.out⟩

end Go.Proofs.YtafpjcobagofcaaGreat
