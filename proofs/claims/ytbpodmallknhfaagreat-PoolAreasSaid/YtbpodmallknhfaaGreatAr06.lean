/- Parts of a proof. Conditions: as each row says. -/
import Derived.Test.YtbpodmallknhfaaGreatAr03
import Derived.Test.YtbpodmallknhfaaGreatAr02
import Derived.Test.YtbpodmallknhfaaGreatAr01
namespace Go.Proofs.YtbpodmallknhfaaGreat
open Go.RowKit
set_option maxHeartbeats 400000 in
theorem width32 (w : World) : Calls Tryz.prog 157 #[] w fun e w' => e = .returned (.int .i64 4) ∧ w = w' := by
  go_enter Tryz.func157, Tryz.ntmps157
  go_wp2_with (go_at_call 140; refine (len64_32 _ _ (by decide) (by decide)).mono ?_; rintro e w' ⟨rfl, rfl⟩)
  go_ret
  exact ⟨rfl, rfl⟩
set_option maxHeartbeats 400000 in
theorem width64 (w : World) : Calls Tryz.prog 156 #[] w fun e w' => e = .returned (.int .i64 8) ∧ w = w' := by
  go_enter Tryz.func156, Tryz.ntmps156
  go_wp2_with (go_at_call 140; refine (len64_64 _ _ (by decide) (by decide)).mono ?_; rintro e w' ⟨rfl, rfl⟩)
  go_ret
  exact ⟨rfl, rfl⟩
set_option maxHeartbeats 400000 in
theorem withRoom_any (v : Value) (l : List Nat) (n : Nat) (w : World) (hB : Bts w v l) (hn : l.length + n ≤ 140737488355328) :
    Calls Tryz.prog 153 #[v, .int .i64 (n : Int)] w fun e w' => ∃ v', e = .returned v' ∧ Own w.heap.size w' v' l ∧ Below w.heap.size w w' := by
  have HB := Lib.hid hB
  obtain ⟨p, cap, rfl, -, -, -⟩ := hB.form
  clear hB
  go_enter Tryz.func153, Tryz.ntmps153
  go_upto_region 1 with (fail)
  iterate 13 go_step
  refine wpList_make_Own rfl (.const (.int .i64 0)) (.tmp 8) rfl w.heap.size .i64 .i64 _ (l.length + n) rfl rfl (by simp) hn (Nat.le_refl _) ?_
  intro v1 w1 hown1 hb1
  have HO1 := Lib.hid hown1
  have HB1 := Lib.hid (HB.out.below hb1)
  have HW1 := Lib.hid hb1
  clear hown1 hb1
  iterate 3 go_step
  refine wpList_append_Own rfl (.tmp 9) (.tmp 10) rfl w.heap.size _ [] rfl HO1.out _ l rfl HB1.out (by simp; omega) HW1.out.size ?_
  intro v2 w2 hown2 hb2 _
  rw [List.nil_append] at hown2
  have HO2 := Lib.hid hown2
  have HW2 := Lib.hid (HW1.out.trans hb2)
  clear hown2 hb2
  go_wp2
  go_ret
  exact ⟨_, rfl, HO2.out, HW2.out⟩
end Go.Proofs.YtbpodmallknhfaaGreat
namespace Go.Proofs.YtbpodmallknhfaaGreat
open Go.RowKit
theorem shr_byte (n k : Nat) : (n : Int) / 2 ^ (8 * k) % 256 = ((n / 256 ^ k % 256 : Nat) : Int) := by
  have e : (2 : Nat) ^ (8 * k) = 256 ^ k := by rw [Nat.pow_mul]
  have e2 : (2 : Int) ^ (8 * k) = ((256 ^ k : Nat) : Int) := by rw [← e, Int.natCast_pow]; rfl
  rw [e2, ← Int.natCast_ediv]
  omega
set_option maxHeartbeats 800000 in
set_option maxRecDepth 20000 in
theorem put32_any (v : Value) (l : List Nat) (n : Nat) (w : World) (hB : Bts w v l) (hl : l.length + 4 ≤ 140737488355328) :
    Calls Tryz.prog 119 #[v, .int .u32 (n : Int)] w fun e w' => ∃ v', e = .returned v' ∧ Own w.heap.size w' v' (l ++ Cod.le 4 n) ∧ Below w.heap.size w w' := by
  have HB := Lib.hid hB
  clear hB
  go_enter Tryz.func119, Tryz.ntmps119
  go_wp2_with fail
  refine (width32 _).mono ?_
  rintro e w' ⟨rfl, rfl⟩
  go_wp2_with fail
  refine (withRoom_any _ l 4 _ HB.out hl).mono ?_
  rintro e w1 ⟨v1, rfl, hO1, hb1⟩
  have HO1 := Lib.hid hO1
  have HW1 := Lib.hid hb1
  clear hO1 hb1
  go_wp2_with fail
  refine (width32 _).mono ?_
  rintro e w' ⟨rfl, rfl⟩
  go_wp2_with fail
  go_loopw [5, 11] (fun s i wr => ∃ k : Nat, k ≤ 4 ∧ i = .int .i64 k ∧ Own w.heap.size wr s (l ++ Cod.le k n) ∧ Below w.heap.size w wr) (fun _ i _ => 4 - (intOf i).toNat)
  case atStart => exact ⟨0, by omega, rfl, by simpa [Cod.le] using HO1.out, HW1.out⟩
  case round =>
    obtain ⟨k, hk, rfl, hO, hb⟩ := hrel
    have HO := Lib.hid hO
    have HW := Lib.hid hb
    clear hO hb
    by_cases hlt : k < 4
    · have HZ := Lib.hid (shr_byte n k)
      have HL := Lib.hid (Cod.le_length k n)
      go_upto_region 5 with (fail)
      iterate 22 go_step
      refine wpList_append_byte rfl (.tmp 14) (.tmp 20) rfl w.heap.size _ (l ++ Cod.le k n) rfl HO.out rfl (n / 256 ^ k % 256) HZ.out (Nat.mod_lt _ (by decide)) (by rw [List.length_append, HL.out]; omega) HW.out.size ?_
      intro v2 w2 hown2 hb2
      have HO2 := Lib.hid hown2
      have HW2 := Lib.hid (HW.out.trans hb2)
      clear hown2 hb2
      go_wp2
      go_roundw
      case rel => exact ⟨k + 1, by omega, by go_num, by rw [Cod.le_snoc, ← List.append_assoc]; exact HO2.out, HW2.out⟩
      case measure => simp [intOf]; omega
    · obtain rfl : k = 4 := by omega
      go_wp2
      go_ret
      exact ⟨_, rfl, HO.out, HW.out⟩
set_option maxHeartbeats 400000 in
set_option maxRecDepth 20000 in
theorem Put32_any (v : Value) (l : List Nat) (n : Nat) (w : World) (hB : Bts w v l) (hl : l.length + 4 ≤ 140737488355328) :
    Calls Tryz.prog 85 #[v, .int .u32 (n : Int)] w fun e w' => ∃ v', e = .returned v' ∧ Own w.heap.size w' v' (l ++ Cod.le 4 n) ∧ Below w.heap.size w w' := by
  have HB := Lib.hid hB
  clear hB
  go_enter Tryz.func85, Tryz.ntmps85
  go_wp2_with fail
  refine (put32_any _ l n _ HB.out hl).mono ?_
  rintro e w1 ⟨v1, rfl, hO1, hb1⟩
  have HO1 := Lib.hid hO1
  have HW1 := Lib.hid hb1
  clear hO1 hb1
  go_wp2
  go_ret
  exact ⟨_, rfl, HO1.out, HW1.out⟩
set_option maxHeartbeats 800000 in
set_option maxRecDepth 20000 in
theorem put64_any (v : Value) (l : List Nat) (n : Nat) (w : World) (hB : Bts w v l) (hl : l.length + 8 ≤ 140737488355328) :
    Calls Tryz.prog 118 #[v, .int .u64 (n : Int)] w fun e w' => ∃ v', e = .returned v' ∧ Own w.heap.size w' v' (l ++ Cod.le 8 n) ∧ Below w.heap.size w w' := by
  have HB := Lib.hid hB
  clear hB
  go_enter Tryz.func118, Tryz.ntmps118
  go_wp2_with fail
  refine (width64 _).mono ?_
  rintro e w' ⟨rfl, rfl⟩
  go_wp2_with fail
  refine (withRoom_any _ l 8 _ HB.out hl).mono ?_
  rintro e w1 ⟨v1, rfl, hO1, hb1⟩
  have HO1 := Lib.hid hO1
  have HW1 := Lib.hid hb1
  clear hO1 hb1
  go_wp2_with fail
  refine (width64 _).mono ?_
  rintro e w' ⟨rfl, rfl⟩
  go_wp2_with fail
  go_loopw [5, 11] (fun s i wr => ∃ k : Nat, k ≤ 8 ∧ i = .int .i64 k ∧ Own w.heap.size wr s (l ++ Cod.le k n) ∧ Below w.heap.size w wr) (fun _ i _ => 8 - (intOf i).toNat)
  case atStart => exact ⟨0, by omega, rfl, by simpa [Cod.le] using HO1.out, HW1.out⟩
  case round =>
    obtain ⟨k, hk, rfl, hO, hb⟩ := hrel
    have HO := Lib.hid hO
    have HW := Lib.hid hb
    clear hO hb
    by_cases hlt : k < 8
    · have HZ := Lib.hid (shr_byte n k)
      have HL := Lib.hid (Cod.le_length k n)
      go_upto_region 5 with (fail)
      iterate 22 go_step
      refine wpList_append_byte rfl (.tmp 14) (.tmp 20) rfl w.heap.size _ (l ++ Cod.le k n) rfl HO.out rfl (n / 256 ^ k % 256) HZ.out (Nat.mod_lt _ (by decide)) (by rw [List.length_append, HL.out]; omega) HW.out.size ?_
      intro v2 w2 hown2 hb2
      have HO2 := Lib.hid hown2
      have HW2 := Lib.hid (HW.out.trans hb2)
      clear hown2 hb2
      go_wp2
      go_roundw
      case rel => exact ⟨k + 1, by omega, by go_num, by rw [Cod.le_snoc, ← List.append_assoc]; exact HO2.out, HW2.out⟩
      case measure => simp [intOf]; omega
    · obtain rfl : k = 8 := by omega
      go_wp2
      go_ret
      exact ⟨_, rfl, HO.out, HW.out⟩
set_option maxHeartbeats 400000 in
set_option maxRecDepth 20000 in
theorem Put64_any (v : Value) (l : List Nat) (n : Nat) (w : World) (hB : Bts w v l) (hl : l.length + 8 ≤ 140737488355328) :
    Calls Tryz.prog 84 #[v, .int .u64 (n : Int)] w fun e w' => ∃ v', e = .returned v' ∧ Own w.heap.size w' v' (l ++ Cod.le 8 n) ∧ Below w.heap.size w w' := by
  have HB := Lib.hid hB
  clear hB
  go_enter Tryz.func84, Tryz.ntmps84
  go_wp2_with fail
  refine (put64_any _ l n _ HB.out hl).mono ?_
  rintro e w1 ⟨v1, rfl, hO1, hb1⟩
  have HO1 := Lib.hid hO1
  have HW1 := Lib.hid hb1
  clear hO1 hb1
  go_wp2
  go_ret
  exact ⟨_, rfl, HO1.out, HW1.out⟩
end Go.Proofs.YtbpodmallknhfaaGreat
