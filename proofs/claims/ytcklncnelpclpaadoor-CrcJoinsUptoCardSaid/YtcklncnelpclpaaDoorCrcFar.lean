/- A sum joined with many bytes, in two parts, is that joined with both at once. Conditions: the library's table stands in its variable. -/
import Derived.Test.YtcklncnelpclpaaDoorCrcJoin
namespace Go.Proofs.YtcklncnelpclpaaDoor
open Go.RowKit

set_option maxHeartbeats 800000 in
theorem refJoin_any (a b : Nat) (n : Int) (w : World) (ha : a < 4294967296) (hb : b < 4294967296) (hn : n ≤ 9223372036854775807) :
    Calls Tryd.prog 6 #[.int .u32 (a : Int), .int .u32 (b : Int), .int .i64 n] w fun e w' => e = .returned (.int .u32 ((Crc.Hn (8 * n.toNat) a ^^^ b : Nat) : Int)) ∧ w = w' := by
  go_enter Tryd.func6, Tryd.ntmps6
  go_wp2
  go_loop [0, 7] (fun s0 s7 => ∃ k : Nat, k ≤ n.toNat ∧ s7 = .int .i64 k ∧ s0 = .int .u32 (Crc.Hn (8 * k) a : Nat)) (fun _ s7 => n.toNat - (intOf s7).toNat)
  case atStart => exact ⟨0, by omega, rfl, rfl⟩
  case round =>
    obtain ⟨k, hk, rfl, rfl⟩ := hrel
    have hx : Crc.Hn (8 * k) a < 4294967296 := Crc.Hn_lt _ ha
    have HS := Lib.hid (show Crc.S (Crc.Hn (8 * k) a) = Crc.Hn (8 * (k + 1)) a by rw [show 8 * (k + 1) = 8 * k + 8 by omega, Crc.Hn_add]; rfl)
    by_cases hlt : (k : Int) < n
    · generalize Crc.Hn (8 * k) a = x at hx HS ⊢
      go_wp2_with (go_at_call 12; refine (step_any _ _ hx).mono ?_; rintro e w' ⟨rfl, rfl⟩)
      go_round
      case rel => exact ⟨k + 1, by omega, by go_num, by rw [HS.out]⟩
      case measure => simp [intOf]; omega
    · have hge : n ≤ (k : Int) := by omega
      have HK := Lib.hid (show k = n.toNat by omega)
      clear hlt
      go_wp2
      go_ret
      exact ⟨ret_int (by rw [xor_u32 _ _ hx hb, HK.out]), rfl⟩

theorem wf_i64 {n : Int} (h : (Lit.int .i64 n).wf = true) : -9223372036854775808 ≤ n ∧ n ≤ 9223372036854775807 := by
  have h1 : IntKind.i64.min = -9223372036854775808 := rfl
  have h2 : IntKind.i64.max = 9223372036854775807 := rfl
  simp only [Lit.wf, Bool.and_eq_true, decide_eq_true_eq] at h
  omega

set_option maxHeartbeats 800000 in
theorem far_bad (a : Nat) (m n : Int) (w : World) (h : m < 0 ∨ n < 0 ∨ 2305843009213693952 < m ∨ 2305843009213693952 < n) :
    Calls Tryd.prog 4 #[.int .u32 (a : Int), .int .i64 m, .int .i64 n] w fun e w' => e = .returned (.bool true) ∧ Below w.heap.size w w' := by
  by_cases h1 : m < 0
  · clear h
    go_enter Tryd.func4, Tryd.ntmps4
    go_wp2_with (go_at_call 8; refine (known_any _).mono ?_; rintro e w' ⟨rfl, hb⟩)
    go_ret
    exact ⟨rfl, by assumption⟩
  · have g1 : 0 ≤ m := by omega
    clear h1
    by_cases h2 : n < 0
    · clear h
      go_enter Tryd.func4, Tryd.ntmps4
      go_wp2_with (go_at_call 8; refine (known_any _).mono ?_; rintro e w' ⟨rfl, hb⟩)
      go_ret
      exact ⟨rfl, by assumption⟩
    · have g2 : 0 ≤ n := by omega
      clear h2
      by_cases h3 : 2305843009213693952 < m
      · clear h
        go_enter Tryd.func4, Tryd.ntmps4
        go_wp2_with (go_at_call 8; refine (known_any _).mono ?_; rintro e w' ⟨rfl, hb⟩)
        go_ret
        exact ⟨rfl, by assumption⟩
      · have g3 : m ≤ 2305843009213693952 := by omega
        have h4 : 2305843009213693952 < n := by omega
        clear h3 h
        go_enter Tryd.func4, Tryd.ntmps4
        go_wp2_with (go_at_call 8; refine (known_any _).mono ?_; rintro e w' ⟨rfl, hb⟩)
        go_ret
        exact ⟨rfl, by assumption⟩

theorem far_eq (a : Nat) (m n : Int) (hm : 0 ≤ m) (hn : 0 ≤ n) : Crc.Hn (8 * n.toNat) (Crc.Hn (8 * m.toNat) a ^^^ 0) ^^^ 0 = Crc.Hn (8 * (m + n).toNat) a ^^^ 0 := by
  rw [Nat.xor_zero, Nat.xor_zero, Nat.xor_zero, ← Crc.Hn_add, show 8 * m.toNat + 8 * n.toNat = 8 * (m + n).toNat by omega]

set_option maxHeartbeats 800000 in
theorem far_good (a : Nat) (m n : Int) (w : World) (ha : a < 4294967296) (hT : Tz w) (g1 : 0 ≤ m) (g2 : 0 ≤ n) (g3 : m ≤ 2305843009213693952) (g4 : n ≤ 2305843009213693952) :
    Calls Tryd.prog 4 #[.int .u32 (a : Int), .int .i64 m, .int .i64 n] w fun e w' => e = .returned (.bool true) ∧ Below w.heap.size w w' := by
  have HT := Lib.hid hT
  have HE := Lib.hid (far_eq a m n g1 g2)
  clear hT
  go_enter Tryd.func4, Tryd.ntmps4
  go_wp2_with fail
  refine (join_any a 0 m _ ha (by decide) (by omega) HT.out).mono ?_
  rintro e w1 ⟨rfl, h1⟩
  have H1 := Lib.hid h1
  have hx : Crc.Hn (8 * m.toNat) a ^^^ 0 < 4294967296 := by rw [Nat.xor_zero]; exact Crc.Hn_lt _ ha
  clear h1
  generalize Crc.Hn (8 * m.toNat) a ^^^ 0 = x at hx HE ⊢
  go_wp2_with fail
  refine (join_any x 0 n _ hx (by decide) (by omega) (HT.out.below H1.out)).mono ?_
  rintro e w2 ⟨rfl, h2⟩
  have H2 := Lib.hid (H1.out.trans (h2.mono H1.out.size))
  clear h2
  rw [HE.out]
  go_wp2_with fail
  refine (join_any a 0 (m + n) _ ha (by decide) (by omega) (HT.out.below H2.out)).mono ?_
  rintro e w3 ⟨rfl, h3⟩
  have H3 := Lib.hid (H2.out.trans (h3.mono H2.out.size))
  clear h3
  go_wp2_with fail
  refine (known_any _).mono ?_
  rintro e w4 ⟨rfl, h4⟩
  have H4 := Lib.hid (H3.out.trans (h4.mono H3.out.size))
  clear h4
  go_wp2
  go_ret
  exact ⟨rfl, H4.out⟩

theorem far_any (a : Nat) (m n : Int) (w : World) (ha : a < 4294967296) (hT : Tz w) :
    Calls Tryd.prog 4 #[.int .u32 (a : Int), .int .i64 m, .int .i64 n] w fun e w' => e = .returned (.bool true) ∧ Below w.heap.size w w' := by
  by_cases h : m < 0 ∨ n < 0 ∨ 2305843009213693952 < m ∨ 2305843009213693952 < n
  · exact far_bad a m n w h
  · exact far_good a m n w ha hT (by omega) (by omega) (by omega) (by omega)
end Go.Proofs.YtcklncnelpclpaaDoor
