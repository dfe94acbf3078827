/- What the sum's small functions answer, over any world: one bit, one byte, the reference. Conditions: registers are below 2^32, bytes below 256. -/
import Derived.Test.YtkmkbjjpbodbfaaRows
import Derived.Test.YtkmkbjjpbodbfaaCrcPure
import Derived.WalkKit
import Derived.WalkSpells
import Derived.WalkLawsBesides
import Derived.Lib.Hide
namespace Go.Proofs.Ytkmkbjjpbodbfaa
open Go.RowKit

theorem ret_int {k : IntKind} {a b : Int} (h : a = b) : Ending.returned (.int k a) = .returned (.int k b) := by rw [h]

theorem and_one (x : Nat) (hx : x < 4294967296) : bits .and .u32 (x : Int) 1 = ((x % 2 : Nat) : Int) := by
  have h := u32_and_nat x 1 hx (by decide)
  rw [show ((1 : Nat) : Int) = (1 : Int) from rfl] at h
  rw [h, Nat.and_one_is_mod]

theorem xor_poly (x : Nat) (hx : x < 4294967296) : bits .xor .u32 ((x : Int) / 2) 2197175160 = ((x / 2 ^^^ Crc.poly : Nat) : Int) := by
  have h := u32_xor_nat (x / 2) Crc.poly (by omega) (by decide)
  rw [show ((Crc.poly : Nat) : Int) = (2197175160 : Int) from rfl] at h
  rw [show ((x : Int) / 2) = ((x / 2 : Nat) : Int) by omega]
  exact h

theorem H_odd (x : Nat) (hp : x % 2 = 1) : Crc.H x = x / 2 ^^^ Crc.poly := by unfold Crc.H; rw [if_pos hp]
theorem H_even (x : Nat) (hp : ¬ x % 2 = 1) : Crc.H x = x / 2 := by unfold Crc.H; rw [if_neg hp, Nat.xor_zero]

theorem odd_test (x : Nat) (hx : x < 4294967296) (hp : x % 2 = 1) : (bits .and .u32 (x : Int) 1 == 1) = true := by
  rw [and_one x hx, hp]; rfl
theorem even_test (x : Nat) (hx : x < 4294967296) (hp : ¬ x % 2 = 1) : (bits .and .u32 (x : Int) 1 == 1) = false := by
  rw [and_one x hx, show x % 2 = 0 by omega]; rfl

set_option maxHeartbeats 400000 in
theorem half_any (x : Nat) (w : World) (hx : x < 4294967296) :
    Calls Try.prog 66 #[.int .u32 (x : Int)] w fun e w' => e = .returned (.int .u32 (Crc.H x : Nat)) ∧ w = w' := by
  by_cases hp : x % 2 = 1
  · have ht := odd_test x hx hp
    have HP := Lib.hid hp
    clear hp
    go_enter Try.func66, Try.ntmps66
    go_wp2
    go_ret
    exact ⟨ret_int (by rw [xor_poly x hx, H_odd x HP.out]), rfl⟩
  · have ht := even_test x hx hp
    have HP := Lib.hid hp
    clear hp
    go_enter Try.func66, Try.ntmps66
    go_wp2
    go_ret
    exact ⟨ret_int (by rw [H_even x HP.out]; omega), rfl⟩

set_option maxHeartbeats 800000 in
theorem step_any (x : Nat) (w : World) (hx : x < 4294967296) :
    Calls Try.prog 60 #[.int .u32 (x : Int)] w fun e w' => e = .returned (.int .u32 (Crc.S x : Nat)) ∧ w = w' := by
  go_enter Try.func60, Try.ntmps60
  go_wp2
  go_loop [0, 3] (fun r i => ∃ k : Nat, k ≤ 8 ∧ i = .int .i64 k ∧ r = .int .u32 (Crc.Hn k x : Nat)) (fun _ i => 8 - (intOf i).toNat)
  case atStart => exact ⟨0, by omega, rfl, rfl⟩
  case round =>
    obtain ⟨k, hk, rfl, rfl⟩ := hrel
    by_cases hlt : k < 8
    · have hs := Lib.hid (Crc.Hn_succ k x)
      have hb : Crc.Hn k x < 4294967296 := Crc.Hn_lt k hx
      generalize Crc.Hn k x = y at hs hb ⊢
      by_cases hp : y % 2 = 1
      · have ht := odd_test y hb hp
        have HP := Lib.hid hp
        clear hp
        go_wp2
        go_round
        case rel => exact ⟨k + 1, by omega, by go_num, by rw [hs.out, H_odd y HP.out, xor_poly y hb]⟩
        case measure => simp [intOf]; omega
      · have ht := even_test y hb hp
        have HP := Lib.hid hp
        clear hp
        go_wp2
        go_round
        case rel => exact ⟨k + 1, by omega, by go_num, by rw [hs.out, H_even y HP.out]; rfl⟩
        case measure => simp [intOf]; omega
    · obtain rfl : k = 8 := by omega
      go_wp2
      go_ret
      exact ⟨rfl, rfl⟩

theorem low_xor (r b : Nat) (hb : b < 256) : bits .xor .u8 ((r : Int) % 256) (b : Int) = (((r % 256) ^^^ b : Nat) : Int) := by
  rw [show ((r : Int) % 256) = ((r % 256 : Nat) : Int) by omega]
  exact u8_xor_nat (r % 256) b (by omega) hb

theorem xor_u32 (a b : Nat) (ha : a < 4294967296) (hb : b < 4294967296) : bits .xor .u32 (a : Int) ((b : Nat) : Int) = ((a ^^^ b : Nat) : Int) := u32_xor_nat a b ha hb

set_option maxHeartbeats 400000 in
set_option maxRecDepth 20000 in
theorem take_any (r b : Nat) (B : Nat) (w : World) (hr : r < 4294967296) (hb : b < 256)
    (hc : ∀ i, i < 256 → w.cell? ⟨B, i, none⟩ = some (.int .u32 (Crc.S i : Nat))) :
    Calls Try.prog 59 #[.int .u32 (r : Int), .int .u8 (b : Int), .pointer (some ⟨B, 0, none⟩)] w fun e w' => e = .returned (.int .u32 (Crc.S (r ^^^ b) : Nat)) ∧ w = w' := by
  have hn : (r % 256) ^^^ b < 256 := Nat.xor_lt_two_pow (n := 8) (by omega) hb
  have h1 : 0 ≤ bits .xor .u8 ((r : Int) % 256) (b : Int) := by rw [low_xor r b hb]; omega
  have h2 : bits .xor .u8 ((r : Int) % 256) (b : Int) < 256 := by rw [low_xor r b hb]; omega
  have hcell : w.cell? ⟨B, (bits .xor .u8 ((r : Int) % 256) (b : Int)).toNat, none⟩ = some (.int .u32 (Crc.S ((r % 256) ^^^ b) : Nat)) := by
    rw [low_xor r b hb]; exact hc _ hn
  have hs : Crc.S ((r % 256) ^^^ b) < 4294967296 := Crc.S_lt (by omega)
  have HS := Lib.hid (Crc.step_tab r b)
  clear hc
  go_enter Try.func59, Try.ntmps59
  go_wp2
  go_ret
  refine ⟨ret_int ?_, rfl⟩
  rw [HS.out, show ((r : Int) / 256) = ((r / 256 : Nat) : Int) by omega]
  exact xor_u32 _ _ hs (by omega)
end Go.Proofs.Ytkmkbjjpbodbfaa
