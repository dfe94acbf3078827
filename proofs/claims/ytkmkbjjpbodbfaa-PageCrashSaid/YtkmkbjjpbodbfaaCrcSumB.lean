/- What the reference and the program answer of a slice of bytes, over any world. Conditions: registers are below 2^32; the slice's cells hold the bytes. -/
import Derived.Test.YtkmkbjjpbodbfaaCrcWalk
import Derived.Test.YtkmkbjjpbodbfaaByte
import Derived.Deep.WholeRow
namespace Go.Proofs.Ytkmkbjjpbodbfaa
open Go.RowKit

theorem not_u32 (s : Nat) (hs : s < 4294967296) : bits .xor .u32 IntKind.u32.max (s : Int) = ((Crc.ones ^^^ s : Nat) : Int) := by
  have h := u32_xor_nat Crc.ones s (by decide) hs
  exact h

set_option maxHeartbeats 800000 in
theorem refMore_any (s : Nat) (v : Value) (l : List Nat) (w : World) (hs : s < 4294967296) (hB : Bts w v l) :
    Calls Try.prog 48 #[.int .u32 (s : Int), v] w fun e w' => e = .returned (.int .u32 (Crc.more s l : Nat)) ∧ w = w' := by
  have HB := Lib.hid hB
  obtain ⟨p, cap, rfl, -, -, hp⟩ := hB.form
  have hlen := hB.len
  have HP := Lib.hid hp
  clear hp hB
  go_enter Try.func48, Try.ntmps48
  go_wp2
  rw [not_u32 s hs]
  go_loop [5, 6] (fun r i => ∃ k : Nat, k ≤ l.length ∧ i = .int .i64 k ∧ r = .int .u32 (Crc.raw (Crc.ones ^^^ s) (l.take k) : Nat)) (fun _ i => l.length - (intOf i).toNat)
  case atStart => exact ⟨0, by omega, rfl, rfl⟩
  case round =>
    obtain ⟨k, hk, rfl, rfl⟩ := hrel
    have hr : Crc.raw (Crc.ones ^^^ s) (l.take k) < 4294967296 := Crc.raw_lt (Nat.xor_lt_two_pow (n := 32) (by decide) hs) (HB.out.mem_take k)
    by_cases hlt : k < l.length
    · have HS := Lib.hid (Crc.raw_snoc (Crc.ones ^^^ s) (l.take k) (l.getD k 0))
      rw [← take_succ_getD l k hlt] at HS
      have hy := HB.out.getD k
      obtain ⟨b, off, rfl, hc⟩ := HP.out (by omega)
      have hck := hc k hlt
      clear hc HP
      generalize Crc.raw (Crc.ones ^^^ s) (l.take k) = r at hr HS ⊢
      generalize l.getD k 0 = y at hy HS hck
      have hxy : bits .xor .u32 (r : Int) (y : Int) = ((r ^^^ y : Nat) : Int) := xor_u32 r y hr (by omega)
      have hlt2 : r ^^^ y < 4294967296 := Nat.xor_lt_two_pow (n := 32) hr (by omega)
      go_wp2_with (go_at_call 60; refine (step_any _ _ hlt2).mono ?_; rintro e w' ⟨rfl, rfl⟩)
      go_round
      case rel => exact ⟨k + 1, by omega, by go_num, by rw [HS.out]⟩
      case measure => simp [intOf]; omega
    · obtain rfl : k = l.length := by omega
      rw [List.take_length] at hr ⊢
      go_wp2
      go_ret
      exact ⟨ret_int (not_u32 _ hr), rfl⟩

set_option maxHeartbeats 400000 in
theorem refSum_any (v : Value) (l : List Nat) (w : World) (hB : Bts w v l) :
    Calls Try.prog 29 #[v] w fun e w' => e = .returned (.int .u32 (Crc.more 0 l : Nat)) ∧ w = w' := by
  have HB := Lib.hid hB
  clear hB
  go_enter Try.func29, Try.ntmps29
  go_wp2_with (go_at_call 48; refine (refMore_any 0 _ _ _ (by decide) HB.out).mono ?_; rintro e w' ⟨rfl, rfl⟩)
  go_ret
  exact ⟨rfl, rfl⟩
end Go.Proofs.Ytkmkbjjpbodbfaa
