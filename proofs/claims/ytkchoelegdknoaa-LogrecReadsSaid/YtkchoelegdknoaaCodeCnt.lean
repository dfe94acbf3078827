/- What the program's and the document's count at the beginning of bytes is, over any world. Conditions: the slice's cells hold the bytes. -/
import Derived.Test.YtkchoelegdknoaaCodeRd
import Derived.Test.YtkchoelegdknoaaCodePut

namespace Go.Proofs.Ytkchoelegdknoaa
open Go.RowKit

theorem and127 (x : Nat) (hx : x < 256) : bits .and .u8 (x : Int) 127 = ((x % 128 : Nat) : Int) := by
  rw [show (127 : Int) = ((127 : Nat) : Int) from rfl, u8_and_nat x 127 hx (by decide), nat_mask7]

theorem shl7_cast (x k : Nat) : (x : Int) % 128 * 2 ^ (7 * k) = ((x % 128 * 128 ^ k : Nat) : Int) := by
  rw [show (128 : Nat) ^ k = 2 ^ (7 * k) by rw [Nat.pow_mul], Int.natCast_mul, Int.natCast_pow]; rfl

theorem or_shl7 (acc x k : Nat) (hk : k ≤ 9) (ha : acc < 128 ^ k) (h9 : k = 9 → x ≤ 1) : bits .or .u64 (acc : Int) (IntKind.u64.wrap ((x : Int) % 128 * 2 ^ (7 * k))) = ((acc + x % 128 * 128 ^ k : Nat) : Int) := by
  have h1 : x % 128 * 128 ^ k < 18446744073709551616 := by
    by_cases h : k = 9
    · subst h
      have := h9 rfl
      have h2 : x % 128 ≤ 1 := by omega
      have := Nat.mul_le_mul_right (128 ^ 9) h2
      have e : 128 ^ 9 = 9223372036854775808 := by decide
      omega
    · have h3 : x % 128 * 128 ^ k < 128 ^ (k + 1) := by
        rw [Nat.pow_succ, Nat.mul_comm]
        exact Nat.mul_lt_mul_of_pos_left (Nat.mod_lt _ (by decide)) (Nat.pow_pos (by decide))
      have h4 : 128 ^ (k + 1) ≤ 128 ^ 9 := Nat.pow_le_pow_right (by decide) (by omega)
      have e : 128 ^ 9 = 9223372036854775808 := by decide
      omega
  have h2 : acc < 18446744073709551616 := by
    have h4 : 128 ^ k ≤ 128 ^ 9 := Nat.pow_le_pow_right (by decide) hk
    have e : 128 ^ 9 = 9223372036854775808 := by decide
    omega
  rw [shl7_cast]
  have hw : IntKind.u64.wrap ((x % 128 * 128 ^ k : Nat) : Int) = ((x % 128 * 128 ^ k : Nat) : Int) := by
    rw [show IntKind.u64.wrap ((x % 128 * 128 ^ k : Nat) : Int) = ((x % 128 * 128 ^ k : Nat) : Int) % 18446744073709551616 by simp [IntKind.wrap, IntKind.bits, IntKind.signed]]
    omega
  have hp : (128 : Nat) ^ k = 2 ^ (7 * k) := by rw [Nat.pow_mul]
  rw [hw, u64_or_nat _ _ h2 h1, Nat.or_comm, nat_join (7 * k) _ _ (by rw [hp]; exact Nat.mul_mod_left _ _) (by rw [← hp]; exact ha), Nat.add_comm]

theorem acc_lt (acc x k : Nat) (ha : acc < 128 ^ k) : acc + x % 128 * 128 ^ k < 128 ^ (k + 1) := by
  have h : (x % 128 + 1) * 128 ^ k ≤ 128 * 128 ^ k := Nat.mul_le_mul_right _ (by omega)
  rw [Nat.add_mul] at h
  rw [Nat.pow_succ]
  omega

theorem two_of {n : Int} {k : Int} {p : Nat × Nat} {q : Nat × Nat} (h : p = q) (h1 : n = (q.1 : Int)) (h2 : k = (q.2 : Int)) : Ending.returned (.tuple #[.int .u64 n, .int .i64 k]) = .returned (.tuple #[.int .u64 (p.1 : Nat), .int .i64 (p.2 : Nat)]) := by
  subst h; rw [h1, h2]

set_option maxHeartbeats 1600000 in
set_option maxRecDepth 20000 in
theorem firstUv_any (v : Value) (l : List Nat) (w : World) (hB : Bts w v l) :
    Calls Try.prog 72 #[v] w fun en w' => en = .returned (.tuple #[.int .u64 ((Cod.cnt 0 l).1 : Nat), .int .i64 ((Cod.cnt 0 l).2 : Nat)]) ∧ w = w' := by
  have HB := Lib.hid hB
  obtain ⟨p, cap, rfl, hr, hn, hp⟩ := hB.form
  have HP := Lib.hid hp
  have hlen := hB.len
  have hcap := hr.1
  have hcap2 := hr.2
  clear hB hr hn hp
  have hq : ∃ m, m = min l.length 10 := ⟨_, rfl⟩
  obtain ⟨m, hm⟩ := hq
  have hm1 : m ≤ 10 := by omega
  have hm2 : m ≤ l.length := by omega
  have hm3 : m = 10 ∨ m = l.length := by omega
  have HM := Lib.hid hm
  have hmi : min (l.length : Int) 10 = (m : Int) := by omega
  clear hm
  go_enter Try.func72, Try.ntmps72
  go_wp2
  go_loop [4, 13] (fun n i => ∃ k acc : Nat, k ≤ m ∧ i = .int .i64 k ∧ n = .int .u64 acc ∧ acc < 128 ^ k ∧ Cod.cnt 0 l = Cod.fin acc k (Cod.cnt k (l.drop k))) (fun _ i => m - (intOf i).toNat)
  case atStart => exact ⟨0, 0, by omega, rfl, rfl, by decide, by rw [Cod.fin_start _ (Cod.cnt_none _ _)]; rfl⟩
  case round =>
    obtain ⟨k, acc, hk, rfl, rfl, hacc, hcnt⟩ := hrel
    have HCNT := Lib.hid hcnt
    have HACC := Lib.hid hacc
    clear hcnt hacc
    by_cases hlt : k < m
    · have hx := HB.out.getD k
      obtain ⟨b, off, rfl, hc⟩ := HP.out (by omega)
      have hck := hc k (by omega)
      have HD := Lib.hid (List.drop_eq_getElem_cons (l := l) (i := k) (by omega))
      have hxe : l.getD k 0 = l[k]'(by omega) := by simp [List.getElem?_eq_getElem (show k < l.length by omega)]
      rw [← hxe] at HD
      clear hc hxe
      generalize l.getD k 0 = x at hck hx HD
      have hax := and127 x hx
      have hk9 : k ≤ 9 := by omega
      have HO := Lib.hid (or_shl7 acc x k hk9 HACC.out)
      have HE : Hid (Cod.cnt 0 l = Cod.fin acc k (Cod.cnt k (x :: l.drop (k + 1)))) := by rw [← HD.out]; exact HCNT.out
      go_wp2
      · go_ret2
        exact ⟨two_of (HE.out.trans (Cod.fin_over _ _ _ _ ⟨by omega, by omega⟩)) rfl rfl, rfl⟩
      · go_ret2
        have hx0 : x = 0 := by assumption
        subst hx0
        exact ⟨two_of (HE.out.trans (Cod.fin_zero _ _ _ (by omega) (by omega))) rfl rfl, rfl⟩
      · go_ret2
        have e : IntKind.u64.wrap ((x : Int) % 128 * 2 ^ (7 * k)) = (x : Int) % 128 * 9223372036854775808 := by
          obtain rfl : k = 9 := by omega
          rw [show (2 : Int) ^ (7 * 9) = 9223372036854775808 by decide, show IntKind.u64.wrap ((x : Int) % 128 * 9223372036854775808) = ((x : Int) % 128 * 9223372036854775808) % 18446744073709551616 by simp [IntKind.wrap, IntKind.bits, IntKind.signed]]
          omega
        exact ⟨two_of (HE.out.trans (Cod.fin_last _ _ _ _ (by omega) (by omega) (by omega) (by omega))) (by rw [← e, HO.out (by omega), Nat.mod_eq_of_lt (by omega)]) (by show (10 : Int) = ((k + 1 : Nat) : Int); omega), rfl⟩
      · go_round
        case rel => exact ⟨k + 1, _, by omega, by go_num, by rw [HO.out (by omega)], acc_lt _ _ _ HACC.out, HE.out.trans (Cod.fin_step _ _ _ _ (by omega) (by omega) (by omega))⟩
        case measure => simp [intOf]; omega
      · go_ret2
        have hx0 : x = 0 := by assumption
        subst hx0
        exact ⟨two_of (HE.out.trans (Cod.fin_zero _ _ _ (by omega) (by omega))) rfl rfl, rfl⟩
      · go_ret2
        have e : IntKind.u64.wrap ((x : Int) % 128 * 2 ^ (7 * k)) = IntKind.u64.wrap 0 := by
          obtain rfl : x = 0 := by assumption
          congr 1
          simp
        exact ⟨two_of (HE.out.trans (Cod.fin_last _ _ _ _ (by omega) (by omega) (by omega) (by omega))) (by rw [← e, HO.out (by omega), Nat.mod_eq_of_lt (by omega)]) rfl, rfl⟩
      · go_ret2
        exact ⟨two_of (HE.out.trans (Cod.fin_last _ _ _ _ (by omega) (by omega) (by omega) (by omega))) (by rw [HO.out (by omega)]; rw [Nat.mod_eq_of_lt (by omega)]) rfl, rfl⟩
    · obtain rfl : k = m := by omega
      have HE : Hid (Cod.cnt 0 l = (0, 0)) := by
        rw [HCNT.out]
        rcases hm3 with h | h
        · exact Cod.fin_ten _ _ _ (by omega)
        · rw [List.drop_eq_nil_of_le (by omega)]
          exact Cod.fin_end _ _
      go_wp2
      go_ret2
      exact ⟨two_of HE.out rfl rfl, rfl⟩
set_option maxHeartbeats 1600000 in
set_option maxRecDepth 20000 in
theorem refCount_any (v : Value) (l : List Nat) (w : World) (hB : Bts w v l) :
    Calls Try.prog 75 #[v] w fun en w' => en = .returned (.tuple #[.int .u64 ((Cod.cnt 0 l).1 : Nat), .int .i64 ((Cod.cnt 0 l).2 : Nat)]) ∧ w = w' := by
  have HB := Lib.hid hB
  obtain ⟨p, cap, rfl, hr, hn, hp⟩ := hB.form
  have HP := Lib.hid hp
  have hlen := hB.len
  have hcap := hr.1
  have hcap2 := hr.2
  clear hB hr hn hp
  have hq : ∃ m, m = min l.length 10 := ⟨_, rfl⟩
  obtain ⟨m, hm⟩ := hq
  have hm1 : m ≤ 10 := by omega
  have hm2 : m ≤ l.length := by omega
  have hm3 : m = 10 ∨ m = l.length := by omega
  have HM := Lib.hid hm
  have hmi : min (l.length : Int) 10 = (m : Int) := by omega
  clear hm
  go_enter Try.func75, Try.ntmps75
  go_wp2
  go_loop [4, 5] (fun n i => ∃ k acc : Nat, k ≤ m ∧ i = .int .i64 k ∧ n = .int .u64 acc ∧ acc < 128 ^ k ∧ Cod.cnt 0 l = Cod.fin acc k (Cod.cnt k (l.drop k))) (fun _ i => m - (intOf i).toNat)
  case atStart => exact ⟨0, 0, by omega, rfl, rfl, by decide, by rw [Cod.fin_start _ (Cod.cnt_none _ _)]; rfl⟩
  case round =>
    obtain ⟨k, acc, hk, rfl, rfl, hacc, hcnt⟩ := hrel
    have HCNT := Lib.hid hcnt
    have HACC := Lib.hid hacc
    clear hcnt hacc
    by_cases hlt : k < m
    · have hx := HB.out.getD k
      obtain ⟨b, off, rfl, hc⟩ := HP.out (by omega)
      have hck := hc k (by omega)
      have HD := Lib.hid (List.drop_eq_getElem_cons (l := l) (i := k) (by omega))
      have hxe : l.getD k 0 = l[k]'(by omega) := by simp [List.getElem?_eq_getElem (show k < l.length by omega)]
      rw [← hxe] at HD
      clear hc hxe
      generalize l.getD k 0 = x at hck hx HD
      have hax := and127 x hx
      have hk9 : k ≤ 9 := by omega
      have HO := Lib.hid (or_shl7 acc x k hk9 HACC.out)
      have HE : Hid (Cod.cnt 0 l = Cod.fin acc k (Cod.cnt k (x :: l.drop (k + 1)))) := by rw [← HD.out]; exact HCNT.out
      by_cases h9 : k = 9
      · subst h9
        go_wp2
        · go_ret2
          exact ⟨two_of (HE.out.trans (Cod.fin_over _ _ _ _ ⟨by omega, by omega⟩)) rfl rfl, rfl⟩
        · go_ret2
          have hx0 : x = 0 := by assumption
          subst hx0
          exact ⟨two_of (HE.out.trans (Cod.fin_zero _ _ _ (by omega) (by omega))) rfl rfl, rfl⟩
        · go_ret2
          have e : IntKind.u64.wrap ((x : Int) % 128 * 2 ^ (7 * 9)) = (x : Int) % 128 * 9223372036854775808 := by
            rw [show (2 : Int) ^ (7 * 9) = 9223372036854775808 by decide, show IntKind.u64.wrap ((x : Int) % 128 * 9223372036854775808) = ((x : Int) % 128 * 9223372036854775808) % 18446744073709551616 by simp [IntKind.wrap, IntKind.bits, IntKind.signed]]
            omega
          exact ⟨two_of (HE.out.trans (Cod.fin_last _ _ _ _ (by omega) (by omega) (by omega) (by omega))) (by rw [← e, HO.out (by omega), Nat.mod_eq_of_lt (by omega)]) rfl, rfl⟩
      · go_wp2
        · go_ret2
          have hx0 : x = 0 := by assumption
          subst hx0
          exact ⟨two_of (HE.out.trans (Cod.fin_zero _ _ _ (by omega) (by omega))) rfl rfl, rfl⟩
        · go_ret2
          have e : IntKind.u64.wrap ((x : Int) % 128 * 2 ^ (7 * k)) = IntKind.u64.wrap 0 := by
            obtain rfl : x = 0 := by assumption
            congr 1
            simp
          exact ⟨two_of (HE.out.trans (Cod.fin_last _ _ _ _ (by omega) (by omega) (by omega) (by omega))) (by rw [← e, HO.out (by omega), Nat.mod_eq_of_lt (by omega)]) rfl, rfl⟩
        · go_ret2
          exact ⟨two_of (HE.out.trans (Cod.fin_last _ _ _ _ (by omega) (by omega) (by omega) (by omega))) (by rw [HO.out (by omega), Nat.mod_eq_of_lt (by omega)]) rfl, rfl⟩
        · go_round
          case rel => exact ⟨k + 1, _, by omega, by go_num, by rw [HO.out (by omega)], acc_lt _ _ _ HACC.out, HE.out.trans (Cod.fin_step _ _ _ _ (by omega) (by omega) (by omega))⟩
          case measure => simp [intOf]; omega
    · obtain rfl : k = m := by omega
      have HE : Hid (Cod.cnt 0 l = (0, 0)) := by
        rw [HCNT.out]
        rcases hm3 with h | h
        · exact Cod.fin_ten _ _ _ (by omega)
        · rw [List.drop_eq_nil_of_le (by omega)]
          exact Cod.fin_end _ _
      by_cases hm4 : k < l.length
      · have hm5 : ¬ k < 10 := by omega
        go_wp2
        go_ret2
        exact ⟨two_of HE.out rfl rfl, rfl⟩
      · go_wp2
        go_ret2
        exact ⟨two_of HE.out rfl rfl, rfl⟩

end Go.Proofs.Ytkchoelegdknoaa
