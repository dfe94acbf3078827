/- The document's answers of layer 3: kinds, parts, the nearest whole number. -/
import Derived.Test.YtemamkbcagnigaaQuantTotal
import Derived.Laws.ShiftsVar
import Derived.Laws.ShiftsVarLaws
namespace Go.Proofs.Ytemamkbcagnigaa
open Go.RowKit

namespace Qf
def fld (x : Nat) : Nat := rung x / 4503599627370496
def frc (x : Nat) : Nat := rung x % 4503599627370496
theorem fld_frc (x : Nat) : rung x = fld x * 4503599627370496 + frc x ∧ fld x < 2048 ∧ frc x < 4503599627370496 := by
  have := rung_lt x
  unfold fld frc
  omega
theorem and_fld {x : Nat} (_h : x < 18446744073709551616) : x / 4503599627370496 &&& 2047 = fld x := by
  have := Nat.and_two_pow_sub_one_eq_mod (x / 4503599627370496) 11
  rw [show (2 : Nat) ^ 11 - 1 = 2047 by decide, show (2 : Nat) ^ 11 = 2048 by decide] at this
  rw [this]
  unfold fld rung
  omega
theorem and_frc (x : Nat) : x &&& 4503599627370495 = frc x := by
  have := Nat.and_two_pow_sub_one_eq_mod x 52
  rw [show (2 : Nat) ^ 52 - 1 = 4503599627370495 by decide, show (2 : Nat) ^ 52 = 4503599627370496 by decide] at this
  rw [this]
  unfold frc rung
  omega
theorem or_full {t : Nat} (h : t < 4503599627370496) : t ||| 4503599627370496 = 4503599627370496 + t := by
  have := Nat.two_pow_add_eq_or_of_lt (i := 52) (b := t) (by rw [pow52]; exact h) 1
  rw [show (2 : Nat) ^ 52 * 1 = 4503599627370496 by decide] at this
  rw [Nat.or_comm, ← this]
/-- The whole number nearest to m times two to the e. -/
def rnd (m : Nat) (e : Int) : Nat := if 0 ≤ e then m * 2 ^ e.toNat else rhe m (2 ^ (-e).toNat)
def exact (m : Nat) (e : Int) : Bool := decide (0 ≤ e) || decide (m % 2 ^ (-e).toNat = 0)
end Qf

theorem u64_fld (x : Nat) (hx : x < 18446744073709551616) : bits .and .u64 ((x : Int) / 4503599627370496) 2047 = ((Qf.fld x : Nat) : Int) := by
  have h := u64_and_nat (x / 4503599627370496) 2047 (by omega) (by decide)
  rw [Qf.and_fld hx] at h
  rw [← h]
  congr 1

theorem u64_frc (x : Nat) (hx : x < 18446744073709551616) : bits .and .u64 (x : Int) 4503599627370495 = ((Qf.frc x : Nat) : Int) := by
  have h := u64_and_nat x 4503599627370495 hx (by decide)
  rw [Qf.and_frc] at h
  exact h

theorem refKind_any (x : Nat) (w : World) (hx : x < 18446744073709551616) :
    Calls Try.prog 12 #[.int .u64 (x : Int)] w fun e w' => e = .returned (.int .i64 (Qf.kd x)) ∧ w = w' := by
  have h1 := u64_fld x hx
  have h2 := u64_frc x hx
  obtain ⟨hr, hf, ht⟩ := Qf.fld_frc x
  have hk : Qf.kd x = if Qf.fld x = 2047 then (if Qf.frc x = 0 then 4 else 5) else if 0 < Qf.fld x then 3 else if Qf.frc x = 0 then 1 else 2 := by
    unfold Qf.kd
    repeat' split
    all_goals first | rfl | omega
  rw [hk]
  clear hr hk
  generalize Qf.fld x = f at *
  generalize Qf.frc x = t at *
  by_cases c1 : f = 2047
  · subst c1
    by_cases c2 : t = 0
    · subst c2
      go_enter Try.func12, Try.ntmps12
      go_wp2
      go_ret
      exact ⟨rfl, rfl⟩
    · rw [if_pos rfl, if_neg c2]
      go_enter Try.func12, Try.ntmps12
      go_wp2
      go_ret
      exact ⟨rfl, rfl⟩
  · rw [if_neg c1]
    by_cases c3 : 0 < f
    · rw [if_pos c3]
      go_enter Try.func12, Try.ntmps12
      go_wp2
      go_ret
      exact ⟨rfl, rfl⟩
    · rw [if_neg c3]
      obtain rfl : f = 0 := by omega
      by_cases c2 : t = 0
      · subst c2
        go_enter Try.func12, Try.ntmps12
        go_wp2
        go_ret
        exact ⟨rfl, rfl⟩
      · rw [if_neg c2]
        go_enter Try.func12, Try.ntmps12
        go_wp2
        go_ret
        exact ⟨rfl, rfl⟩

theorem parts_any (x : Nat) (w : World) (hx : x < 18446744073709551616) :
    Calls Try.prog 28 #[.int .u64 (x : Int)] w fun e w' => e = .returned (.tuple #[.int .u64 (Qf.mant x : Nat), .int .i64 (-1074 + (Qf.noughts x : Int))]) ∧ w = w' := by
  have h1 := u64_fld x hx
  have h2 := u64_frc x hx
  obtain ⟨hr, hf, ht⟩ := Qf.fld_frc x
  by_cases c : Qf.fld x = 0
  · have e1 : Qf.mant x = Qf.frc x := by unfold Qf.mant; rw [if_pos (by omega)]; omega
    have e2 : Qf.noughts x = 0 := by unfold Qf.noughts; rw [if_pos (by omega)]
    rw [e1, e2]
    rw [c] at h1
    generalize Qf.frc x = t at *
    clear e1 e2 hr hf c
    go_enter Try.func28, Try.ntmps28
    go_wp2
    go_ret2
    exact ⟨rfl, rfl⟩
  · have e1 : Qf.mant x = 4503599627370496 + Qf.frc x := by unfold Qf.mant; rw [if_neg (by omega)]; rfl
    have e2 : (-1074 + (Qf.noughts x : Int)) = (Qf.fld x : Int) - 1075 := by unfold Qf.noughts; rw [if_neg (by omega)]; omega
    rw [e1, e2]
    have h3 : bits .or .u64 (Qf.frc x : Int) 4503599627370496 = ((4503599627370496 + Qf.frc x : Nat) : Int) := by
      have h := u64_or_nat (Qf.frc x) 4503599627370496 (by omega) (by decide)
      rw [Qf.or_full ht] at h
      exact h
    generalize Qf.frc x = t at *
    generalize Qf.fld x = f at *
    have H3 := Lib.hid h3
    clear e1 e2 hr h3
    go_enter Try.func28, Try.ntmps28
    go_wp2
    rw [H3.out]
    go_ret2
    exact ⟨rfl, rfl⟩

namespace Qf
theorem rnd_nought (e : Int) : rnd 0 e = 0 ∧ exact 0 e = true := by
  unfold rnd exact
  refine ⟨?_, by simp⟩
  split
  · exact Nat.zero_mul _
  · exact rhe_small (by have := two_pow_pos (-e).toNat; omega)

theorem rnd_tiny {m : Nat} {e : Int} (h0 : m ≠ 0) (hm : m < 9007199254740992) (he : e < -60) : rnd m e = 0 ∧ exact m e = false := by
  have hp : 2 ^ 54 ≤ 2 ^ (-e).toNat := Nat.pow_le_pow_right (by decide) (by omega)
  have h54 : (2 : Nat) ^ 54 = 18014398509481984 := by decide
  unfold rnd exact
  rw [if_neg (by omega)]
  refine ⟨rhe_small (by omega), ?_⟩
  rw [Nat.mod_eq_of_lt (by omega)]
  simp
  omega

/-- What stands at the loop's head of 'near': the number so far, and the twos that are still to come. -/
def Toward (m : Nat) (e : Int) (k : Nat) (g : Int) : Prop := (g = e ∧ k = m) ∨ (0 ≤ g ∧ 0 < e ∧ k * 2 ^ g.toNat = m * 2 ^ e.toNat)

theorem Toward.rnd {m : Nat} {e : Int} {k : Nat} {g : Int} (h : Toward m e k g) : rnd m e = rnd k g ∧ exact m e = exact k g := by
  rcases h with ⟨rfl, rfl⟩ | ⟨h1, h2, h3⟩
  · exact ⟨rfl, rfl⟩
  · unfold Qf.rnd exact
    rw [if_pos (by omega), if_pos h1, h3]
    refine ⟨rfl, ?_⟩
    have a1 : decide (0 ≤ e) = true := by simp; omega
    have a2 : decide (0 ≤ g) = true := by simp; omega
    rw [a1, a2]
    rfl

theorem Toward.next {m : Nat} {e : Int} {k : Nat} {g : Int} (h : Toward m e k g) (hg : 0 < g) : Toward m e (k * 2) (g - 1) := by
  have hp : k * 2 * 2 ^ (g - 1).toNat = k * 2 ^ g.toNat := by
    rw [show g.toNat = (g - 1).toNat + 1 by omega, Nat.pow_succ, Nat.mul_assoc, Nat.mul_comm (2 ^ _) 2]
  rcases h with ⟨rfl, rfl⟩ | ⟨h1, h2, h3⟩
  · exact .inr ⟨by omega, hg, hp⟩
  · exact .inr ⟨by omega, h2, by rw [hp, h3]⟩

theorem rnd_great {k : Nat} {g : Int} (hk : 1099511627776 ≤ k) (hg : 0 < g) : 1099511627776 ≤ rnd k g ∧ exact k g = true := by
  unfold rnd exact
  rw [if_pos (by omega)]
  refine ⟨Nat.le_trans hk (Nat.le_mul_of_pos_right _ (two_pow_pos _)), ?_⟩
  have a1 : decide (0 ≤ g) = true := by simp; omega
  rw [a1]
  rfl

theorem rnd_part {k d : Nat} {g : Int} (hg : g ≤ 0) (hd : d = 2 ^ (-g).toNat) : rnd k g = rhe k d ∧ exact k g = decide (k % d = 0) := by
  subst hd
  unfold rnd exact
  by_cases h : 0 ≤ g
  · have : g = 0 := by omega
    subst this
    rw [if_pos (by decide)]
    have h1 : (2 : Nat) ^ (-(0 : Int)).toNat = 1 := by decide
    have h2 : (2 : Nat) ^ (0 : Int).toNat = 1 := by decide
    rw [h1, h2]
    refine ⟨?_, by simp [Nat.mod_one]⟩
    have := rhe_exact k 1 (by decide)
    rw [Nat.mul_one] at this ⊢
    exact this.symm
  · rw [if_neg h]
    simp [h]

/-- What 'near' answers. -/
def Near (m : Nat) (e : Int) (w : World) (r : Ending) (w' : World) : Prop := ∃ N : Nat, N < 18446744073709551616 ∧ (N = rnd m e ∨ (1099511627776 ≤ N ∧ 1099511627776 ≤ rnd m e)) ∧ r = .returned (.tuple #[.int .u64 (N : Nat), .bool (exact m e)]) ∧ w = w'
end Qf

/-- Which way the last step of 'near' goes. -/
theorem rnd_end {k d q r : Nat} (hq : q = k / d) (hr : r = k % d) (hd : 0 < d) :
    ((d < 2 * r ∨ (d = 2 * r ∧ q % 2 = 1)) → Qf.rhe k d = q + 1 ∧ decide (k % d = 0) = false) ∧ (¬ (d < 2 * r ∨ (d = 2 * r ∧ q % 2 = 1)) → Qf.rhe k d = q ∧ decide (k % d = 0) = decide (r = 0)) := by
  subst hq hr
  unfold Qf.rhe
  constructor
  · intro h
    rw [if_pos h]
    refine ⟨rfl, ?_⟩
    have : ¬ k % d = 0 := by omega
    simp [this]
  · intro h
    rw [if_neg h]
    exact ⟨rfl, rfl⟩

theorem ret_near {n : Nat} {a b : Bool} (h : a = b) : Ending.returned (.tuple #[.int .u64 (n : Int), .bool a]) = .returned (.tuple #[.int .u64 (n : Int), .bool b]) := by rw [h]

set_option maxHeartbeats 1600000 in
set_option maxRecDepth 20000 in
theorem near_any (m : Nat) (e : Int) (w : World) (hm : m < 9007199254740992) (he1 : -2000 ≤ e) (he2 : e ≤ 2000) :
    Calls Try.prog 29 #[.int .u64 (m : Int), .int .i64 e] w (Qf.Near m e w) := by
  by_cases h0 : m = 0
  · subst h0
    go_enter Try.func29, Try.ntmps29
    go_wp2
    go_ret2
    exact ⟨0, by omega, .inl (Qf.rnd_nought e).1.symm, by rw [(Qf.rnd_nought e).2]; rfl, rfl⟩
  · go_enter Try.func29, Try.ntmps29
    go_wp2
    go_loop [0, 1] (fun s t => ∃ (k : Nat) (g : Int), k < 9007199254740992 ∧ k ≠ 0 ∧ s = .int .u64 k ∧ t = .int .i64 g ∧ -2000 ≤ g ∧ g ≤ 2000 ∧ Qf.Toward m e k g) (fun _ t => (intOf t).toNat)
    case atStart => exact ⟨m, e, hm, h0, rfl, rfl, he1, he2, .inl ⟨rfl, rfl⟩⟩
    case round =>
      obtain ⟨k, g, hk, hk0, rfl, rfl, hg1, hg2, hrel⟩ := hrel
      have HR := Lib.hid hrel
      clear hrel
      by_cases hgp : 0 < g
      · by_cases hbig : (1099511627776 : Int) ≤ (k : Int)
        · go_wp2
          go_ret2
          obtain ⟨e1, e2⟩ := HR.out.rnd
          obtain ⟨e3, e4⟩ := Qf.rnd_great (k := k) (by omega) hgp
          exact ⟨1099511627776, by omega, .inr ⟨by omega, by omega⟩, by rw [e2, e4]; rfl, rfl⟩
        · go_wp2
          go_round
          case rel => exact ⟨k * 2, g - 1, by omega, by omega, by go_num, rfl, by omega, by omega, HR.out.next hgp⟩
          case measure => simp [intOf]; omega
      · by_cases hgt : g < -60
        · go_wp2
          go_ret2
          obtain ⟨e1, e2⟩ := HR.out.rnd
          obtain ⟨e3, e4⟩ := Qf.rnd_tiny hk0 hk hgt
          exact ⟨0, by omega, .inl (by omega), by rw [e2, e4]; rfl, rfl⟩
        · obtain ⟨d, hd⟩ : ∃ d : Nat, d = 2 ^ (-g).toNat := ⟨_, rfl⟩
          have hd1 : 0 < d := by rw [hd]; exact Nat.two_pow_pos _
          have hd2 : d ≤ 1152921504606846976 := by
            rw [hd, show (1152921504606846976 : Nat) = 2 ^ 60 by decide]
            exact Nat.pow_le_pow_right (by decide) (by omega)
          have hwd : IntKind.u64.wrap (2 ^ (-g).toNat : Int) = (d : Int) := by
            have : (2 ^ (-g).toNat : Int) = (d : Int) := by rw [hd]; simp
            rw [this, IntKind.wrap_u64]
            omega
          have HD := Lib.hid hd
          clear hd
          obtain ⟨q, hq⟩ : ∃ q : Nat, q = k / d := ⟨_, rfl⟩
          obtain ⟨r, hr⟩ : ∃ r : Nat, r = k % d := ⟨_, rfl⟩
          have hq1 : q < 9007199254740992 := by
            rw [hq]; exact Nat.lt_of_le_of_lt (Nat.div_le_self _ _) hk
          have hr1 : r < d := by rw [hr]; exact Nat.mod_lt _ hd1
          have hqi : (k : Int) / (d : Int) = (q : Int) := by rw [hq]; simp
          have hri : (k : Int) % (d : Int) = (r : Int) := by rw [hr]; simp
          have HQ := Lib.hid hq
          have HX := Lib.hid hr
          clear hq hr
          have hend := rnd_end HQ.out HX.out hd1
          by_cases c1 : d < 2 * r
          · have hE := Lib.hid (hend.1 (.inl c1))
            clear hend
            go_wp2
            go_ret2
            obtain ⟨e1, e2⟩ := HR.out.rnd
            obtain ⟨e3, e4⟩ := Qf.rnd_part hgp HD.out
            exact ⟨q + 1, by omega, .inl (by rw [e1, e3, hE.out.1]), by rw [e2, e4, hE.out.2]; rfl, rfl⟩
          · by_cases c2 : 2 * r = d
            · by_cases c3 : q % 2 = 1
              · have hE := Lib.hid (hend.1 (.inr ⟨c2.symm, c3⟩))
                have c3' : (q : Int) % 2 = 1 := by omega
                have c2' : 2 * (r : Int) = (d : Int) := by omega
                clear hend c2 c3
                go_wp2
                go_ret2
                obtain ⟨e1, e2⟩ := HR.out.rnd
                obtain ⟨e3, e4⟩ := Qf.rnd_part hgp HD.out
                exact ⟨q + 1, by omega, .inl (by rw [e1, e3, hE.out.1]), by rw [e2, e4, hE.out.2]; rfl, rfl⟩
              · have hE := Lib.hid (hend.2 (by omega))
                have c3' : ¬ (q : Int) % 2 = 1 := by omega
                have c2' : 2 * (r : Int) = (d : Int) := by omega
                clear hend c2 c3
                go_wp2
                go_ret2
                obtain ⟨e1, e2⟩ := HR.out.rnd
                obtain ⟨e3, e4⟩ := Qf.rnd_part hgp HD.out
                refine ⟨q, by omega, .inl (by rw [e1, e3, hE.out.1]), ?_, rfl⟩
                rw [e2, e4, hE.out.2]
                exact ret_near (by rw [Bool.eq_iff_iff]; simp)
            · have hE := Lib.hid (hend.2 (by omega))
              have c2' : ¬ 2 * (r : Int) = (d : Int) := by omega
              clear hend c2
              go_wp2
              go_ret2
              obtain ⟨e1, e2⟩ := HR.out.rnd
              obtain ⟨e3, e4⟩ := Qf.rnd_part hgp HD.out
              refine ⟨q, by omega, .inl (by rw [e1, e3, hE.out.1]), ?_, rfl⟩
              rw [e2, e4, hE.out.2]
              exact ret_near (by rw [Bool.eq_iff_iff]; simp)
end Go.Proofs.Ytemamkbcagnigaa
