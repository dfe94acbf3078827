/- What a float becomes with a scale: products made whole, held against the bounds, made integers, and back. Plain mathematics over Ieee's own words. Conditions: none beyond each row's own. -/
import Derived.Test.YtemamkbcagnigaaQuantPure
import Derived.Laws.FloatArith
namespace Go.Proofs.Ytemamkbcagnigaa.Qf
open Ieee

theorem sg_false (n : Nat) : sg false n = n := rfl
theorem sg_true (n : Nat) : sg true n = -(n : Int) := rfl

theorem fin_max : Fin 4746794007244308480 false (2147483647 * U) := by
  refine ⟨9007199250546688, -22, ?_, by decide, ?_⟩
  · have := read_word false 4746794007244308480 (by decide)
    rw [if_neg (by decide), if_pos (by decide)] at this
    exact this
  · have key : ∀ d e, e = 22 + d → 9007199250546688 * 2 ^ d = 2147483647 * 2 ^ e := by
      intro d e h; rw [h]; rw [Nat.pow_add, ← Nat.mul_assoc]
    rw [U_eq]
    exact key _ _ (by decide)

theorem fin_min : Fin 13970166044103278592 true (2147483648 * U) := by
  refine ⟨4503599627370496, -21, ?_, by decide, ?_⟩
  · have := read_word true 4746794007248502784 (by decide)
    rw [if_neg (by decide), if_pos (by decide)] at this
    exact this
  · have key : ∀ d e, e = 21 + d → 4503599627370496 * 2 ^ d = 2147483648 * 2 ^ e := by
      intro d e h; rw [h]; rw [Nat.pow_add, ← Nat.mul_assoc]
    rw [U_eq]
    exact key _ _ (by decide)

theorem fin_nought : Fin 0 false 0 := ⟨0, -1074, read_nought false, by omega, by rw [Nat.zero_mul]⟩

theorem cmp_U (a b : Int) : compare (a * (U : Int)) (b * (U : Int)) = compare a b := cmp_mul a b U (by have := U_pos; omega)

theorem big100 : (2 : Nat) ^ 100 = 1267650600228229401496703205376 := by decide

/-- Above the greatest integer? -/
theorem gt_max {r : Nat} {s : Bool} {N : Nat} (h : Whole r s N) : (double.order r 4746794007244308480 == some .gt) = (!s && decide (2147483647 < N)) := by
  rcases h with h | ⟨h, hN⟩
  · rw [order_fin h fin_max, sg_mul, sg_mul, cmp_U, cmp_eq, sg_false]
    cases s
    · rw [sg_false]
      by_cases h1 : 2147483647 < N
      · rw [if_neg (by omega), if_neg (by omega)]; simp [h1]
      · by_cases h2 : N = 2147483647
        · rw [if_neg (by omega), if_pos (by omega)]; simp [h2]
        · rw [if_pos (by omega)]; simp [h1]
    · rw [sg_true, if_pos (by omega)]; rfl
  · rw [order_inf_fin h fin_max]
    rw [big100] at hN
    have : 2147483647 < N := by omega
    cases s <;> simp [this]

/-- Below the least one? -/
theorem lt_min {r : Nat} {s : Bool} {N : Nat} (h : Whole r s N) : (double.order r 13970166044103278592 == some .lt) = (s && decide (2147483648 < N)) := by
  rcases h with h | ⟨h, hN⟩
  · rw [order_fin h fin_min, sg_mul, sg_mul, cmp_U, cmp_eq, sg_true]
    cases s
    · rw [sg_false, if_neg (by omega), if_neg (by omega)]; rfl
    · rw [sg_true]
      by_cases h1 : 2147483648 < N
      · rw [if_pos (by omega)]; simp [h1]
      · by_cases h2 : N = 2147483648
        · rw [if_neg (by omega), if_pos (by omega)]; simp [h2]
        · rw [if_neg (by omega), if_neg (by omega)]; simp [h1]
  · rw [order_inf_fin h fin_min]
    rw [big100] at hN
    have : 2147483648 < N := by omega
    cases s <;> simp [this]

theorem toInt_fin {r : Nat} {s : Bool} {N : Nat} (h : Fin r s (N * U)) : (double.read r).toInt .zero = some (sg s N) := by
  obtain ⟨m, i, hr, hi, hu⟩ := h
  rw [hr]
  show some (signed s (Toward.zero.cut s (m <<< i.toNat) (-i).toNat) 0) = _
  rw [signed_eq, cut_zero, Nat.shiftLeft_eq, Nat.pow_zero, Nat.mul_one]
  congr 2
  rw [U_eq] at hu
  rcases Int.le_total 0 i with h | h
  · rw [show (i + 1074).toNat = i.toNat + (1074 : Int).toNat by omega, Nat.pow_add, ← Nat.mul_assoc] at hu
    have := Nat.eq_of_mul_eq_mul_right (two_pow_pos _) hu
    rw [this, show (-i).toNat = 0 by omega, Nat.pow_zero, Nat.div_one]
  · rw [show (1074 : Int).toNat = (-i).toNat + (i + 1074).toNat by omega, Nat.pow_add, ← Nat.mul_assoc] at hu
    have := Nat.eq_of_mul_eq_mul_right (two_pow_pos _) hu
    rw [this, show i.toNat = 0 by omega, Nat.pow_zero, Nat.mul_one, Nat.mul_div_cancel _ (two_pow_pos _)]

theorem toI32 {r : Nat} {s : Bool} {N : Nat} (h : Fin r s (N * U)) (h1 : s = false → N ≤ 2147483647) (h2 : s = true → N ≤ 2147483648) : floatToIntVal .f64 r .i32 = some (sg s N) := by
  unfold floatToIntVal
  have : (FloatKind.f64.decode r).toInt .zero = some (sg s N) := toInt_fin h
  rw [this]
  dsimp only
  rw [if_pos]
  cases s
  · have := h1 rfl
    rw [sg_false]
    show (-2147483648 : Int) ≤ N ∧ (N : Int) ≤ 2147483647
    omega
  · have := h2 rfl
    rw [sg_true]
    show (-2147483648 : Int) ≤ -(N : Int) ∧ -(N : Int) ≤ 2147483647
    omega

/-! A float's parts. -/

def sgn (x : Nat) : Bool := decide (9223372036854775808 ≤ x)
def rung (x : Nat) : Nat := x % 9223372036854775808
/-- Its digits, as a whole number, and how many noughts stand behind them, in units of the least one. -/
def mant (x : Nat) : Nat := if rung x < 4503599627370496 then rung x else 4503599627370496 + rung x % 4503599627370496
def noughts (x : Nat) : Nat := if rung x < 4503599627370496 then 0 else rung x / 4503599627370496 - 1
def un (x : Nat) : Nat := mant x * 2 ^ noughts x

theorem mant_lt (x : Nat) : mant x < 9007199254740992 := by unfold mant; split <;> omega

theorem read_fin {x : Nat} (h : x < 18446744073709551616) (hf : rung x < 9218868437227405312) : double.read x = .number (sgn x) (mant x) (-1074 + (noughts x : Int)) := by
  have hx := word_of x h
  have hr : rung x < 9223372036854775808 := Nat.mod_lt _ (by decide)
  have hx' : x = word (sgn x) (rung x) := hx
  have := read_word (sgn x) (rung x) hr
  rw [← hx'] at this
  rw [this]
  unfold mant noughts
  split
  · rfl
  · first | rfl | rw [if_pos hf]

theorem fin_of {x : Nat} (h : x < 18446744073709551616) (hf : rung x < 9218868437227405312) : Fin x (sgn x) (un x) := by
  refine ⟨_, _, read_fin h hf, by omega, ?_⟩
  unfold un
  congr 2
  omega

theorem inf_of {x : Nat} (h : x < 18446744073709551616) (hf : rung x = 9218868437227405312) : double.read x = .infinity (sgn x) := by
  have hx' : x = word (sgn x) (rung x) := word_of x h
  have := read_word (sgn x) (rung x) (Nat.mod_lt _ (by decide))
  rw [← hx', if_neg (by omega), if_neg (by omega), if_pos hf] at this
  exact this

theorem nan_of {x : Nat} (h : x < 18446744073709551616) (hf : 9218868437227405312 < rung x) : double.read x = .nan (sgn x) (rung x - 9218868437227405312) := by
  have hx' : x = word (sgn x) (rung x) := word_of x h
  have := read_word (sgn x) (rung x) (Nat.mod_lt _ (by decide))
  rw [← hx', if_neg (by omega), if_neg (by omega), if_neg (by omega)] at this
  exact this

theorem order_nan {x : Nat} {s : Bool} {t : Nat} (h : double.read x = .nan s t) (y : Nat) : double.order x y = none := by
  unfold Format.order
  rw [h]
  rfl

theorem order_inf {x : Nat} {s : Bool} (h : double.read x = .infinity s) : double.order x x = some .eq := by
  unfold Format.order
  rw [h]
  cases s <;> rfl

theorem order_self {x : Nat} {s : Bool} {u : Nat} (h : Fin x s u) : double.order x x = some .eq := by
  rw [order_fin h h, cmp_eq, if_neg (by omega), if_pos rfl]

/-- Is it none at all? -/
theorem neq_self {x : Nat} (h : x < 18446744073709551616) : (double.order x x != some .eq) = decide (9218868437227405312 < rung x) := by
  rcases Nat.lt_trichotomy (rung x) 9218868437227405312 with h1 | h1 | h1
  · rw [order_self (fin_of h h1)]
    have : ¬ 9218868437227405312 < rung x := by omega
    simp [this]
  · rw [order_inf (inf_of h h1)]
    have : ¬ 9218868437227405312 < rung x := by omega
    simp [this]
  · rw [order_nan (nan_of h h1)]
    simp [h1]

/-- The units of a scale. -/
def gr (n : Int) : Nat := 2 ^ (1074 - n).toNat
theorem gr_pos (n : Int) : 0 < gr n := two_pow_pos _

/-- The size of the whole number that a float's size becomes, with no bounds. -/
def big (x : Nat) (n : Int) : Nat := if rung x < 9218868437227405312 then rhe (un x) (gr n) else 2 ^ 100

/-- The product with a scale's power, made whole. -/
theorem made_whole {x : Nat} (h : x < 18446744073709551616) (hf : rung x ≤ 9218868437227405312) (n : Int) (h1 : -64 ≤ n) (h2 : n ≤ 64) :
    ∃ y, double.mul x (pw n) = some y ∧ (∀ s t, double.read y ≠ .nan s t) ∧ Whole (double.write ((double.read y).integral .even)) (sgn x) (big x n) := by
  rcases Nat.lt_or_ge (rung x) 9218868437227405312 with hlt | hge
  · have hr := read_fin h hlt
    refine ⟨_, mul_pw hr n h1 h2, ?_, ?_⟩
    · intro s t he
      have hi := integral_mul (sgn x) (mant x) (-1074 + (noughts x : Int)) n (mant_lt x) (by omega) h1 h2 _ rfl
      rw [he] at hi
      rcases hi with ⟨_, _, _, _, hi⟩ | ⟨hi, _⟩ <;> cases hi
    · have hb : big x n = rhe (mant x * 2 ^ (-1074 + (noughts x : Int) + 1074).toNat) (2 ^ (1074 - n).toNat) := by
        unfold big
        rw [if_pos hlt]
        unfold un gr
        congr 3
        omega
      rcases integral_mul (sgn x) (mant x) (-1074 + (noughts x : Int)) n (mant_lt x) (by omega) h1 h2 _ hb with ⟨a, k, hN, ha, hi⟩ | ⟨hi, hN⟩
      · rw [hi, hN]
        exact write_whole _ a k ha
      · rw [hi]
        refine .inr ⟨?_, hN⟩
        show double.read (double.word (sgn x) double.infRung) = _
        rw [word_eq, infRung_eq, read_inf]
  · have hr := inf_of h (by omega)
    refine ⟨_, mul_pw_inf hr n h1 h2, ?_, ?_⟩
    · intro s t he
      rw [read_inf] at he
      cases he
    · rw [read_inf]
      refine .inr ⟨?_, ?_⟩
      · show double.read (double.word (sgn x) double.infRung) = _
        rw [word_eq, infRung_eq, read_inf]
      · unfold big
        rw [if_neg (by omega)]
        exact Nat.le_refl _

/-! Back. -/

/-- The word of v times two to the less n. -/
def valw (v n : Int) : Nat := if v = 0 then 0 else word (decide (v < 0)) (((v.natAbs.log2 : Int) - n + 1022).toNat * 4503599627370496 + v.natAbs * 2 ^ (52 - v.natAbs.log2))

set_option maxHeartbeats 1000000 in
theorem val_spec (v n : Int) (hv : v.natAbs ≤ 2147483648) (h1 : -64 ≤ n) (h2 : n ≤ 64) :
    double.mul (floatOfInt .f64 v) (pw (-n)) = some (valw v n) ∧ Fin (valw v n) (decide (v < 0)) (v.natAbs * gr n) := by
  have hc : floatOfInt .f64 v = double.nearest (decide (v < 0)) v.natAbs 0 := rfl
  rw [hc]
  by_cases h0 : v = 0
  · subst h0
    have hr : double.read (double.nearest (decide ((0 : Int) < 0)) (0 : Int).natAbs 0) = .number false 0 (-1074) := by
      show double.read (double.nearest false 0 0) = _
      rw [nearest_nought, read_nought]
    rw [mul_pw hr (-n) (by omega) (by omega), Nat.zero_mul, nearest_nought]
    refine ⟨rfl, ?_⟩
    show Fin 0 false (0 * _)
    rw [Nat.zero_mul]
    exact fin_nought
  · have hm : v.natAbs ≠ 0 := by omega
    have hm53 : v.natAbs < 9007199254740992 := by omega
    have hlg : v.natAbs.log2 ≤ 31 := by
      have := (Nat.log2_lt hm (k := 32)).2 (by have : (2 : Nat) ^ 32 = 4294967296 := by decide
                                               omega)
      omega
    have hn := nearest_read (decide (v < 0)) v.natAbs 0 0 0 (by omega) hm hm53 (by omega)
    rw [Nat.pow_zero, Nat.mul_one] at hn
    have hL : last v.natAbs 0 = (v.natAbs.log2 : Int) - 52 := by unfold last; omega
    rw [hL, if_pos (by omega), show (0 - ((v.natAbs.log2 : Int) - 52)).toNat = 52 - v.natAbs.log2 by omega] at hn
    rw [mul_pw hn (-n) (by omega) (by omega)]
    have hM0 : v.natAbs * 2 ^ (52 - v.natAbs.log2) ≠ 0 := by
      have := two_pow_pos (52 - v.natAbs.log2)
      intro h
      rcases Nat.mul_eq_zero.1 h with h | h <;> omega
    have hMl : (v.natAbs * 2 ^ (52 - v.natAbs.log2)).log2 = 52 := by rw [log2_shift _ _ hm]; omega
    have hM53 : v.natAbs * 2 ^ (52 - v.natAbs.log2) < 9007199254740992 := by
      have := (Nat.log2_lt hM0 (k := 53)).1 (by omega)
      rw [pow53] at this
      exact this
    have hl : last (v.natAbs * 2 ^ (52 - v.natAbs.log2)) ((v.natAbs.log2 : Int) - 52 - n) = (v.natAbs.log2 : Int) - 52 - n := by
      unfold last
      rw [hMl]
      omega
    have hw := nearest_word (decide (v < 0)) (v.natAbs * 2 ^ (52 - v.natAbs.log2)) 52 ((v.natAbs.log2 : Int) - 52 - n) ((v.natAbs.log2 : Int) - 52 + (-n - 52)) (by omega) hM0 hM53 (by omega)
    have hr := nearest_read (decide (v < 0)) (v.natAbs * 2 ^ (52 - v.natAbs.log2)) 52 ((v.natAbs.log2 : Int) - 52 - n) ((v.natAbs.log2 : Int) - 52 + (-n - 52)) (by omega) hM0 hM53 (by omega)
    rw [hl, show ((v.natAbs.log2 : Int) - 52 - n - ((v.natAbs.log2 : Int) - 52 - n)).toNat = 0 by omega, Nat.pow_zero, Nat.mul_one] at hw hr
    rw [if_pos (by omega)] at hr
    have hval : valw v n = double.nearest (decide (v < 0)) (v.natAbs * 2 ^ (52 - v.natAbs.log2) * 2 ^ 52) ((v.natAbs.log2 : Int) - 52 + (-n - 52)) := by
      rw [hw]
      unfold valw
      rw [if_neg h0]
      congr 1
      rw [show ((v.natAbs.log2 : Int) - n + 1022).toNat = ((v.natAbs.log2 : Int) - 52 - n + 1074).toNat by omega, Nat.min_eq_left]
      have ht : ((v.natAbs.log2 : Int) - 52 - n + 1074).toNat ≤ 1200 := by clear hw hr hM53; omega
      exact Nat.le_trans (Nat.add_le_add (Nat.mul_le_mul_right _ ht) (Nat.le_of_lt hM53)) (by decide)
    refine ⟨by rw [hval], ?_⟩
    rw [hval]
    refine ⟨_, _, hr, by omega, ?_⟩
    unfold gr
    rw [Nat.mul_assoc, ← Nat.pow_add]
    congr 2
    omega

theorem sg_natAbs (v : Int) (c : Nat) : sg (decide (v < 0)) (v.natAbs * c) = v * (c : Int) := by
  rw [sg_mul]
  congr 1
  unfold sg
  by_cases h : v < 0 <;> simp [h] <;> omega

theorem sg_inj (s : Bool) (a b : Nat) : sg s a = sg s b ↔ a = b := by
  unfold sg; cases s <;> simp <;> omega

theorem rhe_mul_eq (u g : Nat) (hg : 0 < g) : rhe u g * g = u ↔ u % g = 0 := by
  constructor
  · intro h
    rw [← h, Nat.mul_mod_left]
  · intro h
    have hd := Nat.div_add_mod u g
    rw [h, Nat.add_zero, Nat.mul_comm] at hd
    conv => lhs; rw [← hd]
    rw [rhe_exact _ _ hg, hd]

/-- Did anything fall off? -/
theorem val_neq {x : Nat} {s : Bool} {u : Nat} (hx : Fin x s u) (n : Int) (h1 : -64 ≤ n) (h2 : n ≤ 64) (hb : rhe u (gr n) ≤ 2147483648) :
    (double.order (valw (sg s (rhe u (gr n))) n) x != some .eq) = decide (u % gr n ≠ 0) := by
  have hna : (sg s (rhe u (gr n))).natAbs = rhe u (gr n) := by unfold sg; cases s <;> simp
  obtain ⟨-, hf⟩ := val_spec (sg s (rhe u (gr n))) n (by omega) h1 h2
  rw [order_fin hf hx, sg_natAbs, ← sg_mul]
  have key := rhe_mul_eq u (gr n) (gr_pos n)
  by_cases he : u % gr n = 0
  · rw [key.2 he, cmp_eq, if_neg (by omega), if_pos rfl]
    simp [he]
  · have hne : sg s (rhe u (gr n) * gr n) ≠ sg s u := fun h => he (key.1 ((sg_inj s _ _).1 h))
    rw [cmp_eq, if_neg hne]
    split <;> simp [he]

end Go.Proofs.Ytemamkbcagnigaa.Qf
