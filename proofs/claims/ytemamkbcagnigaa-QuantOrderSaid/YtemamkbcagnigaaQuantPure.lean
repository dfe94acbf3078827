/- Numbers in floating point as whole multiples of the least one: what a word stands for, when the nearest word is exact, half to even. Plain mathematics over Ieee's own words. Conditions: none beyond each row's own. -/
import Ieee.Arith
namespace Go.Proofs.Ytemamkbcagnigaa.Qf
open Ieee

/-- n divided by g to the nearest, half to even. -/
def rhe (n g : Nat) : Nat := n / g + (if g < 2 * (n % g) ∨ (g = 2 * (n % g) ∧ n / g % 2 = 1) then 1 else 0)

theorem two_pow_pos (k : Nat) : 0 < 2 ^ k := Nat.two_pow_pos k

theorem rhe_exact (q g : Nat) (hg : 0 < g) : rhe (q * g) g = q := by
  unfold rhe
  rw [Nat.mul_mod_left, Nat.mul_div_cancel _ hg]
  simp only [Nat.mul_zero, Nat.not_lt_zero, false_or]
  rw [if_neg (by omega)]; omega

theorem rhe_scale (n g c : Nat) (hc : 0 < c) : rhe (n * c) (g * c) = rhe n g := by
  unfold rhe
  rw [Nat.mul_div_mul_right _ _ hc, Nat.mul_mod_mul_right]
  have h1 : (g * c < 2 * (n % g * c)) ↔ (g < 2 * (n % g)) := by
    rw [show 2 * (n % g * c) = (2 * (n % g)) * c by rw [Nat.mul_assoc]]
    exact Nat.mul_lt_mul_right hc
  have h2 : (g * c = 2 * (n % g * c)) ↔ (g = 2 * (n % g)) := by
    rw [show 2 * (n % g * c) = (2 * (n % g)) * c by rw [Nat.mul_assoc]]
    exact ⟨fun h => Nat.eq_of_mul_eq_mul_right hc h, fun h => by rw [← h]⟩
  simp only [h1, h2]

theorem rhe_small {n g : Nat} (h : 2 * n < g) : rhe n g = 0 := by
  unfold rhe
  rw [Nat.div_eq_of_lt (by omega), Nat.mod_eq_of_lt (by omega), if_neg (by omega)]

theorem rhe_le {n g : Nat} : rhe n g ≤ n / g + 1 := by unfold rhe; split <;> omega
theorem le_rhe {n g : Nat} : n / g ≤ rhe n g := by unfold rhe; split <;> omega

/-- Twice the answer lies within one of twice the number. -/
theorem rhe_near (n g : Nat) (hg : 0 < g) : 2 * n ≤ 2 * (rhe n g * g) + g ∧ 2 * (rhe n g * g) ≤ 2 * n + g := by
  have hd := Nat.div_add_mod n g
  have hm := Nat.mod_lt n hg
  have he : n / g * g = g * (n / g) := Nat.mul_comm _ _
  unfold rhe
  split
  · rw [Nat.add_mul, Nat.one_mul, he]; omega
  · rw [Nat.add_zero, he]; omega

theorem rhe_mono {n m g : Nat} (h : n ≤ m) : rhe n g ≤ rhe m g := by
  have hq := Nat.div_le_div_right (c := g) h
  rcases Nat.lt_or_ge (n / g) (m / g) with h1 | h1
  · have := @rhe_le n g
    have := @le_rhe m g
    omega
  · have he : n / g = m / g := by omega
    have d1 := Nat.div_add_mod n g
    have d2 := Nat.div_add_mod m g
    have hmod : n % g ≤ m % g := by rw [he] at d1; omega
    unfold rhe
    rw [he]
    split
    · rename_i hc
      have : g < 2 * (m % g) ∨ g = 2 * (m % g) ∧ m / g % 2 = 1 := by rcases hc with hc | hc <;> omega
      rw [if_pos this]
      exact Nat.le_refl _
    · split <;> omega

theorem cut_even (s : Bool) (n d : Nat) : Toward.even.cut s n d = rhe n (2 ^ d) := by
  have hL : n < 2 ^ (n.log2 + 1) := Nat.lt_log2_self
  have hL2 : 2 ^ (n.log2 + 2) = 2 * 2 ^ (n.log2 + 1) := by rw [Nat.pow_succ 2 (n.log2 + 1), Nat.mul_comm]
  have key : ∀ g, Toward.even.cut s n d = (let gap := 1 <<< min d (n.log2 + 2); n / gap + (decide (gap < 2 * (n % gap)) || (gap == 2 * (n % gap) && n / gap % 2 == 1)).toNat) → 1 <<< min d (n.log2 + 2) = g → Toward.even.cut s n d = rhe n g := by
    intro g h hg
    rw [h, hg]
    unfold rhe
    dsimp only
    congr 1
    by_cases h1 : g < 2 * (n % g)
    · simp [h1]
    · by_cases h2 : g = 2 * (n % g)
      · by_cases h3 : n / g % 2 = 1
        · simp [← h2, h3]
        · simp [← h2, h3]
      · simp [h1, h2]
  rcases Nat.le_total d (n.log2 + 2) with h | h
  · refine key _ rfl ?_
    rw [Nat.min_eq_left h, Nat.one_shiftLeft]
  · have hk := key (2 ^ (n.log2 + 2)) rfl (by rw [Nat.min_eq_right h, Nat.one_shiftLeft])
    have hp : 2 ^ (n.log2 + 2) ≤ 2 ^ d := Nat.pow_le_pow_right (by decide) h
    rw [hk, rhe_small (by omega), rhe_small (by omega)]

theorem cut_zero (s : Bool) (n d : Nat) : Toward.zero.cut s n d = n / 2 ^ d := by
  have hL : n < 2 ^ (n.log2 + 1) := Nat.lt_log2_self
  have hL2 : 2 ^ (n.log2 + 2) = 2 * 2 ^ (n.log2 + 1) := by rw [Nat.pow_succ 2 (n.log2 + 1), Nat.mul_comm]
  show n / (1 <<< min d (n.log2 + 2)) + 0 = _
  rw [Nat.one_shiftLeft, Nat.add_zero]
  rcases Nat.le_total d (n.log2 + 2) with h | h
  · rw [Nat.min_eq_left h]
  · rw [Nat.min_eq_right h, Nat.div_eq_of_lt (by omega), Nat.div_eq_of_lt]
    have hp : 2 ^ (n.log2 + 2) ≤ 2 ^ d := Nat.pow_le_pow_right (by decide) h
    omega

/-! The format of 64 bits. -/

theorem leastPlace_eq : double.leastPlace = -1074 := by decide
theorem binade_eq : double.binade = 4503599627370496 := by decide
theorem infRung_eq : double.infRung = 9218868437227405312 := by decide
theorem signWeight_eq : double.signWeight = 9223372036854775808 := by decide
theorem pow52 : (2 : Nat) ^ 52 = 4503599627370496 := by decide
theorem pow53 : (2 : Nat) ^ 53 = 9007199254740992 := by decide

def word (s : Bool) (r : Nat) : Nat := if s then 9223372036854775808 + r else r

theorem word_eq (s : Bool) (r : Nat) : double.word s r = word s r := by
  unfold Format.word word
  rw [signWeight_eq]

theorem read_word (s : Bool) (r : Nat) (h : r < 9223372036854775808) : double.read (word s r) =
    if r < 4503599627370496 then .number s r (-1074)
    else if r < 9218868437227405312 then .number s (4503599627370496 + r % 4503599627370496) (-1074 + (r / 4503599627370496 - 1 : Nat))
    else if r = 9218868437227405312 then .infinity s
    else .nan s (r - 9218868437227405312) := by
  have h1 : (word s r / 9223372036854775808 % 2 == 1) = s := by
    unfold word
    cases s
    · have : r / 9223372036854775808 = 0 := Nat.div_eq_of_lt h
      simp [this]
    · have : (9223372036854775808 + r) / 9223372036854775808 = 1 := by omega
      simp [this]
  have h2 : word s r % 9223372036854775808 = r := by
    unfold word
    cases s <;> simp <;> omega
  unfold Format.read
  simp only [leastPlace_eq, binade_eq, infRung_eq, signWeight_eq, h1, h2]

theorem word_of (x : Nat) (h : x < 18446744073709551616) : x = word (decide (9223372036854775808 ≤ x)) (x % 9223372036854775808) := by
  unfold word
  by_cases hs : 9223372036854775808 ≤ x
  · simp only [hs, decide_true, if_true]; omega
  · simp only [hs, decide_false]; simp; omega

theorem log2_shift (m k : Nat) (hm : m ≠ 0) : (m * 2 ^ k).log2 = m.log2 + k := by
  have hp := two_pow_pos k
  have h0 : m * 2 ^ k ≠ 0 := by
    intro h
    rcases Nat.mul_eq_zero.1 h with h | h
    · exact hm h
    · omega
  rw [Nat.log2_eq_iff h0]
  constructor
  · rw [Nat.pow_add]
    exact Nat.mul_le_mul_right _ (Nat.log2_self_le hm)
  · rw [show m.log2 + k + 1 = (m.log2 + 1) + k by omega, Nat.pow_add]
    exact (Nat.mul_lt_mul_right hp).2 Nat.lt_log2_self

theorem log2_le52 {m : Nat} (hm : m ≠ 0) (h : m < 9007199254740992) : m.log2 ≤ 52 := by
  have := (Nat.log2_lt hm (k := 53)).2 (by rw [pow53]; exact h)
  omega

/-- The place of the last digit that is kept of a number with the highest digit at e + log2 m. -/
def last (m : Nat) (e : Int) : Int := max (e + m.log2 - 52) (-1074)

theorem last_le {m : Nat} {e : Int} (hm : m ≠ 0) (h : m < 9007199254740992) (he : -1074 ≤ e) : last m e ≤ e ∧ -1074 ≤ last m e := by
  have := log2_le52 hm h
  unfold last
  omega

/-- Where nothing falls off the nearest word is exact. -/
theorem nearest_word (s : Bool) (m k : Nat) (e p : Int) (hp : p = e - k) (hm : m ≠ 0) (hm53 : m < 9007199254740992) (he : -1074 ≤ e) :
    double.nearest s (m * 2 ^ k) p = word s (min ((last m e + 1074).toNat * 4503599627370496 + m * 2 ^ (e - last m e).toNat) 9218868437227405312) := by
  obtain ⟨hl1, hl2⟩ := last_le hm hm53 he
  have hk := two_pow_pos k
  have h0 : m * 2 ^ k ≠ 0 := by
    intro h
    rcases Nat.mul_eq_zero.1 h with h | h
    · exact hm h
    · omega
  unfold Format.nearest
  rw [if_neg h0]
  dsimp only
  have hlast : max (p + ((m * 2 ^ k).log2 : Int) - (double.fractionBits : Int)) double.leastPlace = last m e := by
    rw [log2_shift m k hm, leastPlace_eq]
    unfold last
    show max (p + ((m.log2 + k : Nat) : Int) - 52) (-1074) = _
    subst hp
    congr 1
    omega
  rw [hlast, leastPlace_eq, binade_eq, infRung_eq, word_eq, cut_even, Nat.shiftLeft_eq]
  congr 2
  · congr 1
    rcases Int.le_total (last m e) p with hle | hle
    · have e1 : (last m e - p).toNat = 0 := by omega
      rw [e1, Nat.pow_zero]
      have := rhe_exact (m * 2 ^ k * 2 ^ (p - last m e).toNat) 1 (by decide)
      rw [Nat.mul_one] at this
      rw [this, Nat.mul_assoc, ← Nat.pow_add]
      congr 2
      omega
    · have e1 : (p - last m e).toNat = 0 := by omega
      rw [e1, Nat.pow_zero, Nat.mul_one]
      have e2 : k = (e - last m e).toNat + (last m e - p).toNat := by omega
      conv => lhs; rw [e2]
      rw [Nat.pow_add, ← Nat.mul_assoc]
      exact rhe_exact _ _ (two_pow_pos _)

theorem nearest_nought (s : Bool) (p : Int) : double.nearest s 0 p = word s 0 := by
  unfold Format.nearest
  rw [if_pos rfl, word_eq]

/-- What that word stands for. -/
theorem nearest_read (s : Bool) (m k : Nat) (e p : Int) (hp : p = e - k) (hm : m ≠ 0) (hm53 : m < 9007199254740992) (he : -1074 ≤ e) :
    double.read (double.nearest s (m * 2 ^ k) p) = if last m e ≤ 971 then .number s (m * 2 ^ (e - last m e).toNat) (last m e) else .infinity s := by
  obtain ⟨hl1, hl2⟩ := last_le hm hm53 he
  have hlg := log2_le52 hm hm53
  rw [nearest_word s m k e p hp hm hm53 he]
  -- the significand
  have hm1 := Nat.log2_self_le hm
  have hm2 : m < 2 ^ (m.log2 + 1) := Nat.lt_log2_self
  have hup : m * 2 ^ (e - last m e).toNat < 9007199254740992 := by
    have hd : (e - last m e).toNat ≤ 52 - m.log2 := by unfold last; omega
    have h1 : 2 ^ (e - last m e).toNat ≤ 2 ^ (52 - m.log2) := Nat.pow_le_pow_right (by decide) hd
    have h2 : m * 2 ^ (e - last m e).toNat ≤ m * 2 ^ (52 - m.log2) := Nat.mul_le_mul_left _ h1
    have h3 : m * 2 ^ (52 - m.log2) < 2 ^ (m.log2 + 1) * 2 ^ (52 - m.log2) := (Nat.mul_lt_mul_right (two_pow_pos _)).2 hm2
    rw [← Nat.pow_add, show m.log2 + 1 + (52 - m.log2) = 53 by omega, pow53] at h3
    omega
  have hlo : -1074 < last m e → 4503599627370496 ≤ m * 2 ^ (e - last m e).toNat := by
    intro h
    have hd : (e - last m e).toNat = 52 - m.log2 := by unfold last at h ⊢; omega
    rw [hd]
    have h3 : 2 ^ m.log2 * 2 ^ (52 - m.log2) ≤ m * 2 ^ (52 - m.log2) := Nat.mul_le_mul_right _ hm1
    rw [← Nat.pow_add, show m.log2 + (52 - m.log2) = 52 by omega, pow52] at h3
    exact h3
  generalize m * 2 ^ (e - last m e).toNat = K at hup hlo ⊢
  generalize last m e = L at hl1 hl2 hlo ⊢
  by_cases hL : L ≤ 971
  · rw [if_pos hL]
    by_cases hK : L = -1074 ∧ K < 4503599627370496
    · obtain ⟨rfl, hK⟩ := hK
      rw [read_word _ _ (by omega), if_pos (by omega)]
      congr 1
      omega
    · have hKge : 4503599627370496 ≤ K := by
        by_cases h : L = -1074
        · omega
        · exact hlo (by omega)
      have hmin : min ((L + 1074).toNat * 4503599627370496 + K) 9218868437227405312 = (L + 1074).toNat * 4503599627370496 + K := by omega
      rw [hmin, read_word _ _ (by omega), if_neg (by omega), if_pos (by omega)]
      congr 1
      · omega
      · omega
  · rw [if_neg hL]
    have hKge := hlo (by omega)
    have hmin : min ((L + 1074).toNat * 4503599627370496 + K) 9218868437227405312 = 9218868437227405312 := by omega
    rw [hmin, read_word _ _ (by omega), if_neg (by omega), if_neg (by omega), if_pos rfl]

/-! Finite numbers as multiples of the least one. -/

/-- x stands for the number of the sign s whose size is u times the least one. -/
def Fin (x : Nat) (s : Bool) (u : Nat) : Prop := ∃ m i, double.read x = .number s m i ∧ -1074 ≤ i ∧ m * 2 ^ (i + 1074).toNat = u

def sg (s : Bool) (n : Nat) : Int := if s then -(n : Int) else n

theorem sg_mul (s : Bool) (n c : Nat) : sg s (n * c) = sg s n * (c : Int) := by
  unfold sg
  cases s
  · simp
  · simp only [if_true, Int.natCast_mul]; rw [Int.neg_mul]

theorem signed_eq (s : Bool) (m k : Nat) : signed s m k = sg s (m * 2 ^ k) := by
  unfold signed sg
  rw [Nat.shiftLeft_eq]

theorem cmp_eq (a b : Int) : compare a b = if a < b then .lt else if a = b then .eq else .gt := rfl

theorem cmp_mul (a b c : Int) (hc : 0 < c) : compare (a * c) (b * c) = compare a b := by
  rw [cmp_eq, cmp_eq]
  have h1 : a * c < b * c ↔ a < b := ⟨fun h => Int.lt_of_mul_lt_mul_right h (by omega), fun h => Int.mul_lt_mul_of_pos_right h hc⟩
  have h2 : a * c = b * c ↔ a = b := ⟨fun h => Int.eq_of_mul_eq_mul_right (by omega) h, fun h => by rw [h]⟩
  simp only [h1, h2]

theorem order_fin {x y : Nat} {s t : Bool} {u v : Nat} (hx : Fin x s u) (hy : Fin y t v) : double.order x y = some (compare (sg s u) (sg t v)) := by
  obtain ⟨m, i, h1, h2, rfl⟩ := hx
  obtain ⟨n, j, h3, h4, rfl⟩ := hy
  unfold Format.order
  rw [h1, h3]
  show some (compare (signed s m (i - min i j).toNat) (signed t n (j - min i j).toNat)) = _
  rw [signed_eq, signed_eq]
  congr 1
  rw [← cmp_mul _ _ ((2 ^ (min i j + 1074).toNat : Nat) : Int) (by have := two_pow_pos (min i j + 1074).toNat; omega), ← sg_mul, ← sg_mul, Nat.mul_assoc, Nat.mul_assoc, ← Nat.pow_add, ← Nat.pow_add]
  congr 4 <;> omega

theorem order_inf_fin {x y : Nat} {s t : Bool} {v : Nat} (hx : double.read x = .infinity s) (hy : Fin y t v) : double.order x y = some (if s then .lt else .gt) := by
  obtain ⟨n, j, h3, _, _⟩ := hy
  unfold Format.order
  rw [hx, h3]
  rfl

theorem order_fin_inf {x y : Nat} {s t : Bool} {v : Nat} (hx : Fin x t v) (hy : double.read y = .infinity s) : double.order x y = some (if s then .gt else .lt) := by
  obtain ⟨n, j, h3, _, _⟩ := hx
  unfold Format.order
  rw [hy, h3]
  rfl

/-- The word of two to the n. -/
def pw (n : Int) : Nat := (n + 1023).toNat * 4503599627370496

theorem pw_read (n : Int) (h1 : -64 ≤ n) (h2 : n ≤ 64) : double.read (pw n) = .number false 4503599627370496 (n - 52) := by
  have : pw n = word false (pw n) := rfl
  rw [this, read_word _ _ (by unfold pw; omega)]
  unfold pw
  rw [if_neg (by omega), if_pos (by omega)]
  congr 1 <;> omega

theorem mul_pw {x : Nat} {s : Bool} {m : Nat} {i : Int} (hx : double.read x = .number s m i) (n : Int) (h1 : -64 ≤ n) (h2 : n ≤ 64) :
    double.mul x (pw n) = some (double.nearest s (m * 2 ^ 52) (i + (n - 52))) := by
  unfold Format.mul
  rw [hx, pw_read n h1 h2]
  show some (double.write (.number (s ^^ false) (m * 4503599627370496) (i + (n - 52)))) = _
  rw [pow52, Bool.xor_false]
  rfl

theorem mul_pw_inf {x : Nat} {s : Bool} (hx : double.read x = .infinity s) (n : Int) (h1 : -64 ≤ n) (h2 : n ≤ 64) :
    double.mul x (pw n) = some (word s 9218868437227405312) := by
  unfold Format.mul
  rw [hx, pw_read n h1 h2]
  show some (double.write (.infinity (s ^^ false))) = _
  rw [Bool.xor_false]
  show some (double.word s double.infRung) = _
  rw [word_eq, infRung_eq]

theorem read_inf (s : Bool) : double.read (word s 9218868437227405312) = .infinity s := by
  rw [read_word _ _ (by decide), if_neg (by decide), if_neg (by decide), if_pos rfl]

theorem read_nought (s : Bool) : double.read (word s 0) = .number s 0 (-1074) := by
  rw [read_word _ _ (by decide), if_pos (by decide)]

theorem rhe_tiny (q d : Nat) (hq : q < 9007199254740992) (hd : 54 ≤ d) : rhe q (2 ^ d) = 0 := by
  apply rhe_small
  have : 2 ^ 54 ≤ 2 ^ d := Nat.pow_le_pow_right (by decide) hd
  have h54 : (2 : Nat) ^ 54 = 18014398509481984 := by decide
  omega

/-- Units in a one. -/
@[irreducible] def U : Nat := 2 ^ (1074 : Int).toNat
theorem U_eq : U = 2 ^ (1074 : Int).toNat := by unfold U; rfl
theorem U_pos : 0 < U := by rw [U_eq]; exact two_pow_pos _

/-- r stands for the whole number N with the sign s, or N is far too great and r is infinite. -/
def Whole (r : Nat) (s : Bool) (N : Nat) : Prop := Fin r s (N * U) ∨ (double.read r = .infinity s ∧ 2 ^ 100 ≤ N)

/-- A whole number of at most 53 digits, and noughts behind them, written. -/
theorem write_whole (s : Bool) (m k : Nat) (hm : m < 9007199254740992) : Whole (double.write (.number s (m * 2 ^ k) 0)) s (m * 2 ^ k) := by
  show Whole (double.nearest s (m * 2 ^ k) 0) s (m * 2 ^ k)
  rcases Nat.eq_zero_or_pos m with h0 | h0
  · subst h0
    rw [Nat.zero_mul, nearest_nought]
    exact .inl ⟨0, -1074, read_nought s, by omega, by rw [Nat.zero_mul, Nat.zero_mul]⟩
  · have hlg := log2_le52 (by omega) hm
    have hr := nearest_read s m k k 0 (by omega) (by omega) hm (by omega)
    by_cases hL : last m k ≤ 971
    · rw [if_pos hL] at hr
      obtain ⟨hl1, hl2⟩ := last_le (m := m) (e := k) (by omega) hm (by omega)
      refine .inl ⟨_, _, hr, hl2, ?_⟩
      rw [U_eq, Nat.mul_assoc, Nat.mul_assoc, ← Nat.pow_add, ← Nat.pow_add]
      congr 2
      omega
    · rw [if_neg hL] at hr
      refine .inr ⟨hr, ?_⟩
      have hk : 100 ≤ k := by unfold last at hL; omega
      exact Nat.le_trans (Nat.pow_le_pow_right (by decide) hk) (Nat.le_mul_of_pos_left _ h0)

set_option maxHeartbeats 1000000 in
/-- The product with a power of two, made whole: the same as of the exact product. -/
theorem integral_mul (s : Bool) (m : Nat) (i n : Int) (hm : m < 9007199254740992) (hi : -1074 ≤ i) (h1 : -64 ≤ n) (h2 : n ≤ 64) (N : Nat) (hN : N = rhe (m * 2 ^ (i + 1074).toNat) (2 ^ (1074 - n).toNat)) :
    (∃ a k, N = a * 2 ^ k ∧ a < 9007199254740992 ∧ (double.read (double.nearest s (m * 2 ^ 52) (i + (n - 52)))).integral .even = .number s N 0) ∨
    ((double.read (double.nearest s (m * 2 ^ 52) (i + (n - 52)))).integral .even = .infinity s ∧ 2 ^ 100 ≤ N) := by
  rcases Nat.eq_zero_or_pos m with h0 | h0
  · subst h0
    refine .inl ⟨0, 0, ?_, by decide, ?_⟩
    · rw [hN, Nat.zero_mul, rhe_small (by have := two_pow_pos (1074 - n).toNat; omega)]
    · have hN0 : N = 0 := by rw [hN, Nat.zero_mul, rhe_small (by have := two_pow_pos (1074 - n).toNat; omega)]
      rw [Nat.zero_mul, nearest_nought, read_nought]
      show Datum.number s (Toward.even.cut s (0 <<< _) _) 0 = _
      rw [cut_even, Nat.shiftLeft_eq, Nat.zero_mul, rhe_small (by have := two_pow_pos (-(-1074 : Int)).toNat; omega), hN0]
  · have hlg := log2_le52 (by omega) hm
    -- the whole number, by the exponent of the exact product
    have hNr : N = if 0 ≤ i + n then m * 2 ^ (i + n).toNat else rhe m (2 ^ (-(i + n)).toNat) := by
      rw [hN]
      split
      · rw [show (i + 1074).toNat = (i + n).toNat + (1074 - n).toNat by omega, Nat.pow_add, ← Nat.mul_assoc]
        exact rhe_exact _ _ (two_pow_pos _)
      · rw [show (1074 - n).toNat = (-(i + n)).toNat + (i + 1074).toNat by omega, Nat.pow_add]
        exact rhe_scale _ _ _ (two_pow_pos _)
    by_cases hsub : -1074 ≤ i + n
    · have hr := nearest_read s m 52 (i + n) (i + (n - 52)) (by omega) (by omega) hm hsub
      obtain ⟨hl1, hl2⟩ := last_le (m := m) (e := i + n) (by omega) hm hsub
      rw [hr]
      by_cases hL : last m (i + n) ≤ 971
      · rw [if_pos hL]
        show (∃ a k, N = a * 2 ^ k ∧ a < 9007199254740992 ∧ Datum.number s (Toward.even.cut s ((m * 2 ^ (i + n - last m (i + n)).toNat) <<< (last m (i + n)).toNat) (-(last m (i + n))).toNat) 0 = _) ∨ _
        rw [cut_even, Nat.shiftLeft_eq]
        generalize last m (i + n) = L at *
        by_cases hE : 0 ≤ i + n
        · rw [if_pos hE] at hNr
          refine .inl ⟨m, (i + n).toNat, hNr, hm, ?_⟩
          congr 1
          rw [hNr]
          rcases Int.le_total 0 L with h | h
          · rw [show (-L).toNat = 0 by omega, Nat.pow_zero, Nat.mul_assoc, ← Nat.pow_add]
            have := rhe_exact (m * 2 ^ ((i + n - L).toNat + L.toNat)) 1 (by decide)
            rw [Nat.mul_one] at this
            rw [this]
            congr 2; omega
          · rw [show L.toNat = 0 by omega, Nat.pow_zero, Nat.mul_one, show (i + n - L).toNat = (i + n).toNat + (-L).toNat by omega, Nat.pow_add, ← Nat.mul_assoc]
            exact rhe_exact _ _ (two_pow_pos _)
        · rw [if_neg hE] at hNr
          refine .inl ⟨N, 0, by simp, ?_, ?_⟩
          · rw [hNr]
            have h2 : 2 ≤ 2 ^ (-(i + n)).toNat := by
              have := Nat.pow_le_pow_right (n := 2) (by decide) (show 1 ≤ (-(i + n)).toNat by omega)
              simpa using this
            have h3 := @rhe_le m (2 ^ (-(i + n)).toNat)
            have h4 : m / 2 ^ (-(i + n)).toNat ≤ m / 2 := Nat.div_le_div_left h2 (by decide)
            omega
          · congr 1
            rw [hNr, show L.toNat = 0 by omega, Nat.pow_zero, Nat.mul_one, show (-L).toNat = (-(i + n)).toNat + (i + n - L).toNat by omega, Nat.pow_add]
            exact rhe_scale _ _ _ (two_pow_pos _)
      · rw [if_neg hL]
        refine .inr ⟨rfl, ?_⟩
        have hk : 100 ≤ (i + n).toNat := by unfold last at hL; omega
        rw [hNr, if_pos (by unfold last at hL; omega)]
        exact Nat.le_trans (Nat.pow_le_pow_right (by decide) hk) (Nat.le_mul_of_pos_left _ h0)
    · -- next to nought
      have hN0 : N = 0 := by
        rw [hNr, if_neg (by omega)]
        apply rhe_small
        have : 2 ^ 54 ≤ 2 ^ (-(i + n)).toNat := Nat.pow_le_pow_right (by decide) (by omega)
        have h54 : (2 : Nat) ^ 54 = 18014398509481984 := by decide
        omega
      refine .inl ⟨0, 0, by simp [hN0], by decide, ?_⟩
      have hnz : m * 2 ^ 52 ≠ 0 := by rw [pow52]; omega
      have hnear : ∃ K, K ≤ 4503599627370496 ∧ double.nearest s (m * 2 ^ 52) (i + (n - 52)) = word s K := by
        unfold Format.nearest
        rw [if_neg hnz]
        dsimp only
        have hlast : max (i + (n - 52) + ((m * 2 ^ 52).log2 : Int) - (double.fractionBits : Int)) double.leastPlace = -1074 := by
          rw [log2_shift m 52 (by omega), leastPlace_eq]
          show max (i + (n - 52) + ((m.log2 + 52 : Nat) : Int) - 52) (-1074) = _
          omega
        rw [hlast, leastPlace_eq, binade_eq, infRung_eq, word_eq, cut_even, Nat.shiftLeft_eq, show (i + (n - 52) - -1074).toNat = (i + (n - 52) + 1074).toNat by omega]
        have hz : (i + (n - 52) + 1074).toNat = 0 := by omega
        rw [hz, Nat.pow_zero, Nat.mul_one, show ((-1074 : Int) - -1074).toNat = 0 by decide, Nat.zero_mul, Nat.zero_add]
        refine ⟨_, ?_, rfl⟩
        have hd : 2 ^ 53 ≤ 2 ^ (-1074 - (i + (n - 52))).toNat := Nat.pow_le_pow_right (by decide) (by omega)
        have h3 := @rhe_le (m * 2 ^ 52) (2 ^ (-1074 - (i + (n - 52))).toNat)
        have h4 : m * 2 ^ 52 / 2 ^ (-1074 - (i + (n - 52))).toNat ≤ m * 2 ^ 52 / 2 ^ 53 := Nat.div_le_div_left hd (by decide)
        have h5 : m * 2 ^ 52 / 2 ^ 53 ≤ 4503599627370495 := by rw [pow52, pow53]; omega
        exact Nat.le_trans (Nat.min_le_left _ _) (Nat.le_trans h3 (Nat.le_trans (Nat.succ_le_succ (Nat.le_trans h4 h5)) (by decide)))
      obtain ⟨K, hK, he⟩ := hnear
      rw [he, hN0]
      rw [read_word _ _ (by omega)]
      by_cases hKb : K < 4503599627370496
      · rw [if_pos hKb]
        show Datum.number s (Toward.even.cut s (K <<< (-1074 : Int).toNat) (-(-1074 : Int)).toNat) 0 = _
        rw [cut_even, rhe_tiny _ _ (by rw [Nat.shiftLeft_eq, show (-1074 : Int).toNat = 0 by decide, Nat.pow_zero, Nat.mul_one]; omega) (by decide)]
      · rw [if_neg hKb, if_pos (by omega)]
        obtain rfl : K = 4503599627370496 := by omega
        show Datum.number s (Toward.even.cut s (4503599627370496 <<< (-1074 : Int).toNat) (-(-1074 : Int)).toNat) 0 = _
        rw [cut_even, rhe_tiny _ _ (by rw [Nat.shiftLeft_eq, show (-1074 : Int).toNat = 0 by decide, Nat.pow_zero, Nat.mul_one]; omega) (by decide)]

end Go.Proofs.Ytemamkbcagnigaa.Qf
