/- Plain arithmetic of the sum's register, over natural numbers: no program is named here. Conditions: none. -/
import Derived.Laws.BitsAllLaws
namespace Go.Proofs.Ytkchoelegdknoaa
namespace Crc

def poly : Nat := 2197175160
/-- One bit of 0 through the register. -/
def H (x : Nat) : Nat := (x / 2) ^^^ (if x % 2 = 1 then poly else 0)
def Hn : Nat → Nat → Nat
  | 0, x => x
  | n + 1, x => Hn n (H x)
def S (x : Nat) : Nat := Hn 8 x
def raw (r : Nat) (l : List Nat) : Nat := l.foldl (fun r b => S (r ^^^ b)) r
def le : List Nat → Nat
  | [] => 0
  | b :: r => b ^^^ (256 * le r)
def ones : Nat := 4294967295
def more (s : Nat) (l : List Nat) : Nat := ones ^^^ raw (ones ^^^ s) l

theorem xor_half (a b : Nat) : (a ^^^ b) / 2 = (a / 2) ^^^ (b / 2) := by
  apply Nat.eq_of_testBit_eq; intro i
  simp [Nat.testBit_div_two]

theorem xor_par (a b : Nat) : (a ^^^ b) % 2 = (a % 2 + b % 2) % 2 := by
  have h : decide ((a ^^^ b) % 2 = 1) = (decide (a % 2 = 1)).xor (decide (b % 2 = 1)) := by
    rw [← Nat.testBit_zero, ← Nat.testBit_zero, ← Nat.testBit_zero]; exact Nat.testBit_xor a b 0
  rcases Nat.mod_two_eq_zero_or_one a with ha | ha <;> rcases Nat.mod_two_eq_zero_or_one b with hb | hb <;>
    rcases Nat.mod_two_eq_zero_or_one (a ^^^ b) with hc | hc <;> simp [ha, hb, hc] at h ⊢

theorem H_xor (a b : Nat) : H (a ^^^ b) = H a ^^^ H b := by
  unfold H
  rw [xor_half, xor_par]
  rcases Nat.mod_two_eq_zero_or_one a with ha | ha <;> rcases Nat.mod_two_eq_zero_or_one b with hb | hb <;> simp [ha, hb]
  · rw [Nat.xor_assoc]
  · rw [Nat.xor_assoc, Nat.xor_assoc, Nat.xor_comm poly (b / 2)]
  · have : a / 2 ^^^ poly ^^^ (b / 2 ^^^ poly) = (a / 2 ^^^ b / 2) ^^^ (poly ^^^ poly) := by
      simp only [Nat.xor_assoc]; congr 1; rw [← Nat.xor_assoc, Nat.xor_comm poly, Nat.xor_assoc]
    rw [this, Nat.xor_self, Nat.xor_zero]

theorem Hn_xor (n a b : Nat) : Hn n (a ^^^ b) = Hn n a ^^^ Hn n b := by
  induction n generalizing a b with
  | zero => rfl
  | succ n ih => simp only [Hn]; rw [H_xor, ih]

theorem Hn_add (m n x : Nat) : Hn (m + n) x = Hn n (Hn m x) := by
  induction m generalizing x with
  | zero => simp [Hn]
  | succ m ih => rw [show m + 1 + n = (m + n) + 1 by omega]; simp only [Hn]; exact ih _

theorem Hn_succ (n x : Nat) : Hn (n + 1) x = H (Hn n x) := Hn_add n 1 x

theorem H_double (x : Nat) : H (2 * x) = x := by
  unfold H
  rw [show 2 * x / 2 = x by omega, if_neg (by omega), Nat.xor_zero]

theorem Hn_shift (n x : Nat) : Hn n (2 ^ n * x) = x := by
  induction n generalizing x with
  | zero => simp [Hn]
  | succ n ih => simp only [Hn]; rw [Nat.pow_succ', Nat.mul_assoc, H_double, ih]

theorem H_zero : H 0 = 0 := H_double 0
theorem Hn_zero (n : Nat) : Hn n 0 = 0 := by simpa using Hn_shift n 0

theorem H_lt {x : Nat} (h : x < 2 ^ 32) : H x < 2 ^ 32 := by
  unfold H
  apply Nat.xor_lt_two_pow
  · omega
  · split
    · decide
    · decide

theorem Hn_lt (n : Nat) {x : Nat} (h : x < 2 ^ 32) : Hn n x < 2 ^ 32 := by
  induction n generalizing x with
  | zero => exact h
  | succ n ih => exact ih (H_lt h)

theorem H_ne {x : Nat} (h : x < 2 ^ 32) (h0 : x ≠ 0) : H x ≠ 0 := by
  intro e
  unfold H at e
  by_cases hp : x % 2 = 1
  · rw [if_pos hp] at e
    have e2 : x / 2 = poly := by
      have := congrArg (fun z => z ^^^ poly) e
      simpa [Nat.xor_assoc] using this
    unfold poly at e2
    omega
  · rw [if_neg hp, Nat.xor_zero] at e
    omega

theorem Hn_ne (n : Nat) {x : Nat} (h : x < 2 ^ 32) (h0 : x ≠ 0) : Hn n x ≠ 0 := by
  induction n generalizing x with
  | zero => exact h0
  | succ n ih => exact ih (H_lt h) (H_ne h h0)

theorem S_lt {x : Nat} (h : x < 2 ^ 32) : S x < 2 ^ 32 := Hn_lt 8 h
theorem S_xor (a b : Nat) : S (a ^^^ b) = S a ^^^ S b := Hn_xor 8 a b
theorem S_shift (x : Nat) : S (256 * x) = x := Hn_shift 8 x

theorem raw_nil (r : Nat) : raw r [] = r := rfl
theorem raw_cons (r b : Nat) (l : List Nat) : raw r (b :: l) = raw (S (r ^^^ b)) l := rfl
theorem raw_append (r : Nat) (a b : List Nat) : raw r (a ++ b) = raw (raw r a) b := List.foldl_append
theorem raw_snoc (r : Nat) (a : List Nat) (b : Nat) : raw r (a ++ [b]) = S (raw r a ^^^ b) := by rw [raw_append]; rfl

theorem raw_eq (r : Nat) (l : List Nat) : raw r l = Hn (8 * l.length) (r ^^^ le l) := by
  induction l generalizing r with
  | nil => simp [raw, le, Hn]
  | cons b l ih =>
    rw [raw_cons, ih, List.length_cons, show 8 * (l.length + 1) = 8 + 8 * l.length by omega, Hn_add]
    congr 1
    show S (r ^^^ b) ^^^ le l = S (r ^^^ (b ^^^ (256 * le l)))
    rw [← Nat.xor_assoc, S_xor (r ^^^ b), S_shift]

theorem raw_lt {r : Nat} (h : r < 2 ^ 32) : ∀ {l : List Nat}, (∀ b ∈ l, b < 256) → raw r l < 2 ^ 32 := by
  intro l
  induction l generalizing r with
  | nil => intro _; exact h
  | cons b l ih =>
    intro hb
    rw [raw_cons]
    refine ih (S_lt (Nat.xor_lt_two_pow h ?_)) (fun x hx => hb x (by simp [hx]))
    have := hb b (by simp)
    omega

theorem more_lt {s : Nat} (h : s < 2 ^ 32) {l : List Nat} (hl : ∀ b ∈ l, b < 256) : more s l < 2 ^ 32 :=
  Nat.xor_lt_two_pow (by decide) (raw_lt (Nat.xor_lt_two_pow (by decide) h) hl)

theorem xor_xor_self (a b : Nat) : a ^^^ (a ^^^ b) = b := by rw [← Nat.xor_assoc, Nat.xor_self, Nat.zero_xor]

theorem more_append (s : Nat) (a b : List Nat) : more (more s a) b = more s (a ++ b) := by
  unfold more
  rw [xor_xor_self, raw_append]

/-- Joining: the register of a sum, taken through as many bytes of 0, and the other sum. -/
theorem join (a b : List Nat) : Hn (8 * b.length) (more 0 a) ^^^ more 0 b = more 0 (a ++ b) := by
  unfold more
  rw [Nat.xor_zero, raw_append, raw_eq ones b, raw_eq (raw ones a) b, Hn_xor, Hn_xor, Hn_xor]
  generalize Hn (8 * b.length) ones = x
  generalize Hn (8 * b.length) (le b) = y
  generalize Hn (8 * b.length) (raw ones a) = z
  apply Nat.eq_of_testBit_eq; intro i
  simp only [Nat.testBit_xor]
  cases x.testBit i <;> cases y.testBit i <;> cases z.testBit i <;> cases ones.testBit i <;> rfl

theorem le_xor3 : ∀ (a b c : List Nat), a.length = b.length → b.length = c.length →
    le (List.zipWith (· ^^^ ·) (List.zipWith (· ^^^ ·) a b) c) = le a ^^^ le b ^^^ le c := by
  have dist : ∀ x y : Nat, 256 * (x ^^^ y) = (256 * x) ^^^ (256 * y) := by
    intro x y
    have h : ∀ z : Nat, 256 * z = z <<< 8 := fun z => by rw [Nat.shiftLeft_eq]; omega
    rw [h, h, h, Nat.shiftLeft_xor_distrib]
  intro a
  induction a with
  | nil => intro b c hb hc; cases b <;> simp_all <;> cases c <;> simp_all [le]
  | cons x a ih =>
    intro b c hb hc
    match b, c, hb, hc with
    | y :: b, z :: c, hb, hc =>
      simp only [List.length_cons, Nat.add_right_cancel_iff] at hb hc
      simp only [List.zipWith_cons_cons, le, ih b c hb hc, dist]
      generalize 256 * le a = A; generalize 256 * le b = B; generalize 256 * le c = C
      apply Nat.eq_of_testBit_eq; intro i
      simp only [Nat.testBit_xor]
      cases x.testBit i <;> cases y.testBit i <;> cases z.testBit i <;> cases A.testBit i <;> cases B.testBit i <;> cases C.testBit i <;> rfl

theorem three (a b c : List Nat) (h1 : a.length = b.length) (h2 : b.length = c.length) :
    more 0 (List.zipWith (· ^^^ ·) (List.zipWith (· ^^^ ·) a b) c) = more 0 a ^^^ more 0 b ^^^ more 0 c := by
  unfold more
  rw [raw_eq, raw_eq, raw_eq, raw_eq, le_xor3 a b c h1 h2]
  have hl : (List.zipWith (· ^^^ ·) (List.zipWith (· ^^^ ·) a b) c).length = a.length := by simp; omega
  rw [hl, ← h1, ← (h1.trans h2)]
  simp only [Hn_xor, Nat.xor_zero]
  generalize Hn (8 * a.length) ones = x
  generalize Hn (8 * a.length) (le a) = A
  generalize Hn (8 * a.length) (le b) = B
  generalize Hn (8 * a.length) (le c) = C
  apply Nat.eq_of_testBit_eq; intro i
  simp only [Nat.testBit_xor]
  cases x.testBit i <;> cases A.testBit i <;> cases B.testBit i <;> cases C.testBit i <;> cases ones.testBit i <;> rfl

theorem le_set : ∀ (l : List Nat) (i : Nat) (x : Nat), i < l.length → le (l.set i (l.getD i 0 ^^^ x)) = le l ^^^ (2 ^ (8 * i) * x) := by
  intro l
  induction l with
  | nil => intro i x h; simp at h
  | cons b l ih =>
    intro i x h
    cases i with
    | zero =>
      simp only [List.set_cons_zero, le, List.getD_cons_zero, Nat.mul_zero, Nat.pow_zero, Nat.one_mul]
      rw [Nat.xor_assoc, Nat.xor_comm x, Nat.xor_assoc]
    | succ i =>
      simp only [List.set_cons_succ, le, List.getD_cons_succ]
      rw [ih i x (by simpa using h)]
      have dist : ∀ x y : Nat, 256 * (x ^^^ y) = (256 * x) ^^^ (256 * y) := by
        intro x y
        have h : ∀ z : Nat, 256 * z = z <<< 8 := fun z => by rw [Nat.shiftLeft_eq]; omega
        rw [h, h, h, Nat.shiftLeft_xor_distrib]
      rw [dist, ← Nat.xor_assoc, show 8 * (i + 1) = 8 + 8 * i by omega, Nat.pow_add, Nat.mul_assoc]

theorem mul_xor (p x y : Nat) : 2 ^ p * (x ^^^ y) = (2 ^ p * x) ^^^ (2 ^ p * y) := by
  have h : ∀ z : Nat, 2 ^ p * z = z <<< p := fun z => by rw [Nat.shiftLeft_eq, Nat.mul_comm]
  rw [h, h, h, Nat.shiftLeft_xor_distrib]

theorem mod_step0 (t i : Nat) (h : ¬ t / 2 ^ i % 2 = 1) : t % 2 ^ (i + 1) = t % 2 ^ i := by
  have h0 : t / 2 ^ i % 2 = 0 := by omega
  rw [Nat.pow_succ, Nat.mod_mul, h0, Nat.mul_zero, Nat.add_zero]

theorem mod_step1 (t i : Nat) (h : t / 2 ^ i % 2 = 1) : t % 2 ^ (i + 1) = (t % 2 ^ i) ^^^ 2 ^ i := by
  have hb : t.testBit i = true := by rw [Nat.testBit_eq_decide_div_mod_eq, h]; rfl
  apply Nat.eq_of_testBit_eq; intro j
  rw [Nat.testBit_xor, Nat.testBit_mod_two_pow, Nat.testBit_mod_two_pow, Nat.testBit_two_pow]
  rcases Nat.lt_trichotomy j i with hj | hj | hj
  · simp [hj, show j < i + 1 by omega, show i ≠ j by omega]
  · subst hj; simp [hb]
  · simp [show ¬ j < i by omega, show ¬ j < i + 1 by omega, show i ≠ j by omega]

/-- One turned bit of a burst. -/
theorem turn_bit (b c : List Nat) (t f i : Nat) (hd : le c = le b ^^^ (2 ^ f * (t % 2 ^ i))) (h : t / 2 ^ i % 2 = 1) (hk : (f + i) / 8 < c.length) :
    le (c.set ((f + i) / 8) (c.getD ((f + i) / 8) 0 ^^^ 2 ^ ((f + i) % 8))) = le b ^^^ (2 ^ f * (t % 2 ^ (i + 1))) := by
  rw [le_set c _ _ hk, hd, mod_step1 t i h, mul_xor, ← Nat.pow_add, ← Nat.pow_add, show 8 * ((f + i) / 8) + (f + i) % 8 = f + i by omega, Nat.xor_assoc]

/-- A burst: of texts of one length whose difference is a number below 2^32 laid at a place within the text, the sums differ. -/
theorem burst (b c : List Nat) (t p : Nat) (hl : c.length = b.length) (hd : le c = le b ^^^ (2 ^ p * t)) (ht : t < 2 ^ 32) (h0 : t ≠ 0) (hp : p ≤ 8 * b.length) :
    more 0 c ≠ more 0 b := by
  intro e
  unfold more at e
  have e1 : raw (ones ^^^ 0) c = raw (ones ^^^ 0) b := by
    have := congrArg (fun x => ones ^^^ x) e
    simpa only [xor_xor_self] using this
  rw [raw_eq, raw_eq, hl, hd, ← Nat.xor_assoc, Hn_xor] at e1
  have e2 : Hn (8 * b.length) (2 ^ p * t) = 0 := by
    have h := congrArg (fun x => Hn (8 * b.length) (ones ^^^ 0 ^^^ le b) ^^^ x) e1
    simpa only [xor_xor_self, Nat.xor_self] using h
  rw [show 8 * b.length = p + (8 * b.length - p) by omega, Hn_add, Hn_shift] at e2
  exact Hn_ne _ ht h0 e2

/-- The table's step. -/
theorem step_tab (r b : Nat) : S (r ^^^ b) = S ((r % 256) ^^^ b) ^^^ (r / 256) := by
  have h : r = (r % 256) ^^^ (256 * (r / 256)) := by
    apply Nat.eq_of_testBit_eq; intro i
    have h1 : r % 256 = r % 2 ^ 8 := rfl
    have h2 : 256 * (r / 256) = (r >>> 8) <<< 8 := by rw [Nat.shiftLeft_eq, Nat.shiftRight_eq_div_pow]; omega
    rw [h1, h2, Nat.testBit_xor, Nat.testBit_mod_two_pow, Nat.testBit_shiftLeft, Nat.testBit_shiftRight]
    by_cases hi : i < 8
    · simp [hi, show ¬ 8 ≤ i by omega]
    · simp [hi, show 8 ≤ i by omega, show 8 + (i - 8) = i by omega]
  have e : r ^^^ b = ((r % 256) ^^^ b) ^^^ (256 * (r / 256)) := by
    conv => lhs; rw [h]
    rw [Nat.xor_assoc, Nat.xor_assoc, Nat.xor_comm b]
  rw [e, S_xor, S_shift]

theorem known : more 0 [49, 50, 51, 52, 53, 54, 55, 56, 57] = 3808858755 := by decide +kernel

end Crc
end Go.Proofs.Ytkchoelegdknoaa
