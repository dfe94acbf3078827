/- Plain arithmetic of the sum's register, over natural numbers: no program is named here. Conditions: none. Records of the log as bytes, plainly: which may be, their form, what bytes that begin with one tell. Conditions: none. Records with few of each. Conditions: none. Slices of open transactions over any world: what reads as a list of them, what an append, a make, a store of them leaves, how those that come in are opened. Conditions: none but the room. Slices of dirty pages over any world: what reads as a list of them, what an append, a make, a store of them leaves, how those that come in are opened. Conditions: none but the room. Records of the log as values: what reads as one, and one of a call's own. Conditions: none. A block of which cells are written one by one while the order floats: what stands in it when some of the stores are done. Conditions: no two of the stores meet one cell. A region whose order floats: what each operation has made stays as it was told, till it is used up. Conditions: what is told is stable under what is made behind it. -/
import Derived.Laws.BitsAllLaws
import Derived.Test.YtafpjcobagofcaaGreatCodePure
import Derived.Test.YtafpjcobagofcaaGreatBase
import Derived.Laws.OwnMore
import Derived.Deep.SlicePairs
import Derived.Lib.SmallJoins
import Derived.IntWalk
import Derived.WideShapes
import Derived.BigQuiet
import Derived.Deep.QuietTactic
import Derived.StillTailTactics
import Derived.Laws.Rows
import Derived.Laws.Tables
namespace Go.Proofs.YtafpjcobagofcaaGreat
namespace Crc

def poly : Nat := 2197175160
/-- One bit of 0 through the register. -/
def H (x : Nat) : Nat := (x / 2) ^^^ (if x % 2 = 1 then poly else 0)
def Hn : Nat → Nat → Nat
  | 0, x => x
  | n + 1, x => Hn n (H x)
def S (x : Nat) : Nat := Hn 8 x
def raw (r : Nat) (l : List Nat) : Nat := l.foldl (fun r b => S (r ^^^ b)) r
def le : List Nat → Nat
  | [] => 0
  | b :: r => b ^^^ (256 * le r)
def ones : Nat := 4294967295
def more (s : Nat) (l : List Nat) : Nat := ones ^^^ raw (ones ^^^ s) l

theorem xor_half (a b : Nat) : (a ^^^ b) / 2 = (a / 2) ^^^ (b / 2) := by
  apply Nat.eq_of_testBit_eq; intro i
  simp [Nat.testBit_div_two]

theorem xor_par (a b : Nat) : (a ^^^ b) % 2 = (a % 2 + b % 2) % 2 := by
  have h : decide ((a ^^^ b) % 2 = 1) = (decide (a % 2 = 1)).xor (decide (b % 2 = 1)) := by
    rw [← Nat.testBit_zero, ← Nat.testBit_zero, ← Nat.testBit_zero]; exact Nat.testBit_xor a b 0
  rcases Nat.mod_two_eq_zero_or_one a with ha | ha <;> rcases Nat.mod_two_eq_zero_or_one b with hb | hb <;>
    rcases Nat.mod_two_eq_zero_or_one (a ^^^ b) with hc | hc <;> simp [ha, hb, hc] at h ⊢

theorem H_xor (a b : Nat) : H (a ^^^ b) = H a ^^^ H b := by
  unfold H
  rw [xor_half, xor_par]
  rcases Nat.mod_two_eq_zero_or_one a with ha | ha <;> rcases Nat.mod_two_eq_zero_or_one b with hb | hb <;> simp [ha, hb]
  · rw [Nat.xor_assoc]
  · rw [Nat.xor_assoc, Nat.xor_assoc, Nat.xor_comm poly (b / 2)]
  · have : a / 2 ^^^ poly ^^^ (b / 2 ^^^ poly) = (a / 2 ^^^ b / 2) ^^^ (poly ^^^ poly) := by
      simp only [Nat.xor_assoc]; congr 1; rw [← Nat.xor_assoc, Nat.xor_comm poly, Nat.xor_assoc]
    rw [this, Nat.xor_self, Nat.xor_zero]

theorem Hn_xor (n a b : Nat) : Hn n (a ^^^ b) = Hn n a ^^^ Hn n b := by
  induction n generalizing a b with
  | zero => rfl
  | succ n ih => simp only [Hn]; rw [H_xor, ih]

theorem Hn_add (m n x : Nat) : Hn (m + n) x = Hn n (Hn m x) := by
  induction m generalizing x with
  | zero => simp [Hn]
  | succ m ih => rw [show m + 1 + n = (m + n) + 1 by omega]; simp only [Hn]; exact ih _

theorem Hn_succ (n x : Nat) : Hn (n + 1) x = H (Hn n x) := Hn_add n 1 x

theorem H_double (x : Nat) : H (2 * x) = x := by
  unfold H
  rw [show 2 * x / 2 = x by omega, if_neg (by omega), Nat.xor_zero]

theorem Hn_shift (n x : Nat) : Hn n (2 ^ n * x) = x := by
  induction n generalizing x with
  | zero => simp [Hn]
  | succ n ih => simp only [Hn]; rw [Nat.pow_succ', Nat.mul_assoc, H_double, ih]

theorem H_zero : H 0 = 0 := H_double 0
theorem Hn_zero (n : Nat) : Hn n 0 = 0 := by simpa using Hn_shift n 0

theorem H_lt {x : Nat} (h : x < 2 ^ 32) : H x < 2 ^ 32 := by
  unfold H
  apply Nat.xor_lt_two_pow
  · omega
  · split
    · decide
    · decide

theorem Hn_lt (n : Nat) {x : Nat} (h : x < 2 ^ 32) : Hn n x < 2 ^ 32 := by
  induction n generalizing x with
  | zero => exact h
  | succ n ih => exact ih (H_lt h)

theorem H_ne {x : Nat} (h : x < 2 ^ 32) (h0 : x ≠ 0) : H x ≠ 0 := by
  intro e
  unfold H at e
  by_cases hp : x % 2 = 1
  · rw [if_pos hp] at e
    have e2 : x / 2 = poly := by
      have := congrArg (fun z => z ^^^ poly) e
      simpa [Nat.xor_assoc] using this
    unfold poly at e2
    omega
  · rw [if_neg hp, Nat.xor_zero] at e
    omega

theorem Hn_ne (n : Nat) {x : Nat} (h : x < 2 ^ 32) (h0 : x ≠ 0) : Hn n x ≠ 0 := by
  induction n generalizing x with
  | zero => exact h0
  | succ n ih => exact ih (H_lt h) (H_ne h h0)

theorem S_lt {x : Nat} (h : x < 2 ^ 32) : S x < 2 ^ 32 := Hn_lt 8 h
theorem S_xor (a b : Nat) : S (a ^^^ b) = S a ^^^ S b := Hn_xor 8 a b
theorem S_shift (x : Nat) : S (256 * x) = x := Hn_shift 8 x

theorem raw_nil (r : Nat) : raw r [] = r := rfl
theorem raw_cons (r b : Nat) (l : List Nat) : raw r (b :: l) = raw (S (r ^^^ b)) l := rfl
theorem raw_append (r : Nat) (a b : List Nat) : raw r (a ++ b) = raw (raw r a) b := List.foldl_append
theorem raw_snoc (r : Nat) (a : List Nat) (b : Nat) : raw r (a ++ [b]) = S (raw r a ^^^ b) := by rw [raw_append]; rfl

theorem raw_eq (r : Nat) (l : List Nat) : raw r l = Hn (8 * l.length) (r ^^^ le l) := by
  induction l generalizing r with
  | nil => simp [raw, le, Hn]
  | cons b l ih =>
    rw [raw_cons, ih, List.length_cons, show 8 * (l.length + 1) = 8 + 8 * l.length by omega, Hn_add]
    congr 1
    show S (r ^^^ b) ^^^ le l = S (r ^^^ (b ^^^ (256 * le l)))
    rw [← Nat.xor_assoc, S_xor (r ^^^ b), S_shift]

theorem raw_lt {r : Nat} (h : r < 2 ^ 32) : ∀ {l : List Nat}, (∀ b ∈ l, b < 256) → raw r l < 2 ^ 32 := by
  intro l
  induction l generalizing r with
  | nil => intro _; exact h
  | cons b l ih =>
    intro hb
    rw [raw_cons]
    refine ih (S_lt (Nat.xor_lt_two_pow h ?_)) (fun x hx => hb x (by simp [hx]))
    have := hb b (by simp)
    omega

theorem more_lt {s : Nat} (h : s < 2 ^ 32) {l : List Nat} (hl : ∀ b ∈ l, b < 256) : more s l < 2 ^ 32 :=
  Nat.xor_lt_two_pow (by decide) (raw_lt (Nat.xor_lt_two_pow (by decide) h) hl)

theorem xor_xor_self (a b : Nat) : a ^^^ (a ^^^ b) = b := by rw [← Nat.xor_assoc, Nat.xor_self, Nat.zero_xor]

theorem more_append (s : Nat) (a b : List Nat) : more (more s a) b = more s (a ++ b) := by
  unfold more
  rw [xor_xor_self, raw_append]

/-- Joining: the register of a sum, taken through as many bytes of 0, and the other sum. -/
theorem join (a b : List Nat) : Hn (8 * b.length) (more 0 a) ^^^ more 0 b = more 0 (a ++ b) := by
  unfold more
  rw [Nat.xor_zero, raw_append, raw_eq ones b, raw_eq (raw ones a) b, Hn_xor, Hn_xor, Hn_xor]
  generalize Hn (8 * b.length) ones = x
  generalize Hn (8 * b.length) (le b) = y
  generalize Hn (8 * b.length) (raw ones a) = z
  apply Nat.eq_of_testBit_eq; intro i
  simp only [Nat.testBit_xor]
  cases x.testBit i <;> cases y.testBit i <;> cases z.testBit i <;> cases ones.testBit i <;> rfl

theorem le_xor3 : ∀ (a b c : List Nat), a.length = b.length → b.length = c.length →
    le (List.zipWith (· ^^^ ·) (List.zipWith (· ^^^ ·) a b) c) = le a ^^^ le b ^^^ le c := by
  have dist : ∀ x y : Nat, 256 * (x ^^^ y) = (256 * x) ^^^ (256 * y) := by
    intro x y
    have h : ∀ z : Nat, 256 * z = z <<< 8 := fun z => by rw [Nat.shiftLeft_eq]; omega
    rw [h, h, h, Nat.shiftLeft_xor_distrib]
  intro a
  induction a with
  | nil => intro b c hb hc; cases b <;> simp_all <;> cases c <;> simp_all [le]
  | cons x a ih =>
    intro b c hb hc
    match b, c, hb, hc with
    | y :: b, z :: c, hb, hc =>
      simp only [List.length_cons, Nat.add_right_cancel_iff] at hb hc
      simp only [List.zipWith_cons_cons, le, ih b c hb hc, dist]
      generalize 256 * le a = A; generalize 256 * le b = B; generalize 256 * le c = C
      apply Nat.eq_of_testBit_eq; intro i
      simp only [Nat.testBit_xor]
      cases x.testBit i <;> cases y.testBit i <;> cases z.testBit i <;> cases A.testBit i <;> cases B.testBit i <;> cases C.testBit i <;> rfl

theorem three (a b c : List Nat) (h1 : a.length = b.length) (h2 : b.length = c.length) :
    more 0 (List.zipWith (· ^^^ ·) (List.zipWith (· ^^^ ·) a b) c) = more 0 a ^^^ more 0 b ^^^ more 0 c := by
  unfold more
  rw [raw_eq, raw_eq, raw_eq, raw_eq, le_xor3 a b c h1 h2]
  have hl : (List.zipWith (· ^^^ ·) (List.zipWith (· ^^^ ·) a b) c).length = a.length := by simp; omega
  rw [hl, ← h1, ← (h1.trans h2)]
  simp only [Hn_xor, Nat.xor_zero]
  generalize Hn (8 * a.length) ones = x
  generalize Hn (8 * a.length) (le a) = A
  generalize Hn (8 * a.length) (le b) = B
  generalize Hn (8 * a.length) (le c) = C
  apply Nat.eq_of_testBit_eq; intro i
  simp only [Nat.testBit_xor]
  cases x.testBit i <;> cases A.testBit i <;> cases B.testBit i <;> cases C.testBit i <;> cases ones.testBit i <;> rfl

theorem le_set : ∀ (l : List Nat) (i : Nat) (x : Nat), i < l.length → le (l.set i (l.getD i 0 ^^^ x)) = le l ^^^ (2 ^ (8 * i) * x) := by
  intro l
  induction l with
  | nil => intro i x h; simp at h
  | cons b l ih =>
    intro i x h
    cases i with
    | zero =>
      simp only [List.set_cons_zero, le, List.getD_cons_zero, Nat.mul_zero, Nat.pow_zero, Nat.one_mul]
      rw [Nat.xor_assoc, Nat.xor_comm x, Nat.xor_assoc]
    | succ i =>
      simp only [List.set_cons_succ, le, List.getD_cons_succ]
      rw [ih i x (by simpa using h)]
      have dist : ∀ x y : Nat, 256 * (x ^^^ y) = (256 * x) ^^^ (256 * y) := by
        intro x y
        have h : ∀ z : Nat, 256 * z = z <<< 8 := fun z => by rw [Nat.shiftLeft_eq]; omega
        rw [h, h, h, Nat.shiftLeft_xor_distrib]
      rw [dist, ← Nat.xor_assoc, show 8 * (i + 1) = 8 + 8 * i by omega, Nat.pow_add, Nat.mul_assoc]

theorem mul_xor (p x y : Nat) : 2 ^ p * (x ^^^ y) = (2 ^ p * x) ^^^ (2 ^ p * y) := by
  have h : ∀ z : Nat, 2 ^ p * z = z <<< p := fun z => by rw [Nat.shiftLeft_eq, Nat.mul_comm]
  rw [h, h, h, Nat.shiftLeft_xor_distrib]

theorem mod_step0 (t i : Nat) (h : ¬ t / 2 ^ i % 2 = 1) : t % 2 ^ (i + 1) = t % 2 ^ i := by
  have h0 : t / 2 ^ i % 2 = 0 := by omega
  rw [Nat.pow_succ, Nat.mod_mul, h0, Nat.mul_zero, Nat.add_zero]

theorem mod_step1 (t i : Nat) (h : t / 2 ^ i % 2 = 1) : t % 2 ^ (i + 1) = (t % 2 ^ i) ^^^ 2 ^ i := by
  have hb : t.testBit i = true := by rw [Nat.testBit_eq_decide_div_mod_eq, h]; rfl
  apply Nat.eq_of_testBit_eq; intro j
  rw [Nat.testBit_xor, Nat.testBit_mod_two_pow, Nat.testBit_mod_two_pow, Nat.testBit_two_pow]
  rcases Nat.lt_trichotomy j i with hj | hj | hj
  · simp [hj, show j < i + 1 by omega, show i ≠ j by omega]
  · subst hj; simp [hb]
  · simp [show ¬ j < i by omega, show ¬ j < i + 1 by omega, show i ≠ j by omega]

/-- One turned bit of a burst. -/
theorem turn_bit (b c : List Nat) (t f i : Nat) (hd : le c = le b ^^^ (2 ^ f * (t % 2 ^ i))) (h : t / 2 ^ i % 2 = 1) (hk : (f + i) / 8 < c.length) :
    le (c.set ((f + i) / 8) (c.getD ((f + i) / 8) 0 ^^^ 2 ^ ((f + i) % 8))) = le b ^^^ (2 ^ f * (t % 2 ^ (i + 1))) := by
  rw [le_set c _ _ hk, hd, mod_step1 t i h, mul_xor, ← Nat.pow_add, ← Nat.pow_add, show 8 * ((f + i) / 8) + (f + i) % 8 = f + i by omega, Nat.xor_assoc]

/-- A burst: of texts of one length whose difference is a number below 2^32 laid at a place within the text, the sums differ. -/
theorem burst (b c : List Nat) (t p : Nat) (hl : c.length = b.length) (hd : le c = le b ^^^ (2 ^ p * t)) (ht : t < 2 ^ 32) (h0 : t ≠ 0) (hp : p ≤ 8 * b.length) :
    more 0 c ≠ more 0 b := by
  intro e
  unfold more at e
  have e1 : raw (ones ^^^ 0) c = raw (ones ^^^ 0) b := by
    have := congrArg (fun x => ones ^^^ x) e
    simpa only [xor_xor_self] using this
  rw [raw_eq, raw_eq, hl, hd, ← Nat.xor_assoc, Hn_xor] at e1
  have e2 : Hn (8 * b.length) (2 ^ p * t) = 0 := by
    have h := congrArg (fun x => Hn (8 * b.length) (ones ^^^ 0 ^^^ le b) ^^^ x) e1
    simpa only [xor_xor_self, Nat.xor_self] using h
  rw [show 8 * b.length = p + (8 * b.length - p) by omega, Hn_add, Hn_shift] at e2
  exact Hn_ne _ ht h0 e2

/-- The table's step. -/
theorem step_tab (r b : Nat) : S (r ^^^ b) = S ((r % 256) ^^^ b) ^^^ (r / 256) := by
  have h : r = (r % 256) ^^^ (256 * (r / 256)) := by
    apply Nat.eq_of_testBit_eq; intro i
    have h1 : r % 256 = r % 2 ^ 8 := rfl
    have h2 : 256 * (r / 256) = (r >>> 8) <<< 8 := by rw [Nat.shiftLeft_eq, Nat.shiftRight_eq_div_pow]; omega
    rw [h1, h2, Nat.testBit_xor, Nat.testBit_mod_two_pow, Nat.testBit_shiftLeft, Nat.testBit_shiftRight]
    by_cases hi : i < 8
    · simp [hi, show ¬ 8 ≤ i by omega]
    · simp [hi, show 8 ≤ i by omega, show 8 + (i - 8) = i by omega]
  have e : r ^^^ b = ((r % 256) ^^^ b) ^^^ (256 * (r / 256)) := by
    conv => lhs; rw [h]
    rw [Nat.xor_assoc, Nat.xor_assoc, Nat.xor_comm b]
  rw [e, S_xor, S_shift]

theorem known : more 0 [49, 50, 51, 52, 53, 54, 55, 56, 57] = 3808858755 := by decide +kernel

end Crc
end Go.Proofs.YtafpjcobagofcaaGreat

namespace Go.Proofs.YtafpjcobagofcaaGreat.Lr
open Go.Proofs.YtafpjcobagofcaaGreat.Cod

theorem two32 : (2 : Nat) ^ 32 = 4294967296 := by decide
abbrev Ch := Nat × Nat × Nat
abbrev Di := Nat × Nat
structure R where
  kind : Int
  lsn : Nat
  epoch : Nat
  txn : Nat
  page : Nat
  off : Nat
  old : List Nat
  new : List Nat
  undo : List Nat
  prev : Nat
  next : Nat
  clr : Bool
  stamp : Nat
  opn : List Ch
  dirt : List Di
def zero : R := ⟨0, 0, 0, 0, 0, 0, [], [], [], 0, 0, false, 0, [], []⟩
/-- What its kind has, alone. -/
def bare (x : R) : R :=
  if x.kind = 1 then ⟨x.kind, x.lsn, x.epoch, 0, x.page, x.off, x.old, x.new, [], 0, 0, false, 0, [], []⟩
  else if x.kind = 2 then ⟨x.kind, x.lsn, x.epoch, x.txn, 0, 0, [], [], x.undo, x.prev, x.next, x.clr, 0, [], []⟩
  else if x.kind = 3 then ⟨x.kind, x.lsn, x.epoch, x.txn, 0, 0, [], [], [], 0, 0, false, x.stamp, [], []⟩
  else if x.kind = 4 then ⟨x.kind, x.lsn, x.epoch, x.txn, 0, 0, [], [], [], 0, 0, false, 0, [], []⟩
  else if x.kind = 5 then ⟨x.kind, x.lsn, x.epoch, 0, 0, 0, [], [], [], 0, 0, false, 0, x.opn, x.dirt⟩
  else ⟨x.kind, x.lsn, x.epoch, 0, 0, 0, [], [], [], 0, 0, false, 0, [], []⟩
def Within (x : R) : Prop :=
  (x.kind = 1 ∧ x.old.length = x.new.length ∧ 1 ≤ x.new.length ∧ x.off + x.new.length ≤ 500) ∨
  (x.kind = 2 ∧ (x.clr = true → x.undo.length = 0) ∧ (x.clr = false → x.undo.length ≤ 64 ∧ x.next = 0)) ∨
  (x.kind = 3 ∧ x.txn ≠ 0) ∨ (x.kind = 4 ∧ x.txn ≠ 0) ∨ (x.kind = 5 ∧ x.opn.length ≤ 16 ∧ x.dirt.length ≤ 64)
def May (x : R) : Prop := Within x ∧ x = bare x
structure Ok (x : R) : Prop where
  kind : -9223372036854775808 ≤ x.kind ∧ x.kind < 9223372036854775808
  lsn : x.lsn < 18446744073709551616
  epoch : x.epoch < 4294967296
  txn : x.txn < 18446744073709551616
  page : x.page < 4294967296
  off : x.off < 65536
  old : ∀ b ∈ x.old, b < 256
  new : ∀ b ∈ x.new, b < 256
  undo : ∀ b ∈ x.undo, b < 256
  prev : x.prev < 18446744073709551616
  next : x.next < 18446744073709551616
  stamp : x.stamp < 18446744073709551616
  opn : ∀ c ∈ x.opn, c.1 < 18446744073709551616 ∧ c.2.1 < 18446744073709551616 ∧ c.2.2 < 18446744073709551616
  dirt : ∀ d ∈ x.dirt, d.1 < 4294967296 ∧ d.2 < 18446744073709551616
def text (s : List Nat) : List Nat := uv s.length ++ s
def chB (c : Ch) : List Nat := le 8 c.1 ++ (le 8 c.2.1 ++ le 8 c.2.2)
def diB (d : Di) : List Nat := le 4 d.1 ++ le 8 d.2
def chs (l : List Ch) : List Nat := l.flatMap chB
def dis (l : List Di) : List Nat := l.flatMap diB
def clrB (b : Bool) : Nat := if b then 1 else 0
/-- What its kind has, as bytes. -/
def own (x : R) : List Nat :=
  if x.kind = 1 then le 4 x.page ++ (le 2 x.off ++ (text x.old ++ text x.new))
  else if x.kind = 2 then le 8 x.txn ++ (le 8 x.prev ++ (le 8 x.next ++ (clrB x.clr :: text x.undo)))
  else if x.kind = 3 then le 8 x.txn ++ le 8 x.stamp
  else if x.kind = 4 then le 8 x.txn
  else if x.kind = 5 then (uv x.opn.length ++ chs x.opn) ++ (uv x.dirt.length ++ dis x.dirt)
  else []
def body (x : R) : List Nat := le 8 x.lsn ++ (le 4 x.epoch ++ (x.kind.toNat :: own x))
def rest (x : R) : List Nat := le 2 (19 + (own x).length) ++ body x
def form (x : R) : List Nat := le 4 (Crc.more 0 (rest x)) ++ rest x

theorem chs_length : ∀ l : List Ch, (chs l).length = 24 * l.length
  | [] => rfl
  | c :: l => by
    have := chs_length l
    unfold chs at *
    rw [List.flatMap_cons, List.length_append, this, List.length_cons]
    unfold chB
    rw [List.length_append, List.length_append, le_length, le_length, le_length]
    omega
theorem dis_length : ∀ l : List Di, (dis l).length = 12 * l.length
  | [] => rfl
  | c :: l => by
    have := dis_length l
    unfold dis at *
    rw [List.flatMap_cons, List.length_append, this, List.length_cons]
    unfold diB
    rw [List.length_append, le_length, le_length]
    omega
theorem text_length (s : List Nat) (h : s.length ≤ 500) : (text s).length ≤ 510 := by
  have := uv_ten (n := s.length) (by omega)
  unfold text
  rw [List.length_append]; omega
theorem body_length (x : R) : (body x).length = 13 + (own x).length := by
  unfold body
  rw [List.length_append, List.length_append, le_length, le_length, List.length_cons]; omega
theorem rest_length (x : R) : (rest x).length = 15 + (own x).length := by
  unfold rest
  rw [List.length_append, le_length, body_length]; omega
theorem form_length (x : R) : (form x).length = 19 + (own x).length := by
  unfold form
  rw [List.length_append, le_length, rest_length]; omega
theorem own_length {x : R} (h : Within x) : (own x).length ≤ 1200 := by
  unfold own
  rcases h with ⟨hk, h1, h2, h3⟩ | ⟨hk, h1, h2⟩ | ⟨hk, h1⟩ | ⟨hk, h1⟩ | ⟨hk, h1, h2⟩
  · rw [if_pos hk]
    have a := text_length x.old (by omega)
    have b := text_length x.new (by omega)
    simp only [List.length_append, le_length]; omega
  · rw [if_neg (by omega), if_pos hk]
    have hu : x.undo.length ≤ 64 := by
      cases hc : x.clr
      · exact (h2 hc).1
      · have := h1 hc; omega
    have a := text_length x.undo (by omega)
    simp only [List.length_append, le_length, List.length_cons]; omega
  · rw [if_neg (by omega), if_neg (by omega), if_pos hk]
    simp only [List.length_append, le_length]; omega
  · rw [if_neg (by omega), if_neg (by omega), if_neg (by omega), if_pos hk]
    simp only [le_length]; omega
  · rw [if_neg (by omega), if_neg (by omega), if_neg (by omega), if_neg (by omega), if_pos hk]
    have a := uv_ten (n := x.opn.length) (by omega)
    have b := uv_ten (n := x.dirt.length) (by omega)
    simp only [List.length_append, chs_length, dis_length]; omega
theorem form_most {x : R} (h : Within x) : (form x).length ≤ 1600 := by
  have := own_length h
  rw [form_length]; omega

theorem chs_lt (l : List Ch) : ∀ x ∈ chs l, x < 256 := by
  intro x hx
  obtain ⟨c, -, hc⟩ := List.mem_flatMap.1 hx
  unfold chB at hc
  rcases List.mem_append.1 hc with h | h
  · exact le_lt _ _ x h
  · rcases List.mem_append.1 h with h | h
    · exact le_lt _ _ x h
    · exact le_lt _ _ x h
theorem dis_lt (l : List Di) : ∀ x ∈ dis l, x < 256 := by
  intro x hx
  obtain ⟨c, -, hc⟩ := List.mem_flatMap.1 hx
  unfold diB at hc
  rcases List.mem_append.1 hc with h | h
  · exact le_lt _ _ x h
  · exact le_lt _ _ x h
theorem text_lt {s : List Nat} (h : ∀ x ∈ s, x < 256) : ∀ x ∈ text s, x < 256 := by
  intro x hx
  rcases List.mem_append.1 hx with hx | hx
  · exact uv_lt _ x hx
  · exact h x hx
theorem clrB_lt (b : Bool) : clrB b < 256 := by cases b <;> decide
theorem app_lt {a b : List Nat} (ha : ∀ x ∈ a, x < 256) (hb : ∀ x ∈ b, x < 256) : ∀ x ∈ a ++ b, x < 256 := by
  intro x hx
  rcases List.mem_append.1 hx with hx | hx
  · exact ha x hx
  · exact hb x hx
theorem cons_lt {a : Nat} {b : List Nat} (ha : a < 256) (hb : ∀ x ∈ b, x < 256) : ∀ x ∈ a :: b, x < 256 := by
  intro x hx
  rcases List.mem_cons.1 hx with rfl | hx
  · exact ha
  · exact hb x hx
theorem own_lt {x : R} (h : Ok x) : ∀ b ∈ own x, b < 256 := by
  unfold own
  split
  · exact app_lt (le_lt _ _) (app_lt (le_lt _ _) (app_lt (text_lt h.old) (text_lt h.new)))
  split
  · exact app_lt (le_lt _ _) (app_lt (le_lt _ _) (app_lt (le_lt _ _) (cons_lt (clrB_lt _) (text_lt h.undo))))
  split
  · exact app_lt (le_lt _ _) (le_lt _ _)
  split
  · exact le_lt _ _
  split
  · exact app_lt (app_lt (uv_lt _) (chs_lt _)) (app_lt (uv_lt _) (dis_lt _))
  · simp
theorem kind_lt {x : R} (h : Within x) : 1 ≤ x.kind ∧ x.kind ≤ 5 := by
  rcases h with ⟨hk, h1, h2, h3⟩ | ⟨hk, h1, h2⟩ | ⟨hk, h1⟩ | ⟨hk, h1⟩ | ⟨hk, h1, h2⟩ <;> omega
theorem rest_lt {x : R} (h : Ok x) (hw : Within x) : ∀ b ∈ rest x, b < 256 := by
  have := kind_lt hw
  exact app_lt (le_lt _ _) (app_lt (le_lt _ _) (app_lt (le_lt _ _) (cons_lt (by omega) (own_lt h))))
theorem form_lt {x : R} (h : Ok x) (hw : Within x) : ∀ b ∈ form x, b < 256 := app_lt (le_lt _ _) (rest_lt h hw)
theorem sum_lt {l : List Nat} (h : ∀ x ∈ l, x < 256) : Crc.more 0 l < 4294967296 := by
  have := Crc.more_lt (s := 0) (by decide) h
  rwa [two32] at this

/-- Bytes that begin with the form of a record that may be. -/
def Is (b : List Nat) (y : R) : Prop := May y ∧ Ok y ∧ ∃ t, b = form y ++ t

theorem rd_fixed (k m : Nat) (t : List Nat) : rdNum k (le k m ++ t) 0 = (m % 256 ^ k, t, 0) := by
  unfold rdNum
  have h : ((le k m ++ t).take k) = le k m := List.take_left' (le_length k m)
  have h2 : ((le k m ++ t).drop k) = t := List.drop_left' (le_length k m)
  rw [if_neg (by decide), if_neg (by rw [List.length_append, le_length]; omega), h, h2, num_le]
theorem rd_uv {n : Nat} (h : n < 18446744073709551616) (t : List Nat) : rdUv (uv n ++ t) 0 = (n, t, 0) := by
  unfold rdUv
  rw [if_neg (by decide), cnt_of_uv t h]
  have := uv_pos n
  simp only
  rw [if_neg (by omega), List.drop_left' rfl]
theorem rd_text {s : List Nat} (m : Int) (h : (s.length : Int) ≤ m) (h2 : s.length < 18446744073709551616) (t : List Nat) : rdText m (text s ++ t) 0 = (s, t, 0) := by
  unfold rdText text
  rw [if_neg (by decide), List.append_assoc, cnt_of_uv _ h2]
  have := uv_pos s.length
  simp only
  rw [if_neg (by omega), if_neg (by omega), if_neg (by simp only [List.length_append]; omega), List.drop_left' rfl, List.take_left' rfl, List.drop_left' rfl]

/-- So many open transactions, one behind the other. -/
def rdChs : Nat → List Nat → Nat → List Ch × List Nat × Nat
  | 0, l, e => ([], l, e)
  | n + 1, l, e => ((rdChs n l e).1 ++ [((rdNum 8 (rdChs n l e).2.1 (rdChs n l e).2.2).1, (rdNum 8 (rdNum 8 (rdChs n l e).2.1 (rdChs n l e).2.2).2.1 (rdNum 8 (rdChs n l e).2.1 (rdChs n l e).2.2).2.2).1, (rdNum 8 (rdNum 8 (rdNum 8 (rdChs n l e).2.1 (rdChs n l e).2.2).2.1 (rdNum 8 (rdChs n l e).2.1 (rdChs n l e).2.2).2.2).2.1 (rdNum 8 (rdNum 8 (rdChs n l e).2.1 (rdChs n l e).2.2).2.1 (rdNum 8 (rdChs n l e).2.1 (rdChs n l e).2.2).2.2).2.2).1)], (rdNum 8 (rdNum 8 (rdNum 8 (rdChs n l e).2.1 (rdChs n l e).2.2).2.1 (rdNum 8 (rdChs n l e).2.1 (rdChs n l e).2.2).2.2).2.1 (rdNum 8 (rdNum 8 (rdChs n l e).2.1 (rdChs n l e).2.2).2.1 (rdNum 8 (rdChs n l e).2.1 (rdChs n l e).2.2).2.2).2.2).2)
def rdDis : Nat → List Nat → Nat → List Di × List Nat × Nat
  | 0, l, e => ([], l, e)
  | n + 1, l, e => ((rdDis n l e).1 ++ [((rdNum 4 (rdDis n l e).2.1 (rdDis n l e).2.2).1, (rdNum 8 (rdNum 4 (rdDis n l e).2.1 (rdDis n l e).2.2).2.1 (rdNum 4 (rdDis n l e).2.1 (rdDis n l e).2.2).2.2).1)], (rdNum 8 (rdNum 4 (rdDis n l e).2.1 (rdDis n l e).2.2).2.1 (rdNum 4 (rdDis n l e).2.1 (rdDis n l e).2.2).2.2).2)
theorem rdChs_succ {n : Nat} {l : List Nat} {e : Nat} {p : List Ch} {l0 l1 l2 l3 : List Nat} {e0 e1 e2 e3 a b c : Nat} (h0 : rdChs n l e = (p, l0, e0)) (h1 : rdNum 8 l0 e0 = (a, l1, e1)) (h2 : rdNum 8 l1 e1 = (b, l2, e2)) (h3 : rdNum 8 l2 e2 = (c, l3, e3)) : rdChs (n + 1) l e = (p ++ [(a, b, c)], l3, e3) := by
  rw [rdChs, h0]
  simp only
  rw [h1]
  simp only
  rw [h2]
  simp only
  rw [h3]
theorem rdDis_succ {n : Nat} {l : List Nat} {e : Nat} {p : List Di} {l0 l1 l2 : List Nat} {e0 e1 e2 a b : Nat} (h0 : rdDis n l e = (p, l0, e0)) (h1 : rdNum 4 l0 e0 = (a, l1, e1)) (h2 : rdNum 8 l1 e1 = (b, l2, e2)) : rdDis (n + 1) l e = (p ++ [(a, b)], l2, e2) := by
  rw [rdDis, h0]
  simp only
  rw [h1]
  simp only
  rw [h2]
theorem rdChs_length : ∀ (n : Nat) (l : List Nat) (e : Nat), (rdChs n l e).1.length = n
  | 0, _, _ => rfl
  | n + 1, l, e => by rw [rdChs]; simp [rdChs_length n l e]
theorem rdDis_length : ∀ (n : Nat) (l : List Nat) (e : Nat), (rdDis n l e).1.length = n
  | 0, _, _ => rfl
  | n + 1, l, e => by rw [rdDis]; simp [rdDis_length n l e]
theorem rd_eight {m : Nat} (h : m < 18446744073709551616) (t : List Nat) : rdNum 8 (le 8 m ++ t) 0 = (m, t, 0) := by
  rw [rd_fixed, Nat.mod_eq_of_lt (Nat.lt_of_lt_of_le h (by decide))]
theorem rd_four {m : Nat} (h : m < 4294967296) (t : List Nat) : rdNum 4 (le 4 m ++ t) 0 = (m, t, 0) := by
  rw [rd_fixed, Nat.mod_eq_of_lt (Nat.lt_of_lt_of_le h (by decide))]
theorem rd_two {m : Nat} (h : m < 65536) (t : List Nat) : rdNum 2 (le 2 m ++ t) 0 = (m, t, 0) := by
  rw [rd_fixed, Nat.mod_eq_of_lt (Nat.lt_of_lt_of_le h (by decide))]
theorem rd_one {m : Nat} (h : m < 256) (t : List Nat) : rdNum 1 (m :: t) 0 = (m, t, 0) := by
  have := rd_fixed 1 m t
  have e : le 1 m = [m] := by simp [le, Nat.mod_eq_of_lt h]
  rw [e, Nat.pow_one, Nat.mod_eq_of_lt h] at this
  exact this

theorem rd_chs (L : List Ch) (t : List Nat) (h : ∀ c ∈ L, c.1 < 18446744073709551616 ∧ c.2.1 < 18446744073709551616 ∧ c.2.2 < 18446744073709551616) : ∀ n, n ≤ L.length → rdChs n (chs L ++ t) 0 = (L.take n, chs (L.drop n) ++ t, 0)
  | 0, _ => by simp [rdChs]
  | n + 1, hn => by
    have ih := rd_chs L t h n (by omega)
    obtain ⟨c, hc⟩ : ∃ c, L[n]? = some c := ⟨L[n], List.getElem?_eq_getElem (by omega)⟩
    have hm := h c (List.mem_of_getElem? hc)
    have hlt : n < L.length := by omega
    have hd : L.drop n = c :: L.drop (n + 1) := by
      rw [List.drop_eq_getElem_cons hlt]
      rw [List.getElem?_eq_getElem hlt] at hc
      rw [Option.some.inj hc]
    have ht : L.take (n + 1) = L.take n ++ [c] := by
      rw [List.take_succ_eq_append_getElem hlt]
      rw [List.getElem?_eq_getElem hlt] at hc
      rw [Option.some.inj hc]
    have e : chs (c :: L.drop (n + 1)) ++ t = le 8 c.1 ++ (le 8 c.2.1 ++ (le 8 c.2.2 ++ (chs (L.drop (n + 1)) ++ t))) := by
      unfold chs
      rw [List.flatMap_cons]
      unfold chB
      simp only [List.append_assoc]
    rw [hd, e] at ih
    rw [rdChs_succ ih (rd_eight hm.1 _) (rd_eight hm.2.1 _) (rd_eight hm.2.2 _), ht]
theorem rd_dis (L : List Di) (t : List Nat) (h : ∀ c ∈ L, c.1 < 4294967296 ∧ c.2 < 18446744073709551616) : ∀ n, n ≤ L.length → rdDis n (dis L ++ t) 0 = (L.take n, dis (L.drop n) ++ t, 0)
  | 0, _ => by simp [rdDis]
  | n + 1, hn => by
    have ih := rd_dis L t h n (by omega)
    obtain ⟨c, hc⟩ : ∃ c, L[n]? = some c := ⟨L[n], List.getElem?_eq_getElem (by omega)⟩
    have hm := h c (List.mem_of_getElem? hc)
    have hlt : n < L.length := by omega
    have hd : L.drop n = c :: L.drop (n + 1) := by
      rw [List.drop_eq_getElem_cons hlt]
      rw [List.getElem?_eq_getElem hlt] at hc
      rw [Option.some.inj hc]
    have ht : L.take (n + 1) = L.take n ++ [c] := by
      rw [List.take_succ_eq_append_getElem hlt]
      rw [List.getElem?_eq_getElem hlt] at hc
      rw [Option.some.inj hc]
    have e : dis (c :: L.drop (n + 1)) ++ t = le 4 c.1 ++ (le 8 c.2 ++ (dis (L.drop (n + 1)) ++ t)) := by
      unfold dis
      rw [List.flatMap_cons]
      unfold diB
      simp only [List.append_assoc]
    rw [hd, e] at ih
    rw [rdDis_succ ih (rd_four hm.1 _) (rd_eight hm.2 _), ht]

/-- What the beginning of bytes tells, where they begin with a form. -/
def Head (b : List Nat) (lsn ep k : Nat) (l : List Nat) (e : Nat) : Prop := ∀ y, May y → Ok y → ∀ t, b = form y ++ t → lsn = y.lsn ∧ ep = y.epoch ∧ (k : Int) = y.kind ∧ l = own y ++ t ∧ e = 0
/-- What all of it tells. -/
def Took (b : List Nat) (x : R) (e : Nat) : Prop := ∀ y, Is b y → x = y ∧ e = 0

theorem head_of {b : List Nat} {n0 n1 n2 n3 n4 e0 e1 e2 e3 e4 : Nat} {l0 l1 l2 l3 l4 : List Nat} (h0 : rdNum 4 b 0 = (n0, l0, e0)) (h1 : rdNum 2 l0 e0 = (n1, l1, e1)) (h2 : rdNum 8 l1 e1 = (n2, l2, e2)) (h3 : rdNum 4 l2 e2 = (n3, l3, e3)) (h4 : rdNum 1 l3 e3 = (n4, l4, e4)) : Head b n2 n3 n4 l4 e4 := by
  intro y hM hO t hb
  have hk := kind_lt hM.1
  have hl := own_length hM.1
  have e : b = le 4 (Crc.more 0 (rest y)) ++ (le 2 (19 + (own y).length) ++ (le 8 y.lsn ++ (le 4 y.epoch ++ (y.kind.toNat :: (own y ++ t))))) := by
    rw [hb]; unfold form
    conv => lhs; rw [List.append_assoc]; rhs; unfold rest body
    simp only [List.append_assoc, List.cons_append]
  rw [e, rd_four (sum_lt (rest_lt hO hM.1))] at h0
  obtain ⟨rfl, rfl, rfl⟩ := h0
  rw [rd_two (by omega)] at h1
  obtain ⟨rfl, rfl, rfl⟩ := h1
  rw [rd_eight hO.lsn] at h2
  obtain ⟨rfl, rfl, rfl⟩ := h2
  rw [rd_four hO.epoch] at h3
  obtain ⟨rfl, rfl, rfl⟩ := h3
  rw [rd_one (by omega)] at h4
  obtain ⟨rfl, rfl, rfl⟩ := h4
  exact ⟨rfl, rfl, by omega, rfl, rfl⟩

theorem mk_eq {x y : R} (h1 : x.kind = y.kind) (h2 : x.lsn = y.lsn) (h3 : x.epoch = y.epoch) (h4 : x.txn = y.txn) (h5 : x.page = y.page) (h6 : x.off = y.off) (h7 : x.old = y.old) (h8 : x.new = y.new) (h9 : x.undo = y.undo) (h10 : x.prev = y.prev) (h11 : x.next = y.next) (h12 : x.clr = y.clr) (h13 : x.stamp = y.stamp) (h14 : x.opn = y.opn) (h15 : x.dirt = y.dirt) : x = y := by
  cases x; cases y; simp only at *; subst_vars; rfl

theorem took_write {b l l1 l2 l3 l4 o n : List Nat} {lsn ep e p f e1 e2 e3 e4 : Nat} (hH : Head b lsn ep 1 l e) (h1 : rdNum 4 l e = (p, l1, e1)) (h2 : rdNum 2 l1 e1 = (f, l2, e2)) (h3 : rdText 500 l2 e2 = (o, l3, e3)) (h4 : rdText 500 l3 e3 = (n, l4, e4)) :
    Took b ⟨1, lsn, ep, 0, p, f, o, n, [], 0, 0, false, 0, [], []⟩ e4 := by
  intro y ⟨hM, hO, t, hb⟩
  obtain ⟨rfl, rfl, hk, rfl, rfl⟩ := hH y hM hO t hb
  have hk : y.kind = 1 := by omega
  have hB := hM.2
  unfold bare at hB
  rw [if_pos hk] at hB
  have hw : y.old.length = y.new.length ∧ y.new.length ≤ 500 := by
    rcases hM.1 with ⟨_, h1, h2, h3⟩ | ⟨hk2, _⟩ | ⟨hk2, _⟩ | ⟨hk2, _⟩ | ⟨hk2, _⟩
    · exact ⟨h1, by omega⟩
    all_goals omega
  unfold own at h1
  rw [if_pos hk, List.append_assoc, rd_four hO.page] at h1
  obtain ⟨rfl, rfl, rfl⟩ := h1
  rw [List.append_assoc, rd_two hO.off] at h2
  obtain ⟨rfl, rfl, rfl⟩ := h2
  rw [List.append_assoc, rd_text 500 (by omega) (by omega)] at h3
  obtain ⟨rfl, rfl, rfl⟩ := h3
  rw [rd_text 500 (by omega) (by omega)] at h4
  obtain ⟨rfl, rfl, rfl⟩ := h4
  refine ⟨?_, rfl⟩
  rw [hk] at hB
  exact hB.symm
theorem took_end {b l l1 l2 l3 l4 l5 u : List Nat} {lsn ep e a p n c e1 e2 e3 e4 e5 : Nat} (hH : Head b lsn ep 2 l e) (h1 : rdNum 8 l e = (a, l1, e1)) (h2 : rdNum 8 l1 e1 = (p, l2, e2)) (h3 : rdNum 8 l2 e2 = (n, l3, e3)) (h4 : rdNum 1 l3 e3 = (c, l4, e4)) (h5 : rdText 64 l4 e4 = (u, l5, e5)) :
    Took b ⟨2, lsn, ep, a, 0, 0, [], [], u, p, n, decide (c = 1), 0, [], []⟩ e5 := by
  intro y ⟨hM, hO, t, hb⟩
  obtain ⟨rfl, rfl, hk, rfl, rfl⟩ := hH y hM hO t hb
  have hk : y.kind = 2 := by omega
  have hB := hM.2
  unfold bare at hB
  rw [if_neg (by omega), if_pos hk] at hB
  have hw : y.undo.length ≤ 64 := by
    rcases hM.1 with ⟨hk2, _⟩ | ⟨_, h1, h2⟩ | ⟨hk2, _⟩ | ⟨hk2, _⟩ | ⟨hk2, _⟩
    · omega
    · cases hc : y.clr
      · exact (h2 hc).1
      · have := h1 hc; omega
    all_goals omega
  unfold own at h1
  rw [if_neg (by omega), if_pos hk, List.append_assoc, rd_eight hO.txn] at h1
  obtain ⟨rfl, rfl, rfl⟩ := h1
  rw [List.append_assoc, rd_eight hO.prev] at h2
  obtain ⟨rfl, rfl, rfl⟩ := h2
  rw [List.append_assoc, rd_eight hO.next] at h3
  obtain ⟨rfl, rfl, rfl⟩ := h3
  rw [List.cons_append, rd_one (clrB_lt _)] at h4
  obtain ⟨rfl, rfl, rfl⟩ := h4
  rw [rd_text 64 (by omega) (by omega)] at h5
  obtain ⟨rfl, rfl, rfl⟩ := h5
  have hc : decide (clrB y.clr = 1) = y.clr := by cases y.clr <;> rfl
  refine ⟨?_, rfl⟩
  rw [hc]
  rw [hk] at hB
  exact hB.symm
theorem took_commit {b l l1 l2 : List Nat} {lsn ep e a p e1 e2 : Nat} (hH : Head b lsn ep 3 l e) (h1 : rdNum 8 l e = (a, l1, e1)) (h2 : rdNum 8 l1 e1 = (p, l2, e2)) :
    Took b ⟨3, lsn, ep, a, 0, 0, [], [], [], 0, 0, false, p, [], []⟩ e2 := by
  intro y ⟨hM, hO, t, hb⟩
  obtain ⟨rfl, rfl, hk, rfl, rfl⟩ := hH y hM hO t hb
  have hk : y.kind = 3 := by omega
  have hB := hM.2
  unfold bare at hB
  rw [if_neg (by omega), if_neg (by omega), if_pos hk] at hB
  unfold own at h1
  rw [if_neg (by omega), if_neg (by omega), if_pos hk, List.append_assoc, rd_eight hO.txn] at h1
  obtain ⟨rfl, rfl, rfl⟩ := h1
  rw [rd_eight hO.stamp] at h2
  obtain ⟨rfl, rfl, rfl⟩ := h2
  refine ⟨?_, rfl⟩
  rw [hk] at hB
  exact hB.symm
theorem took_done {b l l1 : List Nat} {lsn ep e a e1 : Nat} (hH : Head b lsn ep 4 l e) (h1 : rdNum 8 l e = (a, l1, e1)) :
    Took b ⟨4, lsn, ep, a, 0, 0, [], [], [], 0, 0, false, 0, [], []⟩ e1 := by
  intro y ⟨hM, hO, t, hb⟩
  obtain ⟨rfl, rfl, hk, rfl, rfl⟩ := hH y hM hO t hb
  have hk : y.kind = 4 := by omega
  have hB := hM.2
  unfold bare at hB
  rw [if_neg (by omega), if_neg (by omega), if_neg (by omega), if_pos hk] at hB
  unfold own at h1
  rw [if_neg (by omega), if_neg (by omega), if_neg (by omega), if_pos hk, rd_eight hO.txn] at h1
  obtain ⟨rfl, rfl, rfl⟩ := h1
  refine ⟨?_, rfl⟩
  rw [hk] at hB
  exact hB.symm
/-- The two ways to read a point: so many as are told, up to a bound m; none, if there are more than the bound. -/
theorem took_point {b l l1 l2 l3 l4 : List Nat} {C : List Ch} {D : List Di} {lsn ep e n m e1 e2 e3 e4 n' m' : Nat} (hH : Head b lsn ep 5 l e) (h1 : rdUv l e = (n, l1, e1)) (h2 : rdChs n' l1 e1 = (C, l2, e2)) (hn : n ≤ 16 → n' = n) (h3 : rdUv l2 e2 = (m, l3, e3)) (h4 : rdDis m' l3 e3 = (D, l4, e4)) (hm : m ≤ 64 → m' = m) :
    Took b ⟨5, lsn, ep, 0, 0, 0, [], [], [], 0, 0, false, 0, C, D⟩ e4 := by
  intro y ⟨hM, hO, t, hb⟩
  obtain ⟨rfl, rfl, hk, rfl, rfl⟩ := hH y hM hO t hb
  have hk : y.kind = 5 := by omega
  have hB := hM.2
  unfold bare at hB
  rw [if_neg (by omega), if_neg (by omega), if_neg (by omega), if_neg (by omega), if_pos hk] at hB
  have hw : y.opn.length ≤ 16 ∧ y.dirt.length ≤ 64 := by
    rcases hM.1 with ⟨hk2, _⟩ | ⟨hk2, h1, h2⟩ | ⟨hk2, _⟩ | ⟨hk2, _⟩ | ⟨_, h⟩
    · omega
    · omega
    · omega
    · omega
    · exact h
  unfold own at h1
  rw [if_neg (by omega), if_neg (by omega), if_neg (by omega), if_neg (by omega), if_pos hk, List.append_assoc, List.append_assoc, rd_uv (by omega)] at h1
  obtain ⟨rfl, rfl, rfl⟩ := h1
  rw [hn hw.1, rd_chs y.opn _ hO.opn _ (Nat.le_refl _), List.take_length, List.drop_length] at h2
  obtain ⟨rfl, rfl, rfl⟩ := h2
  rw [show chs [] = [] from rfl, List.nil_append, List.append_assoc, rd_uv (by omega)] at h3
  obtain ⟨rfl, rfl, rfl⟩ := h3
  rw [hm hw.2, rd_dis y.dirt _ hO.dirt _ (Nat.le_refl _), List.take_length, List.drop_length] at h4
  obtain ⟨rfl, rfl, rfl⟩ := h4
  refine ⟨?_, rfl⟩
  rw [hk] at hB
  exact hB.symm
theorem took_none {b l : List Nat} {lsn ep e k : Nat} {x : R} (hH : Head b lsn ep k l e) (hk : ¬ (1 ≤ k ∧ k ≤ 5)) : Took b x e := by
  intro y ⟨hM, hO, t, hb⟩
  obtain ⟨-, -, hk2, -, -⟩ := hH y hM hO t hb
  have := kind_lt hM.1
  omega

/-- The size stands in the form. -/
theorem form_size {y : R} (hM : May y) (t : List Nat) : num (((form y ++ t).drop 4).take 2) = (form y).length := by
  have hl := own_length hM.1
  have e1 : (form y ++ t).drop 4 = rest y ++ t := by
    unfold form
    rw [List.append_assoc, List.drop_left' (le_length _ _)]
  have e2 : (rest y ++ t).take 2 = le 2 (19 + (own y).length) := by
    unfold rest
    rw [List.append_assoc, List.take_left' (le_length _ _)]
  rw [e1, e2, num_le, form_length, Nat.mod_eq_of_lt (by omega)]
theorem form_sum {y : R} (t : List Nat) : (form y ++ t).take 4 = le 4 (Crc.more 0 (rest y)) := by
  unfold form
  rw [List.append_assoc, List.take_left' (le_length _ _)]
theorem form_rest (y : R) : (form y).drop 4 = rest y := by unfold form; exact List.drop_left' (le_length _ _)

/-- A form that is cut is none. -/
theorem cut_none {x : R} (hM : May x) (k : Nat) (hk : k < (form x).length) : ∀ y, ¬ Is ((form x).take k) y := by
  intro y ⟨hy, hO, t, hb⟩
  have h1 := form_size hy t
  rw [← hb] at h1
  have hl := form_length y
  have hlen := congrArg List.length hb
  rw [List.length_take, List.length_append] at hlen
  have h2 := form_size hM []
  rw [List.append_nil] at h2
  have e : (((form x).take k).drop 4).take 2 = ((form x).drop 4).take 2 := by
    rw [List.drop_take, List.take_take, Nat.min_eq_left (by omega)]
  rw [e, h2] at h1
  omega
/-- A form of which some bits behind the sum and the size were turned is none. -/
theorem turned_none {x : R} (hM : May x) (hO : Ok x) (c : List Nat) (t p : Nat) (hlen : c.length = (form x).length) (h6 : c.take 6 = (form x).take 6)
    (hd : Crc.le (c.drop 4) = Crc.le ((form x).drop 4) ^^^ (2 ^ p * t)) (ht : t < 4294967296) (h0 : t ≠ 0) (hp : p ≤ 8 * (rest x).length) : ∀ y, ¬ Is c y := by
  intro y ⟨hy, hOy, t2, hb⟩
  have h1 := form_size hy t2
  rw [← hb] at h1
  have h2 := form_size hM []
  rw [List.append_nil] at h2
  have e : (c.drop 4).take 2 = ((form x).drop 4).take 2 := by
    have h := congrArg (List.drop 4) h6
    rwa [List.drop_take, List.drop_take] at h
  rw [e, h2] at h1
  have hl := congrArg List.length hb
  rw [List.length_append] at hl
  have ht2 : t2 = [] := List.eq_nil_of_length_eq_zero (by omega)
  subst ht2
  have s1 := form_sum (y := y) []
  rw [← hb] at s1
  have s2 := form_sum (y := x) []
  rw [List.append_nil] at s2 hb
  have e4 : c.take 4 = (form x).take 4 := by
    have h := congrArg (List.take 4) h6
    rwa [List.take_take, List.take_take] at h
  rw [e4, s2] at s1
  have hs := congrArg num s1
  have r1 := sum_lt (rest_lt hO hM.1)
  have r2 := sum_lt (rest_lt hOy hy.1)
  rw [num_le, num_le, Nat.mod_eq_of_lt (Nat.lt_of_lt_of_le r1 (by decide)), Nat.mod_eq_of_lt (Nat.lt_of_lt_of_le r2 (by decide))] at hs
  have e5 : c.drop 4 = rest y := by rw [hb]; exact form_rest y
  rw [form_rest, e5] at hd
  refine Crc.burst (rest x) (rest y) t p ?_ hd (by rw [two32]; exact ht) h0 hp hs.symm
  rw [← e5, List.length_drop, hlen, form_length, rest_length]
  omega

/-- The record whose form bytes begin with. -/
noncomputable def ifP {α : Type} (p : Prop) (a b : α) : α := @ite α p (Classical.propDecidable p) a b
theorem ifP_pos {α : Type} {p : Prop} (h : p) (a b : α) : ifP p a b = a := by unfold ifP; exact @if_pos p (_) h _ _ _
theorem ifP_neg {α : Type} {p : Prop} (h : ¬ p) (a b : α) : ifP p a b = b := by unfold ifP; exact @if_neg p (_) h _ _ _
theorem is_form {x : R} (hM : May x) (hO : Ok x) (t : List Nat) : Is (form x ++ t) x := ⟨hM, hO, t, rfl⟩
theorem is_take {b : List Nat} {y : R} (n : Nat) (hn : 1600 ≤ n) : Is (b.take n) y ↔ Is b y := by
  constructor
  · rintro ⟨hM, hO, t, hb⟩
    refine ⟨hM, hO, t ++ b.drop n, ?_⟩
    rw [← List.append_assoc, ← hb, List.take_append_drop]
  · rintro ⟨hM, hO, t, hb⟩
    have := form_most hM.1
    refine ⟨hM, hO, t.take (n - (form y).length), ?_⟩
    rw [hb, List.take_append, List.take_of_length_le (by omega)]
end Go.Proofs.YtafpjcobagofcaaGreat.Lr

namespace Go.Proofs.YtafpjcobagofcaaGreat
/-- Few of each. -/
structure Lr.Few (x : Lr.R) : Prop where
  old : x.old.length ≤ 6000
  new : x.new.length ≤ 6000
  undo : x.undo.length ≤ 6000
  opn : x.opn.length ≤ 6000
  dirt : x.dirt.length ≤ 6000

end Go.Proofs.YtafpjcobagofcaaGreat

namespace Go.Proofs.YtafpjcobagofcaaGreat.Chr
open Go.RowKit Go.Proofs.YtafpjcobagofcaaGreat.Lr

abbrev El := Ch
def enc (c : El) : List Value := [.int .u64 (c.1 : Int), .int .u64 (c.2.1 : Int), .int .u64 (c.2.2 : Int)]
def cells (l : List El) : List Value := l.flatMap enc

theorem cells_length : ∀ l : List El, (cells l).length = l.length * 3
  | [] => rfl
  | h :: l => by
    have := cells_length l
    simp only [cells, List.flatMap_cons, List.length_append, List.length_cons] at *
    simp only [enc, List.length_cons, List.length_nil]
    omega
theorem cells_append (a b : List El) : cells (a ++ b) = cells a ++ cells b := by simp [cells]
theorem cells_at : ∀ (l : List El) (i j : Nat), i < l.length → j < 3 → (cells l)[i * 3 + j]? = (enc (l.getD i default))[j]?
  | [], i, _, h, _ => by simp at h
  | x :: l, 0, j, _, hj => by
    simp only [cells, List.flatMap_cons, Nat.zero_mul, Nat.zero_add]
    rw [List.getElem?_append_left (by simpa [enc] using hj)]
    rfl
  | x :: l, i + 1, j, h, hj => by
    have := cells_at l i j (by simpa using h) hj
    simp only [cells, List.flatMap_cons] at *
    rw [List.getElem?_append_right (by simp only [enc, List.length_cons, List.length_nil]; omega)]
    rw [show (i + 1) * 3 + j - (enc x).length = i * 3 + j by simp only [enc, List.length_cons, List.length_nil]; omega, this]
    simp
theorem cells_one (l : List El) : ∀ u ∈ cells l, u.oneCell' = true := by
  intro u hu
  simp only [cells, List.mem_flatMap, enc] at hu
  obtain ⟨x, _, hx⟩ := hu
  simp at hx
  rcases hx with rfl | rfl | rfl <;> rfl
theorem cells_set (l : List El) (i : Nat) (h : El) (hi : i < l.length) : cells (l.set i h) = ((((cells l).set (i * 3) (.int .u64 (h.1 : Int))).set (i * 3 + 1) (.int .u64 (h.2.1 : Int))).set (i * 3 + 2) (.int .u64 (h.2.2 : Int))) := by
  induction l generalizing i with
  | nil => simp at hi
  | cons x l ih =>
    cases i with
    | zero => simp [cells, enc]
    | succ i =>
      have := ih i (by simpa using hi)
      rw [show (i + 1) * 3 = i * 3 + 3 by omega]
      simp only [cells, List.set_cons_succ, List.flatMap_cons, enc] at *
      simpa using this

/-- The slice value v reads as the list l in the world w. -/
structure Bts (w : World) (v : Value) (l : List El) : Prop where
  form : ∃ p cap, v = .slice p l.length cap ∧ (l.length ≤ cap ∧ cap ≤ 9223372036854775807) ∧ (p = none → cap = 0) ∧ (0 < l.length → ∃ b off, p = some ⟨b, off, none⟩ ∧ ∀ j, j < l.length * 3 → w.cell? ⟨b, off + j, none⟩ = (cells l)[j]?)

theorem Bts.below {w w' : World} {v : Value} {l : List El} (h : Bts w v l) (hb : Below w.heap.size w w') : Bts w' v l := by
  obtain ⟨p, cap, hv, hr, hn, hp⟩ := h.form
  refine ⟨p, cap, hv, hr, hn, fun h0 => ?_⟩
  obtain ⟨b, off, hpe, hc⟩ := hp h0
  refine ⟨b, off, hpe, fun j hj => ?_⟩
  have hci := hc j hj
  rw [List.getElem?_eq_getElem (by rw [cells_length]; exact hj)] at hci ⊢
  rw [hb.cell (p := ⟨b, off + j, none⟩) (block_lt_of_cell hci)]
  exact hci
theorem Bts.grown {w w' : World} {v : Value} {l : List El} {row : Option Nat} (h : Bts w v l) (hg : w.grownBy w' row) (hne : 0 < l.length → v.ownBlock ≠ row) : Bts w' v l := by
  obtain ⟨p, cap, hv, hr, hn, hp⟩ := h.form
  refine ⟨p, cap, hv, hr, hn, fun h0 => ?_⟩
  obtain ⟨b, off, hpe, hc⟩ := hp h0
  refine ⟨b, off, hpe, fun j hj => ?_⟩
  have hci := hc j hj
  rw [List.getElem?_eq_getElem (by rw [cells_length]; exact hj)] at hci ⊢
  refine hg.cell hci ?_
  have := hne h0
  rw [hv, hpe] at this
  exact this
/-- One element's cells. -/
theorem Bts.at {w : World} {b off cap : Nat} {l : List El} (h : Bts w (.slice (some ⟨b, off, none⟩) l.length cap) l) (i : Nat) (hi : i < l.length) (j : Nat) (hj : j < 3) :
    w.cell? ⟨b, off + i * 3 + j, none⟩ = (enc (l.getD i default))[j]? := by
  obtain ⟨p', cap', hv, hr, hz, hp⟩ := h.form
  obtain ⟨b', off', hpe, hc⟩ := hp (by omega)
  subst hpe
  simp only [Value.slice.injEq, Option.some.injEq, Addr.mk.injEq, and_true, true_and] at hv
  obtain ⟨⟨rfl, rfl⟩, rfl⟩ := hv
  rw [Nat.add_assoc, hc (i * 3 + j) (by omega), cells_at l i j hi hj]
theorem Bts.some {w : World} {v : Value} {l : List El} (h : Bts w v l) (h0 : 0 < l.length) : ∃ b off cap, v = .slice (some ⟨b, off, none⟩) l.length cap := by
  obtain ⟨p, cap, hv, -, -, hp⟩ := h.form
  obtain ⟨b, off, rfl, -⟩ := hp h0
  exact ⟨b, off, cap, hv⟩
theorem Bts.slice {w : World} {v : Value} {l : List El} (h : Bts w v l) : ∃ p cap, v = .slice p l.length cap := by
  obtain ⟨p, cap, hv, -⟩ := h.form
  exact ⟨p, cap, hv⟩
theorem bts_nil (w : World) : Bts w (.slice none 0 0) [] := ⟨none, 0, rfl, by decide, fun _ => rfl, fun h => absurd h (by decide)⟩

theorem info : (Tryz.prog.info? 136).map (fun i => (i.zero, i.size, i.bytes)) = some (some (.agg #[.int .u64 0, .int .u64 0, .int .u64 0]), 3, 24) := by kernel_rfl

/-- What a call hands back: the list l in memory of its own, from block number base on. -/
def Own (base : Nat) (w : World) (v : Value) (l : List El) : Prop := w.ownsRow base 136 3 v l.length (cells l)

theorem Own.form {base : Nat} {w : World} {v : Value} {l : List El} (h : Own base w v l) : (v = .slice none 0 0 ∧ l = []) ∨ ∃ g cap, v = .slice (some ⟨g, 0, none⟩) l.length cap ∧ base ≤ g ∧ g < w.heap.size ∧ l.length ≤ cap ∧ cap ≤ 9223372036854775807 := by
  rcases h.2 with ⟨hv, h0⟩ | ⟨g, cap, cur, hv, hg, hh, h3, h4, h5, h6⟩
  · exact Or.inl ⟨hv, List.eq_nil_of_length_eq_zero h0⟩
  · exact Or.inr ⟨g, cap, hv, hg, lt_of_block hh, h3, h4⟩
theorem Own.bts {base : Nat} {w : World} {v : Value} {l : List El} (h : Own base w v l) : Bts w v l := by
  rcases h.2 with ⟨hv, h0⟩ | ⟨g, cap, cur, hv, hg, hh, h3, h4, h5, h6⟩
  · exact ⟨none, 0, by rw [hv, h0], by omega, fun _ => rfl, fun h => absurd h (by omega)⟩
  · refine ⟨some ⟨g, 0, none⟩, cap, hv, ⟨h3, h4⟩, fun h => by simp at h, fun _ => ⟨g, 0, rfl, fun j hj => ?_⟩⟩
    rw [Nat.zero_add, cell_of_row _ g j cur 136 (0, 0) hh, ← h6, List.getElem?_take, if_pos hj, Array.getElem?_toList]
theorem Own.grown {base : Nat} {w w' : World} {v : Value} {l : List El} {row : Option Nat} (h : Own base w v l) (hg : w.grownBy w' row) (hne : v.ownBlock = none ∨ v.ownBlock ≠ row) : Own base w' v l := h.kept hg hne
theorem Own.below {base : Nat} {w w' : World} {v : Value} {l : List El} (h : Own base w v l) (hb : Below w.heap.size w w') : Own base w' v l :=
  h.grown (row := none) (grownBy_below hb none) (by cases hv : v.ownBlock <;> simp)
theorem Own.from {base base' : Nat} {w : World} {v : Value} {l : List El} (h : Own base w v l) (hb : base' ≤ base) : Own base' w v l := by
  refine ⟨h.1, ?_⟩
  rcases h.2 with h2 | ⟨g, cap, cur, hv, hg, r⟩
  · exact Or.inl h2
  · exact Or.inr ⟨g, cap, cur, hv, Nat.le_trans hb hg, r⟩
theorem own_nil (base : Nat) (w : World) : Own base w (.slice none 0 0) [] := ⟨rfl, Or.inl ⟨rfl, rfl⟩⟩
theorem own_empty (w : World) (base : Nat) (hb : base ≤ w.heap.size) : Own base (w.alloc (.cells #[] 136)) (.slice (some ⟨w.heap.size, 0, none⟩) 0 0) [] :=
  ⟨rfl, Or.inr ⟨w.heap.size, 0, #[], rfl, hb, heap_alloc_last _ _, Nat.le_refl _, Nat.zero_le _, rfl, rfl⟩⟩

/-- Elements appended to what the call owns. -/
theorem wpList_append_Own {w : World} {ops : Array Oper} {rest : List Oper} {o : Oper} {a : Act} {Q : Exit → Act → World → Prop} (hgd : o.guard = none) (s x : Operand)
    (ho : o.op = .call { callee := .builtin .append, args := #[s, x], argTypes := #[37, 37] })
    (base : Nat) (v : Value) (l1 : List El) (hs : a.eval s = v) (hown : Own base w v l1)
    (xv : Value) (l2 : List El) (hx : a.eval x = xv) (hB : Bts w xv l2) (hlen : l1.length + l2.length ≤ 1000000) (hbase : base ≤ w.heap.size)
    (h : ∀ v' w', Own base w' v' (l1 ++ l2) → Below base w w' → w.grownBy w' v.ownBlock → wpList Tryz.prog ops Q rest (a.put o.dst v') w') : wpList Tryz.prog ops Q (o :: rest) a w := by
  obtain ⟨i0, hi, hz0, hz1, hz2⟩ := info_parts info
  obtain ⟨p, cap, rfl, _, hn, hp⟩ := hB.form
  cases p with
  | none =>
    obtain rfl := hn rfl
    have hl0 : l2.length = 0 := by
      rcases Nat.eq_zero_or_pos l2.length with h0 | h0
      · exact h0
      · obtain ⟨b, off, he, _⟩ := hp h0; simp at he
    obtain rfl : l2 = [] := List.eq_nil_of_length_eq_zero hl0
    refine wpList_append_own_none hgd s x 37 ho base 136 i0 3 Tryz.underlying37 hi v l1.length (cells l1) hs hown hx ?_
    refine h v w ?_ (Below.refl _ _) (World.grownBy.refl _ _)
    simpa using hown
  | some ad =>
    refine wpList_append_own w hgd s x 37 ho base 136 i0 (.agg #[.int .u64 0, .int .u64 0, .int .u64 0]) 3 24 Tryz.underlying37 hi hz0 hz1 hz2 rfl (by decide) v l1.length (cells l1) hs hown ad l2.length cap (cells l2) hx (cells_length _) ?_ (cells_one l2) (by unfold maxLen; omega) (by omega) hbase ?_
    · intro j u hj
      have hjl : j < l2.length * 3 := by
        rcases Nat.lt_or_ge j (l2.length * 3) with h1 | h1
        · exact h1
        · rw [List.getElem?_eq_none (by rw [cells_length]; exact h1)] at hj; simp at hj
      obtain ⟨b, off, he, hc⟩ := hp (by omega)
      obtain rfl := Option.some.inj he
      have hadd : (⟨b, off, none⟩ : Addr).add j = ⟨b, off + j, none⟩ := by unfold Addr.add; split <;> simp_all
      rw [hadd, hc j hjl, hj]
    · intro v' w' hown' hgrow _
      rw [← cells_append, ← List.length_append] at hown'
      refine h v' w' hown' ((Below.refl _ _).grown hgrow hbase ?_) hgrow
      intro k hk
      rcases hown.2 with ⟨rfl, _⟩ | ⟨g, c, cur, rfl, hg, _⟩
      · simp [Value.ownBlock] at hk
      · simp only [Value.ownBlock, Option.some.injEq] at hk
        omega

/-- One element in a new block reads as a list of one. -/
theorem bts_one (w : World) (h : El) (t : TypeId) : Bts (w.alloc (.cells (enc h).toArray t)) (.slice (some ⟨w.heap.size, 0, none⟩) 1 1) [h] := by
  refine ⟨_, 1, rfl, ⟨Nat.le_refl 1, by omega⟩, fun h => by simp at h, fun _ => ⟨w.heap.size, 0, rfl, fun j hj => ?_⟩⟩
  rw [Nat.zero_add, cell_of_row _ _ j _ _ (0, 0) (heap_alloc_last _ _)]
  simp [cells]

/-- One element written into a row of the call's own. -/
theorem Own.stored {base g cap : Nat} {w : World} {l : List El} (h : Own base w (.slice (some ⟨g, 0, none⟩) l.length cap) l) (i : Nat) (hi : i < l.length) (x : El) :
    Own base (((w.setCell ⟨g, i * 3, none⟩ (.int .u64 (x.1 : Int))).setCell ⟨g, i * 3 + 1, none⟩ (.int .u64 (x.2.1 : Int))).setCell ⟨g, i * 3 + 2, none⟩ (.int .u64 (x.2.2 : Int))) (.slice (some ⟨g, 0, none⟩) l.length cap) (l.set i x) ∧ w.grownBy (((w.setCell ⟨g, i * 3, none⟩ (.int .u64 (x.1 : Int))).setCell ⟨g, i * 3 + 1, none⟩ (.int .u64 (x.2.1 : Int))).setCell ⟨g, i * 3 + 2, none⟩ (.int .u64 (x.2.2 : Int))) (some g) := by
  obtain ⟨a0, b0⟩ := World.ownsRow.stored h (i * 3) (.int .u64 (x.1 : Int))
  obtain ⟨a1, b1⟩ := World.ownsRow.stored a0 (i * 3 + 1) (.int .u64 (x.2.1 : Int))
  obtain ⟨a2, b2⟩ := World.ownsRow.stored a1 (i * 3 + 2) (.int .u64 (x.2.2 : Int))
  rw [← cells_set l i x hi] at a2
  exact ⟨by unfold Own; rw [List.length_set]; exact a2, (grownBy_trans (grownBy_trans b0 b1) b2)⟩
theorem Own.free {base g cap : Nat} {w : World} {l : List El} (h : Own base w (.slice (some ⟨g, 0, none⟩) l.length cap) l) (j : Nat) : w.frozen? ⟨g, j, none⟩ = false := World.ownsRow.frozenAt h j
theorem Own.is {base g cap : Nat} {w : World} {l : List El} (h : Own base w (.slice (some ⟨g, 0, none⟩) l.length cap) l) (j : Nat) (hj : j < l.length * 3) : ∃ u, w.cell? ⟨g, j, none⟩ = some u := by
  have := World.ownsRow.cellAt h j hj
  rw [List.getElem?_eq_getElem (by rw [cells_length]; exact hj)] at this
  exact ⟨_, this⟩

/-- A new slice of n noughts. -/
theorem wpList_make_len {w : World} {ops : Array Oper} {rest : List Oper} {o : Oper} {a : Act} {Q : Exit → Act → World → Prop} (hgd : o.guard = none) (x c : Operand)
    (hop : o.op = Op.makeSlice 37 x c) (base : Nat) (kl kc : IntKind) (n : Nat) (hl : a.eval x = .int kl (n : Int)) (hc : a.eval c = .int kc (n : Int)) (hn : n ≤ 1000000) (hbase : base ≤ w.heap.size)
    (h : ∀ g w', Own base w' (.slice (some ⟨g, 0, none⟩) n n) (List.replicate n default) → base ≤ g → Below base w w' → wpList Tryz.prog ops Q rest (a.put o.dst (.slice (some ⟨g, 0, none⟩) n n)) w') : wpList Tryz.prog ops Q (o :: rest) a w := by
  obtain ⟨i0, hi, hz0, hz1, hz2⟩ := info_parts info
  refine wpList_make_full w hgd x c 37 hop base 136 i0 (.agg #[.int .u64 0, .int .u64 0, .int .u64 0]) 3 Tryz.underlying37 hi hz0 hz1 kl kc n n n hl hc rfl rfl (by rw [hz2]; omega) (by unfold maxLen; omega) hbase ?_
  intro w' hown hg
  have e : (madeCells (Value.cells (.agg #[.int .u64 0, .int .u64 0, .int .u64 0])) (n * 3)).toList = cells (List.replicate n default) := by
    apply List.ext_getElem?
    intro k
    by_cases hk : k < n * 3
    · have h1 := cells_at (List.replicate n default) (k / 3) (k % 3) (by rw [List.length_replicate]; omega) (by omega)
      rw [show k / 3 * 3 + k % 3 = k by omega] at h1
      have h2 : (List.replicate n (default : El)).getD (k / 3) default = default := by
        rw [List.getD_eq_getElem?_getD, List.getElem?_replicate]; split <;> rfl
      rw [h1, h2]
      have hm : k % 3 < 3 := Nat.mod_lt _ (by decide)
      have hg : (madeCells (Value.cells (.agg #[.int .u64 0, .int .u64 0, .int .u64 0])) (n * 3))[k]? = some ((Value.cells (.agg #[.int .u64 0, .int .u64 0, .int .u64 0]))[k % 3]!) := by
        unfold madeCells
        rw [Array.getElem?_map, Array.getElem?_range, if_pos hk]
        rfl
      rw [Array.getElem?_toList, hg]
      generalize k % 3 = r at hm ⊢
      match r, hm with
      | 0, _ => rfl
      | 1, _ => rfl
      | 2, _ => rfl
    · have e1 : (madeCells (Value.cells (.agg #[.int .u64 0, .int .u64 0, .int .u64 0])) (n * 3)).toList.length ≤ k := by rw [Array.length_toList, size_madeCells]; omega
      have e2 : (cells (List.replicate n default)).length ≤ k := by rw [cells_length, List.length_replicate]; omega
      rw [List.getElem?_eq_none e1, List.getElem?_eq_none e2]
  rw [e] at hown
  refine h _ w' (by unfold Own; rw [List.length_replicate]; exact hown) hbase ((Below.refl _ _).grown hg hbase (fun k hk => by cases hk))
end Go.Proofs.YtafpjcobagofcaaGreat.Chr

namespace Go.Proofs.YtafpjcobagofcaaGreat.Dir
open Go.RowKit Go.Proofs.YtafpjcobagofcaaGreat.Lr

abbrev El := Di
def enc (c : El) : List Value := [.int .u32 (c.1 : Int), .int .u64 (c.2 : Int)]
def cells (l : List El) : List Value := l.flatMap enc

theorem cells_length : ∀ l : List El, (cells l).length = l.length * 2
  | [] => rfl
  | h :: l => by
    have := cells_length l
    simp only [cells, List.flatMap_cons, List.length_append, List.length_cons] at *
    simp only [enc, List.length_cons, List.length_nil]
    omega
theorem cells_append (a b : List El) : cells (a ++ b) = cells a ++ cells b := by simp [cells]
theorem cells_at : ∀ (l : List El) (i j : Nat), i < l.length → j < 2 → (cells l)[i * 2 + j]? = (enc (l.getD i default))[j]?
  | [], i, _, h, _ => by simp at h
  | x :: l, 0, j, _, hj => by
    simp only [cells, List.flatMap_cons, Nat.zero_mul, Nat.zero_add]
    rw [List.getElem?_append_left (by simpa [enc] using hj)]
    rfl
  | x :: l, i + 1, j, h, hj => by
    have := cells_at l i j (by simpa using h) hj
    simp only [cells, List.flatMap_cons] at *
    rw [List.getElem?_append_right (by simp only [enc, List.length_cons, List.length_nil]; omega)]
    rw [show (i + 1) * 2 + j - (enc x).length = i * 2 + j by simp only [enc, List.length_cons, List.length_nil]; omega, this]
    simp
theorem cells_one (l : List El) : ∀ u ∈ cells l, u.oneCell' = true := by
  intro u hu
  simp only [cells, List.mem_flatMap, enc] at hu
  obtain ⟨x, _, hx⟩ := hu
  simp at hx
  rcases hx with rfl | rfl <;> rfl
theorem cells_set (l : List El) (i : Nat) (h : El) (hi : i < l.length) : cells (l.set i h) = (((cells l).set (i * 2) (.int .u32 (h.1 : Int))).set (i * 2 + 1) (.int .u64 (h.2 : Int))) := by
  induction l generalizing i with
  | nil => simp at hi
  | cons x l ih =>
    cases i with
    | zero => simp [cells, enc]
    | succ i =>
      have := ih i (by simpa using hi)
      rw [show (i + 1) * 2 = i * 2 + 2 by omega]
      simp only [cells, List.set_cons_succ, List.flatMap_cons, enc] at *
      simpa using this

/-- The slice value v reads as the list l in the world w. -/
structure Bts (w : World) (v : Value) (l : List El) : Prop where
  form : ∃ p cap, v = .slice p l.length cap ∧ (l.length ≤ cap ∧ cap ≤ 9223372036854775807) ∧ (p = none → cap = 0) ∧ (0 < l.length → ∃ b off, p = some ⟨b, off, none⟩ ∧ ∀ j, j < l.length * 2 → w.cell? ⟨b, off + j, none⟩ = (cells l)[j]?)

theorem Bts.below {w w' : World} {v : Value} {l : List El} (h : Bts w v l) (hb : Below w.heap.size w w') : Bts w' v l := by
  obtain ⟨p, cap, hv, hr, hn, hp⟩ := h.form
  refine ⟨p, cap, hv, hr, hn, fun h0 => ?_⟩
  obtain ⟨b, off, hpe, hc⟩ := hp h0
  refine ⟨b, off, hpe, fun j hj => ?_⟩
  have hci := hc j hj
  rw [List.getElem?_eq_getElem (by rw [cells_length]; exact hj)] at hci ⊢
  rw [hb.cell (p := ⟨b, off + j, none⟩) (block_lt_of_cell hci)]
  exact hci
theorem Bts.grown {w w' : World} {v : Value} {l : List El} {row : Option Nat} (h : Bts w v l) (hg : w.grownBy w' row) (hne : 0 < l.length → v.ownBlock ≠ row) : Bts w' v l := by
  obtain ⟨p, cap, hv, hr, hn, hp⟩ := h.form
  refine ⟨p, cap, hv, hr, hn, fun h0 => ?_⟩
  obtain ⟨b, off, hpe, hc⟩ := hp h0
  refine ⟨b, off, hpe, fun j hj => ?_⟩
  have hci := hc j hj
  rw [List.getElem?_eq_getElem (by rw [cells_length]; exact hj)] at hci ⊢
  refine hg.cell hci ?_
  have := hne h0
  rw [hv, hpe] at this
  exact this
/-- One element's cells. -/
theorem Bts.at {w : World} {b off cap : Nat} {l : List El} (h : Bts w (.slice (some ⟨b, off, none⟩) l.length cap) l) (i : Nat) (hi : i < l.length) (j : Nat) (hj : j < 2) :
    w.cell? ⟨b, off + i * 2 + j, none⟩ = (enc (l.getD i default))[j]? := by
  obtain ⟨p', cap', hv, hr, hz, hp⟩ := h.form
  obtain ⟨b', off', hpe, hc⟩ := hp (by omega)
  subst hpe
  simp only [Value.slice.injEq, Option.some.injEq, Addr.mk.injEq, and_true, true_and] at hv
  obtain ⟨⟨rfl, rfl⟩, rfl⟩ := hv
  rw [Nat.add_assoc, hc (i * 2 + j) (by omega), cells_at l i j hi hj]
theorem Bts.some {w : World} {v : Value} {l : List El} (h : Bts w v l) (h0 : 0 < l.length) : ∃ b off cap, v = .slice (some ⟨b, off, none⟩) l.length cap := by
  obtain ⟨p, cap, hv, -, -, hp⟩ := h.form
  obtain ⟨b, off, rfl, -⟩ := hp h0
  exact ⟨b, off, cap, hv⟩
theorem Bts.slice {w : World} {v : Value} {l : List El} (h : Bts w v l) : ∃ p cap, v = .slice p l.length cap := by
  obtain ⟨p, cap, hv, -⟩ := h.form
  exact ⟨p, cap, hv⟩
theorem bts_nil (w : World) : Bts w (.slice none 0 0) [] := ⟨none, 0, rfl, by decide, fun _ => rfl, fun h => absurd h (by decide)⟩

theorem info : (Tryz.prog.info? 139).map (fun i => (i.zero, i.size, i.bytes)) = some (some (.agg #[.int .u32 0, .int .u64 0]), 2, 16) := by kernel_rfl

/-- What a call hands back: the list l in memory of its own, from block number base on. -/
def Own (base : Nat) (w : World) (v : Value) (l : List El) : Prop := w.ownsRow base 139 2 v l.length (cells l)

theorem Own.form {base : Nat} {w : World} {v : Value} {l : List El} (h : Own base w v l) : (v = .slice none 0 0 ∧ l = []) ∨ ∃ g cap, v = .slice (some ⟨g, 0, none⟩) l.length cap ∧ base ≤ g ∧ g < w.heap.size ∧ l.length ≤ cap ∧ cap ≤ 9223372036854775807 := by
  rcases h.2 with ⟨hv, h0⟩ | ⟨g, cap, cur, hv, hg, hh, h3, h4, h5, h6⟩
  · exact Or.inl ⟨hv, List.eq_nil_of_length_eq_zero h0⟩
  · exact Or.inr ⟨g, cap, hv, hg, lt_of_block hh, h3, h4⟩
theorem Own.bts {base : Nat} {w : World} {v : Value} {l : List El} (h : Own base w v l) : Bts w v l := by
  rcases h.2 with ⟨hv, h0⟩ | ⟨g, cap, cur, hv, hg, hh, h3, h4, h5, h6⟩
  · exact ⟨none, 0, by rw [hv, h0], by omega, fun _ => rfl, fun h => absurd h (by omega)⟩
  · refine ⟨some ⟨g, 0, none⟩, cap, hv, ⟨h3, h4⟩, fun h => by simp at h, fun _ => ⟨g, 0, rfl, fun j hj => ?_⟩⟩
    rw [Nat.zero_add, cell_of_row _ g j cur 139 (0, 0) hh, ← h6, List.getElem?_take, if_pos hj, Array.getElem?_toList]
theorem Own.grown {base : Nat} {w w' : World} {v : Value} {l : List El} {row : Option Nat} (h : Own base w v l) (hg : w.grownBy w' row) (hne : v.ownBlock = none ∨ v.ownBlock ≠ row) : Own base w' v l := h.kept hg hne
theorem Own.below {base : Nat} {w w' : World} {v : Value} {l : List El} (h : Own base w v l) (hb : Below w.heap.size w w') : Own base w' v l :=
  h.grown (row := none) (grownBy_below hb none) (by cases hv : v.ownBlock <;> simp)
theorem Own.from {base base' : Nat} {w : World} {v : Value} {l : List El} (h : Own base w v l) (hb : base' ≤ base) : Own base' w v l := by
  refine ⟨h.1, ?_⟩
  rcases h.2 with h2 | ⟨g, cap, cur, hv, hg, r⟩
  · exact Or.inl h2
  · exact Or.inr ⟨g, cap, cur, hv, Nat.le_trans hb hg, r⟩
theorem own_nil (base : Nat) (w : World) : Own base w (.slice none 0 0) [] := ⟨rfl, Or.inl ⟨rfl, rfl⟩⟩
theorem own_empty (w : World) (base : Nat) (hb : base ≤ w.heap.size) : Own base (w.alloc (.cells #[] 139)) (.slice (some ⟨w.heap.size, 0, none⟩) 0 0) [] :=
  ⟨rfl, Or.inr ⟨w.heap.size, 0, #[], rfl, hb, heap_alloc_last _ _, Nat.le_refl _, Nat.zero_le _, rfl, rfl⟩⟩

/-- Elements appended to what the call owns. -/
theorem wpList_append_Own {w : World} {ops : Array Oper} {rest : List Oper} {o : Oper} {a : Act} {Q : Exit → Act → World → Prop} (hgd : o.guard = none) (s x : Operand)
    (ho : o.op = .call { callee := .builtin .append, args := #[s, x], argTypes := #[38, 38] })
    (base : Nat) (v : Value) (l1 : List El) (hs : a.eval s = v) (hown : Own base w v l1)
    (xv : Value) (l2 : List El) (hx : a.eval x = xv) (hB : Bts w xv l2) (hlen : l1.length + l2.length ≤ 1000000) (hbase : base ≤ w.heap.size)
    (h : ∀ v' w', Own base w' v' (l1 ++ l2) → Below base w w' → w.grownBy w' v.ownBlock → wpList Tryz.prog ops Q rest (a.put o.dst v') w') : wpList Tryz.prog ops Q (o :: rest) a w := by
  obtain ⟨i0, hi, hz0, hz1, hz2⟩ := info_parts info
  obtain ⟨p, cap, rfl, _, hn, hp⟩ := hB.form
  cases p with
  | none =>
    obtain rfl := hn rfl
    have hl0 : l2.length = 0 := by
      rcases Nat.eq_zero_or_pos l2.length with h0 | h0
      · exact h0
      · obtain ⟨b, off, he, _⟩ := hp h0; simp at he
    obtain rfl : l2 = [] := List.eq_nil_of_length_eq_zero hl0
    refine wpList_append_own_none hgd s x 38 ho base 139 i0 2 Tryz.underlying38 hi v l1.length (cells l1) hs hown hx ?_
    refine h v w ?_ (Below.refl _ _) (World.grownBy.refl _ _)
    simpa using hown
  | some ad =>
    refine wpList_append_own w hgd s x 38 ho base 139 i0 (.agg #[.int .u32 0, .int .u64 0]) 2 16 Tryz.underlying38 hi hz0 hz1 hz2 rfl (by decide) v l1.length (cells l1) hs hown ad l2.length cap (cells l2) hx (cells_length _) ?_ (cells_one l2) (by unfold maxLen; omega) (by omega) hbase ?_
    · intro j u hj
      have hjl : j < l2.length * 2 := by
        rcases Nat.lt_or_ge j (l2.length * 2) with h1 | h1
        · exact h1
        · rw [List.getElem?_eq_none (by rw [cells_length]; exact h1)] at hj; simp at hj
      obtain ⟨b, off, he, hc⟩ := hp (by omega)
      obtain rfl := Option.some.inj he
      have hadd : (⟨b, off, none⟩ : Addr).add j = ⟨b, off + j, none⟩ := by unfold Addr.add; split <;> simp_all
      rw [hadd, hc j hjl, hj]
    · intro v' w' hown' hgrow _
      rw [← cells_append, ← List.length_append] at hown'
      refine h v' w' hown' ((Below.refl _ _).grown hgrow hbase ?_) hgrow
      intro k hk
      rcases hown.2 with ⟨rfl, _⟩ | ⟨g, c, cur, rfl, hg, _⟩
      · simp [Value.ownBlock] at hk
      · simp only [Value.ownBlock, Option.some.injEq] at hk
        omega

/-- One element in a new block reads as a list of one. -/
theorem bts_one (w : World) (h : El) (t : TypeId) : Bts (w.alloc (.cells (enc h).toArray t)) (.slice (some ⟨w.heap.size, 0, none⟩) 1 1) [h] := by
  refine ⟨_, 1, rfl, ⟨Nat.le_refl 1, by omega⟩, fun h => by simp at h, fun _ => ⟨w.heap.size, 0, rfl, fun j hj => ?_⟩⟩
  rw [Nat.zero_add, cell_of_row _ _ j _ _ (0, 0) (heap_alloc_last _ _)]
  simp [cells]

/-- One element written into a row of the call's own. -/
theorem Own.stored {base g cap : Nat} {w : World} {l : List El} (h : Own base w (.slice (some ⟨g, 0, none⟩) l.length cap) l) (i : Nat) (hi : i < l.length) (x : El) :
    Own base ((w.setCell ⟨g, i * 2, none⟩ (.int .u32 (x.1 : Int))).setCell ⟨g, i * 2 + 1, none⟩ (.int .u64 (x.2 : Int))) (.slice (some ⟨g, 0, none⟩) l.length cap) (l.set i x) ∧ w.grownBy ((w.setCell ⟨g, i * 2, none⟩ (.int .u32 (x.1 : Int))).setCell ⟨g, i * 2 + 1, none⟩ (.int .u64 (x.2 : Int))) (some g) := by
  obtain ⟨a0, b0⟩ := World.ownsRow.stored h (i * 2) (.int .u32 (x.1 : Int))
  obtain ⟨a1, b1⟩ := World.ownsRow.stored a0 (i * 2 + 1) (.int .u64 (x.2 : Int))
  rw [← cells_set l i x hi] at a1
  exact ⟨by unfold Own; rw [List.length_set]; exact a1, (grownBy_trans b0 b1)⟩
theorem Own.free {base g cap : Nat} {w : World} {l : List El} (h : Own base w (.slice (some ⟨g, 0, none⟩) l.length cap) l) (j : Nat) : w.frozen? ⟨g, j, none⟩ = false := World.ownsRow.frozenAt h j
theorem Own.is {base g cap : Nat} {w : World} {l : List El} (h : Own base w (.slice (some ⟨g, 0, none⟩) l.length cap) l) (j : Nat) (hj : j < l.length * 2) : ∃ u, w.cell? ⟨g, j, none⟩ = some u := by
  have := World.ownsRow.cellAt h j hj
  rw [List.getElem?_eq_getElem (by rw [cells_length]; exact hj)] at this
  exact ⟨_, this⟩

/-- A new slice of n noughts. -/
theorem wpList_make_len {w : World} {ops : Array Oper} {rest : List Oper} {o : Oper} {a : Act} {Q : Exit → Act → World → Prop} (hgd : o.guard = none) (x c : Operand)
    (hop : o.op = Op.makeSlice 38 x c) (base : Nat) (kl kc : IntKind) (n : Nat) (hl : a.eval x = .int kl (n : Int)) (hc : a.eval c = .int kc (n : Int)) (hn : n ≤ 1000000) (hbase : base ≤ w.heap.size)
    (h : ∀ g w', Own base w' (.slice (some ⟨g, 0, none⟩) n n) (List.replicate n default) → base ≤ g → Below base w w' → wpList Tryz.prog ops Q rest (a.put o.dst (.slice (some ⟨g, 0, none⟩) n n)) w') : wpList Tryz.prog ops Q (o :: rest) a w := by
  obtain ⟨i0, hi, hz0, hz1, hz2⟩ := info_parts info
  refine wpList_make_full w hgd x c 38 hop base 139 i0 (.agg #[.int .u32 0, .int .u64 0]) 2 Tryz.underlying38 hi hz0 hz1 kl kc n n n hl hc rfl rfl (by rw [hz2]; omega) (by unfold maxLen; omega) hbase ?_
  intro w' hown hg
  have e : (madeCells (Value.cells (.agg #[.int .u32 0, .int .u64 0])) (n * 2)).toList = cells (List.replicate n default) := by
    apply List.ext_getElem?
    intro k
    by_cases hk : k < n * 2
    · have h1 := cells_at (List.replicate n default) (k / 2) (k % 2) (by rw [List.length_replicate]; omega) (by omega)
      rw [show k / 2 * 2 + k % 2 = k by omega] at h1
      have h2 : (List.replicate n (default : El)).getD (k / 2) default = default := by
        rw [List.getD_eq_getElem?_getD, List.getElem?_replicate]; split <;> rfl
      rw [h1, h2]
      have hm : k % 2 < 2 := Nat.mod_lt _ (by decide)
      have hg : (madeCells (Value.cells (.agg #[.int .u32 0, .int .u64 0])) (n * 2))[k]? = some ((Value.cells (.agg #[.int .u32 0, .int .u64 0]))[k % 2]!) := by
        unfold madeCells
        rw [Array.getElem?_map, Array.getElem?_range, if_pos hk]
        rfl
      rw [Array.getElem?_toList, hg]
      generalize k % 2 = r at hm ⊢
      match r, hm with
      | 0, _ => rfl
      | 1, _ => rfl
    · have e1 : (madeCells (Value.cells (.agg #[.int .u32 0, .int .u64 0])) (n * 2)).toList.length ≤ k := by rw [Array.length_toList, size_madeCells]; omega
      have e2 : (cells (List.replicate n default)).length ≤ k := by rw [cells_length, List.length_replicate]; omega
      rw [List.getElem?_eq_none e1, List.getElem?_eq_none e2]
  rw [e] at hown
  refine h _ w' (by unfold Own; rw [List.length_replicate]; exact hown) hbase ((Below.refl _ _).grown hg hbase (fun k hk => by cases hk))
end Go.Proofs.YtafpjcobagofcaaGreat.Dir

namespace Go.Proofs.YtafpjcobagofcaaGreat
open Go.RowKit

theorem _root_.Go.RowKit.Below.goN {B0 : Nat} {a b : World} (h : Below B0 a b) (n : Nat) : Below B0 a (b.drewN n) := ⟨h.os, h.tape, h.output, h.size, fun k hk => h.block k hk⟩
theorem _root_.Go.RowKit.Below.go1 {B0 : Nat} {a b : World} (h : Below B0 a b) : Below B0 a b.drew := ⟨h.os, h.tape, h.output, h.size, fun k hk => h.block k hk⟩
/-- A record's value. -/
abbrev RecV (x : Lr.R) (o n u c d : Value) : Value := .agg #[.int .i64 x.kind, .int .u64 (x.lsn : Int), .int .u32 (x.epoch : Int), .int .u64 (x.txn : Int), .int .u32 (x.page : Int), .int .u16 (x.off : Int), o, n, u, .int .u64 (x.prev : Int), .int .u64 (x.next : Int), .bool x.clr, .int .u64 (x.stamp : Int), c, d]
/-- .. in a block. -/
def robj (x : Lr.R) (o n u c d : Value) : Obj := .cells #[.int .i64 x.kind, .int .u64 (x.lsn : Int), .int .u32 (x.epoch : Int), .int .u64 (x.txn : Int), .int .u32 (x.page : Int), .int .u16 (x.off : Int), o, n, u, .int .u64 (x.prev : Int), .int .u64 (x.next : Int), .bool x.clr, .int .u64 (x.stamp : Int), c, d] 40
abbrev zeroV : Value := .agg #[.int .i64 0, .int .u64 0, .int .u32 0, .int .u64 0, .int .u32 0, .int .u16 0, .slice none 0 0, .slice none 0 0, .slice none 0 0, .int .u64 0, .int .u64 0, .bool false, .int .u64 0, .slice none 0 0, .slice none 0 0]
def zobj : Obj := .cells #[.int .i64 0, .int .u64 0, .int .u32 0, .int .u64 0, .int .u32 0, .int .u16 0, .slice none 0 0, .slice none 0 0, .slice none 0 0, .int .u64 0, .int .u64 0, .bool false, .int .u64 0, .slice none 0 0, .slice none 0 0] 40

structure RecAt (w : World) (x : Lr.R) (o n u c d : Value) : Prop where
  old : Bts w o x.old
  new : Bts w n x.new
  undo : Bts w u x.undo
  opn : Chr.Bts w c x.opn
  dirt : Dir.Bts w d x.dirt
  ok : Lr.Ok x
/-- .. of the call's own. -/
structure RecOwn (base : Nat) (w : World) (x : Lr.R) (o n u c d : Value) : Prop where
  old : Own base w o x.old
  new : Own base w n x.new
  undo : Own base w u x.undo
  opn : Chr.Own base w c x.opn
  dirt : Dir.Own base w d x.dirt
  ok : Lr.Ok x
section
variable {base base' : Nat} {w w' : World} {x : Lr.R} {o n u c d : Value}
theorem RecAt.below (h : RecAt w x o n u c d) (hb : Below w.heap.size w w') : RecAt w' x o n u c d := ⟨h.old.below hb, h.new.below hb, h.undo.below hb, h.opn.below hb, h.dirt.below hb, h.ok⟩
theorem RecOwn.below (h : RecOwn base w x o n u c d) (hb : Below w.heap.size w w') : RecOwn base w' x o n u c d := ⟨h.old.below hb, h.new.below hb, h.undo.below hb, h.opn.below hb, h.dirt.below hb, h.ok⟩
theorem RecOwn.from (h : RecOwn base w x o n u c d) (hb : base' ≤ base) : RecOwn base' w x o n u c d := ⟨h.old.from hb, h.new.from hb, h.undo.from hb, h.opn.from hb, h.dirt.from hb, h.ok⟩
theorem RecOwn.at (h : RecOwn base w x o n u c d) : RecAt w x o n u c d := ⟨h.old.bts, h.new.bts, h.undo.bts, h.opn.bts, h.dirt.bts, h.ok⟩
theorem ok_zero : Lr.Ok Lr.zero := by
  refine ⟨by decide, by decide, by decide, by decide, by decide, by decide, ?_, ?_, ?_, by decide, by decide, by decide, ?_, ?_⟩ <;> intro b hb <;> cases hb
theorem zero_own (base : Nat) (w : World) : RecOwn base w Lr.zero (.slice none 0 0) (.slice none 0 0) (.slice none 0 0) (.slice none 0 0) (.slice none 0 0) := ⟨own_nil _ _, own_nil _ _, own_nil _ _, Chr.own_nil _ _, Dir.own_nil _ _, ok_zero⟩
theorem Bts.slice {v : Value} {l : List Nat} (h : Bts w v l) : ∃ p cap, v = .slice p l.length cap := by
  obtain ⟨p, cap, hv, -⟩ := h.form
  exact ⟨p, cap, hv⟩
theorem rec_slices (h : RecAt w x o n u c d) : ∃ p1 c1 p2 c2 p3 c3 p4 c4 p5 c5, o = .slice p1 x.old.length c1 ∧ n = .slice p2 x.new.length c2 ∧ u = .slice p3 x.undo.length c3 ∧ c = .slice p4 x.opn.length c4 ∧ d = .slice p5 x.dirt.length c5 := by
  obtain ⟨p1, c1, e1⟩ := h.old.slice
  obtain ⟨p2, c2, e2⟩ := h.new.slice
  obtain ⟨p3, c3, e3⟩ := h.undo.slice
  obtain ⟨p4, c4, e4⟩ := h.opn.slice
  obtain ⟨p5, c5, e5⟩ := h.dirt.slice
  exact ⟨p1, c1, p2, c2, p3, c3, p4, c4, p5, c5, e1, e2, e3, e4, e5⟩
end
/-- A block of fifteen cells. -/
theorem rec_cell {w : World} {B : Nat} {a0 a1 a2 a3 a4 a5 a6 a7 a8 a9 a10 a11 a12 a13 a14 : Value} {T : TypeId} (h : w.heap[B]? = some (.cells #[a0, a1, a2, a3, a4, a5, a6, a7, a8, a9, a10, a11, a12, a13, a14] T (0, 0))) : w.cell? ⟨B, 0, none⟩ = some a0 ∧ w.cell? ⟨B, 1, none⟩ = some a1 ∧ w.cell? ⟨B, 2, none⟩ = some a2 ∧ w.cell? ⟨B, 3, none⟩ = some a3 ∧ w.cell? ⟨B, 4, none⟩ = some a4 ∧ w.cell? ⟨B, 5, none⟩ = some a5 ∧ w.cell? ⟨B, 6, none⟩ = some a6 ∧ w.cell? ⟨B, 7, none⟩ = some a7 ∧ w.cell? ⟨B, 8, none⟩ = some a8 ∧ w.cell? ⟨B, 9, none⟩ = some a9 ∧ w.cell? ⟨B, 10, none⟩ = some a10 ∧ w.cell? ⟨B, 11, none⟩ = some a11 ∧ w.cell? ⟨B, 12, none⟩ = some a12 ∧ w.cell? ⟨B, 13, none⟩ = some a13 ∧ w.cell? ⟨B, 14, none⟩ = some a14 := by
  refine ⟨?_, ?_, ?_, ?_, ?_, ?_, ?_, ?_, ?_, ?_, ?_, ?_, ?_, ?_, ?_⟩ <;> simp [World.cell?, h]
theorem rec_free {w : World} {B : Nat} {A : Array Value} {T : TypeId} (h : w.heap[B]? = some (.cells A T (0, 0))) (i : Nat) : w.frozen? ⟨B, i, none⟩ = false := by simp [World.frozen?, h]
theorem rec_set {w : World} {B i : Nat} {A : Array Value} {T : TypeId} (v : Value) (h : w.heap[B]? = some (.cells A T (0, 0))) : (w.setCell ⟨B, i, none⟩ v).heap[B]? = some (.cells (A.setIfInBounds i v) T (0, 0)) := by
  have hlt := lt_of_block h
  have h' : w.heap[B] = .cells A T (0, 0) := by simpa [Array.getElem?_eq_getElem hlt] using h
  show (w.heap.modify B _)[B]? = _
  rw [Array.getElem?_eq_getElem (by simpa using hlt), Array.getElem_modify_self, h']
  rfl
theorem rblk (w : World) (x : Lr.R) (o n u c d : Value) : (w.alloc (robj x o n u c d)).heap[w.heap.size]? = some (.cells #[.int .i64 x.kind, .int .u64 (x.lsn : Int), .int .u32 (x.epoch : Int), .int .u64 (x.txn : Int), .int .u32 (x.page : Int), .int .u16 (x.off : Int), o, n, u, .int .u64 (x.prev : Int), .int .u64 (x.next : Int), .bool x.clr, .int .u64 (x.stamp : Int), c, d] 40 (0, 0)) := heap_alloc_last _ _
theorem zblk (w : World) : (w.alloc zobj).heap[w.heap.size]? = some (.cells #[.int .i64 0, .int .u64 0, .int .u32 0, .int .u64 0, .int .u32 0, .int .u16 0, .slice none 0 0, .slice none 0 0, .slice none 0 0, .int .u64 0, .int .u64 0, .bool false, .int .u64 0, .slice none 0 0, .slice none 0 0] 40 (0, 0)) := heap_alloc_last _ _
theorem below_new1 (w : World) (o : Obj) : Below w.heap.size w (w.alloc o) := (Below.refl _ _).alloc (Nat.le_refl _) _
theorem ret_bool {a b : Bool} (h : a = b) : Ending.returned (.bool a) = .returned (.bool b) := by rw [h]
/-- A whole record stored over another. -/
theorem rec_stored {w : World} {B : Nat} {z0 z1 z2 z3 z4 z5 z6 z7 z8 z9 z10 z11 z12 z13 z14 : Value} {T : TypeId} (a0 a1 a2 a3 a4 a5 a6 a7 a8 a9 a10 a11 a12 a13 a14 : Value) (h : w.heap[B]? = some (.cells #[z0, z1, z2, z3, z4, z5, z6, z7, z8, z9, z10, z11, z12, z13, z14] T (0, 0))) : (((((((((((((((w.setCell ⟨B, 0, none⟩ a0).setCell ⟨B, 1, none⟩ a1).setCell ⟨B, 2, none⟩ a2).setCell ⟨B, 3, none⟩ a3).setCell ⟨B, 4, none⟩ a4).setCell ⟨B, 5, none⟩ a5).setCell ⟨B, 6, none⟩ a6).setCell ⟨B, 7, none⟩ a7).setCell ⟨B, 8, none⟩ a8).setCell ⟨B, 9, none⟩ a9).setCell ⟨B, 10, none⟩ a10).setCell ⟨B, 11, none⟩ a11).setCell ⟨B, 12, none⟩ a12).setCell ⟨B, 13, none⟩ a13).setCell ⟨B, 14, none⟩ a14).heap[B]? = some (.cells #[a0, a1, a2, a3, a4, a5, a6, a7, a8, a9, a10, a11, a12, a13, a14] T (0, 0)) ∧ w.grownBy (((((((((((((((w.setCell ⟨B, 0, none⟩ a0).setCell ⟨B, 1, none⟩ a1).setCell ⟨B, 2, none⟩ a2).setCell ⟨B, 3, none⟩ a3).setCell ⟨B, 4, none⟩ a4).setCell ⟨B, 5, none⟩ a5).setCell ⟨B, 6, none⟩ a6).setCell ⟨B, 7, none⟩ a7).setCell ⟨B, 8, none⟩ a8).setCell ⟨B, 9, none⟩ a9).setCell ⟨B, 10, none⟩ a10).setCell ⟨B, 11, none⟩ a11).setCell ⟨B, 12, none⟩ a12).setCell ⟨B, 13, none⟩ a13).setCell ⟨B, 14, none⟩ a14) (some B) := by
  have h0 := rec_set (i := 0) a0 h
  simp only [List.setIfInBounds_toArray, List.set_cons_zero] at h0
  have h1 := rec_set (i := 1) a1 h0
  simp only [List.setIfInBounds_toArray, List.set_cons_zero, List.set_cons_succ] at h1
  have h2 := rec_set (i := 2) a2 h1
  simp only [List.setIfInBounds_toArray, List.set_cons_zero, List.set_cons_succ] at h2
  have h3 := rec_set (i := 3) a3 h2
  simp only [List.setIfInBounds_toArray, List.set_cons_zero, List.set_cons_succ] at h3
  have h4 := rec_set (i := 4) a4 h3
  simp only [List.setIfInBounds_toArray, List.set_cons_zero, List.set_cons_succ] at h4
  have h5 := rec_set (i := 5) a5 h4
  simp only [List.setIfInBounds_toArray, List.set_cons_zero, List.set_cons_succ] at h5
  have h6 := rec_set (i := 6) a6 h5
  simp only [List.setIfInBounds_toArray, List.set_cons_zero, List.set_cons_succ] at h6
  have h7 := rec_set (i := 7) a7 h6
  simp only [List.setIfInBounds_toArray, List.set_cons_zero, List.set_cons_succ] at h7
  have h8 := rec_set (i := 8) a8 h7
  simp only [List.setIfInBounds_toArray, List.set_cons_zero, List.set_cons_succ] at h8
  have h9 := rec_set (i := 9) a9 h8
  simp only [List.setIfInBounds_toArray, List.set_cons_zero, List.set_cons_succ] at h9
  have h10 := rec_set (i := 10) a10 h9
  simp only [List.setIfInBounds_toArray, List.set_cons_zero, List.set_cons_succ] at h10
  have h11 := rec_set (i := 11) a11 h10
  simp only [List.setIfInBounds_toArray, List.set_cons_zero, List.set_cons_succ] at h11
  have h12 := rec_set (i := 12) a12 h11
  simp only [List.setIfInBounds_toArray, List.set_cons_zero, List.set_cons_succ] at h12
  have h13 := rec_set (i := 13) a13 h12
  simp only [List.setIfInBounds_toArray, List.set_cons_zero, List.set_cons_succ] at h13
  have h14 := rec_set (i := 14) a14 h13
  simp only [List.setIfInBounds_toArray, List.set_cons_zero, List.set_cons_succ] at h14
  refine ⟨h14, ?_⟩
  iterate 14 refine grownBy_trans ?_ (grownBy_setCell _ _ _ _)
  exact grownBy_setCell _ _ _ _
end Go.Proofs.YtafpjcobagofcaaGreat

namespace Go.Proofs.YtafpjcobagofcaaGreat
open Go.RowKit

/-- What stands in the cells: each store is told by its operation's number, its cell, and what it writes. -/
def Lay (A : Array Value) : List (Nat × Nat × Value) → (Nat → Bool) → Array Value
  | [], _ => A
  | s :: S, D => Lay (if D s.1 = true then A.setIfInBounds s.2.1 s.2.2 else A) S D
/-- No two meet one cell, or have one number. -/
def apartS : List (Nat × Nat × Value) → Bool
  | [] => true
  | s :: S => (S.all fun s' => s'.1 != s.1 && s'.2.1 != s.2.1) && apartS S
theorem lay_skip {S : List (Nat × Nat × Value)} {D : Nat → Bool} {k : Nat} : ∀ (A : Array Value), (S.all fun s => s.1 != k) = true → Lay A S (Ord.wth D k) = Lay A S D := by
  induction S with
  | nil => intro A _; rfl
  | cons s S ih =>
    intro A h
    simp only [List.all_cons, Bool.and_eq_true, bne_iff_ne, ne_eq] at h
    unfold Lay
    rw [show Ord.wth D k s.1 = D s.1 from if_neg h.1]
    exact ih _ h.2
theorem lay_set {S : List (Nat × Nat × Value)} {D : Nat → Bool} {i : Nat} {v : Value} : ∀ (A : Array Value), (S.all fun s => s.2.1 != i) = true → Lay (A.setIfInBounds i v) S D = (Lay A S D).setIfInBounds i v := by
  induction S with
  | nil => intro A _; rfl
  | cons s S ih =>
    intro A h
    simp only [List.all_cons, Bool.and_eq_true, bne_iff_ne, ne_eq] at h
    unfold Lay
    split
    · rw [Array.setIfInBounds_comm _ _ (Ne.symm h.1)]
      exact ih _ h.2
    · exact ih _ h.2
theorem lay_put {S : List (Nat × Nat × Value)} {D : Nat → Bool} {k i : Nat} {v : Value} : ∀ (A : Array Value), apartS S = true → (k, i, v) ∈ S → D k = false → Lay A S (Ord.wth D k) = (Lay A S D).setIfInBounds i v := by
  induction S with
  | nil => intro A _ h; cases h
  | cons s S ih =>
    intro A ha hm hD
    unfold apartS at ha
    rw [Bool.and_eq_true] at ha
    have hall := List.all_eq_true.1 ha.1
    simp only [Bool.and_eq_true, bne_iff_ne, ne_eq] at hall
    rcases List.mem_cons.1 hm with h | h
    · subst h
      unfold Lay
      rw [show Ord.wth D k (k, i, v).1 = true from if_pos rfl, if_pos rfl]
      simp only [hD, Bool.false_eq_true, if_false]
      rw [lay_skip _ (List.all_eq_true.2 fun s' hs' => by simp only [bne_iff_ne, ne_eq]; exact (hall s' hs').1)]
      exact lay_set _ (List.all_eq_true.2 fun s' hs' => by simp only [bne_iff_ne, ne_eq]; exact (hall s' hs').2)
    · unfold Lay
      have h2 := hall _ h
      rw [show Ord.wth D k s.1 = D s.1 from if_neg (fun e => h2.1 e.symm)]
      exact ih _ ha.2 h hD
theorem lay_all {S : List (Nat × Nat × Value)} {D : Nat → Bool} : ∀ (A : Array Value), (∀ s ∈ S, D s.1 = true) → Lay A S D = Lay A S (fun _ => true) := by
  induction S with
  | nil => intro A _; rfl
  | cons s S ih =>
    intro A h
    unfold Lay
    rw [h s (List.mem_cons_self ..), if_pos rfl]
    exact ih _ fun s' hs' => h s' (List.mem_cons_of_mem _ hs')
theorem lay_none {S : List (Nat × Nat × Value)} : ∀ (A : Array Value), Lay A S (fun _ => false) = A := by
  induction S with
  | nil => intro A; rfl
  | cons s S ih => intro A; unfold Lay; exact ih _

structure LayR (W : World) (B : Nat) (A : Array Value) (T : TypeId) (S : List (Nat × Nat × Value)) (D : Nat → Bool) (w : World) : Prop where
  grown : W.grownBy w (some B)
  row : w.heap[B]? = some (.cells (Lay A S D) T (0, 0))
section
variable {W w : World} {B k i : Nat} {A : Array Value} {T : TypeId} {S : List (Nat × Nat × Value)} {D : Nat → Bool} {v : Value}
theorem LayR.first (h : W.heap[B]? = some (.cells A T (0, 0))) : LayR W B A T S (fun _ => false) W.drew := ⟨grownBy_drew W _, by rw [lay_none]; exact h⟩
theorem LayR.skip (h : LayR W B A T S D w) (hk : (S.all fun s => s.1 != k) = true) : LayR W B A T S (Ord.wth D k) w := ⟨h.grown, by rw [lay_skip _ hk]; exact h.row⟩
theorem LayR.put (h : LayR W B A T S D w) (k i : Nat) (v : Value) (ha : apartS S = true) (hm : (k, i, v) ∈ S) (hD : D k = false) : LayR W B A T S (Ord.wth D k) (w.setCell ⟨B, i, none⟩ v) :=
  ⟨grownBy_trans h.grown (grownBy_setCell _ _ _ _), by rw [lay_put _ ha hm hD]; exact rec_set v h.row⟩
theorem LayR.free (h : LayR W B A T S D w) (i : Nat) : w.frozen? ⟨B, i, none⟩ = false := rec_free h.row i
theorem LayR.cell (h : LayR W B A T S D w) {b o : Nat} {u : Value} (hc : W.cell? ⟨b, o, none⟩ = some u) (hb : b ≠ B) : w.cell? ⟨b, o, none⟩ = some u := h.grown.cell hc (fun e => hb (Option.some.inj e))
theorem lay_size {S : List (Nat × Nat × Value)} {D : Nat → Bool} : ∀ (A : Array Value), (Lay A S D).size = A.size := by
  induction S with
  | nil => intro A; rfl
  | cons s S ih => intro A; unfold Lay; rw [ih]; split <;> simp
theorem LayR.there (h : LayR W B A T S D w) (i : Nat) (hi : i < A.size) : ∃ u, w.cell? ⟨B, i, none⟩ = some u := by
  rw [cell_of_row _ B i _ T (0, 0) h.row]
  exact ⟨_, Array.getElem?_eq_getElem (by rw [lay_size]; exact hi)⟩
end
theorem bts_none (w : World) : Bts w (.slice none 0 0) [] := (own_nil 0 w).bts
theorem ok_bare {x : Lr.R} {y : Lr.R} (h : Lr.Ok x) (hk : y.kind = x.kind := by rfl) (h1 : y.lsn = x.lsn := by rfl) (h2 : y.epoch = x.epoch := by rfl) (h3 : y.txn = x.txn ∨ y.txn = 0 := by first | exact Or.inl rfl | exact Or.inr rfl) (h4 : y.page = x.page ∨ y.page = 0 := by first | exact Or.inl rfl | exact Or.inr rfl) (h5 : y.off = x.off ∨ y.off = 0 := by first | exact Or.inl rfl | exact Or.inr rfl)
    (h6 : y.old = x.old ∨ y.old = [] := by first | exact Or.inl rfl | exact Or.inr rfl) (h7 : y.new = x.new ∨ y.new = [] := by first | exact Or.inl rfl | exact Or.inr rfl) (h8 : y.undo = x.undo ∨ y.undo = [] := by first | exact Or.inl rfl | exact Or.inr rfl) (h9 : y.prev = x.prev ∨ y.prev = 0 := by first | exact Or.inl rfl | exact Or.inr rfl) (h10 : y.next = x.next ∨ y.next = 0 := by first | exact Or.inl rfl | exact Or.inr rfl)
    (h12 : y.stamp = x.stamp ∨ y.stamp = 0 := by first | exact Or.inl rfl | exact Or.inr rfl) (h13 : y.opn = x.opn ∨ y.opn = [] := by first | exact Or.inl rfl | exact Or.inr rfl) (h14 : y.dirt = x.dirt ∨ y.dirt = [] := by first | exact Or.inl rfl | exact Or.inr rfl) : Lr.Ok y := by
  refine ⟨by rw [hk]; exact h.kind, by rw [h1]; exact h.lsn, by rw [h2]; exact h.epoch, ?_, ?_, ?_, ?_, ?_, ?_, ?_, ?_, ?_, ?_, ?_⟩
  · rcases h3 with e | e <;> rw [e]; exact h.txn; decide
  · rcases h4 with e | e <;> rw [e]; exact h.page; decide
  · rcases h5 with e | e <;> rw [e]; exact h.off; decide
  · rcases h6 with e | e <;> rw [e]; exact h.old; simp
  · rcases h7 with e | e <;> rw [e]; exact h.new; simp
  · rcases h8 with e | e <;> rw [e]; exact h.undo; simp
  · rcases h9 with e | e <;> rw [e]; exact h.prev; decide
  · rcases h10 with e | e <;> rw [e]; exact h.next; decide
  · rcases h12 with e | e <;> rw [e]; exact h.stamp; decide
  · rcases h13 with e | e <;> rw [e]; exact h.opn; simp
  · rcases h14 with e | e <;> rw [e]; exact h.dirt; simp

section
variable {ops : Array Oper} {rest : List Oper} {o : Oper} {a : Act} {w : World} {Q : Exit → Act → World → Prop} {K : Act → World → Prop}
theorem rec_info {A : Array Value} (h : A.size = 15) : (Tryz.prog.info? 40).map (·.size) = some A.size := by rw [h]; kernel_rfl
/-- A whole record is loaded. -/
theorem wpList_load_rec (hgd : o.guard = none) (x : Operand) (ho : o.op = .load 40 x) (g : Nat) (hx : a.eval x = .pointer (some ⟨g, 0, none⟩)) (A : Array Value) (hg : w.heap[g]? = some (.cells A 40 (0, 0))) (hs : A.size = 15)
    (h : wpList Tryz.prog ops Q rest (a.put o.dst (.agg A)) w) : wpList Tryz.prog ops Q (o :: rest) a w :=
  wpList_load_row hgd 40 x ho g hx _ _ _ _ hg Tryz.underlying40 rfl (rec_info hs) h
theorem wp_load_rec (x : Operand) (ho : o.op = .load 40 x) (g : Nat) (hx : a.eval x = .pointer (some ⟨g, 0, none⟩)) (A : Array Value) (hg : w.heap[g]? = some (.cells A 40 (0, 0))) (hs : A.size = 15)
    (h : K (a.put o.dst (.agg A)) w) : o.wp Tryz.prog a w K Q :=
  wp_load_row 40 x ho g hx _ _ _ _ hg Tryz.underlying40 rfl (rec_info hs) h
/-- .. and stored. -/
theorem wpList_store_rec (hgd : o.guard = none) (x y : Operand) (ho : o.op = .store 40 x y) (g : Nat) (hx : a.eval x = .pointer (some ⟨g, 0, none⟩)) (A : Array Value) (hy : a.eval y = .agg A) (old : Array Value) (hg : w.heap[g]? = some (.cells old 40 (0, 0))) (hs : A.size = 15) (ho2 : old.size = 15) (h1 : A.all (·.oneCell') = true)
    (h : ∀ w', w'.heap[g]? = some (.cells A 40 (0, 0)) → w.grownBy w' (some g) → wpList Tryz.prog ops Q rest (a.put o.dst undef) w') : wpList Tryz.prog ops Q (o :: rest) a w := by
  refine wpList_store_row hgd 40 x y ho g _ hx hy _ _ hg (rec_info hs) (by rw [hs, ho2]) h1 (h _ (setRow_heap _ _ _ _ _ _ hg) ?_)
  exact ⟨rfl, rfl, rfl, by simp, fun i _ hi => setRow_other w g i _ (fun e => hi (by rw [e]))⟩
end
end Go.Proofs.YtafpjcobagofcaaGreat

namespace Go.Proofs.YtafpjcobagofcaaGreat
open Go.RowKit

structure KeptR (base : Nat) (W : World) (P : Nat → World → Value → Prop) (til : Nat → Option Nat) (D : Nat → Bool) (xs : Nat → Value) (w : World) : Prop where
  below : Below base W w
  size : base ≤ w.heap.size
  each : ∀ k, D k = true → (∀ j, til k = some j → D j = false) → P k w (xs k)
section
variable {base : Nat} {W w w' : World} {P : Nat → World → Value → Prop} {til : Nat → Option Nat} {D : Nat → Bool} {xs : Nat → Value}
theorem KeptR.first (xs : Nat → Value) (hs : base ≤ W.heap.size) : KeptR base W P til (fun _ => false) xs W.drew := ⟨(Below.refl _ _).go1, hs, fun _ h => (by cases h)⟩
theorem KeptR.step (h : KeptR base W P til D xs w) (k : Nat) (v : Value) (hst : ∀ k w w' v, P k w v → Below w.heap.size w w' → P k w' v) (hb : Below w.heap.size w w') (hp : P k w' v) : KeptR base W P til (Ord.wth D k) (Ord.set xs k v) w' := by
  refine ⟨h.below.trans (hb.mono h.size), Nat.le_trans h.size hb.size, fun j hj ha => ?_⟩
  by_cases e : j = k
  · subst e
    rw [show Ord.set xs j v j = v from if_pos rfl]
    exact hp
  · rw [show Ord.set xs k v j = xs j from if_neg e]
    rw [show Ord.wth D k j = D j from if_neg e] at hj
    refine hst _ _ _ _ (h.each j hj fun i hi => ?_) hb
    have := ha i hi
    unfold Ord.wth at this
    split at this
    · cases this
    · exact this
theorem KeptR.append (h : KeptR base W P til D xs w) (k : Nat) (v : Value) (hb : Below base w w') (hd : ∀ j, j ≠ k → D j = true → (∀ i, til j = some i → Ord.wth D k i = false) → P j w' (xs j)) (hp : P k w' v) : KeptR base W P til (Ord.wth D k) (Ord.set xs k v) w' := by
  refine ⟨h.below.trans hb, Nat.le_trans h.size hb.size, fun j hj ha => ?_⟩
  by_cases e : j = k
  · subst e
    rw [show Ord.set xs j v j = v from if_pos rfl]
    exact hp
  · rw [show Ord.set xs k v j = xs j from if_neg e]
    rw [show Ord.wth D k j = D j from if_neg e] at hj
    exact hd j e hj ha
theorem wth_at (D : Nat → Bool) (k : Nat) : Ord.wth D k k = true := if_pos rfl
end
end Go.Proofs.YtafpjcobagofcaaGreat
