/- Parts of a proof. Conditions: as each row says. -/
import Derived.Test.YtbpodmallknhfaaGreatAr03
import Derived.Test.YtbpodmallknhfaaGreatAr01
import Derived.Laws.BitsAllLaws
import Derived.Laws.OwnMore
import Derived.Deep.SlicePairs
import Derived.Lib.SmallJoins
import Derived.IntWalk
import Derived.WideShapes
import Derived.BigQuiet
import Derived.Deep.QuietTactic
import Derived.StillTailTactics
import Derived.Laws.Rows
import Derived.Laws.Tables
import Derived.Laws.StructEq
namespace Go.Proofs.YtbpodmallknhfaaGreat
namespace Crc
def poly : Nat := 2197175160
def H (x : Nat) : Nat := (x / 2) ^^^ (if x % 2 = 1 then poly else 0)
def Hn : Nat → Nat → Nat
  | 0, x => x
  | n + 1, x => Hn n (H x)
def S (x : Nat) : Nat := Hn 8 x
def raw (r : Nat) (l : List Nat) : Nat := l.foldl (fun r b => S (r ^^^ b)) r
def le : List Nat → Nat
  | [] => 0
  | b :: r => b ^^^ (256 * le r)
def ones : Nat := 4294967295
def more (s : Nat) (l : List Nat) : Nat := ones ^^^ raw (ones ^^^ s) l
theorem xor_half (a b : Nat) : (a ^^^ b) / 2 = (a / 2) ^^^ (b / 2) := by
  apply Nat.eq_of_testBit_eq; intro i
  simp [Nat.testBit_div_two]
theorem xor_par (a b : Nat) : (a ^^^ b) % 2 = (a % 2 + b % 2) % 2 := by
  have h : decide ((a ^^^ b) % 2 = 1) = (decide (a % 2 = 1)).xor (decide (b % 2 = 1)) := by
    rw [← Nat.testBit_zero, ← Nat.testBit_zero, ← Nat.testBit_zero]; exact Nat.testBit_xor a b 0
  rcases Nat.mod_two_eq_zero_or_one a with ha | ha <;> rcases Nat.mod_two_eq_zero_or_one b with hb | hb <;>
    rcases Nat.mod_two_eq_zero_or_one (a ^^^ b) with hc | hc <;> simp [ha, hb, hc] at h ⊢
theorem H_xor (a b : Nat) : H (a ^^^ b) = H a ^^^ H b := by
  unfold H
  rw [xor_half, xor_par]
  rcases Nat.mod_two_eq_zero_or_one a with ha | ha <;> rcases Nat.mod_two_eq_zero_or_one b with hb | hb <;> simp [ha, hb]
  · rw [Nat.xor_assoc]
  · rw [Nat.xor_assoc, Nat.xor_assoc, Nat.xor_comm poly (b / 2)]
  · have : a / 2 ^^^ poly ^^^ (b / 2 ^^^ poly) = (a / 2 ^^^ b / 2) ^^^ (poly ^^^ poly) := by
      simp only [Nat.xor_assoc]; congr 1; rw [← Nat.xor_assoc, Nat.xor_comm poly, Nat.xor_assoc]
    rw [this, Nat.xor_self, Nat.xor_zero]
theorem Hn_xor (n a b : Nat) : Hn n (a ^^^ b) = Hn n a ^^^ Hn n b := by
  induction n generalizing a b with
  | zero => rfl
  | succ n ih => simp only [Hn]; rw [H_xor, ih]
theorem Hn_add (m n x : Nat) : Hn (m + n) x = Hn n (Hn m x) := by
  induction m generalizing x with
  | zero => simp [Hn]
  | succ m ih => rw [show m + 1 + n = (m + n) + 1 by omega]; simp only [Hn]; exact ih _
theorem Hn_succ (n x : Nat) : Hn (n + 1) x = H (Hn n x) := Hn_add n 1 x
theorem H_double (x : Nat) : H (2 * x) = x := by
  unfold H
  rw [show 2 * x / 2 = x by omega, if_neg (by omega), Nat.xor_zero]
theorem Hn_shift (n x : Nat) : Hn n (2 ^ n * x) = x := by
  induction n generalizing x with
  | zero => simp [Hn]
  | succ n ih => simp only [Hn]; rw [Nat.pow_succ', Nat.mul_assoc, H_double, ih]
theorem Hn_zero (n : Nat) : Hn n 0 = 0 := by simpa using Hn_shift n 0
theorem H_lt {x : Nat} (h : x < 2 ^ 32) : H x < 2 ^ 32 := by
  unfold H
  apply Nat.xor_lt_two_pow
  · omega
  · split
    · decide
    · decide
theorem Hn_lt (n : Nat) {x : Nat} (h : x < 2 ^ 32) : Hn n x < 2 ^ 32 := by
  induction n generalizing x with
  | zero => exact h
  | succ n ih => exact ih (H_lt h)
theorem S_lt {x : Nat} (h : x < 2 ^ 32) : S x < 2 ^ 32 := Hn_lt 8 h
theorem S_xor (a b : Nat) : S (a ^^^ b) = S a ^^^ S b := Hn_xor 8 a b
theorem S_shift (x : Nat) : S (256 * x) = x := Hn_shift 8 x
theorem raw_cons (r b : Nat) (l : List Nat) : raw r (b :: l) = raw (S (r ^^^ b)) l := rfl
theorem raw_append (r : Nat) (a b : List Nat) : raw r (a ++ b) = raw (raw r a) b := List.foldl_append
theorem raw_snoc (r : Nat) (a : List Nat) (b : Nat) : raw r (a ++ [b]) = S (raw r a ^^^ b) := by rw [raw_append]; rfl
theorem raw_eq (r : Nat) (l : List Nat) : raw r l = Hn (8 * l.length) (r ^^^ le l) := by
  induction l generalizing r with
  | nil => simp [raw, le, Hn]
  | cons b l ih =>
    rw [raw_cons, ih, List.length_cons, show 8 * (l.length + 1) = 8 + 8 * l.length by omega, Hn_add]
    congr 1
    show S (r ^^^ b) ^^^ le l = S (r ^^^ (b ^^^ (256 * le l)))
    rw [← Nat.xor_assoc, S_xor (r ^^^ b), S_shift]
theorem raw_lt {r : Nat} (h : r < 2 ^ 32) : ∀ {l : List Nat}, (∀ b ∈ l, b < 256) → raw r l < 2 ^ 32 := by
  intro l
  induction l generalizing r with
  | nil => intro _; exact h
  | cons b l ih =>
    intro hb
    rw [raw_cons]
    refine ih (S_lt (Nat.xor_lt_two_pow h ?_)) (fun x hx => hb x (by simp [hx]))
    have := hb b (by simp)
    omega
theorem more_lt {s : Nat} (h : s < 2 ^ 32) {l : List Nat} (hl : ∀ b ∈ l, b < 256) : more s l < 2 ^ 32 :=
  Nat.xor_lt_two_pow (by decide) (raw_lt (Nat.xor_lt_two_pow (by decide) h) hl)
theorem le_xor3 : ∀ (a b c : List Nat), a.length = b.length → b.length = c.length →
    le (List.zipWith (· ^^^ ·) (List.zipWith (· ^^^ ·) a b) c) = le a ^^^ le b ^^^ le c := by
  have dist : ∀ x y : Nat, 256 * (x ^^^ y) = (256 * x) ^^^ (256 * y) := by
    intro x y
    have h : ∀ z : Nat, 256 * z = z <<< 8 := fun z => by rw [Nat.shiftLeft_eq]; omega
    rw [h, h, h, Nat.shiftLeft_xor_distrib]
  intro a
  induction a with
  | nil => intro b c hb hc; cases b <;> simp_all <;> cases c <;> simp_all [le]
  | cons x a ih =>
    intro b c hb hc
    match b, c, hb, hc with
    | y :: b, z :: c, hb, hc =>
      simp only [List.length_cons, Nat.add_right_cancel_iff] at hb hc
      simp only [List.zipWith_cons_cons, le, ih b c hb hc, dist]
      generalize 256 * le a = A; generalize 256 * le b = B; generalize 256 * le c = C
      apply Nat.eq_of_testBit_eq; intro i
      simp only [Nat.testBit_xor]
      cases x.testBit i <;> cases y.testBit i <;> cases z.testBit i <;> cases A.testBit i <;> cases B.testBit i <;> cases C.testBit i <;> rfl
theorem three (a b c : List Nat) (h1 : a.length = b.length) (h2 : b.length = c.length) :
    more 0 (List.zipWith (· ^^^ ·) (List.zipWith (· ^^^ ·) a b) c) = more 0 a ^^^ more 0 b ^^^ more 0 c := by
  unfold more
  rw [raw_eq, raw_eq, raw_eq, raw_eq, le_xor3 a b c h1 h2]
  have hl : (List.zipWith (· ^^^ ·) (List.zipWith (· ^^^ ·) a b) c).length = a.length := by simp; omega
  rw [hl, ← h1, ← (h1.trans h2)]
  simp only [Hn_xor, Nat.xor_zero]
  generalize Hn (8 * a.length) ones = x
  generalize Hn (8 * a.length) (le a) = A
  generalize Hn (8 * a.length) (le b) = B
  generalize Hn (8 * a.length) (le c) = C
  apply Nat.eq_of_testBit_eq; intro i
  simp only [Nat.testBit_xor]
  cases x.testBit i <;> cases A.testBit i <;> cases B.testBit i <;> cases C.testBit i <;> cases ones.testBit i <;> rfl
theorem step_tab (r b : Nat) : S (r ^^^ b) = S ((r % 256) ^^^ b) ^^^ (r / 256) := by
  have h : r = (r % 256) ^^^ (256 * (r / 256)) := by
    apply Nat.eq_of_testBit_eq; intro i
    have h1 : r % 256 = r % 2 ^ 8 := rfl
    have h2 : 256 * (r / 256) = (r >>> 8) <<< 8 := by rw [Nat.shiftLeft_eq, Nat.shiftRight_eq_div_pow]; omega
    rw [h1, h2, Nat.testBit_xor, Nat.testBit_mod_two_pow, Nat.testBit_shiftLeft, Nat.testBit_shiftRight]
    by_cases hi : i < 8
    · simp [hi, show ¬ 8 ≤ i by omega]
    · simp [hi, show 8 ≤ i by omega, show 8 + (i - 8) = i by omega]
  have e : r ^^^ b = ((r % 256) ^^^ b) ^^^ (256 * (r / 256)) := by
    conv => lhs; rw [h]
    rw [Nat.xor_assoc, Nat.xor_assoc, Nat.xor_comm b]
  rw [e, S_xor, S_shift]
theorem known : more 0 [49, 50, 51, 52, 53, 54, 55, 56, 57] = 3808858755 := by decide +kernel
end Crc
end Go.Proofs.YtbpodmallknhfaaGreat
namespace Go.Proofs.YtbpodmallknhfaaGreat.Lr
open Go.Proofs.YtbpodmallknhfaaGreat.Cod
theorem two32 : (2 : Nat) ^ 32 = 4294967296 := by decide
abbrev Ch := Nat × Nat × Nat
abbrev Di := Nat × Nat
structure R where
  kind : Int
  lsn : Nat
  epoch : Nat
  txn : Nat
  page : Nat
  off : Nat
  old : List Nat
  new : List Nat
  undo : List Nat
  prev : Nat
  next : Nat
  clr : Bool
  stamp : Nat
  opn : List Ch
  dirt : List Di
def zero : R := ⟨0, 0, 0, 0, 0, 0, [], [], [], 0, 0, false, 0, [], []⟩
def bare (x : R) : R :=
  if x.kind = 1 then ⟨x.kind, x.lsn, x.epoch, 0, x.page, x.off, x.old, x.new, [], 0, 0, false, 0, [], []⟩
  else if x.kind = 2 then ⟨x.kind, x.lsn, x.epoch, x.txn, 0, 0, [], [], x.undo, x.prev, x.next, x.clr, 0, [], []⟩
  else if x.kind = 3 then ⟨x.kind, x.lsn, x.epoch, x.txn, 0, 0, [], [], [], 0, 0, false, x.stamp, [], []⟩
  else if x.kind = 4 then ⟨x.kind, x.lsn, x.epoch, x.txn, 0, 0, [], [], [], 0, 0, false, 0, [], []⟩
  else if x.kind = 5 then ⟨x.kind, x.lsn, x.epoch, 0, 0, 0, [], [], [], 0, 0, false, 0, x.opn, x.dirt⟩
  else ⟨x.kind, x.lsn, x.epoch, 0, 0, 0, [], [], [], 0, 0, false, 0, [], []⟩
def Within (x : R) : Prop :=
  (x.kind = 1 ∧ x.old.length = x.new.length ∧ 1 ≤ x.new.length ∧ x.off + x.new.length ≤ 500) ∨
  (x.kind = 2 ∧ (x.clr = true → x.undo.length = 0) ∧ (x.clr = false → x.undo.length ≤ 64 ∧ x.next = 0)) ∨
  (x.kind = 3 ∧ x.txn ≠ 0) ∨ (x.kind = 4 ∧ x.txn ≠ 0) ∨ (x.kind = 5 ∧ x.opn.length ≤ 16 ∧ x.dirt.length ≤ 64)
def May (x : R) : Prop := Within x ∧ x = bare x
structure Ok (x : R) : Prop where
  kind : -9223372036854775808 ≤ x.kind ∧ x.kind < 9223372036854775808
  lsn : x.lsn < 18446744073709551616
  epoch : x.epoch < 4294967296
  txn : x.txn < 18446744073709551616
  page : x.page < 4294967296
  off : x.off < 65536
  old : ∀ b ∈ x.old, b < 256
  new : ∀ b ∈ x.new, b < 256
  undo : ∀ b ∈ x.undo, b < 256
  prev : x.prev < 18446744073709551616
  next : x.next < 18446744073709551616
  stamp : x.stamp < 18446744073709551616
  opn : ∀ c ∈ x.opn, c.1 < 18446744073709551616 ∧ c.2.1 < 18446744073709551616 ∧ c.2.2 < 18446744073709551616
  dirt : ∀ d ∈ x.dirt, d.1 < 4294967296 ∧ d.2 < 18446744073709551616
def text (s : List Nat) : List Nat := uv s.length ++ s
def chB (c : Ch) : List Nat := le 8 c.1 ++ (le 8 c.2.1 ++ le 8 c.2.2)
def diB (d : Di) : List Nat := le 4 d.1 ++ le 8 d.2
def chs (l : List Ch) : List Nat := l.flatMap chB
def dis (l : List Di) : List Nat := l.flatMap diB
def clrB (b : Bool) : Nat := if b then 1 else 0
def own (x : R) : List Nat :=
  if x.kind = 1 then le 4 x.page ++ (le 2 x.off ++ (text x.old ++ text x.new))
  else if x.kind = 2 then le 8 x.txn ++ (le 8 x.prev ++ (le 8 x.next ++ (clrB x.clr :: text x.undo)))
  else if x.kind = 3 then le 8 x.txn ++ le 8 x.stamp
  else if x.kind = 4 then le 8 x.txn
  else if x.kind = 5 then (uv x.opn.length ++ chs x.opn) ++ (uv x.dirt.length ++ dis x.dirt)
  else []
def body (x : R) : List Nat := le 8 x.lsn ++ (le 4 x.epoch ++ (x.kind.toNat :: own x))
def rest (x : R) : List Nat := le 2 (19 + (own x).length) ++ body x
def form (x : R) : List Nat := le 4 (Crc.more 0 (rest x)) ++ rest x
theorem body_length (x : R) : (body x).length = 13 + (own x).length := by
  unfold body
  rw [List.length_append, List.length_append, le_length, le_length, List.length_cons]; omega
theorem rest_length (x : R) : (rest x).length = 15 + (own x).length := by
  unfold rest
  rw [List.length_append, le_length, body_length]; omega
theorem form_length (x : R) : (form x).length = 19 + (own x).length := by
  unfold form
  rw [List.length_append, le_length, rest_length]; omega
theorem chs_lt (l : List Ch) : ∀ x ∈ chs l, x < 256 := by
  intro x hx
  obtain ⟨c, -, hc⟩ := List.mem_flatMap.1 hx
  unfold chB at hc
  rcases List.mem_append.1 hc with h | h
  · exact le_lt _ _ x h
  · rcases List.mem_append.1 h with h | h
    · exact le_lt _ _ x h
    · exact le_lt _ _ x h
theorem dis_lt (l : List Di) : ∀ x ∈ dis l, x < 256 := by
  intro x hx
  obtain ⟨c, -, hc⟩ := List.mem_flatMap.1 hx
  unfold diB at hc
  rcases List.mem_append.1 hc with h | h
  · exact le_lt _ _ x h
  · exact le_lt _ _ x h
theorem text_lt {s : List Nat} (h : ∀ x ∈ s, x < 256) : ∀ x ∈ text s, x < 256 := by
  intro x hx
  rcases List.mem_append.1 hx with hx | hx
  · exact uv_lt _ x hx
  · exact h x hx
theorem clrB_lt (b : Bool) : clrB b < 256 := by cases b <;> decide
theorem app_lt {a b : List Nat} (ha : ∀ x ∈ a, x < 256) (hb : ∀ x ∈ b, x < 256) : ∀ x ∈ a ++ b, x < 256 := by
  intro x hx
  rcases List.mem_append.1 hx with hx | hx
  · exact ha x hx
  · exact hb x hx
theorem cons_lt {a : Nat} {b : List Nat} (ha : a < 256) (hb : ∀ x ∈ b, x < 256) : ∀ x ∈ a :: b, x < 256 := by
  intro x hx
  rcases List.mem_cons.1 hx with rfl | hx
  · exact ha
  · exact hb x hx
theorem own_lt {x : R} (h : Ok x) : ∀ b ∈ own x, b < 256 := by
  unfold own
  split
  · exact app_lt (le_lt _ _) (app_lt (le_lt _ _) (app_lt (text_lt h.old) (text_lt h.new)))
  split
  · exact app_lt (le_lt _ _) (app_lt (le_lt _ _) (app_lt (le_lt _ _) (cons_lt (clrB_lt _) (text_lt h.undo))))
  split
  · exact app_lt (le_lt _ _) (le_lt _ _)
  split
  · exact le_lt _ _
  split
  · exact app_lt (app_lt (uv_lt _) (chs_lt _)) (app_lt (uv_lt _) (dis_lt _))
  · simp
theorem kind_lt {x : R} (h : Within x) : 1 ≤ x.kind ∧ x.kind ≤ 5 := by
  rcases h with ⟨hk, h1, h2, h3⟩ | ⟨hk, h1, h2⟩ | ⟨hk, h1⟩ | ⟨hk, h1⟩ | ⟨hk, h1, h2⟩ <;> omega
theorem rest_lt {x : R} (h : Ok x) (hw : Within x) : ∀ b ∈ rest x, b < 256 := by
  have := kind_lt hw
  exact app_lt (le_lt _ _) (app_lt (le_lt _ _) (app_lt (le_lt _ _) (cons_lt (by omega) (own_lt h))))
theorem form_lt {x : R} (h : Ok x) (hw : Within x) : ∀ b ∈ form x, b < 256 := app_lt (le_lt _ _) (rest_lt h hw)
theorem sum_lt {l : List Nat} (h : ∀ x ∈ l, x < 256) : Crc.more 0 l < 4294967296 := by
  have := Crc.more_lt (s := 0) (by decide) h
  rwa [two32] at this
def Is (b : List Nat) (y : R) : Prop := May y ∧ Ok y ∧ ∃ t, b = form y ++ t
noncomputable def ifP {α : Type} (p : Prop) (a b : α) : α := @ite α p (Classical.propDecidable p) a b
theorem ifP_pos {α : Type} {p : Prop} (h : p) (a b : α) : ifP p a b = a := by unfold ifP; exact @if_pos p (_) h _ _ _
theorem ifP_neg {α : Type} {p : Prop} (h : ¬ p) (a b : α) : ifP p a b = b := by unfold ifP; exact @if_neg p (_) h _ _ _
end Go.Proofs.YtbpodmallknhfaaGreat.Lr
namespace Go.Proofs.YtbpodmallknhfaaGreat.Chr
open Go.RowKit Go.Proofs.YtbpodmallknhfaaGreat.Lr
abbrev El := Ch
def enc (c : El) : List Value := [.int .u64 (c.1 : Int), .int .u64 (c.2.1 : Int), .int .u64 (c.2.2 : Int)]
def cells (l : List El) : List Value := l.flatMap enc
theorem cells_length : ∀ l : List El, (cells l).length = l.length * 3
  | [] => rfl
  | h :: l => by
    have := cells_length l
    simp only [cells, List.flatMap_cons, List.length_append, List.length_cons] at *
    simp only [enc, List.length_cons, List.length_nil]
    omega
theorem cells_append (a b : List El) : cells (a ++ b) = cells a ++ cells b := by simp [cells]
theorem cells_one (l : List El) : ∀ u ∈ cells l, u.oneCell' = true := by
  intro u hu
  simp only [cells, List.mem_flatMap, enc] at hu
  obtain ⟨x, _, hx⟩ := hu
  simp at hx
  rcases hx with rfl | rfl | rfl <;> rfl
structure Bts (w : World) (v : Value) (l : List El) : Prop where
  form : ∃ p cap, v = .slice p l.length cap ∧ (l.length ≤ cap ∧ cap ≤ 9223372036854775807) ∧ (p = none → cap = 0) ∧ (0 < l.length → ∃ b off, p = some ⟨b, off, none⟩ ∧ ∀ j, j < l.length * 3 → w.cell? ⟨b, off + j, none⟩ = (cells l)[j]?)
theorem Bts.below {w w' : World} {v : Value} {l : List El} (h : Bts w v l) (hb : Below w.heap.size w w') : Bts w' v l := by
  obtain ⟨p, cap, hv, hr, hn, hp⟩ := h.form
  refine ⟨p, cap, hv, hr, hn, fun h0 => ?_⟩
  obtain ⟨b, off, hpe, hc⟩ := hp h0
  refine ⟨b, off, hpe, fun j hj => ?_⟩
  have hci := hc j hj
  rw [List.getElem?_eq_getElem (by rw [cells_length]; exact hj)] at hci ⊢
  rw [hb.cell (p := ⟨b, off + j, none⟩) (block_lt_of_cell hci)]
  exact hci
theorem Bts.grown {w w' : World} {v : Value} {l : List El} {row : Option Nat} (h : Bts w v l) (hg : w.grownBy w' row) (hne : 0 < l.length → v.ownBlock ≠ row) : Bts w' v l := by
  obtain ⟨p, cap, hv, hr, hn, hp⟩ := h.form
  refine ⟨p, cap, hv, hr, hn, fun h0 => ?_⟩
  obtain ⟨b, off, hpe, hc⟩ := hp h0
  refine ⟨b, off, hpe, fun j hj => ?_⟩
  have hci := hc j hj
  rw [List.getElem?_eq_getElem (by rw [cells_length]; exact hj)] at hci ⊢
  refine hg.cell hci ?_
  have := hne h0
  rw [hv, hpe] at this
  exact this
theorem info : (Tryz.prog.info? 204).map (fun i => (i.zero, i.size, i.bytes)) = some (some (.agg #[.int .u64 0, .int .u64 0, .int .u64 0]), 3, 24) := by kernel_rfl
def Own (base : Nat) (w : World) (v : Value) (l : List El) : Prop := w.ownsRow base 204 3 v l.length (cells l)
theorem Own.form {base : Nat} {w : World} {v : Value} {l : List El} (h : Own base w v l) : (v = .slice none 0 0 ∧ l = []) ∨ ∃ g cap, v = .slice (some ⟨g, 0, none⟩) l.length cap ∧ base ≤ g ∧ g < w.heap.size ∧ l.length ≤ cap ∧ cap ≤ 9223372036854775807 := by
  rcases h.2 with ⟨hv, h0⟩ | ⟨g, cap, cur, hv, hg, hh, h3, h4, h5, h6⟩
  · exact Or.inl ⟨hv, List.eq_nil_of_length_eq_zero h0⟩
  · exact Or.inr ⟨g, cap, hv, hg, lt_of_block hh, h3, h4⟩
theorem Own.bts {base : Nat} {w : World} {v : Value} {l : List El} (h : Own base w v l) : Bts w v l := by
  rcases h.2 with ⟨hv, h0⟩ | ⟨g, cap, cur, hv, hg, hh, h3, h4, h5, h6⟩
  · exact ⟨none, 0, by rw [hv, h0], by omega, fun _ => rfl, fun h => absurd h (by omega)⟩
  · refine ⟨some ⟨g, 0, none⟩, cap, hv, ⟨h3, h4⟩, fun h => by simp at h, fun _ => ⟨g, 0, rfl, fun j hj => ?_⟩⟩
    rw [Nat.zero_add, cell_of_row _ g j cur 204 (0, 0) hh, ← h6, List.getElem?_take, if_pos hj, Array.getElem?_toList]
theorem Own.grown {base : Nat} {w w' : World} {v : Value} {l : List El} {row : Option Nat} (h : Own base w v l) (hg : w.grownBy w' row) (hne : v.ownBlock = none ∨ v.ownBlock ≠ row) : Own base w' v l := h.kept hg hne
theorem Own.below {base : Nat} {w w' : World} {v : Value} {l : List El} (h : Own base w v l) (hb : Below w.heap.size w w') : Own base w' v l :=
  h.grown (row := none) (grownBy_below hb none) (by cases hv : v.ownBlock <;> simp)
theorem Own.from {base base' : Nat} {w : World} {v : Value} {l : List El} (h : Own base w v l) (hb : base' ≤ base) : Own base' w v l := by
  refine ⟨h.1, ?_⟩
  rcases h.2 with h2 | ⟨g, cap, cur, hv, hg, r⟩
  · exact Or.inl h2
  · exact Or.inr ⟨g, cap, cur, hv, Nat.le_trans hb hg, r⟩
theorem own_nil (base : Nat) (w : World) : Own base w (.slice none 0 0) [] := ⟨rfl, Or.inl ⟨rfl, rfl⟩⟩
theorem own_empty (w : World) (base : Nat) (hb : base ≤ w.heap.size) : Own base (w.alloc (.cells #[] 204)) (.slice (some ⟨w.heap.size, 0, none⟩) 0 0) [] :=
  ⟨rfl, Or.inr ⟨w.heap.size, 0, #[], rfl, hb, heap_alloc_last _ _, Nat.le_refl _, Nat.zero_le _, rfl, rfl⟩⟩
theorem wpList_append_Own {w : World} {ops : Array Oper} {rest : List Oper} {o : Oper} {a : Act} {Q : Exit → Act → World → Prop} (hgd : o.guard = none) (s x : Operand)
    (ho : o.op = .call { callee := .builtin .append, args := #[s, x], argTypes := #[76, 76] })
    (base : Nat) (v : Value) (l1 : List El) (hs : a.eval s = v) (hown : Own base w v l1)
    (xv : Value) (l2 : List El) (hx : a.eval x = xv) (hB : Bts w xv l2) (hlen : l1.length + l2.length ≤ 1000000) (hbase : base ≤ w.heap.size)
    (h : ∀ v' w', Own base w' v' (l1 ++ l2) → Below base w w' → w.grownBy w' v.ownBlock → wpList Tryz.prog ops Q rest (a.put o.dst v') w') : wpList Tryz.prog ops Q (o :: rest) a w := by
  obtain ⟨i0, hi, hz0, hz1, hz2⟩ := info_parts info
  obtain ⟨p, cap, rfl, _, hn, hp⟩ := hB.form
  cases p with
  | none =>
    obtain rfl := hn rfl
    have hl0 : l2.length = 0 := by
      rcases Nat.eq_zero_or_pos l2.length with h0 | h0
      · exact h0
      · obtain ⟨b, off, he, _⟩ := hp h0; simp at he
    obtain rfl : l2 = [] := List.eq_nil_of_length_eq_zero hl0
    refine wpList_append_own_none hgd s x 76 ho base 204 i0 3 Tryz.underlying76 hi v l1.length (cells l1) hs hown hx ?_
    refine h v w ?_ (Below.refl _ _) (World.grownBy.refl _ _)
    simpa using hown
  | some ad =>
    refine wpList_append_own w hgd s x 76 ho base 204 i0 (.agg #[.int .u64 0, .int .u64 0, .int .u64 0]) 3 24 Tryz.underlying76 hi hz0 hz1 hz2 rfl (by decide) v l1.length (cells l1) hs hown ad l2.length cap (cells l2) hx (cells_length _) ?_ (cells_one l2) (by unfold maxLen; omega) (by omega) hbase ?_
    · intro j u hj
      have hjl : j < l2.length * 3 := by
        rcases Nat.lt_or_ge j (l2.length * 3) with h1 | h1
        · exact h1
        · rw [List.getElem?_eq_none (by rw [cells_length]; exact h1)] at hj; simp at hj
      obtain ⟨b, off, he, hc⟩ := hp (by omega)
      obtain rfl := Option.some.inj he
      have hadd : (⟨b, off, none⟩ : Addr).add j = ⟨b, off + j, none⟩ := by unfold Addr.add; split <;> simp_all
      rw [hadd, hc j hjl, hj]
    · intro v' w' hown' hgrow _
      rw [← cells_append, ← List.length_append] at hown'
      refine h v' w' hown' ((Below.refl _ _).grown hgrow hbase ?_) hgrow
      intro k hk
      rcases hown.2 with ⟨rfl, _⟩ | ⟨g, c, cur, rfl, hg, _⟩
      · simp [Value.ownBlock] at hk
      · simp only [Value.ownBlock, Option.some.injEq] at hk
        omega
end Go.Proofs.YtbpodmallknhfaaGreat.Chr
namespace Go.Proofs.YtbpodmallknhfaaGreat.Dir
open Go.RowKit Go.Proofs.YtbpodmallknhfaaGreat.Lr
abbrev El := Di
def enc (c : El) : List Value := [.int .u32 (c.1 : Int), .int .u64 (c.2 : Int)]
def cells (l : List El) : List Value := l.flatMap enc
theorem cells_length : ∀ l : List El, (cells l).length = l.length * 2
  | [] => rfl
  | h :: l => by
    have := cells_length l
    simp only [cells, List.flatMap_cons, List.length_append, List.length_cons] at *
    simp only [enc, List.length_cons, List.length_nil]
    omega
theorem cells_append (a b : List El) : cells (a ++ b) = cells a ++ cells b := by simp [cells]
theorem cells_one (l : List El) : ∀ u ∈ cells l, u.oneCell' = true := by
  intro u hu
  simp only [cells, List.mem_flatMap, enc] at hu
  obtain ⟨x, _, hx⟩ := hu
  simp at hx
  rcases hx with rfl | rfl <;> rfl
structure Bts (w : World) (v : Value) (l : List El) : Prop where
  form : ∃ p cap, v = .slice p l.length cap ∧ (l.length ≤ cap ∧ cap ≤ 9223372036854775807) ∧ (p = none → cap = 0) ∧ (0 < l.length → ∃ b off, p = some ⟨b, off, none⟩ ∧ ∀ j, j < l.length * 2 → w.cell? ⟨b, off + j, none⟩ = (cells l)[j]?)
theorem Bts.below {w w' : World} {v : Value} {l : List El} (h : Bts w v l) (hb : Below w.heap.size w w') : Bts w' v l := by
  obtain ⟨p, cap, hv, hr, hn, hp⟩ := h.form
  refine ⟨p, cap, hv, hr, hn, fun h0 => ?_⟩
  obtain ⟨b, off, hpe, hc⟩ := hp h0
  refine ⟨b, off, hpe, fun j hj => ?_⟩
  have hci := hc j hj
  rw [List.getElem?_eq_getElem (by rw [cells_length]; exact hj)] at hci ⊢
  rw [hb.cell (p := ⟨b, off + j, none⟩) (block_lt_of_cell hci)]
  exact hci
theorem Bts.grown {w w' : World} {v : Value} {l : List El} {row : Option Nat} (h : Bts w v l) (hg : w.grownBy w' row) (hne : 0 < l.length → v.ownBlock ≠ row) : Bts w' v l := by
  obtain ⟨p, cap, hv, hr, hn, hp⟩ := h.form
  refine ⟨p, cap, hv, hr, hn, fun h0 => ?_⟩
  obtain ⟨b, off, hpe, hc⟩ := hp h0
  refine ⟨b, off, hpe, fun j hj => ?_⟩
  have hci := hc j hj
  rw [List.getElem?_eq_getElem (by rw [cells_length]; exact hj)] at hci ⊢
  refine hg.cell hci ?_
  have := hne h0
  rw [hv, hpe] at this
  exact this
theorem info : (Tryz.prog.info? 104).map (fun i => (i.zero, i.size, i.bytes)) = some (some (.agg #[.int .u32 0, .int .u64 0]), 2, 16) := by kernel_rfl
def Own (base : Nat) (w : World) (v : Value) (l : List El) : Prop := w.ownsRow base 104 2 v l.length (cells l)
theorem Own.form {base : Nat} {w : World} {v : Value} {l : List El} (h : Own base w v l) : (v = .slice none 0 0 ∧ l = []) ∨ ∃ g cap, v = .slice (some ⟨g, 0, none⟩) l.length cap ∧ base ≤ g ∧ g < w.heap.size ∧ l.length ≤ cap ∧ cap ≤ 9223372036854775807 := by
  rcases h.2 with ⟨hv, h0⟩ | ⟨g, cap, cur, hv, hg, hh, h3, h4, h5, h6⟩
  · exact Or.inl ⟨hv, List.eq_nil_of_length_eq_zero h0⟩
  · exact Or.inr ⟨g, cap, hv, hg, lt_of_block hh, h3, h4⟩
theorem Own.bts {base : Nat} {w : World} {v : Value} {l : List El} (h : Own base w v l) : Bts w v l := by
  rcases h.2 with ⟨hv, h0⟩ | ⟨g, cap, cur, hv, hg, hh, h3, h4, h5, h6⟩
  · exact ⟨none, 0, by rw [hv, h0], by omega, fun _ => rfl, fun h => absurd h (by omega)⟩
  · refine ⟨some ⟨g, 0, none⟩, cap, hv, ⟨h3, h4⟩, fun h => by simp at h, fun _ => ⟨g, 0, rfl, fun j hj => ?_⟩⟩
    rw [Nat.zero_add, cell_of_row _ g j cur 104 (0, 0) hh, ← h6, List.getElem?_take, if_pos hj, Array.getElem?_toList]
theorem Own.grown {base : Nat} {w w' : World} {v : Value} {l : List El} {row : Option Nat} (h : Own base w v l) (hg : w.grownBy w' row) (hne : v.ownBlock = none ∨ v.ownBlock ≠ row) : Own base w' v l := h.kept hg hne
theorem Own.below {base : Nat} {w w' : World} {v : Value} {l : List El} (h : Own base w v l) (hb : Below w.heap.size w w') : Own base w' v l :=
  h.grown (row := none) (grownBy_below hb none) (by cases hv : v.ownBlock <;> simp)
theorem Own.from {base base' : Nat} {w : World} {v : Value} {l : List El} (h : Own base w v l) (hb : base' ≤ base) : Own base' w v l := by
  refine ⟨h.1, ?_⟩
  rcases h.2 with h2 | ⟨g, cap, cur, hv, hg, r⟩
  · exact Or.inl h2
  · exact Or.inr ⟨g, cap, cur, hv, Nat.le_trans hb hg, r⟩
theorem own_nil (base : Nat) (w : World) : Own base w (.slice none 0 0) [] := ⟨rfl, Or.inl ⟨rfl, rfl⟩⟩
theorem own_empty (w : World) (base : Nat) (hb : base ≤ w.heap.size) : Own base (w.alloc (.cells #[] 104)) (.slice (some ⟨w.heap.size, 0, none⟩) 0 0) [] :=
  ⟨rfl, Or.inr ⟨w.heap.size, 0, #[], rfl, hb, heap_alloc_last _ _, Nat.le_refl _, Nat.zero_le _, rfl, rfl⟩⟩
theorem wpList_append_Own {w : World} {ops : Array Oper} {rest : List Oper} {o : Oper} {a : Act} {Q : Exit → Act → World → Prop} (hgd : o.guard = none) (s x : Operand)
    (ho : o.op = .call { callee := .builtin .append, args := #[s, x], argTypes := #[66, 66] })
    (base : Nat) (v : Value) (l1 : List El) (hs : a.eval s = v) (hown : Own base w v l1)
    (xv : Value) (l2 : List El) (hx : a.eval x = xv) (hB : Bts w xv l2) (hlen : l1.length + l2.length ≤ 1000000) (hbase : base ≤ w.heap.size)
    (h : ∀ v' w', Own base w' v' (l1 ++ l2) → Below base w w' → w.grownBy w' v.ownBlock → wpList Tryz.prog ops Q rest (a.put o.dst v') w') : wpList Tryz.prog ops Q (o :: rest) a w := by
  obtain ⟨i0, hi, hz0, hz1, hz2⟩ := info_parts info
  obtain ⟨p, cap, rfl, _, hn, hp⟩ := hB.form
  cases p with
  | none =>
    obtain rfl := hn rfl
    have hl0 : l2.length = 0 := by
      rcases Nat.eq_zero_or_pos l2.length with h0 | h0
      · exact h0
      · obtain ⟨b, off, he, _⟩ := hp h0; simp at he
    obtain rfl : l2 = [] := List.eq_nil_of_length_eq_zero hl0
    refine wpList_append_own_none hgd s x 66 ho base 104 i0 2 Tryz.underlying66 hi v l1.length (cells l1) hs hown hx ?_
    refine h v w ?_ (Below.refl _ _) (World.grownBy.refl _ _)
    simpa using hown
  | some ad =>
    refine wpList_append_own w hgd s x 66 ho base 104 i0 (.agg #[.int .u32 0, .int .u64 0]) 2 16 Tryz.underlying66 hi hz0 hz1 hz2 rfl (by decide) v l1.length (cells l1) hs hown ad l2.length cap (cells l2) hx (cells_length _) ?_ (cells_one l2) (by unfold maxLen; omega) (by omega) hbase ?_
    · intro j u hj
      have hjl : j < l2.length * 2 := by
        rcases Nat.lt_or_ge j (l2.length * 2) with h1 | h1
        · exact h1
        · rw [List.getElem?_eq_none (by rw [cells_length]; exact h1)] at hj; simp at hj
      obtain ⟨b, off, he, hc⟩ := hp (by omega)
      obtain rfl := Option.some.inj he
      have hadd : (⟨b, off, none⟩ : Addr).add j = ⟨b, off + j, none⟩ := by unfold Addr.add; split <;> simp_all
      rw [hadd, hc j hjl, hj]
    · intro v' w' hown' hgrow _
      rw [← cells_append, ← List.length_append] at hown'
      refine h v' w' hown' ((Below.refl _ _).grown hgrow hbase ?_) hgrow
      intro k hk
      rcases hown.2 with ⟨rfl, _⟩ | ⟨g, c, cur, rfl, hg, _⟩
      · simp [Value.ownBlock] at hk
      · simp only [Value.ownBlock, Option.some.injEq] at hk
        omega
end Go.Proofs.YtbpodmallknhfaaGreat.Dir
namespace Go.Proofs.YtbpodmallknhfaaGreat
open Go.RowKit
theorem _root_.Go.RowKit.Below.go1 {B0 : Nat} {a b : World} (h : Below B0 a b) : Below B0 a b.drew := ⟨h.os, h.tape, h.output, h.size, fun k hk => h.block k hk⟩
theorem below_new1 (w : World) (o : Obj) : Below w.heap.size w (w.alloc o) := (Below.refl _ _).alloc (Nat.le_refl _) _
end Go.Proofs.YtbpodmallknhfaaGreat
namespace Go.Proofs.YtbpodmallknhfaaGreat
open Go.RowKit
end Go.Proofs.YtbpodmallknhfaaGreat
namespace Go.Proofs.YtbpodmallknhfaaGreat
open Go.RowKit
end Go.Proofs.YtbpodmallknhfaaGreat
namespace Go.Proofs.YtbpodmallknhfaaGreat
namespace Lr
noncomputable def same (x y : R) : Bool := @decide (x = y) (Classical.propDecidable _)
end Lr
end Go.Proofs.YtbpodmallknhfaaGreat
namespace Go.Proofs.YtbpodmallknhfaaGreat
open Go.RowKit
namespace Lr
def within (x : R) : Bool :=
  if x.kind = 1 then decide (x.old.length = x.new.length) && decide (1 ≤ x.new.length) && decide (x.off + x.new.length ≤ 500)
  else if x.kind = 2 then (if x.clr then decide (x.undo.length = 0) else decide (x.undo.length ≤ 64) && decide (x.next = 0))
  else if x.kind = 3 then decide (x.txn ≠ 0)
  else if x.kind = 4 then decide (x.txn ≠ 0)
  else if x.kind = 5 then decide (x.opn.length ≤ 16) && decide (x.dirt.length ≤ 64)
  else false
end Lr
end Go.Proofs.YtbpodmallknhfaaGreat
namespace Go.Proofs.YtbpodmallknhfaaGreat
open Go.RowKit
namespace Lr
noncomputable def may (x : R) : Bool := within x && same x (bare x)
end Lr
end Go.Proofs.YtbpodmallknhfaaGreat
