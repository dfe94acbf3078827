/- Records of the log as bytes, plainly: which may be, their form, what bytes that begin with one tell. Conditions: none. -/
import Derived.Test.YtkchoelegdknoaaCodePure
import Derived.Test.YtkchoelegdknoaaCrcPure
namespace Go.Proofs.Ytkchoelegdknoaa.Lr
open Go.Proofs.Ytkchoelegdknoaa.Cod

theorem two32 : (2 : Nat) ^ 32 = 4294967296 := by decide
abbrev Ch := Nat × Nat × Nat
abbrev Di := Nat × Nat
structure R where
  kind : Int
  lsn : Nat
  epoch : Nat
  txn : Nat
  page : Nat
  off : Nat
  old : List Nat
  new : List Nat
  undo : List Nat
  prev : Nat
  next : Nat
  clr : Bool
  stamp : Nat
  opn : List Ch
  dirt : List Di
def zero : R := ⟨0, 0, 0, 0, 0, 0, [], [], [], 0, 0, false, 0, [], []⟩
/-- What its kind has, alone. -/
def bare (x : R) : R :=
  if x.kind = 1 then ⟨x.kind, x.lsn, x.epoch, 0, x.page, x.off, x.old, x.new, [], 0, 0, false, 0, [], []⟩
  else if x.kind = 2 then ⟨x.kind, x.lsn, x.epoch, x.txn, 0, 0, [], [], x.undo, x.prev, x.next, x.clr, 0, [], []⟩
  else if x.kind = 3 then ⟨x.kind, x.lsn, x.epoch, x.txn, 0, 0, [], [], [], 0, 0, false, x.stamp, [], []⟩
  else if x.kind = 4 then ⟨x.kind, x.lsn, x.epoch, x.txn, 0, 0, [], [], [], 0, 0, false, 0, [], []⟩
  else if x.kind = 5 then ⟨x.kind, x.lsn, x.epoch, 0, 0, 0, [], [], [], 0, 0, false, 0, x.opn, x.dirt⟩
  else ⟨x.kind, x.lsn, x.epoch, 0, 0, 0, [], [], [], 0, 0, false, 0, [], []⟩
def Within (x : R) : Prop :=
  (x.kind = 1 ∧ x.old.length = x.new.length ∧ 1 ≤ x.new.length ∧ x.off + x.new.length ≤ 500) ∨
  (x.kind = 2 ∧ (x.clr = true → x.undo.length = 0) ∧ (x.clr = false → x.undo.length ≤ 64 ∧ x.next = 0)) ∨
  (x.kind = 3 ∧ x.txn ≠ 0) ∨ (x.kind = 4 ∧ x.txn ≠ 0) ∨ (x.kind = 5 ∧ x.opn.length ≤ 16 ∧ x.dirt.length ≤ 64)
def May (x : R) : Prop := Within x ∧ x = bare x
structure Ok (x : R) : Prop where
  kind : -9223372036854775808 ≤ x.kind ∧ x.kind < 9223372036854775808
  lsn : x.lsn < 18446744073709551616
  epoch : x.epoch < 4294967296
  txn : x.txn < 18446744073709551616
  page : x.page < 4294967296
  off : x.off < 65536
  old : ∀ b ∈ x.old, b < 256
  new : ∀ b ∈ x.new, b < 256
  undo : ∀ b ∈ x.undo, b < 256
  prev : x.prev < 18446744073709551616
  next : x.next < 18446744073709551616
  stamp : x.stamp < 18446744073709551616
  opn : ∀ c ∈ x.opn, c.1 < 18446744073709551616 ∧ c.2.1 < 18446744073709551616 ∧ c.2.2 < 18446744073709551616
  dirt : ∀ d ∈ x.dirt, d.1 < 4294967296 ∧ d.2 < 18446744073709551616
def text (s : List Nat) : List Nat := uv s.length ++ s
def chB (c : Ch) : List Nat := le 8 c.1 ++ (le 8 c.2.1 ++ le 8 c.2.2)
def diB (d : Di) : List Nat := le 4 d.1 ++ le 8 d.2
def chs (l : List Ch) : List Nat := l.flatMap chB
def dis (l : List Di) : List Nat := l.flatMap diB
def clrB (b : Bool) : Nat := if b then 1 else 0
/-- What its kind has, as bytes. -/
def own (x : R) : List Nat :=
  if x.kind = 1 then le 4 x.page ++ (le 2 x.off ++ (text x.old ++ text x.new))
  else if x.kind = 2 then le 8 x.txn ++ (le 8 x.prev ++ (le 8 x.next ++ (clrB x.clr :: text x.undo)))
  else if x.kind = 3 then le 8 x.txn ++ le 8 x.stamp
  else if x.kind = 4 then le 8 x.txn
  else if x.kind = 5 then (uv x.opn.length ++ chs x.opn) ++ (uv x.dirt.length ++ dis x.dirt)
  else []
def body (x : R) : List Nat := le 8 x.lsn ++ (le 4 x.epoch ++ (x.kind.toNat :: own x))
def rest (x : R) : List Nat := le 2 (19 + (own x).length) ++ body x
def form (x : R) : List Nat := le 4 (Crc.more 0 (rest x)) ++ rest x

theorem chs_length : ∀ l : List Ch, (chs l).length = 24 * l.length
  | [] => rfl
  | c :: l => by
    have := chs_length l
    unfold chs at *
    rw [List.flatMap_cons, List.length_append, this, List.length_cons]
    unfold chB
    rw [List.length_append, List.length_append, le_length, le_length, le_length]
    omega
theorem dis_length : ∀ l : List Di, (dis l).length = 12 * l.length
  | [] => rfl
  | c :: l => by
    have := dis_length l
    unfold dis at *
    rw [List.flatMap_cons, List.length_append, this, List.length_cons]
    unfold diB
    rw [List.length_append, le_length, le_length]
    omega
theorem text_length (s : List Nat) (h : s.length ≤ 500) : (text s).length ≤ 510 := by
  have := uv_ten (n := s.length) (by omega)
  unfold text
  rw [List.length_append]; omega
theorem body_length (x : R) : (body x).length = 13 + (own x).length := by
  unfold body
  rw [List.length_append, List.length_append, le_length, le_length, List.length_cons]; omega
theorem rest_length (x : R) : (rest x).length = 15 + (own x).length := by
  unfold rest
  rw [List.length_append, le_length, body_length]; omega
theorem form_length (x : R) : (form x).length = 19 + (own x).length := by
  unfold form
  rw [List.length_append, le_length, rest_length]; omega
theorem own_length {x : R} (h : Within x) : (own x).length ≤ 1200 := by
  unfold own
  rcases h with ⟨hk, h1, h2, h3⟩ | ⟨hk, h1, h2⟩ | ⟨hk, h1⟩ | ⟨hk, h1⟩ | ⟨hk, h1, h2⟩
  · rw [if_pos hk]
    have a := text_length x.old (by omega)
    have b := text_length x.new (by omega)
    simp only [List.length_append, le_length]; omega
  · rw [if_neg (by omega), if_pos hk]
    have hu : x.undo.length ≤ 64 := by
      cases hc : x.clr
      · exact (h2 hc).1
      · have := h1 hc; omega
    have a := text_length x.undo (by omega)
    simp only [List.length_append, le_length, List.length_cons]; omega
  · rw [if_neg (by omega), if_neg (by omega), if_pos hk]
    simp only [List.length_append, le_length]; omega
  · rw [if_neg (by omega), if_neg (by omega), if_neg (by omega), if_pos hk]
    simp only [le_length]; omega
  · rw [if_neg (by omega), if_neg (by omega), if_neg (by omega), if_neg (by omega), if_pos hk]
    have a := uv_ten (n := x.opn.length) (by omega)
    have b := uv_ten (n := x.dirt.length) (by omega)
    simp only [List.length_append, chs_length, dis_length]; omega
theorem form_most {x : R} (h : Within x) : (form x).length ≤ 1600 := by
  have := own_length h
  rw [form_length]; omega

theorem chs_lt (l : List Ch) : ∀ x ∈ chs l, x < 256 := by
  intro x hx
  obtain ⟨c, -, hc⟩ := List.mem_flatMap.1 hx
  unfold chB at hc
  rcases List.mem_append.1 hc with h | h
  · exact le_lt _ _ x h
  · rcases List.mem_append.1 h with h | h
    · exact le_lt _ _ x h
    · exact le_lt _ _ x h
theorem dis_lt (l : List Di) : ∀ x ∈ dis l, x < 256 := by
  intro x hx
  obtain ⟨c, -, hc⟩ := List.mem_flatMap.1 hx
  unfold diB at hc
  rcases List.mem_append.1 hc with h | h
  · exact le_lt _ _ x h
  · exact le_lt _ _ x h
theorem text_lt {s : List Nat} (h : ∀ x ∈ s, x < 256) : ∀ x ∈ text s, x < 256 := by
  intro x hx
  rcases List.mem_append.1 hx with hx | hx
  · exact uv_lt _ x hx
  · exact h x hx
theorem clrB_lt (b : Bool) : clrB b < 256 := by cases b <;> decide
theorem app_lt {a b : List Nat} (ha : ∀ x ∈ a, x < 256) (hb : ∀ x ∈ b, x < 256) : ∀ x ∈ a ++ b, x < 256 := by
  intro x hx
  rcases List.mem_append.1 hx with hx | hx
  · exact ha x hx
  · exact hb x hx
theorem cons_lt {a : Nat} {b : List Nat} (ha : a < 256) (hb : ∀ x ∈ b, x < 256) : ∀ x ∈ a :: b, x < 256 := by
  intro x hx
  rcases List.mem_cons.1 hx with rfl | hx
  · exact ha
  · exact hb x hx
theorem own_lt {x : R} (h : Ok x) : ∀ b ∈ own x, b < 256 := by
  unfold own
  split
  · exact app_lt (le_lt _ _) (app_lt (le_lt _ _) (app_lt (text_lt h.old) (text_lt h.new)))
  split
  · exact app_lt (le_lt _ _) (app_lt (le_lt _ _) (app_lt (le_lt _ _) (cons_lt (clrB_lt _) (text_lt h.undo))))
  split
  · exact app_lt (le_lt _ _) (le_lt _ _)
  split
  · exact le_lt _ _
  split
  · exact app_lt (app_lt (uv_lt _) (chs_lt _)) (app_lt (uv_lt _) (dis_lt _))
  · simp
theorem kind_lt {x : R} (h : Within x) : 1 ≤ x.kind ∧ x.kind ≤ 5 := by
  rcases h with ⟨hk, h1, h2, h3⟩ | ⟨hk, h1, h2⟩ | ⟨hk, h1⟩ | ⟨hk, h1⟩ | ⟨hk, h1, h2⟩ <;> omega
theorem rest_lt {x : R} (h : Ok x) (hw : Within x) : ∀ b ∈ rest x, b < 256 := by
  have := kind_lt hw
  exact app_lt (le_lt _ _) (app_lt (le_lt _ _) (app_lt (le_lt _ _) (cons_lt (by omega) (own_lt h))))
theorem form_lt {x : R} (h : Ok x) (hw : Within x) : ∀ b ∈ form x, b < 256 := app_lt (le_lt _ _) (rest_lt h hw)
theorem sum_lt {l : List Nat} (h : ∀ x ∈ l, x < 256) : Crc.more 0 l < 4294967296 := by
  have := Crc.more_lt (s := 0) (by decide) h
  rwa [two32] at this

/-- Bytes that begin with the form of a record that may be. -/
def Is (b : List Nat) (y : R) : Prop := May y ∧ Ok y ∧ ∃ t, b = form y ++ t

theorem rd_fixed (k m : Nat) (t : List Nat) : rdNum k (le k m ++ t) 0 = (m % 256 ^ k, t, 0) := by
  unfold rdNum
  have h : ((le k m ++ t).take k) = le k m := List.take_left' (le_length k m)
  have h2 : ((le k m ++ t).drop k) = t := List.drop_left' (le_length k m)
  rw [if_neg (by decide), if_neg (by rw [List.length_append, le_length]; omega), h, h2, num_le]
theorem rd_uv {n : Nat} (h : n < 18446744073709551616) (t : List Nat) : rdUv (uv n ++ t) 0 = (n, t, 0) := by
  unfold rdUv
  rw [if_neg (by decide), cnt_of_uv t h]
  have := uv_pos n
  simp only
  rw [if_neg (by omega), List.drop_left' rfl]
theorem rd_text {s : List Nat} (m : Int) (h : (s.length : Int) ≤ m) (h2 : s.length < 18446744073709551616) (t : List Nat) : rdText m (text s ++ t) 0 = (s, t, 0) := by
  unfold rdText text
  rw [if_neg (by decide), List.append_assoc, cnt_of_uv _ h2]
  have := uv_pos s.length
  simp only
  rw [if_neg (by omega), if_neg (by omega), if_neg (by simp only [List.length_append]; omega), List.drop_left' rfl, List.take_left' rfl, List.drop_left' rfl]

/-- So many open transactions, one behind the other. -/
def rdChs : Nat → List Nat → Nat → List Ch × List Nat × Nat
  | 0, l, e => ([], l, e)
  | n + 1, l, e => ((rdChs n l e).1 ++ [((rdNum 8 (rdChs n l e).2.1 (rdChs n l e).2.2).1, (rdNum 8 (rdNum 8 (rdChs n l e).2.1 (rdChs n l e).2.2).2.1 (rdNum 8 (rdChs n l e).2.1 (rdChs n l e).2.2).2.2).1, (rdNum 8 (rdNum 8 (rdNum 8 (rdChs n l e).2.1 (rdChs n l e).2.2).2.1 (rdNum 8 (rdChs n l e).2.1 (rdChs n l e).2.2).2.2).2.1 (rdNum 8 (rdNum 8 (rdChs n l e).2.1 (rdChs n l e).2.2).2.1 (rdNum 8 (rdChs n l e).2.1 (rdChs n l e).2.2).2.2).2.2).1)], (rdNum 8 (rdNum 8 (rdNum 8 (rdChs n l e).2.1 (rdChs n l e).2.2).2.1 (rdNum 8 (rdChs n l e).2.1 (rdChs n l e).2.2).2.2).2.1 (rdNum 8 (rdNum 8 (rdChs n l e).2.1 (rdChs n l e).2.2).2.1 (rdNum 8 (rdChs n l e).2.1 (rdChs n l e).2.2).2.2).2.2).2)
def rdDis : Nat → List Nat → Nat → List Di × List Nat × Nat
  | 0, l, e => ([], l, e)
  | n + 1, l, e => ((rdDis n l e).1 ++ [((rdNum 4 (rdDis n l e).2.1 (rdDis n l e).2.2).1, (rdNum 8 (rdNum 4 (rdDis n l e).2.1 (rdDis n l e).2.2).2.1 (rdNum 4 (rdDis n l e).2.1 (rdDis n l e).2.2).2.2).1)], (rdNum 8 (rdNum 4 (rdDis n l e).2.1 (rdDis n l e).2.2).2.1 (rdNum 4 (rdDis n l e).2.1 (rdDis n l e).2.2).2.2).2)
theorem rdChs_succ {n : Nat} {l : List Nat} {e : Nat} {p : List Ch} {l0 l1 l2 l3 : List Nat} {e0 e1 e2 e3 a b c : Nat} (h0 : rdChs n l e = (p, l0, e0)) (h1 : rdNum 8 l0 e0 = (a, l1, e1)) (h2 : rdNum 8 l1 e1 = (b, l2, e2)) (h3 : rdNum 8 l2 e2 = (c, l3, e3)) : rdChs (n + 1) l e = (p ++ [(a, b, c)], l3, e3) := by
  rw [rdChs, h0]
  simp only
  rw [h1]
  simp only
  rw [h2]
  simp only
  rw [h3]
theorem rdDis_succ {n : Nat} {l : List Nat} {e : Nat} {p : List Di} {l0 l1 l2 : List Nat} {e0 e1 e2 a b : Nat} (h0 : rdDis n l e = (p, l0, e0)) (h1 : rdNum 4 l0 e0 = (a, l1, e1)) (h2 : rdNum 8 l1 e1 = (b, l2, e2)) : rdDis (n + 1) l e = (p ++ [(a, b)], l2, e2) := by
  rw [rdDis, h0]
  simp only
  rw [h1]
  simp only
  rw [h2]
theorem rdChs_length : ∀ (n : Nat) (l : List Nat) (e : Nat), (rdChs n l e).1.length = n
  | 0, _, _ => rfl
  | n + 1, l, e => by rw [rdChs]; simp [rdChs_length n l e]
theorem rdDis_length : ∀ (n : Nat) (l : List Nat) (e : Nat), (rdDis n l e).1.length = n
  | 0, _, _ => rfl
  | n + 1, l, e => by rw [rdDis]; simp [rdDis_length n l e]
theorem rd_eight {m : Nat} (h : m < 18446744073709551616) (t : List Nat) : rdNum 8 (le 8 m ++ t) 0 = (m, t, 0) := by
  rw [rd_fixed, Nat.mod_eq_of_lt (Nat.lt_of_lt_of_le h (by decide))]
theorem rd_four {m : Nat} (h : m < 4294967296) (t : List Nat) : rdNum 4 (le 4 m ++ t) 0 = (m, t, 0) := by
  rw [rd_fixed, Nat.mod_eq_of_lt (Nat.lt_of_lt_of_le h (by decide))]
theorem rd_two {m : Nat} (h : m < 65536) (t : List Nat) : rdNum 2 (le 2 m ++ t) 0 = (m, t, 0) := by
  rw [rd_fixed, Nat.mod_eq_of_lt (Nat.lt_of_lt_of_le h (by decide))]
theorem rd_one {m : Nat} (h : m < 256) (t : List Nat) : rdNum 1 (m :: t) 0 = (m, t, 0) := by
  have := rd_fixed 1 m t
  have e : le 1 m = [m] := by simp [le, Nat.mod_eq_of_lt h]
  rw [e, Nat.pow_one, Nat.mod_eq_of_lt h] at this
  exact this

theorem rd_chs (L : List Ch) (t : List Nat) (h : ∀ c ∈ L, c.1 < 18446744073709551616 ∧ c.2.1 < 18446744073709551616 ∧ c.2.2 < 18446744073709551616) : ∀ n, n ≤ L.length → rdChs n (chs L ++ t) 0 = (L.take n, chs (L.drop n) ++ t, 0)
  | 0, _ => by simp [rdChs]
  | n + 1, hn => by
    have ih := rd_chs L t h n (by omega)
    obtain ⟨c, hc⟩ : ∃ c, L[n]? = some c := ⟨L[n], List.getElem?_eq_getElem (by omega)⟩
    have hm := h c (List.mem_of_getElem? hc)
    have hlt : n < L.length := by omega
    have hd : L.drop n = c :: L.drop (n + 1) := by
      rw [List.drop_eq_getElem_cons hlt]
      rw [List.getElem?_eq_getElem hlt] at hc
      rw [Option.some.inj hc]
    have ht : L.take (n + 1) = L.take n ++ [c] := by
      rw [List.take_succ_eq_append_getElem hlt]
      rw [List.getElem?_eq_getElem hlt] at hc
      rw [Option.some.inj hc]
    have e : chs (c :: L.drop (n + 1)) ++ t = le 8 c.1 ++ (le 8 c.2.1 ++ (le 8 c.2.2 ++ (chs (L.drop (n + 1)) ++ t))) := by
      unfold chs
      rw [List.flatMap_cons]
      unfold chB
      simp only [List.append_assoc]
    rw [hd, e] at ih
    rw [rdChs_succ ih (rd_eight hm.1 _) (rd_eight hm.2.1 _) (rd_eight hm.2.2 _), ht]
theorem rd_dis (L : List Di) (t : List Nat) (h : ∀ c ∈ L, c.1 < 4294967296 ∧ c.2 < 18446744073709551616) : ∀ n, n ≤ L.length → rdDis n (dis L ++ t) 0 = (L.take n, dis (L.drop n) ++ t, 0)
  | 0, _ => by simp [rdDis]
  | n + 1, hn => by
    have ih := rd_dis L t h n (by omega)
    obtain ⟨c, hc⟩ : ∃ c, L[n]? = some c := ⟨L[n], List.getElem?_eq_getElem (by omega)⟩
    have hm := h c (List.mem_of_getElem? hc)
    have hlt : n < L.length := by omega
    have hd : L.drop n = c :: L.drop (n + 1) := by
      rw [List.drop_eq_getElem_cons hlt]
      rw [List.getElem?_eq_getElem hlt] at hc
      rw [Option.some.inj hc]
    have ht : L.take (n + 1) = L.take n ++ [c] := by
      rw [List.take_succ_eq_append_getElem hlt]
      rw [List.getElem?_eq_getElem hlt] at hc
      rw [Option.some.inj hc]
    have e : dis (c :: L.drop (n + 1)) ++ t = le 4 c.1 ++ (le 8 c.2 ++ (dis (L.drop (n + 1)) ++ t)) := by
      unfold dis
      rw [List.flatMap_cons]
      unfold diB
      simp only [List.append_assoc]
    rw [hd, e] at ih
    rw [rdDis_succ ih (rd_four hm.1 _) (rd_eight hm.2 _), ht]

/-- What the beginning of bytes tells, where they begin with a form. -/
def Head (b : List Nat) (lsn ep k : Nat) (l : List Nat) (e : Nat) : Prop := ∀ y, May y → Ok y → ∀ t, b = form y ++ t → lsn = y.lsn ∧ ep = y.epoch ∧ (k : Int) = y.kind ∧ l = own y ++ t ∧ e = 0
/-- What all of it tells. -/
def Took (b : List Nat) (x : R) (e : Nat) : Prop := ∀ y, Is b y → x = y ∧ e = 0

theorem head_of {b : List Nat} {n0 n1 n2 n3 n4 e0 e1 e2 e3 e4 : Nat} {l0 l1 l2 l3 l4 : List Nat} (h0 : rdNum 4 b 0 = (n0, l0, e0)) (h1 : rdNum 2 l0 e0 = (n1, l1, e1)) (h2 : rdNum 8 l1 e1 = (n2, l2, e2)) (h3 : rdNum 4 l2 e2 = (n3, l3, e3)) (h4 : rdNum 1 l3 e3 = (n4, l4, e4)) : Head b n2 n3 n4 l4 e4 := by
  intro y hM hO t hb
  have hk := kind_lt hM.1
  have hl := own_length hM.1
  have e : b = le 4 (Crc.more 0 (rest y)) ++ (le 2 (19 + (own y).length) ++ (le 8 y.lsn ++ (le 4 y.epoch ++ (y.kind.toNat :: (own y ++ t))))) := by
    rw [hb]; unfold form
    conv => lhs; rw [List.append_assoc]; rhs; unfold rest body
    simp only [List.append_assoc, List.cons_append]
  rw [e, rd_four (sum_lt (rest_lt hO hM.1))] at h0
  obtain ⟨rfl, rfl, rfl⟩ := h0
  rw [rd_two (by omega)] at h1
  obtain ⟨rfl, rfl, rfl⟩ := h1
  rw [rd_eight hO.lsn] at h2
  obtain ⟨rfl, rfl, rfl⟩ := h2
  rw [rd_four hO.epoch] at h3
  obtain ⟨rfl, rfl, rfl⟩ := h3
  rw [rd_one (by omega)] at h4
  obtain ⟨rfl, rfl, rfl⟩ := h4
  exact ⟨rfl, rfl, by omega, rfl, rfl⟩

theorem mk_eq {x y : R} (h1 : x.kind = y.kind) (h2 : x.lsn = y.lsn) (h3 : x.epoch = y.epoch) (h4 : x.txn = y.txn) (h5 : x.page = y.page) (h6 : x.off = y.off) (h7 : x.old = y.old) (h8 : x.new = y.new) (h9 : x.undo = y.undo) (h10 : x.prev = y.prev) (h11 : x.next = y.next) (h12 : x.clr = y.clr) (h13 : x.stamp = y.stamp) (h14 : x.opn = y.opn) (h15 : x.dirt = y.dirt) : x = y := by
  cases x; cases y; simp only at *; subst_vars; rfl

theorem took_write {b l l1 l2 l3 l4 o n : List Nat} {lsn ep e p f e1 e2 e3 e4 : Nat} (hH : Head b lsn ep 1 l e) (h1 : rdNum 4 l e = (p, l1, e1)) (h2 : rdNum 2 l1 e1 = (f, l2, e2)) (h3 : rdText 500 l2 e2 = (o, l3, e3)) (h4 : rdText 500 l3 e3 = (n, l4, e4)) :
    Took b ⟨1, lsn, ep, 0, p, f, o, n, [], 0, 0, false, 0, [], []⟩ e4 := by
  intro y ⟨hM, hO, t, hb⟩
  obtain ⟨rfl, rfl, hk, rfl, rfl⟩ := hH y hM hO t hb
  have hk : y.kind = 1 := by omega
  have hB := hM.2
  unfold bare at hB
  rw [if_pos hk] at hB
  have hw : y.old.length = y.new.length ∧ y.new.length ≤ 500 := by
    rcases hM.1 with ⟨_, h1, h2, h3⟩ | ⟨hk2, _⟩ | ⟨hk2, _⟩ | ⟨hk2, _⟩ | ⟨hk2, _⟩
    · exact ⟨h1, by omega⟩
    all_goals omega
  unfold own at h1
  rw [if_pos hk, List.append_assoc, rd_four hO.page] at h1
  obtain ⟨rfl, rfl, rfl⟩ := h1
  rw [List.append_assoc, rd_two hO.off] at h2
  obtain ⟨rfl, rfl, rfl⟩ := h2
  rw [List.append_assoc, rd_text 500 (by omega) (by omega)] at h3
  obtain ⟨rfl, rfl, rfl⟩ := h3
  rw [rd_text 500 (by omega) (by omega)] at h4
  obtain ⟨rfl, rfl, rfl⟩ := h4
  refine ⟨?_, rfl⟩
  rw [hk] at hB
  exact hB.symm
theorem took_end {b l l1 l2 l3 l4 l5 u : List Nat} {lsn ep e a p n c e1 e2 e3 e4 e5 : Nat} (hH : Head b lsn ep 2 l e) (h1 : rdNum 8 l e = (a, l1, e1)) (h2 : rdNum 8 l1 e1 = (p, l2, e2)) (h3 : rdNum 8 l2 e2 = (n, l3, e3)) (h4 : rdNum 1 l3 e3 = (c, l4, e4)) (h5 : rdText 64 l4 e4 = (u, l5, e5)) :
    Took b ⟨2, lsn, ep, a, 0, 0, [], [], u, p, n, decide (c = 1), 0, [], []⟩ e5 := by
  intro y ⟨hM, hO, t, hb⟩
  obtain ⟨rfl, rfl, hk, rfl, rfl⟩ := hH y hM hO t hb
  have hk : y.kind = 2 := by omega
  have hB := hM.2
  unfold bare at hB
  rw [if_neg (by omega), if_pos hk] at hB
  have hw : y.undo.length ≤ 64 := by
    rcases hM.1 with ⟨hk2, _⟩ | ⟨_, h1, h2⟩ | ⟨hk2, _⟩ | ⟨hk2, _⟩ | ⟨hk2, _⟩
    · omega
    · cases hc : y.clr
      · exact (h2 hc).1
      · have := h1 hc; omega
    all_goals omega
  unfold own at h1
  rw [if_neg (by omega), if_pos hk, List.append_assoc, rd_eight hO.txn] at h1
  obtain ⟨rfl, rfl, rfl⟩ := h1
  rw [List.append_assoc, rd_eight hO.prev] at h2
  obtain ⟨rfl, rfl, rfl⟩ := h2
  rw [List.append_assoc, rd_eight hO.next] at h3
  obtain ⟨rfl, rfl, rfl⟩ := h3
  rw [List.cons_append, rd_one (clrB_lt _)] at h4
  obtain ⟨rfl, rfl, rfl⟩ := h4
  rw [rd_text 64 (by omega) (by omega)] at h5
  obtain ⟨rfl, rfl, rfl⟩ := h5
  have hc : decide (clrB y.clr = 1) = y.clr := by cases y.clr <;> rfl
  refine ⟨?_, rfl⟩
  rw [hc]
  rw [hk] at hB
  exact hB.symm
theorem took_commit {b l l1 l2 : List Nat} {lsn ep e a p e1 e2 : Nat} (hH : Head b lsn ep 3 l e) (h1 : rdNum 8 l e = (a, l1, e1)) (h2 : rdNum 8 l1 e1 = (p, l2, e2)) :
    Took b ⟨3, lsn, ep, a, 0, 0, [], [], [], 0, 0, false, p, [], []⟩ e2 := by
  intro y ⟨hM, hO, t, hb⟩
  obtain ⟨rfl, rfl, hk, rfl, rfl⟩ := hH y hM hO t hb
  have hk : y.kind = 3 := by omega
  have hB := hM.2
  unfold bare at hB
  rw [if_neg (by omega), if_neg (by omega), if_pos hk] at hB
  unfold own at h1
  rw [if_neg (by omega), if_neg (by omega), if_pos hk, List.append_assoc, rd_eight hO.txn] at h1
  obtain ⟨rfl, rfl, rfl⟩ := h1
  rw [rd_eight hO.stamp] at h2
  obtain ⟨rfl, rfl, rfl⟩ := h2
  refine ⟨?_, rfl⟩
  rw [hk] at hB
  exact hB.symm
theorem took_done {b l l1 : List Nat} {lsn ep e a e1 : Nat} (hH : Head b lsn ep 4 l e) (h1 : rdNum 8 l e = (a, l1, e1)) :
    Took b ⟨4, lsn, ep, a, 0, 0, [], [], [], 0, 0, false, 0, [], []⟩ e1 := by
  intro y ⟨hM, hO, t, hb⟩
  obtain ⟨rfl, rfl, hk, rfl, rfl⟩ := hH y hM hO t hb
  have hk : y.kind = 4 := by omega
  have hB := hM.2
  unfold bare at hB
  rw [if_neg (by omega), if_neg (by omega), if_neg (by omega), if_pos hk] at hB
  unfold own at h1
  rw [if_neg (by omega), if_neg (by omega), if_neg (by omega), if_pos hk, rd_eight hO.txn] at h1
  obtain ⟨rfl, rfl, rfl⟩ := h1
  refine ⟨?_, rfl⟩
  rw [hk] at hB
  exact hB.symm
/-- The two ways to read a point: so many as are told, up to a bound m; none, if there are more than the bound. -/
theorem took_point {b l l1 l2 l3 l4 : List Nat} {C : List Ch} {D : List Di} {lsn ep e n m e1 e2 e3 e4 n' m' : Nat} (hH : Head b lsn ep 5 l e) (h1 : rdUv l e = (n, l1, e1)) (h2 : rdChs n' l1 e1 = (C, l2, e2)) (hn : n ≤ 16 → n' = n) (h3 : rdUv l2 e2 = (m, l3, e3)) (h4 : rdDis m' l3 e3 = (D, l4, e4)) (hm : m ≤ 64 → m' = m) :
    Took b ⟨5, lsn, ep, 0, 0, 0, [], [], [], 0, 0, false, 0, C, D⟩ e4 := by
  intro y ⟨hM, hO, t, hb⟩
  obtain ⟨rfl, rfl, hk, rfl, rfl⟩ := hH y hM hO t hb
  have hk : y.kind = 5 := by omega
  have hB := hM.2
  unfold bare at hB
  rw [if_neg (by omega), if_neg (by omega), if_neg (by omega), if_neg (by omega), if_pos hk] at hB
  have hw : y.opn.length ≤ 16 ∧ y.dirt.length ≤ 64 := by
    rcases hM.1 with ⟨hk2, _⟩ | ⟨hk2, h1, h2⟩ | ⟨hk2, _⟩ | ⟨hk2, _⟩ | ⟨_, h⟩
    · omega
    · omega
    · omega
    · omega
    · exact h
  unfold own at h1
  rw [if_neg (by omega), if_neg (by omega), if_neg (by omega), if_neg (by omega), if_pos hk, List.append_assoc, List.append_assoc, rd_uv (by omega)] at h1
  obtain ⟨rfl, rfl, rfl⟩ := h1
  rw [hn hw.1, rd_chs y.opn _ hO.opn _ (Nat.le_refl _), List.take_length, List.drop_length] at h2
  obtain ⟨rfl, rfl, rfl⟩ := h2
  rw [show chs [] = [] from rfl, List.nil_append, List.append_assoc, rd_uv (by omega)] at h3
  obtain ⟨rfl, rfl, rfl⟩ := h3
  rw [hm hw.2, rd_dis y.dirt _ hO.dirt _ (Nat.le_refl _), List.take_length, List.drop_length] at h4
  obtain ⟨rfl, rfl, rfl⟩ := h4
  refine ⟨?_, rfl⟩
  rw [hk] at hB
  exact hB.symm
theorem took_none {b l : List Nat} {lsn ep e k : Nat} {x : R} (hH : Head b lsn ep k l e) (hk : ¬ (1 ≤ k ∧ k ≤ 5)) : Took b x e := by
  intro y ⟨hM, hO, t, hb⟩
  obtain ⟨-, -, hk2, -, -⟩ := hH y hM hO t hb
  have := kind_lt hM.1
  omega

/-- The size stands in the form. -/
theorem form_size {y : R} (hM : May y) (t : List Nat) : num (((form y ++ t).drop 4).take 2) = (form y).length := by
  have hl := own_length hM.1
  have e1 : (form y ++ t).drop 4 = rest y ++ t := by
    unfold form
    rw [List.append_assoc, List.drop_left' (le_length _ _)]
  have e2 : (rest y ++ t).take 2 = le 2 (19 + (own y).length) := by
    unfold rest
    rw [List.append_assoc, List.take_left' (le_length _ _)]
  rw [e1, e2, num_le, form_length, Nat.mod_eq_of_lt (by omega)]
theorem form_sum {y : R} (t : List Nat) : (form y ++ t).take 4 = le 4 (Crc.more 0 (rest y)) := by
  unfold form
  rw [List.append_assoc, List.take_left' (le_length _ _)]
theorem form_rest (y : R) : (form y).drop 4 = rest y := by unfold form; exact List.drop_left' (le_length _ _)

/-- A form that is cut is none. -/
theorem cut_none {x : R} (hM : May x) (k : Nat) (hk : k < (form x).length) : ∀ y, ¬ Is ((form x).take k) y := by
  intro y ⟨hy, hO, t, hb⟩
  have h1 := form_size hy t
  rw [← hb] at h1
  have hl := form_length y
  have hlen := congrArg List.length hb
  rw [List.length_take, List.length_append] at hlen
  have h2 := form_size hM []
  rw [List.append_nil] at h2
  have e : (((form x).take k).drop 4).take 2 = ((form x).drop 4).take 2 := by
    rw [List.drop_take, List.take_take, Nat.min_eq_left (by omega)]
  rw [e, h2] at h1
  omega
/-- A form of which some bits behind the sum and the size were turned is none. -/
theorem turned_none {x : R} (hM : May x) (hO : Ok x) (c : List Nat) (t p : Nat) (hlen : c.length = (form x).length) (h6 : c.take 6 = (form x).take 6)
    (hd : Crc.le (c.drop 4) = Crc.le ((form x).drop 4) ^^^ (2 ^ p * t)) (ht : t < 4294967296) (h0 : t ≠ 0) (hp : p ≤ 8 * (rest x).length) : ∀ y, ¬ Is c y := by
  intro y ⟨hy, hOy, t2, hb⟩
  have h1 := form_size hy t2
  rw [← hb] at h1
  have h2 := form_size hM []
  rw [List.append_nil] at h2
  have e : (c.drop 4).take 2 = ((form x).drop 4).take 2 := by
    have h := congrArg (List.drop 4) h6
    rwa [List.drop_take, List.drop_take] at h
  rw [e, h2] at h1
  have hl := congrArg List.length hb
  rw [List.length_append] at hl
  have ht2 : t2 = [] := List.eq_nil_of_length_eq_zero (by omega)
  subst ht2
  have s1 := form_sum (y := y) []
  rw [← hb] at s1
  have s2 := form_sum (y := x) []
  rw [List.append_nil] at s2 hb
  have e4 : c.take 4 = (form x).take 4 := by
    have h := congrArg (List.take 4) h6
    rwa [List.take_take, List.take_take] at h
  rw [e4, s2] at s1
  have hs := congrArg num s1
  have r1 := sum_lt (rest_lt hO hM.1)
  have r2 := sum_lt (rest_lt hOy hy.1)
  rw [num_le, num_le, Nat.mod_eq_of_lt (Nat.lt_of_lt_of_le r1 (by decide)), Nat.mod_eq_of_lt (Nat.lt_of_lt_of_le r2 (by decide))] at hs
  have e5 : c.drop 4 = rest y := by rw [hb]; exact form_rest y
  rw [form_rest, e5] at hd
  refine Crc.burst (rest x) (rest y) t p ?_ hd (by rw [two32]; exact ht) h0 hp hs.symm
  rw [← e5, List.length_drop, hlen, form_length, rest_length]
  omega

/-- The record whose form bytes begin with. -/
noncomputable def ifP {α : Type} (p : Prop) (a b : α) : α := @ite α p (Classical.propDecidable p) a b
theorem ifP_pos {α : Type} {p : Prop} (h : p) (a b : α) : ifP p a b = a := by unfold ifP; exact @if_pos p (_) h _ _ _
theorem ifP_neg {α : Type} {p : Prop} (h : ¬ p) (a b : α) : ifP p a b = b := by unfold ifP; exact @if_neg p (_) h _ _ _
theorem is_form {x : R} (hM : May x) (hO : Ok x) (t : List Nat) : Is (form x ++ t) x := ⟨hM, hO, t, rfl⟩
theorem is_take {b : List Nat} {y : R} (n : Nat) (hn : 1600 ≤ n) : Is (b.take n) y ↔ Is b y := by
  constructor
  · rintro ⟨hM, hO, t, hb⟩
    refine ⟨hM, hO, t ++ b.drop n, ?_⟩
    rw [← List.append_assoc, ← hb, List.take_append_drop]
  · rintro ⟨hM, hO, t, hb⟩
    have := form_most hM.1
    refine ⟨hM, hO, t.take (n - (form y).length), ?_⟩
    rw [hb, List.take_append, List.take_of_length_le (by omega)]
end Go.Proofs.Ytkchoelegdknoaa.Lr
