/- Slotted bodies, plainly: which may be, their form, and what is put in and taken out. Conditions: none. -/
import Derived.Test.YtbfpmpomcaijcaaCodePure
namespace Go.Proofs.Ytbfpmpomcaijcaa.Sl
open Go.Proofs.Ytbfpmpomcaijcaa.Cod

structure S where
  kind : Nat
  next : Nat
  full : List Bool
  data : List (List Nat)
def none_ : S := ⟨0, 0, [], []⟩
def fa (s : S) (i : Nat) : Bool := s.full.getD i false
def da (s : S) (i : Nat) : List Nat := s.data.getD i []
def tot (ls : List (List Nat)) : Nat := ls.flatten.length
/-- What it takes of 500 bytes. -/
def took (s : S) : Nat := 6 + 2 * s.data.length + tot s.data
structure May (s : S) : Prop where
  len : s.full.length = s.data.length
  most : s.full.length ≤ 247
  last : 0 < s.full.length → fa s (s.full.length - 1) = true
  none : ∀ i, i < s.full.length → fa s i = false → da s i = []
  fit : took s ≤ 500
noncomputable def may (s : S) : Bool := @decide (May s) (Classical.propDecidable _)
theorem may_true {s : S} (h : May s) : may s = true := by unfold may; exact @decide_eq_true _ (_) h
theorem may_false {s : S} (h : ¬ May s) : may s = false := by unfold may; exact @decide_eq_false _ (_) h
theorem may_of {s : S} (h : may s = true) : May s := by unfold may at h; exact @of_decide_eq_true _ (_) h
theorem not_may_of {s : S} (h : may s = false) : ¬ May s := by unfold may at h; exact @of_decide_eq_false _ (_) h

def sz (s : S) (i : Nat) : Nat := if fa s i then (da s i).length + 1 else 0
def sizes (s : S) (k : Nat) : List Nat := (List.range k).flatMap fun i => le 2 (sz s i)
def head (s : S) : List Nat := s.kind :: le 4 s.next ++ [s.data.length]
def form (s : S) : List Nat := head s ++ (sizes s s.data.length ++ (s.data.flatten ++ List.replicate (500 - took s) 0))

theorem getD_set_self {α : Type} {l : List α} {i : Nat} (x d : α) (h : i < l.length) : (l.set i x).getD i d = x := by
  rw [List.getD_eq_getElem?_getD, List.getElem?_set_self h]; rfl
theorem getD_set_ne {α : Type} (l : List α) {i j : Nat} (x d : α) (h : i ≠ j) : (l.set i x).getD j d = l.getD j d := by
  simp only [List.getD_eq_getElem?_getD]
  rw [List.getElem?_set_ne h]
theorem getD_out {α : Type} (l : List α) {i : Nat} (d : α) (h : l.length ≤ i) : l.getD i d = d := by
  rw [List.getD_eq_getElem?_getD, List.getElem?_eq_none h]; rfl
theorem set_same {α : Type} {l : List α} {i : Nat} (d : α) (h : i < l.length) : l.set i (l.getD i d) = l := by
  apply List.ext_getElem?
  intro j
  by_cases e : i = j
  · subst e
    rw [List.getElem?_set_self h, List.getElem?_eq_getElem h, List.getD_eq_getElem?_getD, List.getElem?_eq_getElem h]; rfl
  · rw [List.getElem?_set_ne e]
theorem take_succ' {α : Type} (l : List α) (d : α) {k : Nat} (h : k < l.length) : l.take (k + 1) = l.take k ++ [l.getD k d] := by
  rw [List.take_succ_eq_append_getElem h, List.getD_eq_getElem?_getD, List.getElem?_eq_getElem h]; rfl
theorem ext_getD {α : Type} {a b : List α} (x : α) (h : a.length = b.length) (hh : ∀ i, i < a.length → a.getD i x = b.getD i x) : a = b := by
  refine List.ext_getElem h fun i h1 h2 => ?_
  have := hh i h1
  simp only [List.getD_eq_getElem?_getD] at this
  rw [List.getElem?_eq_getElem h1, List.getElem?_eq_getElem h2] at this
  exact this

theorem tot_set : ∀ {ls : List (List Nat)} {i : Nat} (b : List Nat), i < ls.length → tot (ls.set i b) + (ls.getD i []).length = tot ls + b.length
  | [], _, _, h => absurd h (Nat.not_lt_zero _)
  | x :: r, 0, b, _ => by simp [tot]; omega
  | x :: r, i + 1, b, h => by
    have := tot_set (ls := r) (i := i) b (by simpa using h)
    simp [tot] at this ⊢
    omega
theorem tot_append (a b : List (List Nat)) : tot (a ++ b) = tot a + tot b := by simp [tot]
theorem tot_one (b : List Nat) : tot [b] = b.length := by simp [tot]
theorem tot_take_succ {ls : List (List Nat)} {k : Nat} (h : k < ls.length) : tot (ls.take (k + 1)) = tot (ls.take k) + (ls.getD k []).length := by rw [take_succ' ls [] h, tot_append, tot_one]
theorem tot_take_le (ls : List (List Nat)) (k : Nat) : tot (ls.take k) ≤ tot ls := by
  have h := congrArg tot (List.take_append_drop k ls)
  rw [tot_append] at h
  omega
theorem tot_ge {ls : List (List Nat)} {i : Nat} (h : i < ls.length) : (ls.getD i []).length ≤ tot ls := by
  have h1 := tot_take_succ h
  have h2 := tot_take_le ls (i + 1)
  omega
theorem sizes_succ (s : S) (k : Nat) : sizes s (k + 1) = sizes s k ++ le 2 (sz s k) := by unfold sizes; rw [List.range_succ, List.flatMap_append]; simp
theorem sizes_length (s : S) : ∀ k, (sizes s k).length = 2 * k
  | 0 => rfl
  | k + 1 => by rw [sizes_succ, List.length_append, sizes_length s k, le_length]; omega
theorem head_length (s : S) : (head s).length = 6 := by unfold head; simp [le_length]
theorem form_length {s : S} (h : took s ≤ 500) : (form s).length = 500 := by
  unfold form
  simp only [List.length_append, List.length_replicate]
  rw [head_length, sizes_length]
  unfold took tot at *
  omega
theorem sz_le {s : S} (h : May s) {i : Nat} (hi : i < s.full.length) : sz s i ≤ 501 := by
  unfold sz
  have h1 := tot_ge (ls := s.data) (i := i) (by rw [← h.len]; exact hi)
  have h2 := h.fit
  unfold took at h2
  unfold da
  split <;> omega

/-- A form is of one body alone. -/
theorem sizes_inj {s t : S} : ∀ {n : Nat}, (∀ i, i < n → sz s i < 65536 ∧ sz t i < 65536) → sizes s n = sizes t n → ∀ i, i < n → sz s i = sz t i
  | 0, _, _, i, hi => absurd hi (Nat.not_lt_zero _)
  | n + 1, hl, h, i, hi => by
    rw [sizes_succ, sizes_succ] at h
    obtain ⟨h1, h2⟩ := List.append_inj h (by rw [sizes_length, sizes_length])
    by_cases e : i = n
    · subst e
      have h3 := congrArg num h2
      rw [num_le, num_le, Nat.mod_eq_of_lt, Nat.mod_eq_of_lt] at h3
      · exact h3
      · exact (hl i hi).2
      · exact (hl i hi).1
    · exact sizes_inj (fun j hj => hl j (by omega)) h1 i (by omega)
theorem flat_inj : ∀ {a b : List (List Nat)}, a.length = b.length → (∀ i, i < a.length → (a.getD i []).length = (b.getD i []).length) → ∀ {x y : List Nat}, a.flatten ++ x = b.flatten ++ y → a = b
  | [], [], _, _, _, _, _ => rfl
  | [], _ :: _, h, _, _, _, _ => by simp at h
  | _ :: _, [], h, _, _, _, _ => by simp at h
  | p :: a, q :: b, h, hl, x, y, e => by
    have h0 := hl 0 (by simp)
    simp only [List.flatten_cons, List.append_assoc] at e
    obtain ⟨e1, e2⟩ := List.append_inj e (by simpa using h0)
    rw [e1, flat_inj (by simpa using h) (fun i hi => by simpa using hl (i + 1) (by simpa using hi)) e2]
theorem form_inj {s t : S} (hs : May s) (ht : May t) (ns : s.next < 4294967296) (nt : t.next < 4294967296) (h : form s = form t) : s = t := by
  unfold form at h
  obtain ⟨h1, h2⟩ := List.append_inj h (by rw [head_length, head_length])
  unfold head at h1
  obtain ⟨h3, h4⟩ := List.append_inj h1 (by simp [le_length])
  simp only [List.cons.injEq, and_true] at h3 h4
  obtain ⟨hk, hn⟩ := h3
  have hn := congrArg num hn
  rw [num_le, num_le, Nat.mod_eq_of_lt (by simpa using ns), Nat.mod_eq_of_lt (by simpa using nt)] at hn
  rw [h4] at h2
  obtain ⟨h5, h6⟩ := List.append_inj h2 (by rw [sizes_length, sizes_length])
  have hsz := sizes_inj (fun i hi => ⟨Nat.lt_of_le_of_lt (sz_le hs (by rw [hs.len, h4]; exact hi)) (by decide), Nat.lt_of_le_of_lt (sz_le ht (by rw [ht.len]; exact hi)) (by decide)⟩) h5
  have hlen : s.full.length = t.full.length := by rw [hs.len, ht.len, h4]
  have hboth : ∀ i, i < s.full.length → fa s i = fa t i ∧ (da s i).length = (da t i).length := fun i hi => by
    have e := hsz i (by rw [← ht.len, ← hlen]; exact hi)
    unfold sz at e
    cases h7 : fa s i with
    | true =>
      cases h8 : fa t i with
      | true => rw [h7, h8, if_pos rfl, if_pos rfl] at e; exact ⟨rfl, by omega⟩
      | false => rw [h7, h8, if_pos rfl, if_neg (by decide)] at e; omega
    | false =>
      cases h8 : fa t i with
      | true => rw [h7, h8, if_pos rfl, if_neg (by decide)] at e; omega
      | false => rw [hs.none i hi h7, ht.none i (by omega) h8]; exact ⟨rfl, rfl⟩
  have hf : s.full = t.full := ext_getD false hlen fun i hi => (hboth i hi).1
  have hd : s.data = t.data := flat_inj h4 (fun i hi => (hboth i (by rw [hs.len]; exact hi)).2) h6
  cases s
  cases t
  simp only at hk hn hf hd
  simp only [S.mk.injEq]
  exact ⟨hk, hn, hf, hd⟩

/-- The first slot that has nothing. -/
def free : List Bool → Nat
  | [] => 0
  | true :: r => free r + 1
  | false :: _ => 0
theorem free_le : ∀ l : List Bool, free l ≤ l.length
  | [] => Nat.le_refl _
  | true :: r => by have := free_le r; simp [free]; omega
  | false :: _ => Nat.zero_le _
theorem free_at : ∀ l : List Bool, l.getD (free l) false = false
  | [] => rfl
  | true :: r => by have := free_at r; simpa [free] using this
  | false :: _ => rfl
theorem free_of : ∀ {l : List Bool} {a : Nat}, (∀ j, j < a → l.getD j false = true) → a ≤ l.length → l.getD a false = false → free l = a
  | [], a, _, h2, _ => by simp at h2; subst h2; rfl
  | false :: _, 0, _, _, _ => rfl
  | false :: _, a + 1, h, _, _ => by have := h 0 (by omega); simp at this
  | true :: r, 0, _, _, h => by simp at h
  | true :: r, a + 1, h, h2, h3 => by
    rw [free, free_of (l := r) (a := a) (fun j hj => by simpa using h (j + 1) (by omega)) (by simpa using h2) (by simpa using h3)]
/-- Bytes put into it. -/
def ins (s : S) (b : List Nat) : S :=
  if free s.full = s.full.length then { s with full := s.full ++ [true], data := s.data ++ [b] } else { s with full := s.full.set (free s.full) true, data := s.data.set (free s.full) b }
def put (s : S) (a : Nat) (b : List Nat) : S := { s with data := s.data.set a b }
/-- How many slots are left without those at the end that have nothing. -/
def trimN (l : List Bool) : Nat → Nat
  | 0 => 0
  | m + 1 => if l.getD m false then m + 1 else trimN l m
theorem trimN_le (l : List Bool) : ∀ m, trimN l m ≤ m
  | 0 => Nat.le_refl _
  | m + 1 => by
    unfold trimN
    split
    · exact Nat.le_refl _
    · have := trimN_le l m; omega
def cut (l : List Bool) (d : List (List Nat)) : List Bool × List (List Nat) := (l.take (trimN l l.length), d.take (trimN l l.length))
def del (s : S) (a : Nat) : S := { s with full := (cut (s.full.set a false) (s.data.set a [])).1, data := (cut (s.full.set a false) (s.data.set a [])).2 }
/-- Has a slot something? -/
def has (s : S) (a : Int) : Prop := 0 ≤ a ∧ a < s.full.length ∧ fa s a.toNat = true
instance (s : S) (a : Int) : Decidable (has s a) := by unfold has; infer_instance

theorem trimN_last {l : List Bool} (h : 0 < l.length → l.getD (l.length - 1) false = true) : trimN l l.length = l.length := by
  rcases Nat.eq_zero_or_pos l.length with e | e
  · rw [e]; rfl
  · obtain ⟨m, hm⟩ : ∃ m, l.length = m + 1 := ⟨l.length - 1, by omega⟩
    have := h e
    rw [hm] at this ⊢
    unfold trimN
    rw [if_pos (by simpa using this)]
theorem trimN_congr {l l' : List Bool} : ∀ {m : Nat}, (∀ i, i < m → l.getD i false = l'.getD i false) → trimN l m = trimN l' m
  | 0, _ => rfl
  | m + 1, h => by
    unfold trimN
    rw [h m (by omega), trimN_congr (fun i hi => h i (by omega))]

theorem took_put {s : S} {a : Nat} (b : List Nat) (h : a < s.data.length) : took (put s a b) + (da s a).length = took s + b.length := by
  have := tot_set (ls := s.data) (i := a) b h
  show 6 + 2 * (s.data.set a b).length + tot (s.data.set a b) + (s.data.getD a []).length = 6 + 2 * s.data.length + tot s.data + b.length
  rw [List.length_set]
  omega
theorem took_ins {s : S} (hs : May s) (b : List Nat) : took (ins s b) = took s + b.length + if free s.full = s.full.length then 2 else 0 := by
  unfold ins
  split
  · unfold took
    simp only [List.length_append, List.length_singleton]
    rw [tot_append, tot_one]
    omega
  · next h =>
    have hlt : free s.full < s.full.length := by have := free_le s.full; omega
    have h1 := tot_set (ls := s.data) (i := free s.full) b (by rw [← hs.len]; exact hlt)
    have h2 : (s.data.getD (free s.full) []).length = 0 := by
      have := hs.none _ hlt (free_at _)
      unfold da at this
      rw [this]; rfl
    unfold took
    simp only [List.length_set]
    omega
theorem ins_len {s : S} (hs : May s) (b : List Nat) : (ins s b).full.length = (ins s b).data.length ∧ (ins s b).full.length = if free s.full = s.full.length then s.full.length + 1 else s.full.length := by
  unfold ins
  split <;> simp [hs.len]
/-- What was put in and taken out again leaves the body. -/
theorem del_ins {s : S} (hs : May s) (b : List Nat) : del (ins s b) (free s.full) = s := by
  have hfl := free_le s.full
  unfold ins del cut
  split
  · next h =>
    have e1 : (s.full ++ [true]).set (free s.full) false = s.full ++ [false] := by rw [h, List.set_append_right _ _ (Nat.le_refl _), Nat.sub_self]; rfl
    have e2 : (s.data ++ [b]).set (free s.full) [] = s.data ++ [[]] := by rw [h, hs.len, List.set_append_right _ _ (Nat.le_refl _), Nat.sub_self]; rfl
    have e3 : trimN (s.full ++ [false]) (s.full ++ [false]).length = s.full.length := by
      rw [List.length_append, List.length_singleton]
      unfold trimN
      rw [if_neg (by simp), trimN_congr (l' := s.full) (fun i hi => by simp only [List.getD_eq_getElem?_getD]; rw [List.getElem?_append_left hi])]
      exact trimN_last hs.last
    simp only [e1, e2, e3]
    rw [List.take_left' rfl, List.take_left' hs.len.symm]
  · next h =>
    have hlt : free s.full < s.full.length := by omega
    have e1 : (s.full.set (free s.full) true).set (free s.full) false = s.full := by
      rw [List.set_set]
      conv => lhs; arg 3; rw [← free_at s.full]
      exact set_same false hlt
    have e2 : (s.data.set (free s.full) b).set (free s.full) [] = s.data := by
      have hn := hs.none _ hlt (free_at _)
      unfold da at hn
      rw [List.set_set]
      conv => lhs; arg 3; rw [← hn]
      exact set_same [] (by rw [← hs.len]; exact hlt)
    simp only [e1, e2]
    rw [trimN_last hs.last, List.take_of_length_le (Nat.le_refl _), List.take_of_length_le (by rw [hs.len]; exact Nat.le_refl _)]
theorem put_put {s : S} {a : Nat} (b : List Nat) (h : a < s.data.length) : put (put s a b) a (da s a) = s := by
  unfold put da
  simp only [List.set_set]
  rw [set_same [] h]
end Go.Proofs.Ytbfpmpomcaijcaa.Sl
