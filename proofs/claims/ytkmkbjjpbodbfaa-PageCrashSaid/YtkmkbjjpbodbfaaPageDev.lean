/- Pages on a device, plainly: how its sectors are written and read, one after the other. Conditions: none. -/
import Derived.Test.YtkmkbjjpbodbfaaDkPD
import Derived.Test.YtkmkbjjpbodbfaaPageBody
namespace Go.Proofs.Ytkmkbjjpbodbfaa.Dk

theorem used_lt {d : Dev} (h : Ok d) {i : Nat} (hi : i < size d) (hs : d.seen.getD i false = false) : used d < size d := by
  have h1 : used d ≤ d.seen.length := List.count_le_length
  rw [h.s] at h1
  rcases Nat.lt_or_ge (used d) (size d) with h2 | h2
  · exact h2
  · have h3 : d.seen.count true = d.seen.length := by rw [h.s]; show used d = _; omega
    have h4 := List.count_eq_length.1 h3
    have hl : i < d.seen.length := by rw [h.s]; exact hi
    have := h4 _ (List.getElem_mem hl)
    rw [List.getD_eq_getElem?_getD, List.getElem?_eq_getElem hl, Option.getD_some] at hs
    rw [hs] at this; cases this
/-- A device that is on and not armed, with room for all its sectors. -/
structure Calm (n : Nat) (d : Dev) : Prop where
  own : Own d
  off : d.off = false
  armed : d.armed = 0
  sz : size d = n
  most : d.most = n
theorem calm_fresh {n : Nat} (h1 : 1 ≤ n) (h2 : n ≤ 65536) : Calm n (fresh n n) := ⟨own_fresh h1 h2 (Nat.le_refl _), rfl, rfl, by show (List.replicate n blank).length = n; rw [List.length_replicate], rfl⟩
theorem Calm.room {n : Nat} {d : Dev} (h : Calm n d) {i : Nat} (hi : i < n) : used d < d.most ∨ d.seen.getD i false = true := by
  cases hs : d.seen.getD i false with
  | true => exact Or.inr rfl
  | false =>
    have := used_lt h.own.ok (i := i) (by rw [h.sz]; exact hi) hs
    rw [h.sz] at this
    rw [h.most]
    exact Or.inl this
theorem Calm.write {n : Nat} {d : Dev} (h : Calm n d) {i : Nat} (hi : i < n) {b : List Nat} (hb : Sec b) : write d (i : Int) b = (put d i b, 0) ∧ Calm n (put d i b) :=
  ⟨write_fine h.off h.armed (by rw [h.sz]; exact hi) hb.1 (h.room hi), own_put h.own (by rw [h.sz]; exact hi) hb (h.room hi), h.off, h.armed, h.sz, h.most⟩

/-- What a sector is read as. -/
def sv (d : Dev) (i : Nat) : List Nat := (d.waits.getD i none).getD (d.lasts.getD i [])
/-- A page's sectors, and how they are written and read, one after the other. -/
def secs (b : List Nat) : List (List Nat) := [b.take 128, (b.drop 128).take 128, (b.drop 256).take 128, (b.drop 384).take 128]
def wrs : Dev → Nat → List (List Nat) → Dev × Nat
  | d, _, [] => (d, 0)
  | d, a, b :: r => if (Dk.write d (a : Int) b).2 ≠ 0 then Dk.write d (a : Int) b else wrs (Dk.write d (a : Int) b).1 (a + 1) r
def rds : Dev → Nat → Nat → List Nat × Nat
  | _, _, 0 => ([], 0)
  | d, a, k + 1 => if (Dk.read d (a : Int)).2 ≠ 0 then ([], (Dk.read d (a : Int)).2) else if (rds d (a + 1) k).2 ≠ 0 then ([], (rds d (a + 1) k).2) else ((Dk.read d (a : Int)).1 ++ (rds d (a + 1) k).1, 0)
def puts : Dev → Nat → List (List Nat) → Dev
  | d, _, [] => d
  | d, a, b :: r => puts (put d a b) (a + 1) r
/-- A page's bytes on the device. -/
def pv (d : Dev) (a : Nat) : List Nat := sv d a ++ (sv d (a + 1) ++ (sv d (a + 2) ++ sv d (a + 3)))

theorem secs_length (b : List Nat) : (secs b).length = 4 := rfl
theorem secs_join {b : List Nat} (h : b.length = 512) : b.take 128 ++ ((b.drop 128).take 128 ++ ((b.drop 256).take 128 ++ (b.drop 384).take 128)) = b := by
  have e4 : (b.drop 384).take 128 = b.drop 384 := List.take_of_length_le (by simp; omega)
  have e3 : (b.drop 256).take 128 ++ b.drop 384 = b.drop 256 := by
    have := List.take_append_drop 128 (b.drop 256)
    rwa [List.drop_drop] at this
  have e2 : (b.drop 128).take 128 ++ b.drop 256 = b.drop 128 := by
    have := List.take_append_drop 128 (b.drop 128)
    rwa [List.drop_drop] at this
  rw [e4, e3, e2, List.take_append_drop]
theorem secs_sec {b : List Nat} (h : b.length = 512) (hs : ∀ x ∈ b, x < 256) : ∀ s ∈ secs b, Sec s := by
  intro s hm
  simp only [secs, List.mem_cons, List.not_mem_nil, or_false] at hm
  have ht : ∀ n, n + 128 ≤ 512 → Sec ((b.drop n).take 128) := fun n hn => ⟨by simp; omega, fun x hx => hs x (List.mem_of_mem_drop (List.mem_of_mem_take hx))⟩
  rcases hm with rfl | rfl | rfl | rfl
  · exact ⟨by simp; omega, fun x hx => hs x (List.mem_of_mem_take hx)⟩
  · exact ht 128 (by omega)
  · exact ht 256 (by omega)
  · exact ht 384 (by omega)

theorem Calm.wrs {n : Nat} : ∀ (L : List (List Nat)) {d : Dev} {a : Nat}, Calm n d → (∀ s ∈ L, Sec s) → a + L.length ≤ n → wrs d a L = (puts d a L, 0) ∧ Calm n (puts d a L)
  | [], d, a, h, _, _ => ⟨rfl, h⟩
  | b :: r, d, a, h, hs, ha => by
    simp only [List.length_cons] at ha
    obtain ⟨h1, h2⟩ := h.write (i := a) (by omega) (hs b (List.mem_cons_self ..))
    unfold Dk.wrs
    rw [h1]
    exact Calm.wrs r (a := a + 1) h2 (fun s hm => hs s (List.mem_cons_of_mem _ hm)) (by omega)
theorem Calm.read {n : Nat} {d : Dev} (h : Calm n d) {i : Nat} (hi : i < n) : read d (i : Int) = (sv d i, 0) := read_fine h.off (by rw [h.sz]; exact hi)
theorem Calm.rds {n : Nat} {d : Dev} (h : Calm n d) {a : Nat} (ha : a + 4 ≤ n) : rds d a 4 = (pv d a, 0) := by
  unfold Dk.rds Dk.rds Dk.rds Dk.rds Dk.rds
  rw [h.read (i := a) (by omega), h.read (i := a + 1) (by omega), h.read (i := a + 1 + 1) (by omega), h.read (i := a + 1 + 1 + 1) (by omega)]
  simp [pv]

theorem sv_put {d : Dev} {i : Nat} (b : List Nat) (hi : i < d.waits.length) (j : Nat) : sv (put d i b) j = if j = i then b else sv d j := by
  unfold sv put
  simp only [List.getD_eq_getElem?_getD]
  by_cases h : j = i
  · subst h
    rw [if_pos rfl, List.getElem?_set_self hi]
    rfl
  · rw [if_neg h, List.getElem?_set_ne (Ne.symm h)]
theorem sv_puts : ∀ (L : List (List Nat)) {d : Dev} {a : Nat}, a + L.length ≤ d.waits.length → ∀ j, sv (puts d a L) j = if a ≤ j ∧ j < a + L.length then L.getD (j - a) [] else sv d j
  | [], d, a, _, j => by rw [if_neg (by simp)]; rfl
  | b :: r, d, a, ha, j => by
    simp only [List.length_cons] at ha ⊢
    show sv (puts (put d a b) (a + 1) r) j = _
    rw [sv_puts r (a := a + 1) (by show a + 1 + r.length ≤ (d.waits.set a (some b)).length; rw [List.length_set]; omega) j]
    by_cases h1 : a + 1 ≤ j ∧ j < a + 1 + r.length
    · rw [if_pos h1, if_pos (by omega), show j - a = (j - (a + 1)) + 1 by omega]
      rfl
    · rw [if_neg h1, sv_put b (by omega)]
      by_cases h2 : j = a
      · subst h2
        rw [if_pos rfl, if_pos (by omega), Nat.sub_self]
        rfl
      · rw [if_neg h2, if_neg (by omega)]
theorem pv_puts_same {d : Dev} {a : Nat} {b : List Nat} (ha : a + 4 ≤ d.waits.length) (hb : b.length = 512) : pv (puts d a (secs b)) a = b := by
  unfold pv
  have h := fun j => sv_puts (secs b) (d := d) (a := a) (by rw [secs_length]; exact ha) j
  rw [h a, h (a + 1), h (a + 2), h (a + 3)]
  have hl := secs_length b
  rw [if_pos (by omega), if_pos (by omega), if_pos (by omega), if_pos (by omega), Nat.sub_self, Nat.add_sub_cancel_left, Nat.add_sub_cancel_left, Nat.add_sub_cancel_left]
  exact secs_join hb
theorem pv_puts_other {d : Dev} {a a' : Nat} {b : List Nat} (ha : a + 4 ≤ d.waits.length) (h : a' + 4 ≤ a ∨ a + 4 ≤ a') : pv (puts d a (secs b)) a' = pv d a' := by
  unfold pv
  have h2 := fun j => sv_puts (secs b) (d := d) (a := a) (by rw [secs_length]; exact ha) j
  rw [h2 a', h2 (a' + 1), h2 (a' + 2), h2 (a' + 3)]
  have hl := secs_length b
  rw [if_neg (by omega), if_neg (by omega), if_neg (by omega), if_neg (by omega)]
theorem sv_fresh {n m i : Nat} (hi : i < n) : sv (fresh n m) i = blank := by
  unfold sv fresh
  simp [List.getD_eq_getElem?_getD, hi]
theorem pv_fresh {n m a : Nat} (ha : a + 4 ≤ n) : pv (fresh n m) a = Pg.zeros 512 := by
  unfold pv
  rw [sv_fresh (by omega), sv_fresh (by omega), sv_fresh (by omega), sv_fresh (by omega)]
  unfold blank Pg.zeros
  rw [List.replicate_append_replicate, List.replicate_append_replicate, List.replicate_append_replicate]
theorem Calm.waits {n : Nat} {d : Dev} (h : Calm n d) : d.waits.length = n := by rw [h.own.ok.w, h.sz]
end Go.Proofs.Ytkmkbjjpbodbfaa.Dk

namespace Go.Proofs.Ytkmkbjjpbodbfaa.Pg
/-- A page's first sector. -/
def place (base n : Int) : Nat := (base + 4 * n).toNat
/-- A page is written, and read. -/
def write (d : Dk.Dev) (base n : Int) (k : Nat) (l : List Nat) : Dk.Dev × Nat :=
  if l.length ≠ 500 then (d, 2) else if lies (Dk.size d) base n = false then (d, 2) else Dk.wrs d (place base n) (Dk.secs (form k l))
def read (d : Dk.Dev) (base n : Int) : (Nat × List Nat) × Nat :=
  if lies (Dk.size d) base n = false then ((0, []), 2) else if (Dk.rds d (place base n) 4).2 ≠ 0 then ((0, []), (Dk.rds d (place base n) 4).2) else
    ((openN (Dk.rds d (place base n) 4).1, openL (Dk.rds d (place base n) 4).1), openE (Dk.rds d (place base n) 4).1)

theorem lies_place {s : Nat} {base n : Int} (h : lies s base n = true) : place base n + 4 ≤ s := by
  have h := of_decide_eq_true h
  obtain ⟨h1, h2, h3, h4⟩ := h
  rw [Int.tdiv_eq_ediv_of_nonneg (by omega)] at h4
  unfold place
  omega
theorem place_apart {s : Nat} {base n m : Int} (hn : lies s base n = true) (hm : lies s base m = true) (h : n ≠ m) : place base m + 4 ≤ place base n ∨ place base n + 4 ≤ place base m := by
  obtain ⟨h1, h2, h3, h4⟩ := of_decide_eq_true hn
  obtain ⟨g1, g2, g3, g4⟩ := of_decide_eq_true hm
  unfold place
  omega

/-- What the pages on a calm device are read as. -/
theorem write_calm {n : Nat} {d : Dk.Dev} (h : Dk.Calm n d) {base m : Int} {k : Nat} {l : List Nat} (hl : l.length = 500) (hs : ∀ x ∈ l, x < 256) (hm : lies n base m = true) :
    write d base m k l = (Dk.puts d (place base m) (Dk.secs (form k l)), 0) ∧ Dk.Calm n (Dk.puts d (place base m) (Dk.secs (form k l))) := by
  have hp := lies_place hm
  have hf : (form k l).length = 512 := by rw [form_length, hl]
  obtain ⟨h1, h2⟩ := h.wrs (Dk.secs (form k l)) (a := place base m) (Dk.secs_sec hf (form_lt hs)) (by rw [Dk.secs_length]; exact hp)
  refine ⟨?_, h2⟩
  unfold write
  rw [if_neg (by omega), h.sz, if_neg (by rw [hm]; decide), h1]
theorem write_not {d : Dk.Dev} {base m : Int} {k : Nat} {l : List Nat} (h : l.length ≠ 500 ∨ lies (Dk.size d) base m = false) : write d base m k l = (d, 2) := by
  unfold write
  by_cases h1 : l.length ≠ 500
  · rw [if_pos h1]
  · rw [if_neg h1, if_pos (h.resolve_left h1)]
theorem read_calm {n : Nat} {d : Dk.Dev} (h : Dk.Calm n d) {base m : Int} (hm : lies n base m = true) :
    read d base m = ((openN (Dk.pv d (place base m)), openL (Dk.pv d (place base m))), openE (Dk.pv d (place base m))) := by
  have hp := lies_place hm
  unfold read
  rw [h.sz, if_neg (by rw [hm]; decide), h.rds hp, if_neg (by simp)]
theorem read_not {d : Dk.Dev} {base m : Int} (h : lies (Dk.size d) base m = false) : read d base m = ((0, []), 2) := if_pos h

/-- The pages that a law keeps are those on the device. -/
structure Shown (s : Nat) (base : Int) (d : Dk.Dev) (now : List (Nat × List Nat)) : Prop where
  calm : Dk.Calm s d
  len : now.length = 15
  shown : ∀ m : Nat, m < 15 → lies s base m = true → openE (Dk.pv d (place base m)) = 0 ∧ now.getD m (0, []) = (openN (Dk.pv d (place base m)), openL (Dk.pv d (place base m)))
theorem lies_small {s : Nat} {base m : Int} (hs : s ≤ 60) (h : lies s base m = true) : 0 ≤ m ∧ m < 15 := by
  obtain ⟨h1, h2, h3, h4⟩ := of_decide_eq_true h
  rw [Int.tdiv_eq_ediv_of_nonneg (by omega)] at h4
  omega
theorem shown_fresh {s : Nat} {base : Int} (h1 : 1 ≤ s) (h2 : s ≤ 65536) : Shown s base (Dk.fresh s s) (List.replicate 15 (0, zeros 500)) where
  calm := Dk.calm_fresh h1 h2
  len := List.length_replicate
  shown := fun m hm hl => by
    have hp := lies_place hl
    rw [Dk.pv_fresh hp, openE_zeros, openN_zeros, openL_zeros]
    refine ⟨rfl, ?_⟩
    rw [List.getD_eq_getElem?_getD, List.getElem?_replicate, if_pos hm]
    rfl
theorem Shown.write {s : Nat} {base : Int} {d : Dk.Dev} {now : List (Nat × List Nat)} (h : Shown s base d now) {m : Nat} (hm : m < 15) (hl : lies s base m = true) {k : Nat} (hk : k < 18446744073709551616) {l : List Nat} (hl5 : l.length = 500) (hs : ∀ x ∈ l, x < 256) :
    (Pg.write d base m k l).2 = 0 ∧ Shown s base (Pg.write d base m k l).1 (now.set m (k, l)) := by
  obtain ⟨h1, h2⟩ := write_calm h.calm (k := k) hl5 hs hl
  have hp := lies_place hl
  rw [h1]
  refine ⟨rfl, h2, by rw [List.length_set]; exact h.len, fun j hj hlj => ?_⟩
  by_cases he : j = m
  · subst he
    rw [Dk.pv_puts_same (by rw [h.calm.waits]; exact hp) (by rw [form_length, hl5]), openE_form hs hl5, openN_form hs hl5 hk, openL_form hs hl5]
    refine ⟨rfl, ?_⟩
    rw [List.getD_eq_getElem?_getD, List.getElem?_set_self (by rw [h.len]; exact hj)]
    rfl
  · rw [Dk.pv_puts_other (by rw [h.calm.waits]; exact hp) (place_apart hl hlj (by omega))]
    rw [List.getD_eq_getElem?_getD, List.getElem?_set_ne (Ne.symm he), ← List.getD_eq_getElem?_getD]
    exact h.shown j hj hlj
end Go.Proofs.Ytkmkbjjpbodbfaa.Pg
