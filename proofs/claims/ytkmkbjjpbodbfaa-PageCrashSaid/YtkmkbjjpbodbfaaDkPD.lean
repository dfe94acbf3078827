/- The program's own way to keep a device: a block of six cells, and two maps. Conditions: none. -/
import Derived.Test.YtkmkbjjpbodbfaaDiskMap
import Derived.Test.YtkmkbjjpbodbfaaDkBase
namespace Go.Proofs.Ytkmkbjjpbodbfaa
open Go.RowKit

namespace Dk
/-- What the map of lasting sectors tells: those that were written. -/
def seenL (d : Dev) : List (Option (List Nat)) := List.zipWith (fun (s : Bool) l => if s then some l else none) d.seen d.lasts

/-- What else is so of a device of the program's. -/
structure Own (d : Dev) : Prop where
  ok : Ok d
  armed : d.armed ≤ 1073741824
  most : d.most ≤ size d
  one : 1 ≤ size d
  size : size d ≤ 65536
  blank : ∀ i, i < Dk.size d → d.seen.getD i false = false → d.lasts.getD i [] = Dk.blank
  wseen : ∀ i b, d.waits.getD i none = some b → d.seen.getD i false = true
  used : used d ≤ d.most

theorem getD_zipWith {α β γ : Type} (f : α → β → γ) (a : List α) (b : List β) (i : Nat) (x : α) (y : β) (z : γ) (ha : i < a.length) (hb : i < b.length) : (List.zipWith f a b).getD i z = f (a.getD i x) (b.getD i y) := by
  simp only [List.getD_eq_getElem?_getD]
  rw [List.getElem?_eq_getElem ha, List.getElem?_eq_getElem hb, List.getElem?_eq_getElem (by rw [List.length_zipWith]; omega), List.getElem_zipWith]
  rfl
theorem seenL_length {d : Dev} (h : Ok d) : (seenL d).length = size d := by
  have := h.s
  unfold seenL
  rw [List.length_zipWith]
  unfold size at *
  omega
theorem seenL_getD {d : Dev} (h : Ok d) {i : Nat} (hi : i < size d) : (seenL d).getD i none = if d.seen.getD i false then some (d.lasts.getD i []) else none :=
  getD_zipWith _ _ _ i false [] none (by rw [h.s]; exact hi) hi
theorem ext_getD {α : Type} {a b : List α} (x : α) (h : a.length = b.length) (hh : ∀ i, i < a.length → a.getD i x = b.getD i x) : a = b := by
  refine List.ext_getElem h fun i h1 h2 => ?_
  have := hh i h1
  simp only [List.getD_eq_getElem?_getD] at this
  rw [List.getElem?_eq_getElem h1, List.getElem?_eq_getElem h2] at this
  exact this
theorem seenL_count : ∀ (s : List Bool) (l : List (List Nat)), s.length = l.length → (List.zipWith (fun (s : Bool) l => if s then some l else none) s l).countP Option.isSome = s.count true
  | [], [], _ => rfl
  | [], _ :: _, h => by simp at h
  | _ :: _, [], h => by simp at h
  | true :: s, x :: l, h => by
    have := seenL_count s l (by simpa using h)
    simp [List.zipWith, this]
  | false :: s, x :: l, h => by
    have := seenL_count s l (by simpa using h)
    simp [List.zipWith, this]
theorem seenL_used {d : Dev} (h : Ok d) : (seenL d).countP Option.isSome = used d := seenL_count _ _ h.s
theorem getD_set_self {α : Type} {l : List α} {i : Nat} {x y : α} (h : i < l.length) : (l.set i x).getD i y = x := by
  rw [List.getD_eq_getElem?_getD, List.getElem?_set_self h]; rfl
theorem getD_set_ne {α : Type} {l : List α} {i j : Nat} {x y : α} (h : i ≠ j) : (l.set i x).getD j y = l.getD j y := by
  rw [List.getD_eq_getElem?_getD, List.getElem?_set_ne h, ← List.getD_eq_getElem?_getD]
theorem getD_replicate {α : Type} (n : Nat) (x : α) (i : Nat) : (List.replicate n x).getD i x = x := by
  rw [List.getD_eq_getElem?_getD, List.getElem?_replicate]
  split <;> rfl

theorem own_fresh {n most : Nat} (h1 : 1 ≤ n) (h2 : n ≤ 65536) (h3 : most ≤ n) : Own (fresh n most) where
  ok := ok_fresh n most
  armed := Nat.zero_le _
  most := by show most ≤ (List.replicate n Dk.blank).length; rw [List.length_replicate]; exact h3
  one := by show 1 ≤ (List.replicate n Dk.blank).length; rw [List.length_replicate]; exact h1
  size := by show (List.replicate n Dk.blank).length ≤ 65536; rw [List.length_replicate]; exact h2
  blank := fun i hi _ => by
    have hi' : i < n := by
      have : i < (List.replicate n Dk.blank).length := hi
      rwa [List.length_replicate] at this
    show (List.replicate n Dk.blank).getD i [] = Dk.blank
    rw [List.getD_eq_getElem?_getD, List.getElem?_replicate, if_pos hi']; rfl
  wseen := fun i b hb => by
    have : (List.replicate n (none : Option (List Nat))).getD i none = some b := hb
    rw [getD_replicate] at this; cases this
  used := by
    show (List.replicate n false).count true ≤ most
    rw [List.count_replicate]; simp
theorem seenL_fresh (n most : Nat) : seenL (fresh n most) = List.replicate n none := by
  show List.zipWith _ (List.replicate n false) (List.replicate n Dk.blank) = _
  rw [List.zipWith_replicate]; simp

theorem own_same {d d' : Dev} (h : Own d) (e1 : d'.lasts = d.lasts) (e2 : d'.waits = d.waits) (e3 : d'.seen = d.seen) (e4 : d'.most = d.most) (ha : d'.armed ≤ 1073741824) : Own d' := by
  have es : Dk.size d' = Dk.size d := by unfold Dk.size; rw [e1]
  refine ⟨⟨?_, ?_, ?_, ?_⟩, ha, ?_, ?_, ?_, ?_, ?_, ?_⟩
  · rw [e2, es]; exact h.ok.w
  · rw [e3, es]; exact h.ok.s
  · rw [e1]; exact h.ok.l1
  · rw [e2]; exact h.ok.w1
  · rw [e4, es]; exact h.most
  · rw [es]; exact h.one
  · rw [es]; exact h.size
  · rw [es, e3, e1]; exact h.blank
  · rw [e2, e3]; exact h.wseen
  · unfold Dk.used; rw [e3, e4]; exact h.used
theorem seenL_same {d d' : Dev} (e1 : d'.lasts = d.lasts) (e3 : d'.seen = d.seen) : seenL d' = seenL d := by unfold seenL; rw [e1, e3]
theorem own_goes {d : Dev} (h : Own d) : Own (goes d) := by
  obtain ⟨h1, h2, h3, h4⟩ := goes_same d
  refine own_same h h1 h2 h3 h4 ?_
  unfold goes
  split
  · show d.armed - 1 ≤ _; have := h.armed; omega
  · exact h.armed
theorem own_arm {d : Dev} (h : Own d) {n : Nat} (hn : n ≤ 1073741824) : Own { d with armed := n } := own_same h rfl rfl rfl rfl hn

theorem count_set_new : ∀ {s : List Bool} {i : Nat}, i < s.length → s.getD i false = false → (s.set i true).count true = s.count true + 1
  | [], _, h, _ => absurd h (Nat.not_lt_zero _)
  | x :: s, 0, _, h => by
    have hx : x = false := by simpa using h
    subst hx; simp
  | x :: s, i + 1, h, hs => by
    have := count_set_new (s := s) (i := i) (by simpa using h) (by simpa using hs)
    cases x <;> simp [this]
theorem set_seen {s : List Bool} {i : Nat} (hi : i < s.length) (h : s.getD i false = true) : s.set i true = s := by
  refine ext_getD false (by simp) fun j hj => ?_
  by_cases e : i = j
  · subst e; rw [getD_set_self hi, h]
  · rw [getD_set_ne e]
theorem own_put {d : Dev} (h : Own d) {i : Nat} (hi : i < Dk.size d) {b : List Nat} (hb : Sec b) (hu : Dk.used d < d.most ∨ d.seen.getD i false = true) : Own (put d i b) where
  ok := ok_put h.ok i hb
  armed := h.armed
  most := h.most
  one := h.one
  size := h.size
  blank := fun j hj hs => by
    refine h.blank j hj ?_
    have hs' : (d.seen.set i true).getD j false = false := hs
    by_cases e : i = j
    · subst e
      rw [getD_set_self (by rw [h.ok.s]; exact hi)] at hs'; cases hs'
    · rwa [getD_set_ne e] at hs'
  wseen := fun j c hc => by
    have hc' : (d.waits.set i (some b)).getD j none = some c := hc
    show (d.seen.set i true).getD j false = true
    by_cases e : i = j
    · subst e
      rw [getD_set_self (by rw [h.ok.s]; exact hi)]
    · rw [getD_set_ne e] at hc' ⊢
      exact h.wseen j c hc'
  used := by
    show (d.seen.set i true).count true ≤ d.most
    have hu0 := h.used
    unfold Dk.used at hu0 hu
    by_cases hs : d.seen.getD i false = true
    · rw [set_seen (by rw [h.ok.s]; exact hi) hs]; exact hu0
    · rw [count_set_new (by rw [h.ok.s]; exact hi) (by cases e : d.seen.getD i false <;> simp_all)]
      rcases hu with hu | hu
      · omega
      · exact absurd hu hs
theorem seenL_put_new {d : Dev} (h : Own d) {i : Nat} (hi : i < Dk.size d) (hs : d.seen.getD i false = false) (b : List Nat) : seenL (put d i b) = (seenL d).set i (some Dk.blank) := by
  have hz : Dk.size (put d i b) = Dk.size d := rfl
  have hsl : i < d.seen.length := by rw [h.ok.s]; exact hi
  have hll : (seenL (put d i b)).length = Dk.size d := by
    unfold seenL
    rw [List.length_zipWith]
    show min (d.seen.set i true).length d.lasts.length = _
    rw [List.length_set, h.ok.s]; unfold Dk.size; omega
  refine ext_getD none (by rw [List.length_set, seenL_length h.ok, hll]) fun j hj => ?_
  rw [hll] at hj
  have hgj : (seenL (put d i b)).getD j none = if (d.seen.set i true).getD j false then some (d.lasts.getD j []) else none :=
    getD_zipWith _ _ _ j false [] none (by rw [show (put d i b).seen = d.seen.set i true from rfl, List.length_set, h.ok.s]; exact hj) hj
  rw [hgj]
  by_cases e : i = j
  · subst e
    rw [getD_set_self hsl, if_pos rfl, getD_set_self (by rw [seenL_length h.ok]; exact hi), h.blank i hi hs]
  · rw [getD_set_ne e, getD_set_ne e, seenL_getD h.ok hj]
theorem seenL_put_old {d : Dev} (h : Own d) {i : Nat} (hi : i < Dk.size d) (hs : d.seen.getD i false = true) (b : List Nat) : seenL (put d i b) = seenL d := by
  show List.zipWith _ (d.seen.set i true) d.lasts = _
  rw [set_seen (by rw [h.ok.s]; exact hi) hs]; rfl
/-- Both maps told together: what waits is laid over what lasts. -/
def over (d : Dev) : List (Option (List Nat)) := List.zipWith (fun (w : Option (List Nat)) l => w <|> l) d.waits (seenL d)
theorem last_lasts {d : Dev} (h : Ok d) {i : Nat} (hi : i < size d) : (last d).lasts.getD i [] = (d.waits.getD i none).getD (d.lasts.getD i []) :=
  getD_zipWith _ _ _ i none [] [] (by rw [h.w]; exact hi) hi
theorem last_size2 {d : Dev} (h : Ok d) : size (last d) = size d := by
  show (List.zipWith _ d.waits d.lasts).length = _
  rw [List.length_zipWith, h.w]; unfold size; omega
theorem seenL_last {d : Dev} (h : Own d) : seenL (last d) = over d := by
  have hk := ok_last h.ok
  refine ext_getD none ?_ fun i hi => ?_
  · rw [seenL_length hk, last_size2 h.ok, over, List.length_zipWith, h.ok.w, seenL_length h.ok]; omega
  · rw [seenL_length hk, last_size2 h.ok] at hi
    rw [seenL_getD hk (by rw [last_size2 h.ok]; exact hi), last_lasts h.ok hi]
    show (if d.seen.getD i false then _ else _) = _
    rw [over, getD_zipWith _ _ _ i none none none (by rw [h.ok.w]; exact hi) (by rw [seenL_length h.ok]; exact hi), seenL_getD h.ok hi]
    cases hw : d.waits.getD i none with
    | none => simp
    | some b => rw [h.wseen i b hw]; rfl
theorem own_last {d : Dev} (h : Own d) : Own (last d) where
  ok := ok_last h.ok
  armed := h.armed
  most := by rw [last_size2 h.ok]; exact h.most
  one := by rw [last_size2 h.ok]; exact h.one
  size := by rw [last_size2 h.ok]; exact h.size
  blank := fun i hi hs => by
    rw [last_size2 h.ok] at hi
    rw [last_lasts h.ok hi]
    cases hw : d.waits.getD i none with
    | none => exact h.blank i hi hs
    | some b =>
      have : d.seen.getD i false = false := hs
      rw [h.wseen i b hw] at this; cases this
  wseen := fun i b hb => by
    have : (List.replicate (Dk.size d) (none : Option (List Nat))).getD i none = some b := hb
    rw [getD_replicate] at this; cases this
  used := h.used
theorem crashed_size {d : Dev} (h : Ok d) (ps : List Nat) : size (crash d ps) = size d := crashL_length _ _ _ h.w
theorem crash_lasts {d : Dev} (h : Ok d) (ps : List Nat) {i : Nat} (hi : i < size d) :
    (crash d ps).lasts.getD i [] = match d.waits.getD i none with | none => d.lasts.getD i [] | some b => pick (ps.getD (cnt d i) 0) (d.lasts.getD i []) b := crashL_getD _ _ _ i h.w hi
theorem own_crash {d : Dev} (h : Own d) (ps : List Nat) : Own (crash d ps) where
  ok := ok_crash h.ok ps
  armed := by show 0 ≤ _; omega
  most := by rw [crashed_size h.ok]; exact h.most
  one := by rw [crashed_size h.ok]; exact h.one
  size := by rw [crashed_size h.ok]; exact h.size
  blank := fun i hi hs => by
    rw [crashed_size h.ok] at hi
    rw [crash_lasts h.ok ps hi]
    cases hw : d.waits.getD i none with
    | none => exact h.blank i hi hs
    | some b =>
      have : d.seen.getD i false = false := hs
      rw [h.wseen i b hw] at this; cases this
  wseen := fun i b hb => by
    have : (List.replicate (Dk.size d) (none : Option (List Nat))).getD i none = some b := hb
    rw [getD_replicate] at this; cases this
  used := h.used
end Dk

/-- The blocks of a device. -/
def DS (B m1 m2 : Nat) (i : Nat) : Prop := i = B ∨ i = m1 ∨ i = m2
structure PDev (w : World) (B m1 m2 : Nat) (d : Dk.Dev) : Prop where
  own : Dk.Own d
  blk : w.heap[B]? = some (.cells #[.int .i64 (Dk.size d : Int), .int .i64 (d.most : Int), .map (some m1), .map (some m2), .int .i64 (d.armed : Int), .bool d.off] 70 (0, 0))
  lasts : MapAt w m1 (Dk.seenL d)
  waits : MapAt w m2 d.waits
  b1 : B ≠ m1
  b2 : B ≠ m2
  n12 : m1 ≠ m2

theorem PDev.lt {w : World} {B m1 m2 : Nat} {d : Dk.Dev} (h : PDev w B m1 m2 d) : ∀ i, DS B m1 m2 i → i < w.heap.size := by
  rintro i (rfl | rfl | rfl)
  · exact lt_of_block h.blk
  · exact h.lasts.lt
  · exact h.waits.lt
theorem PDev.keep {w w' : World} {B m1 m2 : Nat} {d : Dk.Dev} {T : Nat → Prop} (h : PDev w B m1 m2 d) (ht : Touch T w w') (hs : ∀ i, DS B m1 m2 i → ¬ T i) : PDev w' B m1 m2 d :=
  ⟨h.own, ht.row h.blk (hs _ (Or.inl rfl)), h.lasts.touch ht (hs _ (Or.inr (Or.inl rfl))), h.waits.touch ht (hs _ (Or.inr (Or.inr rfl))), h.b1, h.b2, h.n12⟩
theorem PDev.below {w w' : World} {B m1 m2 : Nat} {d : Dk.Dev} (h : PDev w B m1 m2 d) (hb : Below w.heap.size w w') : PDev w' B m1 m2 d :=
  h.keep (T := fun i => w.heap.size ≤ i) (.of_below hb fun _ _ hi => hi) fun i hi => by have := h.lt i hi; omega
/-- The device's own block alone is turned. -/
theorem PDev.turn {w w' : World} {B m1 m2 : Nat} {d : Dk.Dev} (h : PDev w B m1 m2 d) (hg : Touch (· = B) w w') (m : Nat) (o : Bool) (hm : m ≤ 1073741824)
    (hb : w'.heap[B]? = some (.cells #[.int .i64 (Dk.size d : Int), .int .i64 (d.most : Int), .map (some m1), .map (some m2), .int .i64 (m : Int), .bool o] 70 (0, 0))) : PDev w' B m1 m2 { d with armed := m, off := o } :=
  ⟨Dk.own_same h.own rfl rfl rfl rfl hm, hb, h.lasts.touch hg (fun e => h.b1 e.symm), h.waits.touch hg (fun e => h.b2 e.symm), h.b1, h.b2, h.n12⟩
theorem PDev.c0 {w : World} {B m1 m2 : Nat} {d : Dk.Dev} (h : PDev w B m1 m2 d) : w.cell? ⟨B, 0, none⟩ = some (.int .i64 (Dk.size d : Int)) := blk_cell h.blk 0 rfl
theorem PDev.c1 {w : World} {B m1 m2 : Nat} {d : Dk.Dev} (h : PDev w B m1 m2 d) : w.cell? ⟨B, 1, none⟩ = some (.int .i64 (d.most : Int)) := blk_cell h.blk 1 rfl
theorem PDev.c2 {w : World} {B m1 m2 : Nat} {d : Dk.Dev} (h : PDev w B m1 m2 d) : w.cell? ⟨B, 2, none⟩ = some (.map (some m1)) := blk_cell h.blk 2 rfl
theorem PDev.c3 {w : World} {B m1 m2 : Nat} {d : Dk.Dev} (h : PDev w B m1 m2 d) : w.cell? ⟨B, 3, none⟩ = some (.map (some m2)) := blk_cell h.blk 3 rfl
theorem PDev.c4 {w : World} {B m1 m2 : Nat} {d : Dk.Dev} (h : PDev w B m1 m2 d) : w.cell? ⟨B, 4, none⟩ = some (.int .i64 (d.armed : Int)) := blk_cell h.blk 4 rfl
theorem PDev.c5 {w : World} {B m1 m2 : Nat} {d : Dk.Dev} (h : PDev w B m1 m2 d) : w.cell? ⟨B, 5, none⟩ = some (.bool d.off) := blk_cell h.blk 5 rfl
end Go.Proofs.Ytkmkbjjpbodbfaa
