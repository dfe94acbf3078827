/- Hits as pure lists: their order, the sorted list, and when what was chosen is its beginning. -/
import Derived.KernelRfl
namespace Go.Proofs.Ytljichhmfbefaaa

/-- A hit: its key, and how far it is. -/
abbrev Hit := UInt64 × Int64

namespace Hp
/-- The number by which a hit stands in the order. -/
def rk (h : Hit) : Int := h.2.toInt * 18446744073709551616 + (h.1.toNat : Int)

theorem key_lt (h : Hit) : (h.1.toNat : Int) < 18446744073709551616 := by
  have := h.1.toNat_lt; omega
theorem dist_lo (h : Hit) : -9223372036854775808 ≤ h.2.toInt := by
  have := h.2.le_toInt; rw [show (2 : Int) ^ 63 = 9223372036854775808 by decide] at this; exact this
theorem dist_hi (h : Hit) : h.2.toInt < 9223372036854775808 := by
  have := h.2.toInt_lt; rw [show (2 : Int) ^ 63 = 9223372036854775808 by decide] at this; exact this

theorem rk_inj {a b : Hit} (h : rk a = rk b) : a = b := by
  have ha := key_lt a
  have hb := key_lt b
  unfold rk at h
  have hd : a.2.toInt = b.2.toInt := by omega
  have hk : a.1.toNat = b.1.toNat := by omega
  exact Prod.ext (UInt64.toNat_inj.1 hk) (Int64.toInt_inj.1 hd)

theorem rk_lt {a b : Hit} : rk a < rk b ↔ a.2.toInt < b.2.toInt ∨ a.2.toInt = b.2.toInt ∧ a.1.toNat < b.1.toNat := by
  have ha := key_lt a
  have hb := key_lt b
  unfold rk
  omega

/-- The order: -1, 0, 1. -/
def ord (a b : Hit) : Int := if rk a < rk b then -1 else if rk b < rk a then 1 else 0

theorem ord_lt {a b : Hit} : ord a b < 0 ↔ rk a < rk b := by
  unfold ord; split
  · omega
  · split <;> omega
theorem ord_gt {a b : Hit} : 0 < ord a b ↔ rk b < rk a := by
  unfold ord; split
  · omega
  · split <;> omega
theorem ord_zero {a b : Hit} : ord a b = 0 ↔ a = b := by
  constructor
  · intro h
    apply rk_inj
    unfold ord at h
    split at h
    · omega
    · split at h <;> omega
  · rintro rfl
    unfold ord
    rw [if_neg (by omega), if_neg (by omega)]
theorem ord_range (a b : Hit) : -1 ≤ ord a b ∧ ord a b ≤ 1 := by
  unfold ord; split
  · omega
  · split <;> omega
theorem ord_swap (a b : Hit) : ord a b = -ord b a := by
  unfold ord; split
  · split
    · omega
    · rfl
  · split <;> rfl

/-- In order. -/
def Up (l : List Hit) : Prop := l.Pairwise (fun a b => rk a ≤ rk b)

/-- The sorted list. -/
def srt (l : List Hit) : List Hit := l.mergeSort (fun x y => decide (rk x ≤ rk y))

theorem srt_perm (l : List Hit) : (srt l).Perm l := List.mergeSort_perm _ _
theorem srt_up (l : List Hit) : Up (srt l) := by
  have h := List.pairwise_mergeSort (le := fun x y : Hit => decide (rk x ≤ rk y)) (by intro a b c h1 h2; simp at *; omega) (by intro a b; simp; omega) l
  unfold Up srt
  refine h.imp ?_
  intro a b hab
  simpa using hab
theorem srt_length (l : List Hit) : (srt l).length = l.length := (srt_perm l).length_eq

theorem up_unique {a b : List Hit} (ha : Up a) (hb : Up b) (hp : a.Perm b) : a = b :=
  List.Perm.eq_of_pairwise (fun _ _ _ _ h1 h2 => rk_inj (Int.le_antisymm h1 h2)) ha hb hp

theorem srt_of_perm {a b : List Hit} (hp : a.Perm b) : srt a = srt b :=
  up_unique (srt_up a) (srt_up b) ((srt_perm a).trans (hp.trans (srt_perm b).symm))

/-- What was chosen out of l, in order, with nothing left that stands ahead of one of it, is the beginning of the sorted list. -/
theorem chosen {O R l : List Hit} (hp : (O ++ R).Perm l) (ho : Up O) (hr : ∀ o ∈ O, ∀ r ∈ R, rk o ≤ rk r) : O = (srt l).take O.length := by
  have hu : Up (O ++ srt R) := by
    unfold Up
    rw [List.pairwise_append]
    exact ⟨ho, srt_up R, fun o ho' r hr' => hr o ho' r ((srt_perm R).mem_iff.1 hr')⟩
  have he : O ++ srt R = srt l := up_unique hu (srt_up l) ((List.Perm.append_left O (srt_perm R)).trans (hp.trans (srt_perm l).symm))
  rw [← he]
  simp

theorem up_take {l : List Hit} (h : Up l) (n : Nat) : Up (l.take n) := h.sublist (List.take_sublist n l)

theorem up_split {l : List Hit} (h : Up l) (n : Nat) : ∀ a ∈ l.take n, ∀ b ∈ l.drop n, rk a ≤ rk b := by
  have h2 : Up (l.take n ++ l.drop n) := by rw [List.take_append_drop]; exact h
  exact (List.pairwise_append.1 h2).2.2

/-- Of an ordered list, one that stands ahead of the n-th is at most as any that n of the list are at most. -/
theorem up_most {S : List Hit} (h : Up S) {n : Nat} {x : Hit} (hc : n ≤ S.countP (fun s => decide (rk s ≤ rk x))) : ∀ y ∈ S.take n, rk y ≤ rk x := by
  intro y hy
  rcases Int.lt_or_le (rk x) (rk y) with hlt | hle
  · exfalso
    have hz : (S.drop n).countP (fun s => decide (rk s ≤ rk x)) = 0 := by
      rw [List.countP_eq_zero]
      intro b hb
      have := up_split h n y hy b hb
      simp; omega
    have h1 : (S.take n).countP (fun s => decide (rk s ≤ rk x)) < (S.take n).length := by
      have hle := List.countP_le_length (p := fun s => decide (rk s ≤ rk x)) (l := S.take n)
      rcases Nat.lt_or_ge ((S.take n).countP (fun s => decide (rk s ≤ rk x))) (S.take n).length with h2 | h2
      · exact h2
      · exfalso
        have := List.countP_eq_length.1 (Nat.le_antisymm hle h2) y hy
        simp at this; omega
    have h2 : S.countP (fun s => decide (rk s ≤ rk x)) = (S.take n).countP (fun s => decide (rk s ≤ rk x)) + (S.drop n).countP (fun s => decide (rk s ≤ rk x)) := by
      rw [← List.countP_append, List.take_append_drop]
    have h3 : (S.take n).length ≤ n := List.length_take_le _ _
    omega
  · exact hle

/-- The first n of both lists together are the first n of the first n of each. -/
theorem merge_first (a b : List Hit) (n : Nat) : (srt ((srt a).take n ++ (srt b).take n)).take n = (srt (a ++ b)).take n := by
  have hS := srt_up ((srt a).take n ++ (srt b).take n)
  have hSp := srt_perm ((srt a).take n ++ (srt b).take n)
  have hcnt : ∀ c : List Hit, (∀ x : Hit, ((srt c).take n).countP (fun s => decide (rk s ≤ rk x)) ≤ (srt ((srt a).take n ++ (srt b).take n)).countP (fun s => decide (rk s ≤ rk x))) →
      ∀ x ∈ (srt c).drop n, ∀ y ∈ (srt ((srt a).take n ++ (srt b).take n)).take n, rk y ≤ rk x := by
    intro c hc x hx
    refine up_most hS ?_
    refine Nat.le_trans ?_ (hc x)
    have hlen : n < (srt c).length := by
      have := List.length_pos_of_mem hx
      rw [List.length_drop] at this
      omega
    have hall : ((srt c).take n).countP (fun s => decide (rk s ≤ rk x)) = ((srt c).take n).length := by
      rw [List.countP_eq_length]
      intro s hs
      have := up_split (srt_up c) n s hs x hx
      simpa using this
    rw [hall, List.length_take]
    omega
  have hp : ((srt ((srt a).take n ++ (srt b).take n)).take n ++ ((srt ((srt a).take n ++ (srt b).take n)).drop n ++ ((srt a).drop n ++ (srt b).drop n))).Perm (a ++ b) := by
    rw [← List.append_assoc, List.take_append_drop]
    refine (List.Perm.append_right _ hSp).trans ?_
    have h1 : ((srt a).take n ++ (srt b).take n ++ ((srt a).drop n ++ (srt b).drop n)).Perm (((srt a).take n ++ (srt a).drop n) ++ ((srt b).take n ++ (srt b).drop n)) := by
      simp only [List.append_assoc]
      refine List.Perm.append_left _ ?_
      rw [← List.append_assoc, ← List.append_assoc]
      exact List.Perm.append_right _ List.perm_append_comm
    refine h1.trans ?_
    rw [List.take_append_drop, List.take_append_drop]
    exact (srt_perm a).append (srt_perm b)
  have hres := chosen hp (up_take hS n) (by
    intro o ho r hr
    rcases List.mem_append.1 hr with hr | hr
    · exact up_split hS n o ho r hr
    · rcases List.mem_append.1 hr with hr | hr
      · refine hcnt a (fun x => ?_) r hr o ho
        rw [hSp.countP_eq, List.countP_append]; omega
      · refine hcnt b (fun x => ?_) r hr o ho
        rw [hSp.countP_eq, List.countP_append]; omega)
  rw [hres]
  rw [List.length_take, srt_length, List.length_append, List.length_take, List.length_take, srt_length, srt_length]
  have hl : (srt (a ++ b)).length = a.length + b.length := by rw [srt_length, List.length_append]
  rcases Nat.lt_or_ge n (a.length + b.length) with h | h
  · congr 1; omega
  · rw [List.take_of_length_le (by omega : (srt (a ++ b)).length ≤ n), List.take_of_length_le (by omega)]

/-- One more is chosen: the least of the rest; the last of the rest takes its place. -/
theorem choose {O R l : List Hit} (hp : (O ++ R).Perm l) (ho : Up O) (hr : ∀ o ∈ O, ∀ r ∈ R, rk o ≤ rk r) (at_ : Nat) (ha : at_ < R.length) (hm : ∀ j, j < R.length → rk (R.getD at_ default) ≤ rk (R.getD j default)) :
    ((O ++ [R.getD at_ default]) ++ (R.set at_ (R.getD (R.length - 1) default)).take (R.length - 1)).Perm l ∧ Up (O ++ [R.getD at_ default]) ∧
      ∀ o ∈ O ++ [R.getD at_ default], ∀ r ∈ (R.set at_ (R.getD (R.length - 1) default)).take (R.length - 1), rk o ≤ rk r := by
  have hmem : R.getD at_ default ∈ R := by
    rw [List.getD_eq_getElem?_getD, List.getElem?_eq_getElem ha]; simp
  have hall : ∀ r ∈ R, rk (R.getD at_ default) ≤ rk r := by
    intro r hr'
    obtain ⟨j, hj, rfl⟩ := List.mem_iff_getElem.1 hr'
    have := hm j hj
    rw [List.getD_eq_getElem?_getD (i := j), List.getElem?_eq_getElem hj] at this
    simpa using this
  have hperm : ([R.getD at_ default] ++ (R.set at_ (R.getD (R.length - 1) default)).take (R.length - 1)).Perm R := by
    have hR : R = R.take (R.length - 1) ++ [R.getD (R.length - 1) default] := by
      conv => lhs; rw [← List.take_append_drop (R.length - 1) R]
      congr 1
      rw [List.drop_eq_getElem_cons (by omega), List.drop_of_length_le (by omega), List.getD_eq_getElem?_getD, List.getElem?_eq_getElem (by omega)]
      rfl
    rcases Nat.lt_or_ge at_ (R.length - 1) with h1 | h1
    · have ht : (R.set at_ (R.getD (R.length - 1) default)).take (R.length - 1) = (R.take (R.length - 1)).set at_ (R.getD (R.length - 1) default) := by
        rw [List.take_set]
      rw [ht]
      have hx : R.getD at_ default = (R.take (R.length - 1)).getD at_ default := by
        simp only [List.getD_eq_getElem?_getD]
        rw [List.getElem?_take, if_pos h1]
      rw [hx]
      generalize hT : R.take (R.length - 1) = T at *
      generalize R.getD (R.length - 1) default = z at *
      have hTl : at_ < T.length := by rw [← hT, List.length_take]; omega
      conv => rhs; rw [hR]
      have hTs : T = T.take at_ ++ T.getD at_ default :: T.drop (at_ + 1) := by
        conv => lhs; rw [← List.take_append_drop at_ T]
        congr 1
        rw [List.drop_eq_getElem_cons hTl, List.getD_eq_getElem?_getD, List.getElem?_eq_getElem hTl]
        rfl
      have hset : T.set at_ z = T.take at_ ++ z :: T.drop (at_ + 1) := by
        rw [List.set_eq_take_append_cons_drop, if_pos hTl]
      rw [hset]
      conv => rhs; rw [hTs]
      generalize T.getD at_ default = y
      generalize T.take at_ = A
      generalize T.drop (at_ + 1) = B
      show (y :: (A ++ z :: B)).Perm (A ++ y :: B ++ [z])
      have e1 : (A ++ y :: B ++ [z]).Perm (y :: (A ++ (B ++ [z]))) := by
        rw [List.append_assoc]
        exact List.perm_middle
      refine List.Perm.trans ?_ e1.symm
      refine List.Perm.cons _ (List.Perm.append_left A ?_)
      exact (List.perm_append_comm (l₁ := [z]) (l₂ := B))
    · have h2 : at_ = R.length - 1 := by omega
      subst h2
      have ht : (R.set (R.length - 1) (R.getD (R.length - 1) default)).take (R.length - 1) = R.take (R.length - 1) := by
        rw [List.take_set, List.set_eq_of_length_le (by rw [List.length_take]; omega)]
      rw [ht]
      conv => rhs; rw [hR]
      exact List.perm_append_comm
  refine ⟨?_, ?_, ?_⟩
  · rw [List.append_assoc]
    exact (List.Perm.append_left O hperm).trans hp
  · unfold Up
    rw [List.pairwise_append]
    refine ⟨ho, by simp, fun o ho' x hx => ?_⟩
    simp at hx
    subst hx
    exact hr o ho' _ hmem
  · intro o ho' r hr'
    have hrR : r ∈ R := hperm.mem_iff.1 (List.mem_append_right _ hr')
    rcases List.mem_append.1 ho' with h | h
    · exact hr o h r hrR
    · simp at h
      subst h
      exact hall r hrR

theorem chosen_all {O R l : List Hit} {n : Nat} (hp : (O ++ R).Perm l) (ho : Up O) (hr : ∀ o ∈ O, ∀ r ∈ R, rk o ≤ rk r) (hn : O.length ≤ n) (he : R = [] ∨ n ≤ O.length) : O = (srt l).take n := by
  have h := chosen hp ho hr
  have hl := hp.length_eq
  rw [List.length_append] at hl
  rcases he with rfl | he
  · rw [h, List.take_of_length_le (i := n), List.take_of_length_le]
    · rw [srt_length]; simp at hl; omega
    · rw [srt_length]; simp at hl; omega
  · have : O.length = n := by omega
    rw [this] at h; exact h
end Hp
end Go.Proofs.Ytljichhmfbefaaa
