/- What lasts and what is written now, as the law DiskKeeps keeps them; halves of a sector behind a crash. Conditions: none. -/
import Derived.Test.YthjciddhghfcbaaDiskCalm
namespace Go.Proofs.Ythjciddhghfcbaa
open Go.RowKit

theorem str_take (b : List Nat) (n : Nat) : (strOfNums (b.map fun x : Nat => (x : Int))).extract 0 n = strOfNums ((b.take n).map fun x : Nat => (x : Int)) := by
  apply ByteArray.ext
  rw [ByteArray.data_extract]
  simp only [strOfNums, List.map_map, List.map_take, List.extract_toArray]
  rw [List.extract_eq_take_drop, List.drop_zero, Nat.sub_zero]
theorem str_drop (b : List Nat) (n : Nat) : (strOfNums (b.map fun x : Nat => (x : Int))).extract n b.length = strOfNums ((b.drop n).map fun x : Nat => (x : Int)) := by
  apply ByteArray.ext
  rw [ByteArray.data_extract]
  simp only [strOfNums, List.map_map, List.map_drop, List.extract_toArray]
  rw [List.extract_eq_take_drop, List.take_of_length_le (l := List.drop n _) (by simp)]
namespace Dk
/-- One write of the law. -/
def stepK (d : Dev) (o : Opr) : Dev := if o.fill % 7 = 0 then last (put d (atN 16 o.at_) (secL o.fill)) else put d (atN 16 o.at_) (secL o.fill)
theorem last_put {d : Dev} (h : Ok d) {i : Nat} (hi : i < size d) (b : List Nat) : (last (put d i b)).lasts = (last d).lasts.set i b := by
  have h1 : (last (put d i b)).lasts.length = size d := by
    show (List.zipWith _ (d.waits.set i (some b)) d.lasts).length = _
    rw [List.length_zipWith, List.length_set, h.w]; unfold size; omega
  have h2 : (last d).lasts.length = size d := last_size2 h
  refine ext_getD [] (by rw [List.length_set, h1, h2]) fun j hj => ?_
  rw [h1] at hj
  have e1 : (last (put d i b)).lasts.getD j [] = ((d.waits.set i (some b)).getD j none).getD (d.lasts.getD j []) :=
    getD_zipWith _ _ _ j none [] [] (by show j < (d.waits.set i (some b)).length; rw [List.length_set, h.w]; exact hj) hj
  rw [e1]
  by_cases e : i = j
  · subst e
    rw [getD_set_self (by rw [h.w]; exact hi), getD_set_self (by rw [h2]; exact hi)]; rfl
  · rw [getD_set_ne e, getD_set_ne e, last_lasts h hj]
theorem last_last {d : Dev} (h : Ok d) : (last (last d)).lasts = (last d).lasts := by
  have hk := ok_last h
  refine ext_getD [] (by show size (last (last d)) = size (last d); exact last_size2 hk) fun j hj => ?_
  have hj' : j < size (last d) := by have := last_size2 hk; unfold size at *; omega
  rw [last_lasts hk hj']
  show ((List.replicate (size d) (none : Option (List Nat))).getD j none).getD _ = _
  rw [getD_replicate]; rfl
theorem Calm.stepK {d : Dev} (h : Calm 16 d) (o : Opr) : Calm 16 (put d (atN 16 o.at_) (secL o.fill)) := (h.write (atN_lt (by decide) o.at_) (sec_secL o.fill)).2
theorem list_crash (d : Dev) (ps : List Nat) : list (crash d ps) = [] := by
  have : ∀ n i, listL i (List.replicate n (none : Option (List Nat))) = [] := by
    intro n
    induction n with
    | zero => intro i; rfl
    | succ n ih => intro i; rw [List.replicate_succ, listL, ih]
  exact this _ _
/-- Behind a crash either half is the old one or the new one. -/
theorem crash_halves {n : Nat} {d : Dev} (h : Calm n d) (ps : List Nat) {i : Nat} (hi : i < n) :
    (((crash d ps).lasts.getD i []).take 64 = (d.lasts.getD i []).take 64 ∨ ((crash d ps).lasts.getD i []).take 64 = ((last d).lasts.getD i []).take 64) ∧
    (((crash d ps).lasts.getD i []).drop 64 = (d.lasts.getD i []).drop 64 ∨ ((crash d ps).lasts.getD i []).drop 64 = ((last d).lasts.getD i []).drop 64) := by
  have hi' : i < size d := by rw [h.sz]; exact hi
  have hl := (h.sec hi).1
  rw [crash_lasts h.own.ok ps hi', last_lasts h.own.ok hi']
  cases hw : d.waits.getD i none with
  | none => exact ⟨Or.inl rfl, Or.inl rfl⟩
  | some b =>
    have hb : b.length = 128 := (h.own.ok.w1 b (by
      have hlw : i < d.waits.length := by rw [h.own.ok.w]; exact hi'
      rw [List.getD_eq_getElem?_getD, List.getElem?_eq_getElem hlw] at hw
      have hw' : d.waits[i] = some b := hw
      rw [← hw']; exact List.getElem_mem _)).1
    generalize d.lasts.getD i [] = a at *
    generalize ps.getD (cnt d i) 0 = p
    show (((pick p a b).take 64 = a.take 64 ∨ (pick p a b).take 64 = b.take 64) ∧ ((pick p a b).drop 64 = a.drop 64 ∨ (pick p a b).drop 64 = b.drop 64))
    have t : ∀ u v : List Nat, u.length = 128 → (u.take 64 ++ v.drop 64).take 64 = u.take 64 := fun u v hu => by rw [List.take_append_of_le_length (by rw [List.length_take]; omega), List.take_take]; rfl
    have s : ∀ u v : List Nat, u.length = 128 → (u.take 64 ++ v.drop 64).drop 64 = v.drop 64 := fun u v hu => by
      rw [List.drop_append_of_le_length (by rw [List.length_take]; omega), List.drop_of_length_le (by rw [List.length_take]; omega), List.nil_append]
    unfold pick
    split
    · exact ⟨Or.inl rfl, Or.inl rfl⟩
    split
    · exact ⟨Or.inr rfl, Or.inr rfl⟩
    split
    · exact ⟨Or.inr (t b a hb), Or.inl (s b a hb)⟩
    · exact ⟨Or.inl (t a b hl), Or.inr (s a b hl)⟩
theorem Calm.lastsec {n : Nat} {d : Dev} (h : Calm n d) {i : Nat} (hi : i < n) : Sec ((last d).lasts.getD i []) := h.sync.2.sec hi
theorem fresh_last (n : Nat) : (last (fresh n n)).lasts = (fresh n n).lasts := by
  have hk := ok_fresh n n
  refine ext_getD [] (by show size (last (fresh n n)) = size (fresh n n); exact last_size2 hk) fun j hj => ?_
  have hj' : j < size (fresh n n) := by have := last_size2 hk; unfold size at *; omega
  rw [last_lasts hk hj']
  show ((List.replicate n (none : Option (List Nat))).getD j none).getD _ = _
  rw [getD_replicate]; rfl
theorem fresh_lasts {n i : Nat} (hi : i < n) : (fresh n n).lasts.getD i [] = blank := by
  show (List.replicate n blank).getD i [] = _
  rw [List.getD_eq_getElem?_getD, List.getElem?_replicate, if_pos hi]; rfl
end Dk
end Go.Proofs.Ythjciddhghfcbaa
