/- A block of which cells are written one by one while the order floats: what stands in it when some of the stores are done. Conditions: no two of the stores meet one cell. -/
import Derived.Test.YtkchoelegdknoaaLrVal
import Derived.Test.YtkchoelegdknoaaOrd
import Derived.Laws.Rows
import Derived.Laws.Tables
namespace Go.Proofs.Ytkchoelegdknoaa
open Go.RowKit

/-- What stands in the cells: each store is told by its operation's number, its cell, and what it writes. -/
def Lay (A : Array Value) : List (Nat × Nat × Value) → (Nat → Bool) → Array Value
  | [], _ => A
  | s :: S, D => Lay (if D s.1 = true then A.setIfInBounds s.2.1 s.2.2 else A) S D
/-- No two meet one cell, or have one number. -/
def apartS : List (Nat × Nat × Value) → Bool
  | [] => true
  | s :: S => (S.all fun s' => s'.1 != s.1 && s'.2.1 != s.2.1) && apartS S
theorem lay_skip {S : List (Nat × Nat × Value)} {D : Nat → Bool} {k : Nat} : ∀ (A : Array Value), (S.all fun s => s.1 != k) = true → Lay A S (Ord.wth D k) = Lay A S D := by
  induction S with
  | nil => intro A _; rfl
  | cons s S ih =>
    intro A h
    simp only [List.all_cons, Bool.and_eq_true, bne_iff_ne, ne_eq] at h
    unfold Lay
    rw [show Ord.wth D k s.1 = D s.1 from if_neg h.1]
    exact ih _ h.2
theorem lay_set {S : List (Nat × Nat × Value)} {D : Nat → Bool} {i : Nat} {v : Value} : ∀ (A : Array Value), (S.all fun s => s.2.1 != i) = true → Lay (A.setIfInBounds i v) S D = (Lay A S D).setIfInBounds i v := by
  induction S with
  | nil => intro A _; rfl
  | cons s S ih =>
    intro A h
    simp only [List.all_cons, Bool.and_eq_true, bne_iff_ne, ne_eq] at h
    unfold Lay
    split
    · rw [Array.setIfInBounds_comm _ _ (Ne.symm h.1)]
      exact ih _ h.2
    · exact ih _ h.2
theorem lay_put {S : List (Nat × Nat × Value)} {D : Nat → Bool} {k i : Nat} {v : Value} : ∀ (A : Array Value), apartS S = true → (k, i, v) ∈ S → D k = false → Lay A S (Ord.wth D k) = (Lay A S D).setIfInBounds i v := by
  induction S with
  | nil => intro A _ h; cases h
  | cons s S ih =>
    intro A ha hm hD
    unfold apartS at ha
    rw [Bool.and_eq_true] at ha
    have hall := List.all_eq_true.1 ha.1
    simp only [Bool.and_eq_true, bne_iff_ne, ne_eq] at hall
    rcases List.mem_cons.1 hm with h | h
    · subst h
      unfold Lay
      rw [show Ord.wth D k (k, i, v).1 = true from if_pos rfl, if_pos rfl]
      simp only [hD, Bool.false_eq_true, if_false]
      rw [lay_skip _ (List.all_eq_true.2 fun s' hs' => by simp only [bne_iff_ne, ne_eq]; exact (hall s' hs').1)]
      exact lay_set _ (List.all_eq_true.2 fun s' hs' => by simp only [bne_iff_ne, ne_eq]; exact (hall s' hs').2)
    · unfold Lay
      have h2 := hall _ h
      rw [show Ord.wth D k s.1 = D s.1 from if_neg (fun e => h2.1 e.symm)]
      exact ih _ ha.2 h hD
theorem lay_all {S : List (Nat × Nat × Value)} {D : Nat → Bool} : ∀ (A : Array Value), (∀ s ∈ S, D s.1 = true) → Lay A S D = Lay A S (fun _ => true) := by
  induction S with
  | nil => intro A _; rfl
  | cons s S ih =>
    intro A h
    unfold Lay
    rw [h s (List.mem_cons_self ..), if_pos rfl]
    exact ih _ fun s' hs' => h s' (List.mem_cons_of_mem _ hs')
theorem lay_none {S : List (Nat × Nat × Value)} : ∀ (A : Array Value), Lay A S (fun _ => false) = A := by
  induction S with
  | nil => intro A; rfl
  | cons s S ih => intro A; unfold Lay; exact ih _

structure LayR (W : World) (B : Nat) (A : Array Value) (T : TypeId) (S : List (Nat × Nat × Value)) (D : Nat → Bool) (w : World) : Prop where
  grown : W.grownBy w (some B)
  row : w.heap[B]? = some (.cells (Lay A S D) T (0, 0))
section
variable {W w : World} {B k i : Nat} {A : Array Value} {T : TypeId} {S : List (Nat × Nat × Value)} {D : Nat → Bool} {v : Value}
theorem LayR.first (h : W.heap[B]? = some (.cells A T (0, 0))) : LayR W B A T S (fun _ => false) W.drew := ⟨grownBy_drew W _, by rw [lay_none]; exact h⟩
theorem LayR.skip (h : LayR W B A T S D w) (hk : (S.all fun s => s.1 != k) = true) : LayR W B A T S (Ord.wth D k) w := ⟨h.grown, by rw [lay_skip _ hk]; exact h.row⟩
theorem LayR.put (h : LayR W B A T S D w) (k i : Nat) (v : Value) (ha : apartS S = true) (hm : (k, i, v) ∈ S) (hD : D k = false) : LayR W B A T S (Ord.wth D k) (w.setCell ⟨B, i, none⟩ v) :=
  ⟨grownBy_trans h.grown (grownBy_setCell _ _ _ _), by rw [lay_put _ ha hm hD]; exact rec_set v h.row⟩
theorem LayR.free (h : LayR W B A T S D w) (i : Nat) : w.frozen? ⟨B, i, none⟩ = false := rec_free h.row i
theorem LayR.cell (h : LayR W B A T S D w) {b o : Nat} {u : Value} (hc : W.cell? ⟨b, o, none⟩ = some u) (hb : b ≠ B) : w.cell? ⟨b, o, none⟩ = some u := h.grown.cell hc (fun e => hb (Option.some.inj e))
theorem lay_size {S : List (Nat × Nat × Value)} {D : Nat → Bool} : ∀ (A : Array Value), (Lay A S D).size = A.size := by
  induction S with
  | nil => intro A; rfl
  | cons s S ih => intro A; unfold Lay; rw [ih]; split <;> simp
theorem LayR.there (h : LayR W B A T S D w) (i : Nat) (hi : i < A.size) : ∃ u, w.cell? ⟨B, i, none⟩ = some u := by
  rw [cell_of_row _ B i _ T (0, 0) h.row]
  exact ⟨_, Array.getElem?_eq_getElem (by rw [lay_size]; exact hi)⟩
end
theorem bts_none (w : World) : Bts w (.slice none 0 0) [] := (own_nil 0 w).bts
theorem ok_bare {x : Lr.R} {y : Lr.R} (h : Lr.Ok x) (hk : y.kind = x.kind := by rfl) (h1 : y.lsn = x.lsn := by rfl) (h2 : y.epoch = x.epoch := by rfl) (h3 : y.txn = x.txn ∨ y.txn = 0 := by first | exact Or.inl rfl | exact Or.inr rfl) (h4 : y.page = x.page ∨ y.page = 0 := by first | exact Or.inl rfl | exact Or.inr rfl) (h5 : y.off = x.off ∨ y.off = 0 := by first | exact Or.inl rfl | exact Or.inr rfl)
    (h6 : y.old = x.old ∨ y.old = [] := by first | exact Or.inl rfl | exact Or.inr rfl) (h7 : y.new = x.new ∨ y.new = [] := by first | exact Or.inl rfl | exact Or.inr rfl) (h8 : y.undo = x.undo ∨ y.undo = [] := by first | exact Or.inl rfl | exact Or.inr rfl) (h9 : y.prev = x.prev ∨ y.prev = 0 := by first | exact Or.inl rfl | exact Or.inr rfl) (h10 : y.next = x.next ∨ y.next = 0 := by first | exact Or.inl rfl | exact Or.inr rfl)
    (h12 : y.stamp = x.stamp ∨ y.stamp = 0 := by first | exact Or.inl rfl | exact Or.inr rfl) (h13 : y.opn = x.opn ∨ y.opn = [] := by first | exact Or.inl rfl | exact Or.inr rfl) (h14 : y.dirt = x.dirt ∨ y.dirt = [] := by first | exact Or.inl rfl | exact Or.inr rfl) : Lr.Ok y := by
  refine ⟨by rw [hk]; exact h.kind, by rw [h1]; exact h.lsn, by rw [h2]; exact h.epoch, ?_, ?_, ?_, ?_, ?_, ?_, ?_, ?_, ?_, ?_, ?_⟩
  · rcases h3 with e | e <;> rw [e]; exact h.txn; decide
  · rcases h4 with e | e <;> rw [e]; exact h.page; decide
  · rcases h5 with e | e <;> rw [e]; exact h.off; decide
  · rcases h6 with e | e <;> rw [e]; exact h.old; simp
  · rcases h7 with e | e <;> rw [e]; exact h.new; simp
  · rcases h8 with e | e <;> rw [e]; exact h.undo; simp
  · rcases h9 with e | e <;> rw [e]; exact h.prev; decide
  · rcases h10 with e | e <;> rw [e]; exact h.next; decide
  · rcases h12 with e | e <;> rw [e]; exact h.stamp; decide
  · rcases h13 with e | e <;> rw [e]; exact h.opn; simp
  · rcases h14 with e | e <;> rw [e]; exact h.dirt; simp

section
variable {ops : Array Oper} {rest : List Oper} {o : Oper} {a : Act} {w : World} {Q : Exit → Act → World → Prop} {K : Act → World → Prop}
theorem rec_info {A : Array Value} (h : A.size = 15) : (Try.prog.info? 30).map (·.size) = some A.size := by rw [h]; kernel_rfl
/-- A whole record is loaded. -/
theorem wpList_load_rec (hgd : o.guard = none) (x : Operand) (ho : o.op = .load 30 x) (g : Nat) (hx : a.eval x = .pointer (some ⟨g, 0, none⟩)) (A : Array Value) (hg : w.heap[g]? = some (.cells A 30 (0, 0))) (hs : A.size = 15)
    (h : wpList Try.prog ops Q rest (a.put o.dst (.agg A)) w) : wpList Try.prog ops Q (o :: rest) a w :=
  wpList_load_row hgd 30 x ho g hx _ _ _ _ hg Try.underlying30 rfl (rec_info hs) h
theorem wp_load_rec (x : Operand) (ho : o.op = .load 30 x) (g : Nat) (hx : a.eval x = .pointer (some ⟨g, 0, none⟩)) (A : Array Value) (hg : w.heap[g]? = some (.cells A 30 (0, 0))) (hs : A.size = 15)
    (h : K (a.put o.dst (.agg A)) w) : o.wp Try.prog a w K Q :=
  wp_load_row 30 x ho g hx _ _ _ _ hg Try.underlying30 rfl (rec_info hs) h
/-- .. and stored. -/
theorem wpList_store_rec (hgd : o.guard = none) (x y : Operand) (ho : o.op = .store 30 x y) (g : Nat) (hx : a.eval x = .pointer (some ⟨g, 0, none⟩)) (A : Array Value) (hy : a.eval y = .agg A) (old : Array Value) (hg : w.heap[g]? = some (.cells old 30 (0, 0))) (hs : A.size = 15) (ho2 : old.size = 15) (h1 : A.all (·.oneCell') = true)
    (h : ∀ w', w'.heap[g]? = some (.cells A 30 (0, 0)) → w.grownBy w' (some g) → wpList Try.prog ops Q rest (a.put o.dst undef) w') : wpList Try.prog ops Q (o :: rest) a w := by
  refine wpList_store_row hgd 30 x y ho g _ hx hy _ _ hg (rec_info hs) (by rw [hs, ho2]) h1 (h _ (setRow_heap _ _ _ _ _ _ hg) ?_)
  exact ⟨rfl, rfl, rfl, by simp, fun i _ hi => setRow_other w g i _ (fun e => hi (by rw [e]))⟩
end
end Go.Proofs.Ytkchoelegdknoaa
