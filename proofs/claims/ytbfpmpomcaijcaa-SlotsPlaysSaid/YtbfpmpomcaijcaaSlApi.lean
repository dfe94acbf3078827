/- What the laws ask of the program's slots. Conditions: the program's contracts (a structure). -/
import Derived.Test.YtbfpmpomcaijcaaSlSame
namespace Go.Proofs.Ytbfpmpomcaijcaa
open Go.RowKit

namespace Sl
/-- Few slots and bytes. -/
structure Small (s : S) : Prop where
  f : s.full.length ≤ 4000
  d : s.data.length ≤ 4000
  t : tot s.data ≤ 4000
theorem Small.took {s : S} (h : Small s) : took s ≤ 1000000 := by have h1 := h.d; have h2 := h.t; unfold Sl.took; omega
theorem Small.full {s : S} (h : Small s) : s.full.length ≤ 1000000 := by have := h.f; omega
theorem Small.data {s : S} (h : Small s) : s.data.length ≤ 1000000 := by have := h.d; omega
theorem May.small {s : S} (h : May s) : Small s := by
  have h1 := h.len
  have h2 := h.most
  have h3 := h.fit
  unfold Sl.took at h3
  exact ⟨by omega, by omega, by omega⟩
theorem small_none : Small none_ := ⟨by decide, by decide, by decide⟩

noncomputable def ifP {α : Type} (p : Prop) (a b : α) : α := @ite α p (Classical.propDecidable p) a b
theorem ifP_pos {α : Type} {p : Prop} (h : p) (a b : α) : ifP p a b = a := by unfold ifP; exact @if_pos p (_) h _ _ _
theorem ifP_neg {α : Type} {p : Prop} (h : ¬ p) (a b : α) : ifP p a b = b := by unfold ifP; exact @if_neg p (_) h _ _ _
/-- What each call answers. -/
noncomputable def insR (s : S) (b : List Nat) : S × Nat × Nat := ifP (May s) (ifP (May (ins s b)) (ins s b, free s.full, 0) (none_, 0, 5)) (none_, 0, 2)
noncomputable def putR (s : S) (a : Int) (b : List Nat) : S × Nat := ifP (May s) (ifP (has s a) (ifP (May (put s a.toNat b)) (put s a.toNat b, 0) (none_, 5)) (none_, 7)) (none_, 2)
noncomputable def delR (s : S) (a : Int) : S × Nat := ifP (May s) (ifP (has s a) (del s a.toNat, 0) (none_, 7)) (none_, 2)
noncomputable def getR (s : S) (a : Int) : List Nat × Nat := ifP (May s) (ifP (has s a) (da s a.toNat, 0) ([], 7)) ([], 2)
/-- Which bytes are the form of one. -/
def Is (b : List Nat) (s : S) : Prop := May s ∧ s.kind < 256 ∧ s.next < 4294967296 ∧ form s = b
noncomputable def readR (b : List Nat) : S × Nat := ifP (∃ s, Is b s) (@Classical.epsilon S ⟨none_⟩ (Is b), 0) (none_, 4)
theorem readR_of {b : List Nat} {s : S} (h : Is b s) : readR b = (s, 0) := by
  have h2 : Is b (@Classical.epsilon S ⟨none_⟩ (Is b)) := @Classical.epsilon_spec S (Is b) ⟨s, h⟩
  unfold readR
  rw [ifP_pos ⟨s, h⟩, form_inj h.1 h2.1 h.2.2.1 h2.2.2.1 (h.2.2.2.trans h2.2.2.2.symm)]
theorem readR_none {b : List Nat} (h : ∀ s, ¬ Is b s) : readR b = (none_, 4) := by unfold readR; rw [ifP_neg (fun ⟨s, hs⟩ => h s hs)]
end Sl

structure SlApi : Prop where
  may : ∀ {fv dv s w}, SlAt w fv dv s → Sl.Small s → Calls Try.prog 13 #[SlV s.kind s.next fv dv] w fun e w' => e = .returned (.bool (Sl.may s)) ∧ Below w.heap.size w w'
  bytes : ∀ {fv dv s w}, SlAt w fv dv s → Sl.Small s → Calls Try.prog 11 #[SlV s.kind s.next fv dv] w fun e w' => ∃ u, e = .returned (.tuple #[u, .int .i64 ((Sl.ifP (Sl.May s) 0 2 : Nat) : Int)]) ∧ Own w.heap.size w' u (Sl.ifP (Sl.May s) (Sl.form s) []) ∧ Below w.heap.size w w'
  room : ∀ {fv dv s w}, SlAt w fv dv s → Sl.Small s → Calls Try.prog 12 #[SlV s.kind s.next fv dv] w fun e w' => e = .returned (.int .i64 ((Sl.ifP (Sl.May s) (500 - Sl.took s) 0 : Nat) : Int)) ∧ Below w.heap.size w w'
  read : ∀ {m b w}, Bts w m b → b.length ≤ 2000 → Calls Try.prog 16 #[m] w fun e w' => ∃ fv' dv' vs', e = .returned (.tuple #[SlV (Sl.readR b).1.kind (Sl.readR b).1.next fv' dv', .int .i64 ((Sl.readR b).2 : Int)]) ∧ SlOwn w.heap.size w' fv' dv' vs' (Sl.readR b).1 ∧ Below w.heap.size w w'
  insert : ∀ {fv dv s m b w}, SlAt w fv dv s → Sl.Small s → Bts w m b → b.length ≤ 1000 → Calls Try.prog 19 #[SlV s.kind s.next fv dv, m] w fun e w' => ∃ fv' dv', e = .returned (.tuple #[SlV (Sl.insR s b).1.kind (Sl.insR s b).1.next fv' dv', .int .i64 ((Sl.insR s b).2.1 : Int), .int .i64 ((Sl.insR s b).2.2 : Int)]) ∧ SlAt w' fv' dv' (Sl.insR s b).1 ∧ Below w.heap.size w w'
  put : ∀ {fv dv s m b w} (a : Int), SlAt w fv dv s → Sl.Small s → Bts w m b → b.length ≤ 1000 → Calls Try.prog 21 #[SlV s.kind s.next fv dv, .int .i64 a, m] w fun e w' => ∃ fv' dv', e = .returned (.tuple #[SlV (Sl.putR s a b).1.kind (Sl.putR s a b).1.next fv' dv', .int .i64 ((Sl.putR s a b).2 : Int)]) ∧ SlAt w' fv' dv' (Sl.putR s a b).1 ∧ Below w.heap.size w w'
  delete : ∀ {fv dv s w} (a : Int), SlAt w fv dv s → Sl.Small s → Calls Try.prog 23 #[SlV s.kind s.next fv dv, .int .i64 a] w fun e w' => ∃ fv' dv', e = .returned (.tuple #[SlV (Sl.delR s a).1.kind (Sl.delR s a).1.next fv' dv', .int .i64 ((Sl.delR s a).2 : Int)]) ∧ SlAt w' fv' dv' (Sl.delR s a).1 ∧ Below w.heap.size w w'
  get : ∀ {fv dv s w} (a : Int), SlAt w fv dv s → Sl.Small s → Calls Try.prog 25 #[SlV s.kind s.next fv dv, .int .i64 a] w fun e w' => ∃ u, e = .returned (.tuple #[u, .int .i64 ((Sl.getR s a).2 : Int)]) ∧ Own w.heap.size w' u (Sl.getR s a).1 ∧ Below w.heap.size w w'
end Go.Proofs.Ytbfpmpomcaijcaa
