/- What the laws ask of the program's pages on devices, for any way to keep a device. Conditions: the program's contracts (a structure). -/
import Derived.Test.YtkmkbjjpbodbfaaPageKnown
import Derived.Test.YtkmkbjjpbodbfaaPageDev
import Derived.Test.YtkmkbjjpbodbfaaPapersL
import Derived.Test.YtkmkbjjpbodbfaaPutOpen
namespace Go.Proofs.Ytkmkbjjpbodbfaa
open Go.RowKit

/-- Behind a call: the device stands in its own blocks or new ones, and no other was written. -/
def DWent (PD : (Nat → Prop) → World → Nat → Dk.Dev → Prop) (S : Nat → Prop) (w : World) (B : Nat) (d : Dk.Dev) (w' : World) : Prop :=
  ∃ S', PD S' w' B d ∧ Touch S w w' ∧ ∀ i, S' i → S i ∨ w.heap.size ≤ i
def I64 (z : Int) : Prop := -9223372036854775808 ≤ z ∧ z ≤ 9223372036854775807

structure PgDev (PD : (Nat → Prop) → World → Nat → Dk.Dev → Prop) : Prop where
  plain : PgApi
  keep : ∀ {S T w w' B d}, PD S w B d → Touch T w w' → (∀ i, S i → ¬ T i) → PD S w' B d
  lt : ∀ {S w B d}, PD S w B d → ∀ i, S i → i < w.heap.size
  new_bad : ∀ n most w, badNew n most → Calls Try.prog 15 #[.int .i64 n, .int .i64 most] w fun e w' => e = .returned (.tuple #[.pointer none, .int .i64 2]) ∧ Below w.heap.size w w'
  new_good : ∀ (n most : Nat) w, 1 ≤ n → n ≤ 65536 → most ≤ n → Calls Try.prog 15 #[.int .i64 n, .int .i64 most] w fun e w' =>
    ∃ B S, e = .returned (.tuple #[.pointer (some ⟨B, 0, none⟩), .int .i64 0]) ∧ PD S w' B (Dk.fresh n most) ∧ (∀ i, S i → w.heap.size ≤ i) ∧ Below w.heap.size w w'
  sync : ∀ {S w B d}, PD S w B d → Calls Try.prog 22 #[.pointer (some ⟨B, 0, none⟩)] w fun e w' =>
    e = .returned (.int .i64 ((Dk.sync d).2 : Nat)) ∧ DWent PD S w B (Dk.sync d).1 w'
  arm : ∀ {S w B d} (n : Int), PD S w B d → Calls Try.prog 21 #[.pointer (some ⟨B, 0, none⟩), .int .i64 n] w fun e w' =>
    e = .returned (.int .i64 ((Dk.arm d n).2 : Nat)) ∧ DWent PD S w B (Dk.arm d n).1 w'
  crash : ∀ {S w B d} v ps, PD S w B d → Bts w v ps → (0 < ps.length → ∀ g, v.ownBlock = some g → ¬ S g) → Calls Try.prog 23 #[.pointer (some ⟨B, 0, none⟩), v] w fun e w' =>
    e = .returned (.int .i64 0) ∧ DWent PD S w B (Dk.crash d ps) w'
  write : ∀ {S w B d} (base n : Int) (k : Nat) (m : Value) (l : List Nat), PD S w B d → I64 base → I64 n → k < 18446744073709551616 → Bts w m l → (0 < l.length → ∀ g, m.ownBlock = some g → ¬ S g) →
    Calls Try.prog 18 #[.pointer (some ⟨B, 0, none⟩), .int .i64 base, .int .i64 n, PgV k m] w fun e w' => e = .returned (.int .i64 ((Pg.write d base n k l).2 : Nat)) ∧ DWent PD S w B (Pg.write d base n k l).1 w'
  write_nil : ∀ (base n : Int) (k : Nat) (m : Value) (l : List Nat) (w : World), I64 base → I64 n → k < 18446744073709551616 → Bts w m l →
    Calls Try.prog 18 #[.pointer none, .int .i64 base, .int .i64 n, PgV k m] w fun e w' => e = .returned (.int .i64 ((if l.length = 500 then 1 else 2 : Nat) : Int)) ∧ Below w.heap.size w w'
  read : ∀ {S w B d} (base n : Int), PD S w B d → I64 base → I64 n →
    Calls Try.prog 20 #[.pointer (some ⟨B, 0, none⟩), .int .i64 base, .int .i64 n] w fun e w' => ∃ u, e = .returned (.tuple #[PgV (Pg.read d base n).1.1 u, .int .i64 ((Pg.read d base n).2 : Nat)]) ∧ Own w.heap.size w' u (Pg.read d base n).1.2 ∧ Below w.heap.size w w'

section
variable {PD : (Nat → Prop) → World → Nat → Dk.Dev → Prop}
theorem PgDev.below {S : Nat → Prop} {w w' : World} {B : Nat} {d : Dk.Dev} (A : PgDev PD) (h : PD S w B d) (hb : Below w.heap.size w w') : PD S w' B d :=
  A.keep h (.of_below (S := fun i => w.heap.size ≤ i) hb fun _ _ h => h) fun i hi => by have := A.lt h i hi; omega
end
theorem i64_of_okk {x : Int} (h : Ints.Okk x) : I64 x := by
  have h1 : IntKind.i64.min = -9223372036854775808 := rfl
  have h2 : IntKind.i64.max = 9223372036854775807 := rfl
  unfold Ints.Okk at h
  simp only [Lit.wf, Bool.and_eq_true, decide_eq_true_eq] at h
  unfold I64
  omega

/-- A page of a put: what the operations of its building left. -/
def MkF (b o : Nat) (x : PutV) (pv : Value) (k : Nat) (i : Nat) (v : Value) (_ : World) : Prop :=
  match i with
  | 0 => v = pv
  | 1 => v = .int .i64 (k : Int)
  | 2 => v = .pointer (some ⟨b, o, none⟩)
  | 3 => v = .pointer (some ⟨b, o + 2, none⟩)
  | 4 => v = .int .u64 (x.lsn : Int)
  | 5 => v = pv
  | 6 => v = .int .i64 (k : Int)
  | 7 => v = .pointer (some ⟨b, o, none⟩)
  | 8 => v = .pointer (some ⟨b, o + 1, none⟩)
  | 9 => v = .int .i64 x.fill
  | _ => True
structure MkR (x : PutV) (W : World) (D : Nat → Bool) (xs : Nat → Value) (w : World) : Prop where
  bel : Below W.heap.size W w
  a10 : D 10 = true → ∃ g, xs 10 = .slice (some ⟨g, 0, none⟩) 500 500 ∧ Own W.heap.size w (xs 10) (Pg.bodyL x.fill)
  a11 : D 11 = true → xs 11 = .agg #[.int .u64 (x.lsn : Int), xs 10]
  a12 : D 12 = true → ∃ X, xs 12 = .pointer (some ⟨X, 0, none⟩) ∧ W.heap.size ≤ X ∧ (D 13 = false → w.heap[X]? = some (.cells #[.int .u64 0, .slice none 0 0] 25 (0, 0))) ∧
    (D 13 = true → w.heap[X]? = some (.cells #[.int .u64 (x.lsn : Int), xs 10] 25 (0, 0)))

section
variable {x : PutV} {W w w' : World} {D : Nat → Bool} {xs : Nat → Value} {u : Value}
theorem MkR.first (x : PutV) (W : World) (xs : Nat → Value) : MkR x W (fun _ => false) xs W.drew := ⟨(Below.refl _ _).go1, fun h => (by cases h), fun h => (by cases h), fun h => (by cases h)⟩
theorem MkR.skip (h : MkR x W D xs w) (j : Nat) (hj : (j != 10 && j != 11 && j != 12 && j != 13) = true) : MkR x W (Ord.wth D j) (Ord.set xs j u) w := by
  simp only [Bool.and_eq_true, bne_iff_ne] at hj
  obtain ⟨⟨⟨n0, n1⟩, n2⟩, n3⟩ := hj
  have g : ∀ i, j ≠ i → Ord.wth D j i = D i ∧ Ord.set xs j u i = xs i := fun i hi => ⟨wth_ne D (Ne.symm hi), oset_ne xs u (Ne.symm hi)⟩
  constructor
  · exact h.bel
  · rw [(g 10 n0).1, (g 10 n0).2]; exact h.a10
  · rw [(g 11 n1).1, (g 11 n1).2, (g 10 n0).2]; exact h.a11
  · rw [(g 12 n2).1, (g 12 n2).2, (g 13 n3).1, (g 10 n0).2]; exact h.a12
theorem MkR.op10 (h : MkR x W D xs w) (h11 : D 11 = false) (h13 : D 13 = false) (hb : Below w.heap.size w w') {g : Nat} (hu : u = .slice (some ⟨g, 0, none⟩) 500 500) (hO : Own w.heap.size w' u (Pg.bodyL x.fill)) : MkR x W (Ord.wth D 10) (Ord.set xs 10 u) w' where
  bel := h.bel.trans (hb.mono h.bel.size)
  a10 := fun _ => ⟨g, hu, hO.from h.bel.size⟩
  a11 := fun (a : D 11 = true) => by rw [h11] at a; cases a
  a12 := fun a => by
    obtain ⟨X, e, h1, h2, h3⟩ := h.a12 a
    exact ⟨X, e, h1, fun b => by rw [hb.block _ (lt_of_block (h2 b))]; exact h2 b, fun (b : D 13 = true) => by rw [h13] at b; cases b⟩
theorem MkR.op11 (h : MkR x W D xs w) (hu : u = .agg #[.int .u64 (x.lsn : Int), xs 10]) : MkR x W (Ord.wth D 11) (Ord.set xs 11 u) w where
  bel := h.bel
  a10 := h.a10
  a11 := fun _ => hu
  a12 := h.a12
theorem MkR.op12 (h : MkR x W D xs w) (h13 : D 13 = false) (hu : u = .pointer (some ⟨w.heap.size, 0, none⟩)) : MkR x W (Ord.wth D 12) (Ord.set xs 12 u) (w.alloc (.cells #[.int .u64 0, .slice none 0 0] 25)) where
  bel := h.bel.alloc h.bel.size _
  a10 := fun a => by
    obtain ⟨g, e, ho⟩ := h.a10 a
    exact ⟨g, e, ho.below ((Below.refl _ _).alloc (Nat.le_refl _) _)⟩
  a11 := h.a11
  a12 := fun _ => ⟨w.heap.size, hu, h.bel.size, fun _ => heap_alloc_last _ _, fun (b : D 13 = true) => by rw [h13] at b; cases b⟩
theorem MkR.op13 (h : MkR x W D xs w) {X : Nat} (hX : xs 12 = .pointer (some ⟨X, 0, none⟩)) (h12 : D 12 = true) (h13 : D 13 = false) :
    MkR x W (Ord.wth D 13) (Ord.set xs 13 u) ((w.setCell ⟨X, 0, none⟩ (.int .u64 (x.lsn : Int))).setCell ⟨X, 1, none⟩ (xs 10)) := by
  obtain ⟨X', e, h1, h2, -⟩ := h.a12 h12
  rw [hX] at e
  simp only [Value.pointer.injEq, Option.some.injEq, Addr.mk.injEq, and_true] at e
  subst e
  obtain ⟨s1, s2⟩ := set2 (x := .int .u64 (x.lsn : Int)) (y := xs 10) (h2 h13)
  refine ⟨below_grown h.bel s2 h.bel.size h1, fun a => ?_, h.a11, fun _ => ⟨X, hX, h1, ?_, ?_⟩⟩
  · obtain ⟨g, e, ho⟩ := h.a10 a
    refine ⟨g, e, ho.grown s2 (Or.inr fun hh => ?_)⟩
    rcases ho.own.2 with ⟨hn, _⟩ | ⟨g', cap', cur, hv, _, hh', _⟩
    · rw [hn] at e; cases e
    · rw [hv] at hh
      simp only [Value.ownBlock, Option.some.injEq] at hh
      rw [hh, h2 h13] at hh'
      simp at hh'
  · intro b; rw [wth_self] at b; cases b
  · intro _; exact s1
end
end Go.Proofs.Ytkmkbjjpbodbfaa
