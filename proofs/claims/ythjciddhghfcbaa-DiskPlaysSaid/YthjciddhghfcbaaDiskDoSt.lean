/- What stands between two calls of a law's do. Conditions: the program's contracts. -/
import Derived.Test.YthjciddhghfcbaaDiskKnown
import Derived.Test.YthjciddhghfcbaaOpOpen
namespace Go.Proofs.Ythjciddhghfcbaa
open Go.RowKit

namespace Dk
theorem sync_size (d : Dev) (hw : d.waits.length = size d) : size (sync d).1 = size d := by
  unfold sync
  split
  · rfl
  split
  · exact goes_size d
  · show size (last (goes d)) = size d
    have h : size (last (goes d)) = size (goes d) := last_size (goes d) (by rw [(goes_same d).2.1, goes_size]; exact hw)
    rw [h, goes_size]
theorem crash_size (d : Dev) (ps : List Nat) (hw : d.waits.length = size d) : size (crash d ps) = size d := crashL_length _ _ _ hw
end Dk

/-- Both devices are alike; the law's own memory, apart. -/
structure Both (PD : (Nat → Prop) → World → Nat → Dk.Dev → Prop) (base : Nat) (S : Nat → Prop) (w : World) (B D1 g1 g2 g3 : Nat) (d : Dk.Dev) : Prop where
  p : PD S w B d
  r : RDev w D1 g1 g2 g3 d
  ps : ∀ i, S i → base ≤ i
  rs : ∀ i, RS D1 g1 g2 g3 i → base ≤ i
  apart : ∀ i, S i → ¬ RS D1 g1 g2 g3 i
  big : base ≤ w.heap.size

section
variable {PD : (Nat → Prop) → World → Nat → Dk.Dev → Prop} {base : Nat} {S : Nat → Prop} {w w' : World} {B D1 g1 g2 g3 : Nat} {d d' d'' : Dk.Dev}
theorem RDev.lt (h : RDev w D1 g1 g2 g3 d) : ∀ i, RS D1 g1 g2 g3 i → i < w.heap.size := by
  rintro i (rfl | rfl | rfl | rfl)
  · exact lt_of_block h.blk
  · exact lt_of_block h.lasts
  · exact lt_of_block h.waits
  · exact lt_of_block h.seen
theorem Both.below (A : Api PD) (h : Both PD base S w B D1 g1 g2 g3 d) (hb : Below w.heap.size w w') : Both PD base S w' B D1 g1 g2 g3 d :=
  ⟨A.below h.p hb, h.r.below hb, h.ps, h.rs, h.apart, Nat.le_trans h.big hb.size⟩
theorem Both.keep {T : Nat → Prop} (A : Api PD) (h : Both PD base S w B D1 g1 g2 g3 d) (ht : Touch T w w') (h1 : ∀ i, S i → ¬ T i) (h2 : ∀ i, RS D1 g1 g2 g3 i → ¬ T i) : Both PD base S w' B D1 g1 g2 g3 d :=
  ⟨A.keep h.p ht h1, h.r.keep ht h2, h.ps, h.rs, h.apart, Nat.le_trans h.big ht.size⟩
/-- The program's device went on: the document's stands. -/
theorem Both.went (h : Both PD base S w B D1 g1 g2 g3 d) (hw : DWent PD S w B d' w') : ∃ S', PD S' w' B d' ∧ RDev w' D1 g1 g2 g3 d ∧ (∀ i, S' i → base ≤ i) ∧ (∀ i, S' i → ¬ RS D1 g1 g2 g3 i) ∧ base ≤ w'.heap.size ∧ Touch S w w' ∧ Below base w w' := by
  obtain ⟨S', h1, h2, h3⟩ := hw
  refine ⟨S', h1, h.r.keep h2 fun i hi hs => h.apart i hs hi, fun i hi => ?_, fun i hi hr => ?_, Nat.le_trans h.big h2.size, h2, h2.below h.ps h.big⟩
  · rcases h3 i hi with h4 | h4
    · exact h.ps i h4
    · have := h.big; omega
  · rcases h3 i hi with h4 | h4
    · exact h.apart i h4 hr
    · have := h.r.lt i hr; omega
/-- The document's device went on: the program's stands. -/
theorem both_of (A : Api PD) (hp : PD S w B d') (hps : ∀ i, S i → base ≤ i) (hrs : ∀ i, RS D1 g1 g2 g3 i → base ≤ i) (hap : ∀ i, S i → ¬ RS D1 g1 g2 g3 i) (hbig : base ≤ w.heap.size) (hr : RDev w' D1 g1 g2 g3 d') (ht : Touch (RS D1 g1 g2 g3) w w') :
    Both PD base S w' B D1 g1 g2 g3 d' ∧ Below base w w' :=
  ⟨⟨A.keep hp ht hap, hr, hps, hrs, hap, Nat.le_trans hbig ht.size⟩, ht.below hrs hbig⟩
end

/-- The device that goes on is alike the document's; an old one may be spoilt. -/
structure Spoil (PD : (Nat → Prop) → World → Nat → Dk.Dev → Prop) (base : Nat) (S' : Nat → Prop) (w : World) (B' D1 g1 g2 g3 : Nat) (d : Dk.Dev) (S : Nat → Prop) (B : Nat) (d0 : Dk.Dev) : Prop where
  both : Both PD base S' w B' D1 g1 g2 g3 d
  old : PD S w B d0
  ps : ∀ i, S i → base ≤ i
  ap1 : ∀ i, S i → ¬ S' i
  ap2 : ∀ i, S i → ¬ RS D1 g1 g2 g3 i

section
variable {PD : (Nat → Prop) → World → Nat → Dk.Dev → Prop} {base : Nat} {S S' : Nat → Prop} {w w' : World} {B B' D1 g1 g2 g3 : Nat} {d d0 d1 : Dk.Dev}
theorem Spoil.below (A : Api PD) (h : Spoil PD base S' w B' D1 g1 g2 g3 d S B d0) (hb : Below w.heap.size w w') : Spoil PD base S' w' B' D1 g1 g2 g3 d S B d0 :=
  ⟨h.both.below A hb, A.below h.old hb, h.ps, h.ap1, h.ap2⟩
theorem Spoil.went (A : Api PD) (h : Spoil PD base S' w B' D1 g1 g2 g3 d S B d0) (hw : DWent PD S w B d1 w') : ∃ S2, Spoil PD base S' w' B' D1 g1 g2 g3 d S2 B d1 ∧ Below base w w' := by
  obtain ⟨S2, h1, h2, h3⟩ := hw
  refine ⟨S2, ⟨h.both.keep A h2 (fun i hi hs => h.ap1 i hs hi) (fun i hi hs => h.ap2 i hs hi), h1, fun i hi => ?_, fun i hi hs => ?_, fun i hi hr => ?_⟩, h2.below h.ps h.both.big⟩
  · rcases h3 i hi with h4 | h4
    · exact h.ps i h4
    · have := h.both.big; omega
  · rcases h3 i hi with h4 | h4
    · exact h.ap1 i h4 hs
    · have := A.lt h.both.p i hs; omega
  · rcases h3 i hi with h4 | h4
    · exact h.ap2 i h4 hr
    · have := h.both.r.lt i hr; omega
end

/-- A call's value. -/
def OpV (o : Opr) : Value := .agg #[.int .i64 o.kind, .int .i64 o.at_, .int .i64 o.fill, .bool o.short, o.pk]
/-- The value's cells in a block. -/
def opCells (o : Opr) : Array Value := #[.int .i64 o.kind, .int .i64 o.at_, .int .i64 o.fill, .bool o.short, o.pk]

/-- What a call of do leaves: the devices are alike. -/
def DoPost (PD : (Nat → Prop) → World → Nat → Dk.Dev → Prop) (base : Nat) (w : World) (D1 g1 g2 g3 n : Nat) (e : Ending) (w' : World) : Prop :=
  ∃ B' S' d', e = .returned (.tuple #[.pointer (some ⟨B', 0, none⟩), .bool true]) ∧ Both PD base S' w' B' D1 g1 g2 g3 d' ∧ Dk.size d' = n ∧ Below base w w'
end Go.Proofs.Ythjciddhghfcbaa
