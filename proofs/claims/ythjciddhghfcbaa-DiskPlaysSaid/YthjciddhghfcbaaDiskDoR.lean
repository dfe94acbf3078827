/- What stands while both devices are called in one statement, in any order. Conditions: the program's contracts. -/
import Derived.Test.YthjciddhghfcbaaDiskDoSt
import Derived.Test.YthjciddhghfcbaaOrd
namespace Go.Proofs.Ythjciddhghfcbaa
open Go.RowKit

/-- The one has gone on if a, the other one if b; the law's own blocks (T) stay. -/
structure RR (PD : (Nat → Prop) → World → Nat → Dk.Dev → Prop) (base : Nat) (w W : World) (B D1 g1 g2 g3 : Nat) (d d1 : Dk.Dev) (T : Nat → Prop) (a b : Bool) (w' : World) : Prop where
  ex : ∃ S', PD S' w' B (if a = true then d1 else d) ∧ (∀ i, S' i → base ≤ i) ∧ (∀ i, S' i → ¬ RS D1 g1 g2 g3 i) ∧ (∀ i, T i → ¬ S' i)
  r : RDev w' D1 g1 g2 g3 (if b = true then d1 else d)
  rs : ∀ i, RS D1 g1 g2 g3 i → base ≤ i
  nr : ∀ i, T i → ¬ RS D1 g1 g2 g3 i
  lt : ∀ i, T i → i < W.heap.size
  keep : ∀ i, T i → w'.heap[i]? = W.heap[i]?
  size : W.heap.size ≤ w'.heap.size
  big : base ≤ W.heap.size
  bel : Below base w w'

section
variable {PD : (Nat → Prop) → World → Nat → Dk.Dev → Prop} {base : Nat} {w W w1 w2 : World} {B D1 g1 g2 g3 : Nat} {d d1 : Dk.Dev} {T : Nat → Prop} {a b : Bool}
theorem rr_start {S : Nat → Prop} (h : Both PD base S W B D1 g1 g2 g3 d) (hb : Below base w W) (hT : ∀ i, T i → i < W.heap.size ∧ ¬ S i ∧ ¬ RS D1 g1 g2 g3 i) : RR PD base w W B D1 g1 g2 g3 d d1 T false false W :=
  ⟨⟨S, h.p, h.ps, h.apart, fun i hi => (hT i hi).2.1⟩, h.r, h.rs, fun i hi => (hT i hi).2.2, fun i hi => (hT i hi).1, fun _ _ => rfl, Nat.le_refl _, h.big, hb⟩
theorem RR.skip (A : Api PD) (h : RR PD base w W B D1 g1 g2 g3 d d1 T a b w1) (hb : Below w1.heap.size w1 w2) : RR PD base w W B D1 g1 g2 g3 d d1 T a b w2 := by
  obtain ⟨S', h1, h2, h3, h4⟩ := h.ex
  exact ⟨⟨S', A.below h1 hb, h2, h3, h4⟩, h.r.below hb, h.rs, h.nr, h.lt, fun i hi => by rw [hb.block i (by have := h.lt i hi; have := h.size; omega)]; exact h.keep i hi, Nat.le_trans h.size hb.size, h.big, h.bel.trans (hb.mono (Nat.le_trans h.big h.size))⟩
/-- The program's device goes on. -/
theorem RR.prog {S : Nat → Prop} (h : RR PD base w W B D1 g1 g2 g3 d d1 T false b w1) (h2 : ∀ i, S i → base ≤ i) (h3 : ∀ i, S i → ¬ RS D1 g1 g2 g3 i) (h4 : ∀ i, T i → ¬ S i) (hw : DWent PD S w1 B d1 w2) : RR PD base w W B D1 g1 g2 g3 d d1 T true b w2 := by
  obtain ⟨S2, k1, k2, k3⟩ := hw
  have hbig : base ≤ w1.heap.size := Nat.le_trans h.big h.size
  refine ⟨⟨S2, k1, fun i hi => ?_, fun i hi hr => ?_, fun i hi hs => ?_⟩, h.r.keep k2 fun i hi hs => h3 i hs hi, h.rs, h.nr, h.lt, fun i hi => ?_, Nat.le_trans h.size k2.size, h.big, h.bel.trans (k2.below h2 hbig)⟩
  · rcases k3 i hi with h5 | h5
    · exact h2 i h5
    · omega
  · rcases k3 i hi with h5 | h5
    · exact h3 i h5 hr
    · have := h.r.lt i hr; omega
  · rcases k3 i hs with h5 | h5
    · exact h4 i hi h5
    · have := h.lt i hi; have := h.size; omega
  · rw [k2.block i (by have := h.lt i hi; have := h.size; omega) (h4 i hi)]
    exact h.keep i hi
/-- The document's device goes on. -/
theorem RR.ref (A : Api PD) (h : RR PD base w W B D1 g1 g2 g3 d d1 T a false w1) (hr : RDev w2 D1 g1 g2 g3 d1) (ht : Touch (RS D1 g1 g2 g3) w1 w2) : RR PD base w W B D1 g1 g2 g3 d d1 T a true w2 := by
  obtain ⟨S', h1, h2, h3, h4⟩ := h.ex
  refine ⟨⟨S', A.keep h1 ht h3, h2, h3, h4⟩, hr, h.rs, h.nr, h.lt, fun i hi => ?_, Nat.le_trans h.size ht.size, h.big, h.bel.trans (ht.below h.rs (Nat.le_trans h.big h.size))⟩
  rw [ht.block i (by have := h.lt i hi; have := h.size; omega) (h.nr i hi)]
  exact h.keep i hi
theorem RR.done {PD : (Nat → Prop) → World → Nat → Dk.Dev → Prop} (h : RR PD base w W B D1 g1 g2 g3 d d1 T true true w1) : ∃ S', Both PD base S' w1 B D1 g1 g2 g3 d1 ∧ (∀ i, T i → ¬ S' i) ∧ Below base w w1 := by
  obtain ⟨S', h1, h2, h3, h4⟩ := h.ex
  exact ⟨S', ⟨h1, h.r, h2, h.rs, h3, Nat.le_trans h.big h.size⟩, h4, h.bel⟩
end

namespace Dk
theorem arm_size (d : Dev) (n : Int) : size (arm d n).1 = size d := by
  unfold arm
  split
  · rfl
  split
  · rfl
  · rfl
theorem write_size (d : Dev) (a : Int) (b : List Nat) : size (write d a b).1 = size d := by
  unfold write
  split
  · rfl
  split
  · rfl
  split
  · rfl
  · exact goes_size _
end Dk
end Go.Proofs.Ythjciddhghfcbaa
