/- What stays where some blocks alone are written: all others. Conditions: none. -/
import Derived.Test.YtkchoelegdknoaaByte
namespace Go.Proofs.Ytkchoelegdknoaa
open Go.RowKit

/-- From the one world to the other only blocks of S were written; new ones may be there. -/
structure Touch (S : Nat → Prop) (a b : World) : Prop where
  os : b.os = a.os
  tape : b.tape = a.tape
  output : b.output = a.output
  size : a.heap.size ≤ b.heap.size
  block : ∀ i, i < a.heap.size → ¬ S i → b.heap[i]? = a.heap[i]?

theorem Touch.refl (S : Nat → Prop) (a : World) : Touch S a a := ⟨rfl, rfl, rfl, Nat.le_refl _, fun _ _ _ => rfl⟩
theorem Touch.trans {S : Nat → Prop} {a b c : World} (h : Touch S a b) (k : Touch S b c) : Touch S a c :=
  ⟨k.os.trans h.os, k.tape.trans h.tape, k.output.trans h.output, Nat.le_trans h.size k.size, fun i hi hs => (k.block i (Nat.lt_of_lt_of_le hi h.size) hs).trans (h.block i hi hs)⟩
theorem Touch.mono {S T : Nat → Prop} {a b : World} (h : Touch S a b) (hs : ∀ i, i < a.heap.size → S i → T i) : Touch T a b :=
  ⟨h.os, h.tape, h.output, h.size, fun i hi ht => h.block i hi fun hh => ht (hs i hi hh)⟩
theorem Touch.of_below {S : Nat → Prop} {base : Nat} {a b : World} (h : Below base a b) (hs : ∀ i, i < a.heap.size → base ≤ i → S i) : Touch S a b :=
  ⟨h.os, h.tape, h.output, h.size, fun i hi hn => h.block i (by
    rcases Nat.lt_or_ge i base with hh | hh
    · exact hh
    · exact absurd (hs i hi hh) hn)⟩
theorem Touch.of_new {S : Nat → Prop} {a b : World} (h : Below a.heap.size a b) : Touch S a b := .of_below h fun i hi hb => absurd hb (by omega)
theorem Touch.of_grown {S : Nat → Prop} {g : Nat} {a b : World} (h : a.grownBy b (some g)) (hs : S g) : Touch S a b :=
  ⟨h.os, h.tape, h.output, h.size, fun i hi hn => h.block i hi fun e => hn (by rw [Option.some.inj e]; exact hs)⟩
theorem Touch.set {S : Nat → Prop} {a : World} (g o : Nat) (u : Value) (hs : S g) : Touch S a (a.setCell ⟨g, o, none⟩ u) := .of_grown (grownBy_setCell a g o u) hs
theorem Touch.drew {S : Nat → Prop} {a b : World} (h : Touch S a b) : Touch S a b.drew := ⟨h.os, h.tape, h.output, h.size, h.block⟩
theorem Touch.drewN {S : Nat → Prop} {a b : World} (h : Touch S a b) (n : Nat) : Touch S a (b.drewN n) := ⟨h.os, h.tape, h.output, h.size, h.block⟩
theorem Touch.below {S : Nat → Prop} {base : Nat} {a b : World} (h : Touch S a b) (hs : ∀ i, S i → base ≤ i) (hb : base ≤ a.heap.size) : Below base a b :=
  ⟨h.os, h.tape, h.output, h.size, fun i hi => h.block i (by omega) fun hh => by have := hs i hh; omega⟩
theorem Touch.row {S : Nat → Prop} {a b : World} {g : Nat} {o : Obj} (h : Touch S a b) (hr : a.heap[g]? = some o) (hs : ¬ S g) : b.heap[g]? = some o := by
  rw [h.block g (lt_of_block hr) hs]; exact hr
theorem Touch.cell {S : Nat → Prop} {a b : World} {p : Addr} {v : Value} (h : Touch S a b) (hc : a.cell? p = some v) (hs : ¬ S p.block) : b.cell? p = some v := by
  rw [World.cell?_of_block (w := a) (a := p) (h.block p.block (block_lt_of_cell hc) hs)]
  exact hc
theorem Touch.bts {S : Nat → Prop} {a b : World} {v : Value} {l : List Nat} (h : Touch S a b) (hB : Bts a v l) (hs : 0 < l.length → ∀ g, v.ownBlock = some g → ¬ S g) : Bts b v l := by
  obtain ⟨p, cap, hv, hr, hn, hp⟩ := hB.form
  refine ⟨⟨p, cap, hv, hr, hn, fun h0 => ?_⟩, hB.small, hB.len⟩
  obtain ⟨g, off, hpe, hc⟩ := hp h0
  exact ⟨g, off, hpe, fun i hi => h.cell (hc i hi) (hs h0 g (by rw [hv, hpe]; rfl))⟩
end Go.Proofs.Ytkchoelegdknoaa
