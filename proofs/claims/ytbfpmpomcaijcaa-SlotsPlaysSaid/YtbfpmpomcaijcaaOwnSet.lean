/- Bytes of the call's own, written one by one and read again. Conditions: none. -/
import Derived.Test.YtbfpmpomcaijcaaByte
import Derived.Test.YtbfpmpomcaijcaaOff
namespace Go.Proofs.Ytbfpmpomcaijcaa
open Go.RowKit

theorem Own.stored {base g cap n : Nat} {w : World} {l : List Nat} (h : Own base w (.slice (some ⟨g, 0, none⟩) n cap) l) (hn : l.length = n) (j : Nat) (z : Nat) (hz : z < 256) :
    Own base (w.setCell ⟨g, j, none⟩ (.int .u8 (z : Int))) (.slice (some ⟨g, 0, none⟩) n cap) (l.set j z) ∧ w.grownBy (w.setCell ⟨g, j, none⟩ (.int .u8 (z : Int))) (some g) := by
  subst hn
  obtain ⟨h1, h2⟩ := h.own.stored j (.int .u8 (z : Int))
  refine ⟨⟨?_, ?_, by simpa using h.len⟩, h2⟩
  · have e : bytesV (l.set j z) = (bytesV l).set j (.int .u8 (z : Int)) := by simp [bytesV, List.map_set]
    rw [e, List.length_set]
    exact h1
  · intro x hx
    rcases List.mem_or_eq_of_mem_set hx with hx | rfl
    · exact h.small x hx
    · exact hz

theorem Own.cellAt {base g cap n : Nat} {w : World} {l : List Nat} (h : Own base w (.slice (some ⟨g, 0, none⟩) n cap) l) (hn : l.length = n) (j : Nat) (hj : j < n) : w.cell? ⟨g, j, none⟩ = some (.int .u8 (l.getD j 0 : Nat)) ∧ w.frozen? ⟨g, j, none⟩ = false := by
  subst hn
  refine ⟨?_, h.own.frozenAt j⟩
  rw [h.own.cellAt j (by omega)]
  simp [bytesV, List.getElem?_eq_getElem hj]

theorem Own.block {base g cap n : Nat} {w w' : World} {l : List Nat} (h : Own base w (.slice (some ⟨g, 0, none⟩) n cap) l) (hg : w'.heap[g]? = w.heap[g]?) : Own base w' (.slice (some ⟨g, 0, none⟩) n cap) l := by
  refine ⟨⟨h.own.1, ?_⟩, h.small, h.len⟩
  rcases h.own.2 with h2 | ⟨g2, cap2, cur, hv, hb, hh, hr⟩
  · exact Or.inl h2
  · refine Or.inr ⟨g2, cap2, cur, hv, hb, ?_, hr⟩
    simp only [Value.slice.injEq, Option.some.injEq, Addr.mk.injEq, and_true] at hv
    rw [← hv.1, hg, hv.1]
    exact hh

/-- Read from its block alone. -/
theorem Bts.block {w w' : World} {g n cap : Nat} {l : List Nat} (h : Bts w (.slice (some ⟨g, 0, none⟩) n cap) l) (hg : w'.heap[g]? = w.heap[g]?) : Bts w' (.slice (some ⟨g, 0, none⟩) n cap) l := by
  obtain ⟨p, cp, hv, hr, hn, hp⟩ := h.form
  simp only [Value.slice.injEq] at hv
  obtain ⟨rfl, rfl, rfl⟩ := hv
  refine ⟨⟨_, _, rfl, hr, hn, fun h0 => ?_⟩, h.small, h.len⟩
  obtain ⟨b, off, he, hc⟩ := hp h0
  simp only [Option.some.injEq, Addr.mk.injEq, and_true] at he
  obtain ⟨rfl, rfl⟩ := he
  exact ⟨_, _, rfl, fun i hi => by rw [World.cell?_of_block (w := w) (a := ⟨g, 0 + i, none⟩) hg]; exact hc i hi⟩
end Go.Proofs.Ytbfpmpomcaijcaa
