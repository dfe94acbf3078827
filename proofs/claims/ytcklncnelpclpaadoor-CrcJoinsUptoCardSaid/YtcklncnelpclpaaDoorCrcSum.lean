/- What the reference and the program answer of a slice of bytes, over any world. Conditions: registers are below 2^32; the slice's cells hold the bytes. -/
import Derived.Test.YtcklncnelpclpaaDoorCrcWalk
import Derived.Deep.WholeRow
namespace Go.Proofs.YtcklncnelpclpaaDoor
open Go.RowKit

/-- The slice value v reads as the bytes l in the world w. -/
structure Bts (w : World) (v : Value) (l : List Nat) : Prop where
  form : ∃ p cap, v = .slice p l.length cap ∧ (l.length ≤ cap ∧ cap ≤ 9223372036854775807) ∧ (p = none → cap = 0) ∧ (0 < l.length → ∃ b off, p = some ⟨b, off, none⟩ ∧ ∀ i, i < l.length → w.cell? ⟨b, off + i, none⟩ = some (.int .u8 (l.getD i 0 : Nat)))
  small : ∀ x ∈ l, x < 256
  len : l.length ≤ 140737488355328

theorem Bts.getD {w : World} {v : Value} {l : List Nat} (h : Bts w v l) (i : Nat) : l.getD i 0 < 256 := by
  rcases Nat.lt_or_ge i l.length with hi | hi
  · have := h.small (l.getD i 0) (by rw [List.getD_eq_getElem?_getD, List.getElem?_eq_getElem hi]; simp)
    exact this
  · rw [List.getD_eq_getElem?_getD, List.getElem?_eq_none hi]; decide

/-- What is below stays as it was, so the bytes do. -/
theorem Bts.below {w w' : World} {v : Value} {l : List Nat} (h : Bts w v l) (hb : Below w.heap.size w w') : Bts w' v l := by
  obtain ⟨p, cap, hv, hr, hn, hp⟩ := h.form
  refine ⟨⟨p, cap, hv, hr, hn, fun h0 => ?_⟩, h.small, h.len⟩
  obtain ⟨b, off, hpe, hc⟩ := hp h0
  refine ⟨b, off, hpe, fun i hi => ?_⟩
  have hci := hc i hi
  rw [hb.cell (p := ⟨b, off + i, none⟩) (block_lt_of_cell hci)]
  exact hci

/-- The first n of the bytes, by a reslice. -/
theorem Bts.take {w : World} {p : Option Addr} {cap : Nat} {l : List Nat} (h : Bts w (.slice p l.length cap) l) (n : Nat) (hn : n ≤ l.length) : Bts w (.slice p n cap) (l.take n) := by
  obtain ⟨p', cap', hv, hr, hz, hp⟩ := h.form
  simp only [Value.slice.injEq] at hv
  obtain ⟨rfl, -, rfl⟩ := hv
  have hl : (l.take n).length = n := by simp; omega
  refine ⟨⟨p, cap, by rw [hl], ⟨by omega, hr.2⟩, hz, fun h0 => ?_⟩, fun x hx => h.small x (List.mem_of_mem_take hx), by have := h.len; omega⟩
  obtain ⟨b, off, hpe, hc⟩ := hp (by omega)
  refine ⟨b, off, hpe, fun i hi => ?_⟩
  rw [hc i (by omega)]
  have : (l.take n).getD i 0 = l.getD i 0 := by
    simp only [List.getD_eq_getElem?_getD]
    rw [List.getElem?_take, if_pos (by omega)]
  rw [this]

theorem Bts.mem_take {w : World} {v : Value} {l : List Nat} (h : Bts w v l) (k : Nat) : ∀ x ∈ l.take k, x < 256 := fun x hx => h.small x (List.mem_of_mem_take hx)

theorem take_succ_getD (l : List Nat) (k : Nat) (h : k < l.length) : l.take (k + 1) = l.take k ++ [l.getD k 0] := by
  rw [List.take_succ_eq_append_getElem h, List.getD_eq_getElem?_getD, List.getElem?_eq_getElem h]; rfl

theorem not_u32 (s : Nat) (hs : s < 4294967296) : bits .xor .u32 IntKind.u32.max (s : Int) = ((Crc.ones ^^^ s : Nat) : Int) := by
  have h := u32_xor_nat Crc.ones s (by decide) hs
  exact h


end Go.Proofs.YtcklncnelpclpaaDoor
