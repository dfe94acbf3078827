/- A region whose order floats, of whose operations one alone writes a whole block: what stands in it ahead of that and behind it. Conditions: none. -/
import Derived.Test.YtafpjcobagofcaaGreatBase
import Derived.Laws.Tables
import Derived.Laws.Rows
namespace Go.Proofs.YtafpjcobagofcaaGreat
open Go.RowKit

theorem Touch.grownBy {Q : Nat} {a b : World} (h : Touch (· = Q) a b) : a.grownBy b (some Q) := ⟨h.os, h.tape, h.output, h.size, fun i hi hn => h.block i hi fun e => hn (by rw [e])⟩
theorem Own.touch1 {base Q : Nat} {w w' : World} {v : Value} {l : List Nat} (h : Own base w v l) (hq : Q < base) (ht : Touch (· = Q) w w') : Own base w' v l := by
  refine h.grown ht.grownBy ?_
  rcases h.form with ⟨rfl, -⟩ | ⟨g, cap, rfl, hg, -⟩
  · exact Or.inl rfl
  · refine Or.inr fun e => ?_
    simp only [Value.ownBlock, Option.some.injEq] at e
    omega
theorem setRow_touch {w : World} (Q : Nat) (A : Array Value) : Touch (· = Q) w (w.setRow Q A) := ⟨rfl, rfl, rfl, by simp [World.setRow], fun i _ hn => setRow_other w Q i _ hn⟩
/-- A whole row and a slot are answered. -/
theorem results_row_slot {P : Program} {fn : Func} {p q : Tmp} {ty : TypeId} (h : fn.results = #[.cell p ty, .tmp q]) (tmps : Array Value) (w : World) (g : Nat) (t : TypeId) (cs : Array Value) (fr : Nat × Nat) (d : TypeDesc) (v : Value)
    (hp : tmps.getD p undef = .pointer (some ⟨g, 0, none⟩)) (hq : tmps.getD q undef = v) (hg : w.heap[g]? = some (.cells cs t fr))
    (hu : P.underlying ty = some d) (hd : (match d with | .struct _ | .array _ _ => true | _ => false) = true) (hi : (P.info? ty).map (·.size) = some cs.size) :
    (results fn tmps).run P w = .ok (.tuple #[.agg cs, v]) w := by
  have hp' : tmps[p]?.getD undef = .pointer (some ⟨g, 0, none⟩) := by simpa using hp
  have hq' : tmps[q]?.getD undef = v := by simpa using hq
  simp [results, h, hp', hq', asAddr, run_loadVar_row w g t ty cs fr d hg hu hd hi]
/-- .. and two slots. -/
theorem results_row_slots {P : Program} {fn : Func} {p q r : Tmp} {ty : TypeId} (h : fn.results = #[.cell p ty, .tmp q, .tmp r]) (tmps : Array Value) (w : World) (g : Nat) (t : TypeId) (cs : Array Value) (fr : Nat × Nat) (d : TypeDesc) (v u : Value)
    (hp : tmps.getD p undef = .pointer (some ⟨g, 0, none⟩)) (hq : tmps.getD q undef = v) (hr : tmps.getD r undef = u) (hg : w.heap[g]? = some (.cells cs t fr))
    (hu : P.underlying ty = some d) (hd : (match d with | .struct _ | .array _ _ => true | _ => false) = true) (hi : (P.info? ty).map (·.size) = some cs.size) :
    (results fn tmps).run P w = .ok (.tuple #[.agg cs, v, u]) w := by
  have hp' : tmps[p]?.getD undef = .pointer (some ⟨g, 0, none⟩) := by simpa using hp
  have hq' : tmps[q]?.getD undef = v := by simpa using hq
  have hr' : tmps[r]?.getD undef = u := by simpa using hr
  simp [results, h, hp', hq', hr', asAddr, run_loadVar_row w g t ty cs fr d hg hu hd hi]
/-- Block Q alone is written, by operation op: A where B0 stood. -/
structure TR (W : World) (Q : Nat) (T : TypeId) (B0 A : Array Value) (op : Nat) (D : Nat → Bool) (w : World) : Prop where
  touch : Touch (· = Q) W w
  row : w.heap[Q]? = some (.cells (if D op = true then A else B0) T (0, 0))
section
variable {W w w' : World} {Q op : Nat} {T : TypeId} {A B0 : Array Value} {D : Nat → Bool}
theorem TR.first (h : W.heap[Q]? = some (.cells B0 T (0, 0))) : TR W Q T B0 A op (fun _ => false) W.drew := ⟨(Touch.refl _ _).drew, h⟩
theorem TR.skip (h : TR W Q T B0 A op D w) (k : Nat) (hk : op ≠ k) : TR W Q T B0 A op (Ord.wth D k) w :=
  ⟨h.touch, by rw [show Ord.wth D k op = D op from if_neg hk]; exact h.row⟩
theorem TR.step (h : TR W Q T B0 A op D w) (k : Nat) (hk : op ≠ k) (hb : Below w.heap.size w w') : TR W Q T B0 A op (Ord.wth D k) w' :=
  ⟨h.touch.trans (Touch.of_new hb), by rw [show Ord.wth D k op = D op from if_neg hk]; exact (hb.block Q (lt_of_block h.row)).trans h.row⟩
theorem TR.put (h : TR W Q T B0 A op D w) (ht : Touch (· = Q) w w') (hr : w'.heap[Q]? = some (.cells A T (0, 0))) : TR W Q T B0 A op (Ord.wth D op) w' :=
  ⟨h.touch.trans ht, by rw [show Ord.wth D op op = true from if_pos rfl, if_pos rfl]; exact hr⟩
theorem TR.now (h : TR W Q T B0 A op D w) (hd : D op = false) : w.heap[Q]? = some (.cells B0 T (0, 0)) := by
  have := h.row
  rw [hd] at this
  exact this
theorem TR.done (h : TR W Q T B0 A op D w) (hd : D op = true) : w.heap[Q]? = some (.cells A T (0, 0)) := by
  have := h.row
  rw [hd] at this
  exact this
end
end Go.Proofs.YtafpjcobagofcaaGreat
