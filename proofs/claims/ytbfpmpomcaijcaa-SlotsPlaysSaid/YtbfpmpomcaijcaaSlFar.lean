/- Bodies that lie behind a block: what is written ahead of it does not touch them. Conditions: none. -/
import Derived.Test.YtbfpmpomcaijcaaSlSt
namespace Go.Proofs.Ytbfpmpomcaijcaa
open Go.RowKit

/-- Two worlds are alike from a block on, as far as the first one goes. -/
def Alike (base : Nat) (w w' : World) : Prop := ∀ k, base ≤ k → k < w.heap.size → w'.heap[k]? = w.heap[k]?
section
variable {base b0 : Nat} {w w' : World} {v fv dv : Value} {vs : List Value} {ls : List (List Nat)} {s : Sl.S}
theorem ownsRow_alike {T : TypeId} {sz n : Nat} {xs : List Value} (h : w.ownsRow base T sz v n xs) (ha : Alike base w w') : w'.ownsRow base T sz v n xs := by
  refine ⟨h.1, ?_⟩
  rcases h.2 with h | ⟨g, cap, cur, hv, hb, hh, hr⟩
  · exact Or.inl h
  · exact Or.inr ⟨g, cap, cur, hv, hb, by rw [ha g hb (lt_of_block hh)]; exact hh, hr⟩
theorem Own.alike {l : List Nat} (h : Own base w v l) (ha : Alike base w w') : Own base w' v l := ⟨ownsRow_alike h.own ha, h.small, h.len⟩
theorem bo_alike {l : List Value} (h : Bo.Own base w v l) (ha : Alike base w w') : Bo.Own base w' v l := ⟨ownsRow_alike h.own ha, h.small, h.len⟩
theorem sv_alike {l : List Value} (h : Sv.Own base w v l) (ha : Alike base w w') : Sv.Own base w' v l := ⟨ownsRow_alike h.own ha, h.small, h.len⟩
theorem DOwn.alike (h : DOwn base w dv vs ls) (ha : Alike base w w') : DOwn base w' dv vs ls := ⟨sv_alike h.own ha, h.len, fun i hi => (h.each i hi).alike ha⟩
theorem SlOwn.alike (h : SlOwn base w fv dv vs s) (ha : Alike base w w') : SlOwn base w' fv dv vs s := ⟨bo_alike h.full ha, h.data.alike ha, h.kind, h.next⟩
/-- It reads as the body wherever the blocks from 'base' on are these. -/
def SlFar (base : Nat) (w : World) (fv dv : Value) (s : Sl.S) : Prop := ∀ w', Alike base w w' → SlAt w' fv dv s
theorem SlFar.at (h : SlFar base w fv dv s) : SlAt w fv dv s := h w fun _ _ _ => rfl
theorem Alike.from (h : Alike b0 w w') (hb : b0 ≤ base) : Alike base w w' := fun k h1 h2 => h k (Nat.le_trans hb h1) h2
theorem SlOwn.frm (h : SlOwn base w fv dv vs s) (hb : b0 ≤ base) : SlFar b0 w fv dv s := fun _ ha => (h.alike (ha.from hb)).at
theorem SlFar.grown {g : Nat} (h : SlFar base w fv dv s) (hg : w.grownBy w' (some g)) (hb : g < base) : SlFar base w' fv dv s := fun w2 ha => h w2 fun k h1 h2 => by
  rw [ha k h1 (Nat.lt_of_lt_of_le h2 hg.size)]
  exact hg.block k h2 (fun e => by simp only [Option.some.injEq] at e; omega)
theorem SlFar.below (h : SlFar base w fv dv s) (hg : Below w.heap.size w w') : SlFar base w' fv dv s := fun w2 ha => h w2 fun k h1 h2 => by
  rw [ha k h1 (Nat.lt_of_lt_of_le h2 hg.size)]
  exact hg.block k h2
end
theorem slfar_none (base : Nat) (w : World) : SlFar base w nilS nilS Sl.none_ := fun _ _ => ⟨(Bo.own_nil 0 _).bts, (down_nil 0 _).at, by decide, by decide⟩
end Go.Proofs.Ytbfpmpomcaijcaa
