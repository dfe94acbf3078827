/- How a slice of bytes that comes in is read as plain bytes. Conditions: none. -/
import Derived.Test.YtcklncnelpclpaaDoorCrcSum
import Derived.ProofKit
import Derived.SizedLaws
import Derived.OpenShut
import Derived.Below
namespace Go.Proofs.YtcklncnelpclpaaDoor
open Go.ChangeShapes Go.WideShapes Go.ChangeAt Go.RowKit

theorem cells5 : Tryd.prog.cellsOf 5 = 1 := by kernel_rfl
theorem bytes5 : Tryd.prog.bytesOf 5 = 1 := by kernel_rfl

theorem nat_of_u8 {n : Int} (h : (Lit.int .u8 n).wf = true) : ∃ m : Nat, m < 256 ∧ n = (m : Int) := by
  have h1 : IntKind.u8.min = 0 := rfl
  have h2 : IntKind.u8.max = 255 := rfl
  simp only [Lit.wf, Bool.and_eq_true, decide_eq_true_eq] at h
  exact ⟨n.toNat, by omega, by omega⟩

theorem nat_of_u32 {n : Int} (h : (Lit.int .u32 n).wf = true) : ∃ m : Nat, m < 4294967296 ∧ n = (m : Int) := by
  have h1 : IntKind.u32.min = 0 := rfl
  have h2 : IntKind.u32.max = 4294967295 := rfl
  simp only [Lit.wf, Bool.and_eq_true, decide_eq_true_eq] at h
  exact ⟨n.toNat, by omega, by omega⟩

/-- A slice of bytes that comes in: its bytes, and their number told by the reading. -/
theorem open_bts {H : Type} {enc : TypeId × Value → H} {W : World} {base : Nat} {spare : Nat → Bool} {held : Bool} {a : Option Addr} {len cap : Nat} {d : DataW H} {ps : List MemPlace}
    (h : DataW.Trod enc Tryd.prog W base spare held 22 (.slice a len cap) d ps) :
    ∃ l : List Nat, (l.length ≤ 140737488355328 → Bts W (.slice a len cap) l) ∧ (l = [] ∨ ∃ elems rest, d = .slice elems rest ∧ l.length ≤ elems.length) := by
  obtain ⟨fuel, hf⟩ := h
  rcases open_ints Tryd.underlying22 Tryd.underlying5 cells5 hf with ⟨hcs, _⟩ | ⟨x, l, c, zs, hcs, _, hl, hm, hz, hx, hcell, hwz⟩
  · simp [Value.cells] at hcs
    obtain ⟨rfl, rfl, rfl⟩ := hcs
    exact ⟨[], fun _ => ⟨⟨none, 0, rfl, by decide, fun _ => rfl, fun h => absurd h (by decide)⟩, by simp, by decide⟩, Or.inl rfl⟩
  · simp [Value.cells] at hcs
    obtain ⟨rfl, rfl, rfl⟩ := hcs
    have hlen : len ≤ zs.length := by rw [hz]; split <;> omega
    have hnat : ∀ i, i < len → (((zs.take len).map Int.toNat).getD i 0 : Nat) = zs.getD i 0 ∧ ((zs.take len).map Int.toNat).getD i 0 < 256 := by
      intro i hi
      have hi2 : i < zs.length := by omega
      obtain ⟨m, hm1, hm2⟩ := nat_of_u8 (hwz zs[i] (List.getElem_mem hi2))
      have e1 : ((zs.take len).map Int.toNat).getD i 0 = zs[i].toNat := by
        simp [hi, List.getElem?_eq_getElem hi2]
      have e2 : zs.getD i 0 = zs[i] := by simp [List.getElem?_eq_getElem hi2]
      rw [e1, e2, hm2]
      exact ⟨by simp, by simpa using hm1⟩
    have hll : ((zs.take len).map Int.toNat).length = len := by simp; omega
    refine ⟨(zs.take len).map Int.toNat, fun hb => ⟨⟨some x, cap, by rw [hll], ⟨by omega, by unfold maxLen at hm; exact hm⟩, fun h => by simp at h, fun h0 => ?_⟩, ?_, hb⟩, Or.inr ⟨_, _, (Prod.mk.inj hx).1, by simp [lits]⟩⟩
    · rw [hll] at h0 ⊢
      obtain ⟨b, off, spot⟩ := x
      have hspot : spot = none := by
        have hc := hcell 0 (by omega)
        simpa [Addr.add] using World.cell?_spot hc
      subst hspot
      refine ⟨b, off, rfl, fun i hi => ?_⟩
      have hadd : (⟨b, off, none⟩ : Addr).add i = ⟨b, off + i, none⟩ := by unfold Addr.add; split <;> simp_all
      rw [← hadd, hcell i (by omega), (hnat i hi).1]
    · intro y hy
      obtain ⟨i, hi, rfl⟩ := List.getElem_of_mem hy
      have h2 := (hnat i (by omega)).2
      rw [List.getD_eq_getElem?_getD, List.getElem?_eq_getElem hi] at h2
      exact h2

/-- .. and with the reach of the row, without a condition. -/
theorem reach_bts {H : Type} {P : Program} (hP : P = Tryd.prog) {ts : List TypeId} {ds : List (DataW H)} (hsz : (DataW.weightsEach P ts ds).all (· ≤ reachBytes) = true) {j : Nat} {d : DataW H} {l : List Nat}
    (ht : ts[j]? = some 22) (hd : ds[j]? = some d) (h : l = [] ∨ ∃ elems rest, d = .slice elems rest ∧ l.length ≤ elems.length) : l.length ≤ 140737488351232 := by
  subst hP
  rcases h with rfl | ⟨elems, rest, rfl, hl⟩
  · decide
  · have := sized_slice hsz ht hd Tryd.underlying22
    rw [bytes5] at this
    have hr : reachBytes = 140737488351232 := rfl
    omega
end Go.Proofs.YtcklncnelpclpaaDoor
