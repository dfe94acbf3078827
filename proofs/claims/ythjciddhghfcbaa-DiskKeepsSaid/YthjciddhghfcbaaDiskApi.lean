/- What a law asks of the program's device: told plainly, for any way to keep one. Conditions: none (a structure of contracts; its proof is the program's own). -/
import Derived.Test.YthjciddhghfcbaaDiskCrash
import Derived.Test.YthjciddhghfcbaaDiskList
import Derived.Test.YthjciddhghfcbaaDiskSector
namespace Go.Proofs.Ythjciddhghfcbaa
open Go.RowKit

/-- A row of bytes that may be written, whatever they are, in a block of any type. -/
def RowT (w : World) (g n : Nat) : Prop := ∃ (cur : Array Value) (T : TypeId), w.heap[g]? = some (.cells cur T (0, 0)) ∧ n ≤ cur.size ∧ ∀ i, i < n → ∃ b : Nat, b < 256 ∧ cur[i]? = some (.int .u8 (b : Int))
theorem RowT.cell {w : World} {g n : Nat} (h : RowT w g n) (i : Nat) (hi : i < n) : ∃ b : Nat, b < 256 ∧ w.cell? ⟨g, i, none⟩ = some (.int .u8 (b : Int)) := by
  obtain ⟨cur, T, hh, hs, hc⟩ := h
  obtain ⟨b, hb, hcur⟩ := hc i hi
  exact ⟨b, hb, by rw [cell_of_row _ g i cur T (0, 0) hh]; exact hcur⟩
theorem RowT.free {w : World} {g n : Nat} (h : RowT w g n) (i : Nat) : w.frozen? ⟨g, i, none⟩ = false := by
  obtain ⟨cur, T, hh, hs, hc⟩ := h
  simp [World.frozen?, hh]
theorem RowT.set {w : World} {g n : Nat} (h : RowT w g n) (i b : Nat) (hb : b < 256) : RowT (w.setCell ⟨g, i, none⟩ (.int .u8 (b : Int))) g n := by
  obtain ⟨cur, T, hh, hs, hc⟩ := h
  have hlt := lt_of_block hh
  have h' : w.heap[g] = .cells cur T (0, 0) := by simpa [Array.getElem?_eq_getElem hlt] using hh
  refine ⟨cur.setIfInBounds i (.int .u8 (b : Int)), T, ?_, by simpa using hs, fun j hj => ?_⟩
  · show (w.heap.modify g _)[g]? = _
    rw [Array.getElem?_eq_getElem (by simpa using hlt), Array.getElem_modify_self, h']
    rfl
  · obtain ⟨c, hc1, hc2⟩ := hc j hj
    by_cases hij : i = j
    · subst hij
      exact ⟨b, hb, by rw [Array.getElem?_setIfInBounds_self_of_lt (by omega)]⟩
    · exact ⟨c, hc1, by rw [Array.getElem?_setIfInBounds_ne hij]; exact hc2⟩

/-- Bytes of the call's own, in whatever block: they read so, and may be written. -/
structure Mine (base : Nat) (w : World) (v : Value) (l : List Nat) : Prop where
  bts : Bts w v l
  row : 0 < l.length → ∃ g cap, v = .slice (some ⟨g, 0, none⟩) l.length cap ∧ base ≤ g ∧ g < w.heap.size ∧ l.length ≤ cap ∧ cap ≤ 9223372036854775807 ∧ RowT w g l.length
theorem Mine.len {base : Nat} {w : World} {v : Value} {l : List Nat} (h : Mine base w v l) : l.length ≤ 140737488355328 := h.bts.len

/-- Behind a call: the device stands in its own blocks or new ones, and no other was written. -/
def DWent (PD : (Nat → Prop) → World → Nat → Dk.Dev → Prop) (S : Nat → Prop) (w : World) (B : Nat) (d : Dk.Dev) (w' : World) : Prop :=
  ∃ S', PD S' w' B d ∧ Touch S w w' ∧ ∀ i, S' i → S i ∨ w.heap.size ≤ i

structure Api (PD : (Nat → Prop) → World → Nat → Dk.Dev → Prop) : Prop where
  keep : ∀ {S T w w' B d}, PD S w B d → Touch T w w' → (∀ i, S i → ¬ T i) → PD S w' B d
  lt : ∀ {S w B d}, PD S w B d → ∀ i, S i → i < w.heap.size
  ok : ∀ {S w B d}, PD S w B d → Dk.Ok d ∧ d.armed ≤ 1073741824 ∧ d.most ≤ Dk.size d ∧ Dk.size d ≤ 65536
  new_bad : ∀ n most w, badNew n most → Calls Try.prog 9 #[.int .i64 n, .int .i64 most] w fun e w' => e = .returned (.tuple #[.pointer none, .int .i64 2]) ∧ Below w.heap.size w w'
  new_good : ∀ (n most : Nat) w, 1 ≤ n → n ≤ 65536 → most ≤ n → Calls Try.prog 9 #[.int .i64 n, .int .i64 most] w fun e w' =>
    ∃ B S, e = .returned (.tuple #[.pointer (some ⟨B, 0, none⟩), .int .i64 0]) ∧ PD S w' B (Dk.fresh n most) ∧ (∀ i, S i → w.heap.size ≤ i) ∧ Below w.heap.size w w'
  write : ∀ {S w B d} (a : Int) v b, PD S w B d → Bts w v b → (0 < b.length → ∀ g, v.ownBlock = some g → ¬ S g) → Calls Try.prog 19 #[.pointer (some ⟨B, 0, none⟩), .int .i64 a, v] w fun e w' =>
    e = .returned (.int .i64 ((Dk.write d a b).2 : Nat)) ∧ DWent PD S w B (Dk.write d a b).1 w'
  read : ∀ {S w B d} (a : Int), PD S w B d → Calls Try.prog 18 #[.pointer (some ⟨B, 0, none⟩), .int .i64 a] w fun e w' =>
    ∃ u, e = .returned (.tuple #[u, .int .i64 ((Dk.read d a).2 : Nat)]) ∧ Mine w.heap.size w' u (Dk.read d a).1 ∧ Below w.heap.size w w'
  sync : ∀ {S w B d}, PD S w B d → Calls Try.prog 21 #[.pointer (some ⟨B, 0, none⟩)] w fun e w' =>
    e = .returned (.int .i64 ((Dk.sync d).2 : Nat)) ∧ DWent PD S w B (Dk.sync d).1 w'
  arm : ∀ {S w B d} (n : Int), PD S w B d → Calls Try.prog 22 #[.pointer (some ⟨B, 0, none⟩), .int .i64 n] w fun e w' =>
    e = .returned (.int .i64 ((Dk.arm d n).2 : Nat)) ∧ DWent PD S w B (Dk.arm d n).1 w'
  crash : ∀ {S w B d} v ps, PD S w B d → Bts w v ps → (0 < ps.length → ∀ g, v.ownBlock = some g → ¬ S g) → Calls Try.prog 23 #[.pointer (some ⟨B, 0, none⟩), v] w fun e w' =>
    e = .returned (.int .i64 0) ∧ DWent PD S w B (Dk.crash d ps) w'
  sectors : ∀ {S w B d}, PD S w B d → Calls Try.prog 13 #[.pointer (some ⟨B, 0, none⟩)] w fun e w' => e = .returned (.int .i64 (Dk.size d : Nat)) ∧ Below w.heap.size w w'
  used : ∀ {S w B d}, PD S w B d → Calls Try.prog 14 #[.pointer (some ⟨B, 0, none⟩)] w fun e w' => e = .returned (.int .i64 (Dk.used d : Nat)) ∧ Below w.heap.size w w'
  waits : ∀ {S w B d}, PD S w B d → Calls Try.prog 16 #[.pointer (some ⟨B, 0, none⟩)] w fun e w' =>
    ∃ u, e = .returned u ∧ Ints.Own w.heap.size w' u ((Dk.list d).map fun x : Nat => (x : Int)) ∧ Below w.heap.size w w'
  copy : ∀ {S w B d}, PD S w B d → Calls Try.prog 24 #[.pointer (some ⟨B, 0, none⟩)] w fun e w' =>
    ∃ B' S', e = .returned (.pointer (some ⟨B', 0, none⟩)) ∧ PD S' w' B' d ∧ (∀ i, S' i → w.heap.size ≤ i) ∧ Below w.heap.size w w'

section
variable {PD : (Nat → Prop) → World → Nat → Dk.Dev → Prop}
theorem Api.below {S : Nat → Prop} {w w' : World} {B : Nat} {d : Dk.Dev} (A : Api PD) (h : PD S w B d) (hb : Below w.heap.size w w') : PD S w' B d :=
  A.keep h (.of_below (S := fun i => w.heap.size ≤ i) hb fun _ _ h => h) fun i hi => by have := A.lt h i hi; omega
/-- The device lies above a mark: what its calls write, lies there too. -/
theorem DWent.below {S : Nat → Prop} {w w' : World} {B base : Nat} {d : Dk.Dev} (h : DWent PD S w B d w') (hS : ∀ i, S i → base ≤ i) (hb : base ≤ w.heap.size) : Below base w w' := by
  obtain ⟨S', _, ht, _⟩ := h
  exact ht.below hS hb
/-- A device above a mark. -/
def Over (PD : (Nat → Prop) → World → Nat → Dk.Dev → Prop) (base : Nat) (w : World) (B : Nat) (d : Dk.Dev) : Prop := ∃ S, PD S w B d ∧ ∀ i, S i → base ≤ i
theorem DWent.over {S : Nat → Prop} {w w' : World} {B base : Nat} {d : Dk.Dev} (h : DWent PD S w B d w') (hS : ∀ i, S i → base ≤ i) (hb : base ≤ w.heap.size) : Over PD base w' B d := by
  obtain ⟨S', h1, _, h3⟩ := h
  exact ⟨S', h1, fun i hi => by rcases h3 i hi with h | h; exact hS i h; omega⟩
end
end Go.Proofs.Ythjciddhghfcbaa
