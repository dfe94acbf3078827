/- That the sum of 123456789 is the known one, over any world. Conditions: none. -/
import Derived.Test.YtcklncnelpclpaaDoorCrcMore
import Derived.Lib.SlBytesConst
namespace Go.Proofs.YtcklncnelpclpaaDoor
open Go.RowKit

theorem bts_alloc (w : World) (l : List Nat) (cap : Nat) (hcap : l.length ≤ cap ∧ cap ≤ 9223372036854775807) (t : TypeId) (fr : Nat × Nat) (hs : ∀ x ∈ l, x < 256) (hl : l.length ≤ 140737488355328) :
    Bts (w.alloc (.cells (l.map fun x : Nat => Value.int .u8 (x : Int)).toArray t fr)) (.slice (some ⟨w.heap.size, 0, none⟩) l.length cap) l := by
  refine ⟨⟨_, cap, rfl, hcap, (fun h => by simp at h), fun _ => ⟨w.heap.size, 0, rfl, fun i hi => ?_⟩⟩, hs, hl⟩
  rw [cell_of_row _ w.heap.size (0 + i) _ t fr (heap_alloc_last _ _)]
  simp [List.getElem?_eq_getElem hi]

set_option maxHeartbeats 800000 in
theorem known_any (w : World) :
    Calls Tryd.prog 8 #[] w fun e w' => e = .returned (.bool true) ∧ Below w.heap.size w w' := by
  have kc := fun (w : World) (C : Array Value) (n c : Nat) => Lib.run_convert_bytes_const (P := Tryd.prog) w 22 5 C n c Tryd.underlying22 Tryd.underlying5
  have hk : Crc.more 0 [49, 50, 51, 52, 53, 54, 55, 56, 57] = 3808858755 := Crc.known
  have HK := Lib.hid hk
  have HB := Lib.hid (bts_alloc w [49, 50, 51, 52, 53, 54, 55, 56, 57] 9 (by decide) 5 (9, 10) (by decide) (by decide))
  clear hk
  go_enter Tryd.func8, Tryd.ntmps8
  go_wp2_with fail
  refine (sum_any _ _ _ HB.out).mono ?_
  rintro e w' ⟨rfl, hb⟩
  rw [HK.out]
  go_wp2
  go_ret
  exact ⟨rfl, ((Below.refl _ _).alloc (Nat.le_refl _) _).trans (hb.mono (by simp))⟩
end Go.Proofs.YtcklncnelpclpaaDoor
