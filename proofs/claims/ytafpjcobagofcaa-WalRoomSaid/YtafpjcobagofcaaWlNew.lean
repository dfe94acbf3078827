/- A half as a call answers it: in a block of its own; its length. Conditions: none. -/
import Derived.Test.YtafpjcobagofcaaWlRd
import Derived.Test.YtafpjcobagofcaaWlWr0
namespace Go.Proofs.Ytafpjcobagofcaa
open Go.RowKit

/-- A half that came out of a call lies in a block of its own. -/
theorem new_half (w : World) (x : Wl.Hf) : HfAt ((w.alloc (.cells HfZ 80)).setRow w.heap.size (HfC x)) w.heap.size x ∧ Below w.heap.size w ((w.alloc (.cells HfZ 80)).setRow w.heap.size (HfC x)) :=
  ⟨setRow_heap _ _ _ _ _ _ (heap_alloc_last _ _), (below_new1 _ _).trans ((setRow_touch _ _).below (base := w.heap.size) (fun i hi => by rw [hi]; exact Nat.le_refl _) (by simp))⟩
theorem half_len {d : Dk.Dev} (ok : Dk.Ok d) {s : Wl.S} (hfit : s.at_ + s.count + 2 ≤ Dk.size d) (hc : 0 < s.count) (g : Nat) : (Wl.half s d g).log.length = 52 ∧ (∀ b ∈ (Wl.half s d g).log, b < 256) ∧ (Wl.half s d g).fill < 4294967296 := by
  have h1 := Wl.sec_lt (n := s.count) (h := g) hc
  have hs := Wl.eff_sec ok (i := s.at_ + 2 + g % (2 * s.count) / 2) (by omega)
  have h64 := Wl.hf_length hs.1 (k := g % 2) (by omega)
  have hlt : ∀ x ∈ Wl.hf (Wl.eff d (s.at_ + 2 + g % (2 * s.count) / 2)) (g % 2), x < 256 := fun x hx => hs.2 x (List.mem_of_mem_drop (List.mem_of_mem_take hx))
  refine ⟨?_, fun b hb => hlt b (List.mem_of_mem_drop hb), ?_⟩
  · show (List.drop 12 _).length = 52
    rw [List.length_drop, h64]
  · have := Cod.num_lt (((Wl.hf (Wl.eff d (s.at_ + 2 + g % (2 * s.count) / 2)) (g % 2)).drop 8).take 4) (fun x hx => hlt x (List.mem_of_mem_drop (List.mem_of_mem_take hx)))
    rw [List.length_take, List.length_drop, h64] at this
    exact this
end Go.Proofs.Ytafpjcobagofcaa
