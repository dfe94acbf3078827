/- The bytes of a log that wait, and what is known of it. Conditions: none. -/
import Derived.Test.YtafpjcobagofcaaWlDv
namespace Go.Proofs.Ytafpjcobagofcaa.Wl
open Go.Proofs.Ytafpjcobagofcaa

/-- What is known of a log. -/
def kn (s : S) : Kn := ⟨s.start, s.flushed, s.point, s.epoch⟩
def waits (s : S) : List Nat := (bytes s).drop (s.flushed - s.start)
theorem waits_length {s : S} (h : Good s) : (waits s).length = s.stop - s.flushed := by
  have h1 := bytes_length h
  have h2 := h.low
  unfold waits
  rw [List.length_drop]; omega
theorem bytes_lt {s : S} (h : Good s) : ∀ x ∈ bytes s, x < 256 := by
  intro x hx
  obtain ⟨r, hr, hx⟩ := List.mem_flatMap.1 hx
  exact Lr.form_lt (h.ok r hr).2 (h.ok r hr).1.1 x hx
theorem waits_lt {s : S} (h : Good s) : ∀ x ∈ waits s, x < 256 := fun x hx => bytes_lt h x (List.mem_of_mem_drop hx)
end Go.Proofs.Ytafpjcobagofcaa.Wl
