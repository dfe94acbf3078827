/- Parts of a proof. Conditions: as each row says. -/
import Derived.Test.YtbpodmallknhfaaGreatAr19
import Derived.Test.YtbpodmallknhfaaGreatAr08
import Derived.Test.YtbpodmallknhfaaGreatAr11
namespace Go.Proofs.YtbpodmallknhfaaGreat
open Go.RowKit
def WlPD (U : Nat → Prop) (w : World) (B : Nat) (d : Dk.Dev) : Prop := ∃ m1 m2, PDev w B m1 m2 d ∧ U = DS B m1 m2
theorem wl_new (n : Nat) (w : World) (h1 : 1 ≤ n) (h2 : n ≤ 65536) : Calls Tryz.prog 15 #[.int .i64 n, .int .i64 n] w fun e w' =>
    ∃ B U, e = .returned (.tuple #[.pointer (some ⟨B, 0, none⟩), .int .i64 0]) ∧ WlPD U w' B (Dk.fresh n n) ∧ (∀ i, U i → w.heap.size ≤ i) ∧ Below w.heap.size w w' :=
  (new_good_any n n w h1 h2 (Nat.le_refl _)).mono fun _ _ ⟨B, m1, m2, he, hP, hS, hb⟩ => ⟨B, DS B m1 m2, he, ⟨m1, m2, hP, rfl⟩, hS, hb⟩
end Go.Proofs.YtbpodmallknhfaaGreat
