/- The first law of devices, for any way to keep one. Conditions: the program's contracts; the calls came in. -/
import Derived.Test.YthjciddhghfcbaaDiskPlays2
namespace Go.Proofs.Ythjciddhghfcbaa
open Go.RowKit

theorem diskPlays_any {PD : (Nat → Prop) → World → Nat → Dk.Dev → Prop} (A : Api PD) (n most : Int) (v : Value) (l : List Opr) (W : World) (hO : OpsIn W v l) (hl : l.length ≤ 140737488351232) (hps : ∀ i, i < l.length → (l.getD i default).ps.length ≤ 140737488351232) :
    Calls Try.prog 3 #[.int .i64 n, .int .i64 most, v] W fun e w' => e = .returned (.bool true) ∧ Below W.heap.size W w' := by
  by_cases hb : badNew n most
  · obtain ⟨p, cap, rfl, -, -, -⟩ := hO.form
    exact plays_bad A n most p l.length cap W (by omega) hb
  · obtain ⟨a, rfl⟩ : ∃ a : Nat, n = a := ⟨n.toNat, by unfold badNew at hb; omega⟩
    obtain ⟨b, rfl⟩ : ∃ b : Nat, most = b := ⟨most.toNat, by unfold badNew at hb; omega⟩
    exact plays_good A a b v l W (by unfold badNew at hb; omega) (by unfold badNew at hb; omega) (by unfold badNew at hb; omega) hO hps
end Go.Proofs.Ythjciddhghfcbaa
