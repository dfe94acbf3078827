/- A law's do, whatever the call. Conditions: the program's contracts; both devices are alike; the picks lie below the mark. -/
import Derived.Test.YthjciddhghfcbaaDiskDo
import Derived.Test.YthjciddhghfcbaaDiskDo2
import Derived.Test.YthjciddhghfcbaaDiskDo3
namespace Go.Proofs.Ythjciddhghfcbaa
open Go.RowKit

theorem do_any {PD : (Nat → Prop) → World → Nat → Dk.Dev → Prop} (A : Api PD) (base : Nat) (S : Nat → Prop) (w : World) (B D1 g1 g2 g3 : Nat) (d : Dk.Dev) (o : Opr) (hBo : Both PD base S w B D1 g1 g2 g3 d)
    (hpk : Bts w o.pk o.ps) (hpb : 0 < o.ps.length → ∀ g, o.pk.ownBlock = some g → g < base) :
    Calls Try.prog 12 #[.pointer (some ⟨B, 0, none⟩), .pointer (some ⟨D1, 0, none⟩), OpV o] w (DoPost PD base w D1 g1 g2 g3 (Dk.size d)) := by
  rcases (show o.kind = 0 ∨ o.kind = 1 ∨ o.kind = 2 ∨ o.kind = 3 ∨ o.kind = 4 ∨ o.kind = 5 ∨ (o.kind < 0 ∨ 5 < o.kind) by omega) with h | h | h | h | h | h | h
  · exact do_zero A base S w B D1 g1 g2 g3 d o hBo h
  · exact do_one A base S w B D1 g1 g2 g3 d o hBo h
  · exact do_two A base S w B D1 g1 g2 g3 d o hBo h
  · exact do_three A base S w B D1 g1 g2 g3 d o hBo h
  · exact do_four A base S w B D1 g1 g2 g3 d o hBo h hpk hpb
  · exact do_five A base S w B D1 g1 g2 g3 d o hBo h
  · exact do_else A base S w B D1 g1 g2 g3 d o hBo h
end Go.Proofs.Ythjciddhghfcbaa
