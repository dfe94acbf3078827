/- The program's pages on the program's device do what the laws ask of them. Conditions: none. -/
import Derived.Test.YtkmkbjjpbodbfaaPageApi
import Derived.Test.YtkmkbjjpbodbfaaPgWrite
import Derived.Test.YtkmkbjjpbodbfaaPgRead
import Derived.Test.YtkmkbjjpbodbfaaDkMake
import Derived.Test.YtkmkbjjpbodbfaaDkSync
import Derived.Test.YtkmkbjjpbodbfaaDkCrash
namespace Go.Proofs.Ytkmkbjjpbodbfaa
open Go.RowKit

/-- The program's device, with the blocks that are its own. -/
def PgPD (S : Nat → Prop) (w : World) (B : Nat) (d : Dk.Dev) : Prop := ∃ m1 m2, PDev w B m1 m2 d ∧ S = DS B m1 m2
theorem PDev.dwent {w w' : World} {B m1 m2 : Nat} {d : Dk.Dev} (h : PDev w' B m1 m2 d) (ht : Touch (DS B m1 m2) w w') : DWent PgPD (DS B m1 m2) w B d w' :=
  ⟨DS B m1 m2, ⟨m1, m2, h, rfl⟩, ht, fun _ h => Or.inl h⟩

theorem pgDev : PgDev PgPD where
  plain := pgApi
  keep := fun ⟨m1, m2, h, e⟩ ht hs => by subst e; exact ⟨m1, m2, h.keep ht hs, rfl⟩
  lt := fun ⟨_, _, h, e⟩ i hi => by subst e; exact h.lt i hi
  new_bad := fun n most w h => (new_bad_any n most w h).mono fun _ _ ⟨he, hw⟩ => ⟨he, by rw [hw]; exact Below.refl _ _⟩
  new_good := fun n most w h1 h2 h3 => (new_good_any n most w h1 h2 h3).mono fun _ _ ⟨B, m1, m2, he, hP, hS, hb⟩ => ⟨B, DS B m1 m2, he, ⟨m1, m2, hP, rfl⟩, hS, hb⟩
  sync := fun ⟨m1, m2, h, e⟩ => by subst e; exact (sync_any h).mono fun _ _ ⟨he, hP, ht⟩ => ⟨he, hP.dwent ht⟩
  arm := fun n ⟨m1, m2, h, e⟩ => by subst e; exact (arm_any h n).mono fun _ _ ⟨he, hP, ht⟩ => ⟨he, hP.dwent ht⟩
  crash := fun v ps ⟨m1, m2, h, e⟩ hB hv => by subst e; exact (crash_any h v ps hB hv).mono fun _ _ ⟨he, hP, ht⟩ => ⟨he, hP.dwent ht⟩
  write := fun base n k m l ⟨m1, m2, h, e⟩ _ hn hk hB _ => by subst e; exact (pgWrite_any h base n k m l hn.2 hk hB).mono fun _ _ ⟨he, hP, ht⟩ => ⟨he, hP.dwent ht⟩
  write_nil := fun base n k m l w _ _ hk hB => pgWrite_nil base n k m l w hk hB
  read := fun base n ⟨m1, m2, h, _⟩ _ hn => pgRead_any h base n hn.2
end Go.Proofs.Ytkmkbjjpbodbfaa
