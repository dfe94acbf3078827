/- The program's device does what a law asks of a device. Conditions: none. -/
import Derived.Test.YthjciddhghfcbaaDiskMake
import Derived.Test.YthjciddhghfcbaaDiskWriteP
import Derived.Test.YthjciddhghfcbaaDiskSyncP
import Derived.Test.YthjciddhghfcbaaDiskCrashP
import Derived.Test.YthjciddhghfcbaaDiskCopyP
namespace Go.Proofs.Ythjciddhghfcbaa
open Go.RowKit

theorem own_api : Api OwnPD where
  keep := fun ⟨m1, m2, h, hS⟩ ht hs => ⟨m1, m2, h.keep ht fun i hi => hs i ((hS i).2 hi), hS⟩
  lt := fun ⟨_, _, h, hS⟩ i hi => h.lt i ((hS i).1 hi)
  ok := fun ⟨_, _, h, _⟩ => ⟨h.own.ok, h.own.armed, h.own.most, h.own.size⟩
  new_bad := fun n most w h => (new_bad_any n most w h).mono fun _ _ ⟨he, hw⟩ => ⟨he, by rw [hw]; exact Below.refl _ _⟩
  new_good := fun n most w h1 h2 h3 => (new_good_any n most w h1 h2 h3).mono fun _ _ ⟨B, m1, m2, he, hP, hS, hb⟩ => ⟨B, DS B m1 m2, he, hP.pd, hS, hb⟩
  write := fun a v b ⟨m1, m2, h, hS⟩ hB hv => (write_any h a v b hB fun h0 g hg hd => hv h0 g hg ((hS g).2 hd)).mono fun _ _ ⟨he, hP, ht⟩ => ⟨he, hP.went hS ht⟩
  read := fun a ⟨m1, m2, h, hS⟩ => read_any h a
  sync := fun ⟨m1, m2, h, hS⟩ => (sync_any h).mono fun _ _ ⟨he, hP, ht⟩ => ⟨he, hP.went hS ht⟩
  arm := fun n ⟨m1, m2, h, hS⟩ => (arm_any h n).mono fun _ _ ⟨he, hP, ht⟩ => ⟨he, hP.went hS ht⟩
  crash := fun v ps ⟨m1, m2, h, hS⟩ hB hv => (crash_any h v ps hB fun h0 g hg hd => hv h0 g hg ((hS g).2 hd)).mono fun _ _ ⟨he, hP, ht⟩ => ⟨he, hP.went hS ht⟩
  sectors := fun ⟨m1, m2, h, hS⟩ => (sectors_any h).mono fun _ _ ⟨he, hw⟩ => ⟨he, by rw [hw]; exact Below.refl _ _⟩
  used := fun ⟨m1, m2, h, hS⟩ => (used_any h).mono fun _ _ ⟨he, hw⟩ => ⟨he, by rw [hw]; exact Below.refl _ _⟩
  waits := fun ⟨m1, m2, h, hS⟩ => waits_any h
  copy := fun ⟨m1, m2, h, hS⟩ => (copy_any h).mono fun _ _ ⟨B', x1, x2, he, hP, hS', hb⟩ => ⟨B', DS B' x1 x2, he, hP.pd, hS', hb⟩
end Go.Proofs.Ythjciddhghfcbaa
