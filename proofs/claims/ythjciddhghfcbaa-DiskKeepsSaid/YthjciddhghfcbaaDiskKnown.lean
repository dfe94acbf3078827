/- What is known of a device, for any way to keep one: a law's known. Conditions: the program's contracts. -/
import Derived.Test.YthjciddhghfcbaaDiskApi
import Derived.Deep.RegionWith
namespace Go.Proofs.Ythjciddhghfcbaa
open Go.RowKit

namespace Dk
theorem goes_idle {d : Dev} (h : d.armed = 0) : goes d = d := if_neg (by omega)
/-- A write that can not be refused, on a device that is not armed. -/
theorem write_fine {d : Dev} {i : Nat} {b : List Nat} (ho : d.off = false) (ha : d.armed = 0) (hi : i < size d) (hb : b.length = 128) (hu : used d < d.most ∨ d.seen.getD i false = true) :
    write d (i : Int) b = (put d i b, 0) := by
  have h1 : ¬ (d.off = true) := by rw [ho]; decide
  have h2 : ¬ (bad d (i : Int) ∨ b.length ≠ 128) := by unfold bad; omega
  have h3 : ¬ (d.seen.getD (i : Int).toNat false = false ∧ d.most ≤ used d) := by
    rw [Int.toNat_natCast]
    rintro ⟨h3, h4⟩
    rcases hu with h | h
    · omega
    · rw [h] at h3; cases h3
  unfold write
  rw [if_neg h1, if_neg h2, if_neg h3, Int.toNat_natCast, goes_idle (d := put d i b) ha]
  rw [if_neg (by show ¬ (d.off = true); exact h1)]
theorem sync_fine {d : Dev} (ho : d.off = false) (ha : d.armed = 0) : sync d = (last d, 0) := by
  unfold sync
  rw [goes_idle ha, if_neg (by rw [ho]; decide), if_neg (by rw [ho]; decide)]
theorem read_fine {d : Dev} {i : Nat} (ho : d.off = false) (hi : i < size d) : read d (i : Int) = ((d.waits.getD i none).getD (d.lasts.getD i []), 0) := by
  unfold read
  rw [if_neg (by rw [ho]; decide), if_neg (by unfold bad; omega), Int.toNat_natCast]
def k1 (a : List Nat) : Dev := put (fresh 2 2) 1 a
def k2 (a : List Nat) : Dev := last (k1 a)
def k3 (a b : List Nat) : Dev := put (k2 a) 1 b
def k4 (a b : List Nat) : Dev := crash (k3 a b) []
theorem known1 (a : List Nat) (h : a.length = 128) : write (fresh 2 2) 1 a = (k1 a, 0) := write_fine (i := 1) rfl rfl (by decide) h (Or.inl (by decide))
theorem known2 (a : List Nat) : sync (k1 a) = (k2 a, 0) := sync_fine rfl rfl
theorem known3 (a b : List Nat) (h : b.length = 128) : write (k2 a) 1 b = (k3 a b, 0) := write_fine (i := 1) rfl rfl (by show 1 < 2; decide) h (Or.inl (by show 1 < 2; decide))
theorem known4 (a b : List Nat) : read (k4 a b) 1 = (a, 0) := by
  rw [show (1 : Int) = ((1 : Nat) : Int) from rfl, read_fine rfl (by show 1 < 2; decide)]
  rfl
end Dk

section
variable {PD : (Nat → Prop) → World → Nat → Dk.Dev → Prop}

theorem bts_none (w : World) : Bts w (.slice none 0 0) [] := ⟨⟨none, 0, rfl, by decide, fun _ => rfl, fun h => absurd h (by decide)⟩, by simp, by decide⟩

/-- A law's sector, as bytes of the call's own. -/
theorem sector_own (n : Int) (w : World) : Calls Try.prog 20 #[.int .i64 n] w fun e w' => ∃ g, e = .returned (.slice (some ⟨g, 0, none⟩) 128 128) ∧ w.heap.size ≤ g ∧ Own w.heap.size w' (.slice (some ⟨g, 0, none⟩) 128 128) (secL n) ∧ Below w.heap.size w w' := by
  refine (sector_any n w).mono ?_
  rintro e w' ⟨g, rfl, h1, h2, h3⟩
  have h := own_blk (base := w.heap.size) h2 h1 (secL_small n) (by rw [secL_length]; decide)
  rw [secL_length] at h
  exact ⟨g, rfl, h1, h, h3⟩

/-- Written with a new slice. -/
theorem Api.write_new (A : Api PD) {S : Nat → Prop} {w w1 w2 : World} {B g base : Nat} {d : Dk.Dev} {b : List Nat} (a : Int) {n cap : Nat} (h : PD S w1 B d) (hS : ∀ i, S i → base ≤ i) (hbs : Below base w w1) (hbase : base ≤ w1.heap.size)
    (hb : Below w1.heap.size w1 w2) (hg : w1.heap.size ≤ g) (hO : Bts w2 (.slice (some ⟨g, 0, none⟩) n cap) b) :
    Calls Try.prog 19 #[.pointer (some ⟨B, 0, none⟩), .int .i64 a, .slice (some ⟨g, 0, none⟩) n cap] w2 fun e w' =>
      e = .returned (.int .i64 ((Dk.write d a b).2 : Nat)) ∧ ∃ S', PD S' w' B (Dk.write d a b).1 ∧ (∀ i, S' i → base ≤ i) ∧ Below base w w' ∧ base ≤ w'.heap.size ∧ Touch S w2 w' := by
  refine (A.write a _ b (A.below h hb) hO (fun _ g' hg' => ?_)).mono ?_
  · simp only [Value.ownBlock, Option.some.injEq] at hg'
    intro hs
    have := A.lt h g' hs
    omega
  · rintro e w' ⟨rfl, S', h1, h2, h3⟩
    have hsz : base ≤ w2.heap.size := Nat.le_trans hbase hb.size
    exact ⟨rfl, S', h1, fun i hi => by rcases h3 i hi with h | h; exact hS i h; omega, (hbs.trans (hb.mono hbase)).trans (h2.below hS hsz), Nat.le_trans hsz h2.size, h2⟩
theorem DWent.parts {S : Nat → Prop} {w w1 w' : World} {B base : Nat} {d : Dk.Dev} (h : DWent PD S w1 B d w') (hS : ∀ i, S i → base ≤ i) (hbs : Below base w w1) (hbase : base ≤ w1.heap.size) :
    ∃ S', PD S' w' B d ∧ (∀ i, S' i → base ≤ i) ∧ Below base w w' ∧ base ≤ w'.heap.size ∧ Touch S w1 w' := by
  obtain ⟨S', h1, h2, h3⟩ := h
  exact ⟨S', h1, fun i hi => by rcases h3 i hi with h | h; exact hS i h; omega, hbs.trans (h2.below hS hbase), Nat.le_trans hbase h2.size, h2⟩

set_option maxHeartbeats 1600000 in
set_option maxRecDepth 20000 in
theorem known_any (A : Api PD) (w : World) : Calls Try.prog 10 #[] w fun e w' => e = .returned (.bool true) ∧ Below w.heap.size w w' := by
  have HA := Lib.hid A
  go_enter Try.func10, Try.ntmps10
  go_wp2_with fail
  refine (HA.out.new_good 2 2 w (by decide) (by decide) (by decide)).mono ?_
  rintro e w1 ⟨B, S, rfl, hP, hS, hb1⟩
  have HP1 := Lib.hid hP
  have HS1 := Lib.hid hS
  have HB1 := Lib.hid hb1
  clear hP hS hb1
  go_wp2_with fail
  refine (sector_own 3 w1).mono ?_
  rintro e w2 ⟨g, rfl, hg, hO, hb2⟩
  have HC := Lib.hid (HA.out.write_new 1 HP1.out HS1.out HB1.out HB1.out.size hb2 hg hO.bts)
  clear hg hO hb2 HP1 HS1
  go_wp2_with fail
  refine HC.out.mono ?_
  rintro e w3 ⟨rfl, S3, hP3, hS3, hb3, hz3, -⟩
  rw [Dk.known1 _ (secL_length 3)] at hP3 ⊢
  have HP3 := Lib.hid hP3
  have HS3 := Lib.hid hS3
  have HB3 := Lib.hid hb3
  have HZ3 := Lib.hid hz3
  clear HC hP3 hS3 hb3 hz3 HB1
  go_wp2_with fail
  refine (HA.out.sync HP3.out).mono ?_
  rintro e w4 ⟨rfl, hw4⟩
  rw [Dk.known2] at hw4 ⊢
  obtain ⟨S4, hP4, hS4, hb4, hz4, -⟩ := hw4.parts HS3.out HB3.out HZ3.out
  have HP4 := Lib.hid hP4
  have HS4 := Lib.hid hS4
  have HB4 := Lib.hid hb4
  have HZ4 := Lib.hid hz4
  clear hw4 hP4 hS4 hb4 hz4 HP3 HS3 HB3 HZ3
  go_wp2_with fail
  refine (sector_own 4 w4).mono ?_
  rintro e w5 ⟨g2, rfl, hg, hO, hb5⟩
  have HC := Lib.hid (HA.out.write_new 1 HP4.out HS4.out HB4.out HZ4.out hb5 hg hO.bts)
  clear hg hO hb5 HP4 HS4
  go_wp2_with fail
  refine HC.out.mono ?_
  rintro e w6 ⟨rfl, S6, hP6, hS6, hb6, hz6, -⟩
  rw [Dk.known3 _ _ (secL_length 4)] at hP6 ⊢
  have HP6 := Lib.hid hP6
  have HS6 := Lib.hid hS6
  have HB6 := Lib.hid hb6
  have HZ6 := Lib.hid hz6
  clear HC hP6 hS6 hb6 hz6 HB4
  go_wp2_with fail
  refine (HA.out.crash (.slice none 0 0) [] HP6.out (bts_none _) (fun h => absurd h (by decide))).mono ?_
  rintro e w7 ⟨rfl, hw7⟩
  obtain ⟨S7, hP7, hS7, hb7, hz7, -⟩ := hw7.parts HS6.out HB6.out HZ6.out
  have HP7 := Lib.hid hP7
  have HB7 := Lib.hid hb7
  have HZ7 := Lib.hid hz7
  clear hw7 hP7 hS7 hb7 hz7 HP6 HS6 HB6 HZ6
  go_wp2_with fail
  refine (HA.out.read 1 HP7.out).mono ?_
  rintro e w8 ⟨u, rfl, hO8, hb8⟩
  rw [show Dk.crash (Dk.k3 (secL 3) (secL 4)) [] = Dk.k4 (secL 3) (secL 4) from rfl, Dk.known4] at hO8 ⊢
  have HO8 := Lib.hid hO8
  have HB8 := Lib.hid (HB7.out.trans (hb8.mono HZ7.out))
  have HZ8 := Lib.hid (Nat.le_trans HZ7.out hb8.size)
  clear hO8 hb8 HP7 HB7 HZ7
  obtain ⟨p, cap, rfl, -, -, -⟩ := HO8.out.bts.form
  go_wp2_with fail
  have hS : ∃ S, strOfNums ((secL 3).map fun x : Nat => (x : Int)) = S := ⟨_, rfl⟩
  obtain ⟨S, hS⟩ := hS
  have hc1 := strOf_conv (HO8.out.bts.below (new_drew w8))
  rw [hS] at hc1
  have hov : Calls Try.prog 20 #[.int .i64 3] w8.drew fun e w' => ∃ g, e = .returned (.slice (some ⟨g, 0, none⟩) 128 128) ∧ (convert 32 9 (.slice p (secL 3).length cap)).run Try.prog w' = .ok (.string S) w' ∧
      (convert 32 9 (.slice (some ⟨g, 0, none⟩) 128 128)).run Try.prog w' = .ok (.string S) w' ∧ Below w.heap.size w w' := by
    refine (sector_own 3 w8.drew).mono ?_
    rintro e w9 ⟨g, rfl, _, hO, hb⟩
    have hb' : Below w8.heap.size w8 w9 := (new_drew w8).trans hb
    refine ⟨g, rfl, ?_, ?_, HB8.out.trans (hb'.mono HZ8.out)⟩
    · rw [← hS]; exact strOf_conv (HO8.out.bts.below hb')
    · rw [← hS]; exact strOf_conv hO.bts
  have HOV := Lib.hid hov
  clear hov hS
  go_region_with (first | (go_at_call 20; refine HOV.out.mono ?_; rintro e w9 ⟨g9, rfl, hcA, hcB, hb9⟩))
  all_goals
    go_wp2_with fail
    go_ret
    exact ⟨rfl, hb9⟩
end
end Go.Proofs.Ythjciddhghfcbaa
