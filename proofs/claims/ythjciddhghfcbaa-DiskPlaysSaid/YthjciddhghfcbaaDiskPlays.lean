/- The first law of devices, for any way to keep one: whatever is asked, the program's device is alike the document's. Conditions: the program's contracts. -/
import Derived.Test.YthjciddhghfcbaaDiskDoAny
namespace Go.Proofs.Ythjciddhghfcbaa
open Go.RowKit

section
variable {PD : (Nat → Prop) → World → Nat → Dk.Dev → Prop}

set_option maxHeartbeats 1600000 in
set_option maxRecDepth 20000 in
/-- Where New refuses. -/
theorem plays_bad (A : Api PD) (n most : Int) (p : Option Addr) (len cap : Nat) (W : World) (hl : len ≤ 281474976710656) (hbad : badNew n most) :
    Calls Try.prog 3 #[.int .i64 n, .int .i64 most, .slice p len cap] W fun e w' => e = .returned (.bool true) ∧ Below W.heap.size W w' := by
  have HA := Lib.hid A
  have HK := Lib.hid (fun w => known_any A w)
  go_enter Try.func3, Try.ntmps3
  go_wp2_with fail
  refine (HA.out.new_bad n most W hbad).mono ?_
  rintro e w1 ⟨rfl, hb1⟩
  have HB1 := Lib.hid hb1
  clear hb1
  by_cases hbig : (40 < n ∧ n ≤ 65536) ∨ 300 < len
  · have hb2 : (decide (40 < n) && decide (n ≤ 65536) || decide (300 < len)) = true := by simpa using hbig
    go_wp2_with fail
    all_goals
      refine (HK.out _).mono ?_
      rintro e w2 ⟨rfl, hb3⟩
      have HB2 := Lib.hid (HB1.out.trans (hb3.mono HB1.out.size))
      clear hb3 hb2
      go_wp2_with fail
      go_ret
      exact ⟨rfl, HB2.out⟩
  · have hb2 : (decide (40 < n) && decide (n ≤ 65536) || decide (300 < len)) = false := by
      rw [Bool.eq_false_iff]
      intro h
      exact hbig (by simpa using h)
    go_wp2_with fail
    all_goals
      refine (refNew_bad n most w1 hbad).mono ?_
      rintro e w2 ⟨rfl, rfl⟩
      clear hb2
      go_wp2_with fail
      refine (HK.out _).mono ?_
      rintro e w3 ⟨rfl, hb3⟩
      have HB2 := Lib.hid (HB1.out.trans (hb3.mono HB1.out.size))
      clear hb3
      go_wp2_with fail
      go_ret
      exact ⟨rfl, HB2.out⟩

/-- A list whose first k numbers are spoilt. -/
def spoilt (L : List Int) (k : Nat) : List Int := (List.replicate L.length (-1)).take k ++ L.drop k
theorem spoilt_length (L : List Int) (k : Nat) (hk : k ≤ L.length) : (spoilt L k).length = L.length := by simp [spoilt]; omega
theorem spoilt_at (L : List Int) (k : Nat) (hk : k ≤ L.length) : (spoilt L k).getD k 0 = L.getD k 0 := by
  unfold spoilt
  have h : ((List.replicate L.length (-1 : Int)).take k).length = k := by simp; omega
  rw [List.getD_eq_getElem?_getD, List.getElem?_append_right (by omega), h, Nat.sub_self, List.getElem?_drop, Nat.add_zero, List.getD_eq_getElem?_getD]
theorem spoilt_next (L : List Int) (k : Nat) (hk : k < L.length) : (spoilt L k).set k (-1) = spoilt L (k + 1) :=
  Dk.set_mid (List.replicate L.length (-1)) L k (-1) (by simp; omega) hk (by rw [List.getElem?_replicate]; simp; omega)

theorem Ints.Own.stored {base g cap n : Nat} {w : World} {l : List Int} (h : Ints.Own base w (.slice (some ⟨g, 0, none⟩) n cap) l) (hn : l.length = n) (j : Nat) (z : Int) (hz : Ints.Okk z) :
    Ints.Own base (w.setCell ⟨g, j, none⟩ (.int .i64 z)) (.slice (some ⟨g, 0, none⟩) n cap) (l.set j z) ∧ w.grownBy (w.setCell ⟨g, j, none⟩ (.int .i64 z)) (some g) := by
  subst hn
  obtain ⟨h1, h2⟩ := h.own.stored j (.int .i64 z)
  refine ⟨⟨?_, ?_, by simpa using h.len⟩, h2⟩
  · have e : Ints.bytesV (l.set j z) = (Ints.bytesV l).set j (.int .i64 z) := by simp [Ints.bytesV, List.map_set]
    rw [e, List.length_set]
    exact h1
  · intro x hx
    rcases List.mem_or_eq_of_mem_set hx with hx | rfl
    · exact h.small x hx
    · exact hz
theorem Ints.Own.cellAt {base g cap n : Nat} {w : World} {l : List Int} (h : Ints.Own base w (.slice (some ⟨g, 0, none⟩) n cap) l) (hn : l.length = n) (j : Nat) (hj : j < n) : w.cell? ⟨g, j, none⟩ = some (.int .i64 (l.getD j 0)) ∧ w.frozen? ⟨g, j, none⟩ = false := by
  subst hn
  refine ⟨?_, h.own.frozenAt j⟩
  rw [h.own.cellAt j (by omega)]
  simp [Ints.bytesV, List.getElem?_eq_getElem hj]
end
end Go.Proofs.Ythjciddhghfcbaa
