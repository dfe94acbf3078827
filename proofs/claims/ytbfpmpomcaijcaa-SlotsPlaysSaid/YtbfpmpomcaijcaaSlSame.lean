/- Whether two slotted bodies are alike, by the document's own reckoning. Conditions: the values read as bodies. -/
import Derived.Test.YtbfpmpomcaijcaaSlCopy
import Derived.Deep.QuietTactic
namespace Go.Proofs.Ytbfpmpomcaijcaa
open Go.RowKit

theorem str_inj {a b : List Nat} (ha : ∀ x ∈ a, x < 256) (hb : ∀ x ∈ b, x < 256) (h : strOfNums (a.map fun x : Nat => (x : Int)) = strOfNums (b.map fun x : Nat => (x : Int))) : a = b := by
  have h2 := congrArg (fun s : ByteArray => s.data.toList.map UInt8.toNat) h
  simp only [strOfNums_data, List.map_map] at h2
  have e : ∀ l : List Nat, (∀ x ∈ l, x < 256) → l.map (UInt8.toNat ∘ (fun n : Int => UInt8.ofNat n.toNat) ∘ fun x : Nat => (x : Int)) = l := by
    intro l hl
    rw [List.map_congr_left (g := id), List.map_id]
    intro x hx
    have := hl x hx
    simp
    omega
  rw [e a ha, e b hb] at h2
  exact h2
theorem str_ne {a b : List Nat} (ha : ∀ x ∈ a, x < 256) (hb : ∀ x ∈ b, x < 256) (h : a ≠ b) : ((strOfNums (a.map fun x : Nat => (x : Int))).toList == (strOfNums (b.map fun x : Nat => (x : Int))).toList) = false := by
  rw [beq_eq_false_iff_ne]
  intro e
  rw [ByteArray.toList_eq, ByteArray.toList_eq] at e
  exact h (str_inj ha hb (Go.WideShapes.bytes_inj e))
theorem _root_.Go.RowKit.Below.goN {B0 : Nat} {a b : World} (h : Below B0 a b) (n : Nat) : Below B0 a (b.drewN n) := ⟨h.os, h.tape, h.output, h.size, fun k hk => h.block k hk⟩
noncomputable def Sl.same (s t : Sl.S) : Bool := @decide (s = t) (Classical.propDecidable _)
theorem Sl.same_true {s t : Sl.S} (h : s = t) : Sl.same s t = true := by unfold Sl.same; exact @decide_eq_true _ (_) h
theorem Sl.same_false {s t : Sl.S} (h : s ≠ t) : Sl.same s t = false := by unfold Sl.same; exact @decide_eq_false _ (_) h
theorem Sl.same_of {s t : Sl.S} (h : Sl.same s t = true) : s = t := by unfold Sl.same at h; exact @of_decide_eq_true _ (_) h

set_option maxHeartbeats 3200000 in
set_option maxRecDepth 20000 in
theorem refSame_any (f1 d1 f2 d2 : Value) (s t : Sl.S) (w : World) (h1 : SlAt w f1 d1 s) (h2 : SlAt w f2 d2 t) (hs : s.full.length ≤ 1000000 ∧ s.data.length ≤ 1000000) :
    Calls Try.prog 15 #[SlV s.kind s.next f1 d1, SlV t.kind t.next f2 d2] w fun e w' => e = .returned (.bool (Sl.same s t)) ∧ Below w.heap.size w w' := by
  obtain ⟨W, hW⟩ : ∃ W, W = (w.alloc (sobj s.kind s.next f1 d1)).alloc (sobj t.kind t.next f2 d2) := ⟨_, rfl⟩
  have hb0 : Below w.heap.size w (w.alloc (sobj s.kind s.next f1 d1)) := below_new _ _
  have hb1 : Below (w.alloc (sobj s.kind s.next f1 d1)).heap.size (w.alloc (sobj s.kind s.next f1 d1)) W := by rw [hW]; exact below_new _ _
  have hr1 := sblk w s.kind s.next f1 d1
  have hr2 := sblk (w.alloc (sobj s.kind s.next f1 d1)) t.kind t.next f2 d2
  rw [← hW] at hr2
  have hr1 : W.heap[w.heap.size]? = _ := (hb1.block _ (lt_of_block hr1)).trans hr1
  have hbW := hb0.trans (hb1.mono hb0.size)
  have hA := h1.below hbW
  have hB := h2.below hbW
  obtain ⟨p1, c1, p2, c2, rfl, rfl⟩ := slv_slices hA
  obtain ⟨p3, c3, p4, c4, rfl, rfl⟩ := slv_slices hB
  obtain ⟨q0, q1, q2, q3⟩ := four_cell hr1
  obtain ⟨u0, u1, u2, u3⟩ := four_cell hr2
  have hsz : (w.alloc (sobj s.kind s.next (.slice p1 s.full.length c1) (.slice p2 s.data.length c2))).heap.size = w.heap.size + 1 := by simp
  rw [hsz] at u0 u1 u2 u3
  unfold sobj at hW
  have HBW := Lib.hid hbW
  have HA := Lib.hid hA
  have HB := Lib.hid hB
  clear hb0 hb1 hr1 hr2 hbW hA hB h1 h2 hsz
  go_enter Try.func15, Try.ntmps15
  go_upto_region 1 with (fail)
  rw [← hW]
  clear hW hr1
  by_cases hk : s.kind = t.kind
  · have hk1 : ((s.kind : Int) != (t.kind : Int)) = false := by simp; omega
    by_cases hn : s.next = t.next
    · have hn1 : ((s.next : Int) != (t.next : Int)) = false := by simp; omega
      by_cases hf : s.full.length = t.full.length
      · have hf1 : ((s.full.length : Int) != (t.full.length : Int)) = false := by simp; omega
        by_cases hd : s.data.length = t.data.length
        · have hd1 : ((s.data.length : Int) != (t.data.length : Int)) = false := by simp; omega
          have HK := Lib.hid hk
          have HN := Lib.hid hn
          have HFF := Lib.hid hf
          have HDD := Lib.hid hd
          clear hk hn hf hd
          go_wp2_with fail
          clear hk1 hn1 hf1 hd1
          go_loopw [5] (fun i wr => ∃ k : Nat, k ≤ s.full.length ∧ i = .int .i64 k ∧ (∀ j, j < k → Sl.fa s j = Sl.fa t j) ∧ ∃ n, wr = W.drewN n) (fun i _ => s.full.length - (intOf i).toNat)
          case atStart => exact ⟨0, Nat.zero_le _, rfl, fun j hj => absurd hj (Nat.not_lt_zero _), 0, rfl⟩
          case round =>
            obtain ⟨k, hk, rfl, hall, n, rfl⟩ := hrel
            have HALL := Lib.hid hall
            clear hall
            by_cases hlt : k < s.full.length
            · have HLT := Lib.hid hlt
              have hi : (k : Int) < (s.full.length : Int) := by omega
              have hi2 : (k : Int) < (t.full.length : Int) := by have := HFF.out; omega
              have hi0 : (0 : Int) ≤ (k : Int) := by omega
              have hw1 := IntWalk.i64_in ((k : Int) + 1) (by omega)
              obtain ⟨p, cap, hpc, -, -, hform⟩ := FAt.form HA.out.full
              simp only [Value.slice.injEq] at hpc
              obtain ⟨rfl, -, rfl⟩ := hpc
              obtain ⟨bs, os, rfl, hcs⟩ := hform (by omega)
              obtain ⟨p, cap, hpc, -, -, hform⟩ := FAt.form HB.out.full
              simp only [Value.slice.injEq] at hpc
              obtain ⟨rfl, -, rfl⟩ := hpc
              obtain ⟨bt, ot, rfl, hct⟩ := hform (by have := HFF.out; omega)
              have e1 := hcs k hlt
              have e2 := hct k (by have := HFF.out; omega)
              clear hcs hct hform hlt
              by_cases hb : Sl.fa s k = Sl.fa t k
              · have HALL2 : Hid (∀ j, j < k + 1 → Sl.fa s j = Sl.fa t j) := fun j hj => by
                  by_cases e : j = k
                  · rw [e]; exact hb
                  · exact HALL.out j (by omega)
                rw [hb] at e1
                clear hb
                cases hx : Sl.fa t k
                all_goals
                  rw [hx] at e1 e2
                  clear hx
                  go_wp2_with fail
                  go_quiet (fail)
                  go_wp2_with fail
                  go_roundw
                  case rel => exact ⟨k + 1, by have := HLT.out; omega, by go_num, HALL2.out, _, rfl⟩
                  case measure => have := HLT.out; simp [intOf]; omega
              · have HS := Lib.hid (Sl.same_false (s := s) (t := t) (fun e => hb (by rw [e])))
                cases hx : Sl.fa s k <;> cases hy : Sl.fa t k
                · rw [hx, hy] at hb; exact absurd rfl hb
                · rw [hx] at e1
                  rw [hy] at e2
                  clear hx hy hb
                  go_wp2_with fail
                  go_quiet (fail)
                  go_wp2_with fail
                  go_ret
                  exact ⟨by rw [HS.out]; rfl, (HBW.out.goN _).goN _⟩
                · rw [hx] at e1
                  rw [hy] at e2
                  clear hx hy hb
                  go_wp2_with fail
                  go_quiet (fail)
                  go_wp2_with fail
                  go_ret
                  exact ⟨by rw [HS.out]; rfl, (HBW.out.goN _).goN _⟩
                · rw [hx, hy] at hb; exact absurd rfl hb
            · obtain rfl : k = s.full.length := by omega
              have HFULL : Hid (s.full = t.full) := Sl.ext_getD false HFF.out (fun i hi => HALL.out i hi)
              clear hlt hk HALL
              go_wp2_with fail
              go_loopw [6] (fun i wr => ∃ k : Nat, k ≤ s.data.length ∧ i = .int .i64 k ∧ (∀ j, j < k → Sl.da s j = Sl.da t j) ∧ ∃ n, wr = W.drewN n) (fun i _ => s.data.length - (intOf i).toNat)
              case atStart => exact ⟨0, Nat.zero_le _, rfl, fun j hj => absurd hj (Nat.not_lt_zero _), n, rfl⟩
              case round =>
                obtain ⟨k, hk, rfl, hall, n2, rfl⟩ := hrel
                have HALL := Lib.hid hall
                clear hall
                by_cases hlt : k < s.data.length
                · have HLT := Lib.hid hlt
                  have hi : (k : Int) < (s.data.length : Int) := by omega
                  have hi2 : (k : Int) < (t.data.length : Int) := by have := HDD.out; omega
                  have hi0 : (0 : Int) ≤ (k : Int) := by omega
                  have hw1 := IntWalk.i64_in ((k : Int) + 1) (by omega)
                  obtain ⟨p, cap, hpc, -, -, hform⟩ := HA.out.data.form2
                  simp only [Value.slice.injEq] at hpc
                  obtain ⟨rfl, -, rfl⟩ := hpc
                  obtain ⟨bs, os, rfl, hcs⟩ := hform (by omega)
                  obtain ⟨p, cap, hpc, -, -, hform⟩ := HB.out.data.form2
                  simp only [Value.slice.injEq] at hpc
                  obtain ⟨rfl, -, rfl⟩ := hpc
                  obtain ⟨bt, ot, rfl, hct⟩ := hform (by have := HDD.out; omega)
                  obtain ⟨qs, zs, e1, b1⟩ := hcs k hlt
                  obtain ⟨qt, zt, e2, b2⟩ := hct k (by have := HDD.out; omega)
                  have cv1 := fun m => strOf_conv (b1.below ((Below.refl _ W).goN m))
                  have cv2 := fun m => strOf_conv (b2.below ((Below.refl _ W).goN m))
                  have hne := fun h : s.data.getD k [] ≠ t.data.getD k [] => str_ne b1.small b2.small h
                  clear hcs hct hform hlt b1 b2
                  by_cases hb : s.data.getD k [] = t.data.getD k []
                  · have HALL2 : Hid (∀ j, j < k + 1 → Sl.da s j = Sl.da t j) := fun j hj => by
                      by_cases e : j = k
                      · rw [e]; exact hb
                      · exact HALL.out j (by omega)
                    rw [hb] at cv1 e1
                    clear hb hne
                    generalize (t.data.getD k []).length = z at *
                    generalize strOfNums ((t.data.getD k []).map fun x : Nat => (x : Int)) = S at *
                    go_wp2_with fail
                    go_quiet (fail)
                    go_wp2_with fail
                    go_roundw
                    case rel => exact ⟨k + 1, by have := HLT.out; omega, by go_num, HALL2.out, _, rfl⟩
                    case measure => have := HLT.out; simp [intOf]; omega
                  · have HS := Lib.hid (Sl.same_false (s := s) (t := t) (fun e => hb (by rw [e])))
                    have hcmp := hne hb
                    clear hb hne
                    generalize (s.data.getD k []).length = z1 at *
                    generalize (t.data.getD k []).length = z2 at *
                    generalize strOfNums ((s.data.getD k []).map fun x : Nat => (x : Int)) = S1 at *
                    generalize strOfNums ((t.data.getD k []).map fun x : Nat => (x : Int)) = S2 at *
                    go_wp2_with fail
                    go_quiet (fail)
                    go_wp2_with fail
                    go_ret
                    exact ⟨by rw [HS.out]; rfl, (HBW.out.goN _).goN _⟩
                · obtain rfl : k = s.data.length := by omega
                  have HS : Hid (Sl.same s t = true) := Sl.same_true (by
                    have e1 := HK.out
                    have e2 := HN.out
                    have e3 := HFULL.out
                    have e4 : s.data = t.data := Sl.ext_getD [] HDD.out (fun i hi => HALL.out i hi)
                    cases s
                    cases t
                    simp only at e1 e2 e3 e4
                    simp only [Sl.S.mk.injEq]
                    exact ⟨e1, e2, e3, e4⟩)
                  clear hlt hk HALL
                  go_wp2_with fail
                  go_ret
                  exact ⟨by rw [HS.out]; rfl, HBW.out.goN _⟩
        · have HS := Lib.hid (Sl.same_false (s := s) (t := t) (fun e => hd (by rw [e])))
          have hd1 : ((s.data.length : Int) != (t.data.length : Int)) = true := by simp; omega
          have hd2 : ¬ (s.data.length : Int) = (t.data.length : Int) := by omega
          clear hd hf hn hk
          go_wp2_with fail
          go_ret
          exact ⟨by rw [HS.out]; rfl, HBW.out⟩
      · have HS := Lib.hid (Sl.same_false (s := s) (t := t) (fun e => hf (by rw [e])))
        have hf1 : ((s.full.length : Int) != (t.full.length : Int)) = true := by simp; omega
        have hf2 : ¬ (s.full.length : Int) = (t.full.length : Int) := by omega
        clear hf hn hk
        go_wp2_with fail
        go_ret
        exact ⟨by rw [HS.out]; rfl, HBW.out⟩
    · have HS := Lib.hid (Sl.same_false (s := s) (t := t) (fun e => hn (by rw [e])))
      have hn1 : ((s.next : Int) != (t.next : Int)) = true := by simp; omega
      have hn2 : ¬ (s.next : Int) = (t.next : Int) := by omega
      clear hn hk
      go_wp2_with fail
      go_ret
      exact ⟨by rw [HS.out]; rfl, HBW.out⟩
  · have HS := Lib.hid (Sl.same_false (s := s) (t := t) (fun e => hk (by rw [e])))
    have hk1 : ((s.kind : Int) != (t.kind : Int)) = true := by simp; omega
    have hk2 : ¬ (s.kind : Int) = (t.kind : Int) := by omega
    clear hk
    go_wp2_with fail
    go_ret
    exact ⟨by rw [HS.out]; rfl, HBW.out⟩
end Go.Proofs.Ytbfpmpomcaijcaa
