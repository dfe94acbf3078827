/- When records are alike: what slices.Equal of numbers, bytes.Equal and Same answer. Conditions: the slices' cells hold what they tell. -/
import Derived.Test.YtpliogkcfhcfpaaItemMay
import Derived.Deep.QuietTactic
import Derived.BigQuiet
import Derived.WideShapes
namespace Go.Proofs.Ytpliogkcfhcfpaa
open Go.RowKit

theorem str_inj {a b : List Nat} (ha : ∀ x ∈ a, x < 256) (hb : ∀ x ∈ b, x < 256) (h : strOfNums (a.map fun x : Nat => (x : Int)) = strOfNums (b.map fun x : Nat => (x : Int))) : a = b := by
  have h2 := congrArg (fun s : ByteArray => s.data.toList.map UInt8.toNat) h
  simp only [strOfNums_data, List.map_map] at h2
  have e : ∀ l : List Nat, (∀ x ∈ l, x < 256) → l.map (UInt8.toNat ∘ (fun n : Int => UInt8.ofNat n.toNat) ∘ fun x : Nat => (x : Int)) = l := by
    intro l hl
    rw [List.map_congr_left (g := id), List.map_id]
    intro x hx
    have := hl x hx
    simp
    omega
  rw [e a ha, e b hb] at h2
  exact h2

theorem take_eq_step {α : Type} [Inhabited α] (a b : List α) (d : α) (k : Nat) (hl : a.length = b.length) (hk : k < a.length) (h : a.take k = b.take k) (hx : a.getD k d = b.getD k d) : a.take (k + 1) = b.take (k + 1) := by
  rw [List.take_succ_eq_append_getElem hk, List.take_succ_eq_append_getElem (by omega), h]
  rw [List.getD_eq_getElem?_getD, List.getElem?_eq_getElem hk, List.getD_eq_getElem?_getD, List.getElem?_eq_getElem (by omega)] at hx
  simp only [Option.getD_some] at hx
  rw [hx]

theorem ret_bool {a b : Bool} (h : a = b) : Ending.returned (.bool a) = .returned (.bool b) := by rw [h]

set_option maxHeartbeats 1600000 in
set_option maxRecDepth 20000 in
theorem slEqual_any (va vb : Value) (a b : List Int) (w : World) (hA : I32.Bts w va a) (hB : I32.Bts w vb b) :
    Calls Try.prog 39 #[va, vb] w fun e w' => e = .returned (.bool (decide (a = b))) ∧ ∃ n, w' = w.drewN n := by
  obtain ⟨pa, ca, rfl, hra, -, hpa⟩ := hA.form
  obtain ⟨pb, cb, rfl, hrb, -, hpb⟩ := hB.form
  have la := hA.len
  have lb := hB.len
  have HPA := Lib.hid hpa
  have HPB := Lib.hid hpb
  clear hpa hpb hA hB
  obtain ⟨r, hr⟩ : ∃ r, decide (a = b) = r := ⟨_, rfl⟩
  rw [hr]
  have HR := Lib.hid hr
  clear hr
  by_cases h1 : a.length = b.length
  · have H1 := Lib.hid h1
    go_enter Try.func39, Try.ntmps39
    go_wp2_with fail
    clear h1
    go_loopw [13] (fun i wr => ∃ k n : Nat, k ≤ a.length ∧ i = .int .i64 k ∧ a.take k = b.take k ∧ wr = w.drewN n) (fun i _ => a.length - (intOf i).toNat)
    case atStart => exact ⟨0, 0, by omega, rfl, by simp, rfl⟩
    case round =>
      obtain ⟨k, n, hk, rfl, ht, rfl⟩ := hrel
      have HT := Lib.hid ht
      clear ht
      by_cases hlt : k < a.length
      · have HS := Lib.hid (take_eq_step a b 0 k H1.out hlt HT.out)
        have hk' : k < b.length := by have := H1.out; omega
        obtain ⟨ba, oa, rfl, hca⟩ := HPA.out (by omega)
        obtain ⟨bb, ob, rfl, hcb⟩ := HPB.out (by omega)
        have hc1 := hca k hlt
        have hc2 := hcb k hk'
        clear hca hcb
        by_cases hxy : a.getD k 0 = b.getD k 0
        · have hs := HS.out hxy
          have HS2 := Lib.hid hs
          rw [← hxy] at hc2
          clear hs hxy HS
          generalize a.getD k 0 = x at *
          go_wp2
          go_quiet (fail)
          go_wp2
          go_roundw
          case rel => exact ⟨k + 1, _, by omega, by go_num, HS2.out, rfl⟩
          case measure => simp [intOf]; omega
        · have hne : a ≠ b := fun e => hxy (by rw [e])
          have HD := Lib.hid (HR.out.symm.trans (decide_eq_false hne))
          clear hne HS
          generalize a.getD k 0 = x at *
          generalize b.getD k 0 = y at *
          go_wp2
          go_quiet (fail)
          go_wp2
          go_ret
          exact ⟨ret_bool HD.out.symm, _, World.drewN_drewN _ _ _⟩
      · have hd : decide (a = b) = true := by
          rw [decide_eq_true_iff]
          have h2 := HT.out
          have h1 := H1.out
          rw [List.take_of_length_le (by omega), List.take_of_length_le (by omega)] at h2
          exact h2
        have HD := Lib.hid (HR.out.symm.trans hd)
        have hlb : ¬ k < b.length := by have := H1.out; omega
        clear hd
        go_wp2_with fail
        go_ret
        exact ⟨ret_bool HD.out.symm, n, rfl⟩
  · have hd : decide (a = b) = false := decide_eq_false (fun e => h1 (by rw [e]))
    have HD := Lib.hid (HR.out.symm.trans hd)
    clear hd
    go_enter Try.func39, Try.ntmps39
    go_wp2_with fail
    go_ret
    exact ⟨ret_bool HD.out.symm, 0, rfl⟩

set_option maxHeartbeats 1600000 in
set_option maxRecDepth 20000 in
theorem btEqual_any (va vb : Value) (a b : List Nat) (w : World) (hA : Bts w va a) (hB : Bts w vb b) :
    Calls Try.prog 40 #[va, vb] w fun e w' => e = .returned (.bool (decide (a = b))) ∧ w = w' := by
  have hc1 := strOf_conv hA
  have hc2 := strOf_conv hB
  have hi := fun h => str_inj hA.small hB.small h
  obtain ⟨pa, ca, rfl, -, -, -⟩ := hA.form
  obtain ⟨pb, cb, rfl, -, -, -⟩ := hB.form
  clear hA hB
  by_cases h : a = b
  · subst h
    rw [decide_eq_true rfl]
    clear hi
    generalize strOfNums (a.map fun x : Nat => (x : Int)) = S at *
    go_enter Try.func40, Try.ntmps40
    go_wp2
    go_ret
    exact ⟨rfl, rfl⟩
  · rw [decide_eq_false h]
    have hne := fun e => h (hi e)
    clear hi
    generalize strOfNums (a.map fun x : Nat => (x : Int)) = S at *
    generalize strOfNums (b.map fun x : Nat => (x : Int)) = T at *
    have hb : (S.toList == T.toList) = false := by
      rw [beq_eq_false_iff_ne]
      intro e
      rw [ByteArray.toList_eq, ByteArray.toList_eq] at e
      exact hne (Go.WideShapes.bytes_inj e)
    go_enter Try.func40, Try.ntmps40
    go_wp2
    go_ret
    exact ⟨rfl, rfl⟩

/-- Are records alike? -/
def Itm.same (k1 : Nat) (a : List Int) (s : List Nat) (k2 : Nat) (b : List Int) (t : List Nat) : Bool := decide (k1 = k2 ∧ a = b ∧ s = t)
theorem Itm.same_key {k1 k2 : Nat} {a b : List Int} {s t : List Nat} (h : k1 ≠ k2) : Itm.same k1 a s k2 b t = false := decide_eq_false fun e => h e.1
theorem Itm.same_vec {k1 k2 : Nat} {a b : List Int} {s t : List Nat} (h : a ≠ b) : Itm.same k1 a s k2 b t = false := decide_eq_false fun e => h e.2.1
theorem Itm.same_bytes {k1 k2 : Nat} {a b : List Int} {s t : List Nat} (h : s ≠ t) : Itm.same k1 a s k2 b t = false := decide_eq_false fun e => h e.2.2
theorem Itm.same_true {k1 k2 : Nat} {a b : List Int} {s t : List Nat} (h1 : k1 = k2) (h2 : a = b) (h3 : s = t) : Itm.same k1 a s k2 b t = true := decide_eq_true ⟨h1, h2, h3⟩
theorem Itm.same_self (k : Nat) (a : List Int) (s : List Nat) : Itm.same k a s k a s = true := Itm.same_true rfl rfl rfl

/-- Two records boxed. -/
theorem below_two (w : World) (o1 o2 : Obj) : Below w.heap.size w ((w.alloc o1).alloc o2) := ((Below.refl _ _).alloc (Nat.le_refl _) _).alloc (by simp) _

set_option maxHeartbeats 1600000 in
set_option maxRecDepth 20000 in
theorem same_any (k1 k2 : Nat) (v1 m1 v2 m2 : Value) (a b : List Int) (s t : List Nat) (w : World) (hA : ItemAt w k1 v1 m1 a s) (hB : ItemAt w k2 v2 m2 b t) :
    Calls Try.prog 20 #[ItemV k1 v1 m1, ItemV k2 v2 m2] w fun e w' => e = .returned (.bool (Itm.same k1 a s k2 b t)) ∧ Below w.heap.size w w' := by
  have HA := Lib.hid hA
  have HB := Lib.hid hB
  have HW := Lib.hid (below_two w (.cells #[.int .u64 (k1 : Int), v1, m1] 26) (.cells #[.int .u64 (k2 : Int), v2, m2] 26))
  obtain ⟨p1, c1, rfl, -, -, -⟩ := hA.vec.form
  obtain ⟨p2, c2, rfl, -, -, -⟩ := hB.vec.form
  obtain ⟨q1, d1, rfl, -, -, -⟩ := hA.bytes.form
  obtain ⟨q2, d2, rfl, -, -, -⟩ := hB.bytes.form
  clear hA hB
  by_cases hk : k1 = k2
  · subst hk
    by_cases hv : a = b
    · have HR : Hid (Itm.same k1 a s k1 b t = decide (s = t)) := by
        show _ = _
        by_cases hs : s = t
        · rw [Itm.same_true rfl hv hs, decide_eq_true hs]
        · rw [Itm.same_bytes hs, decide_eq_false hs]
      have HE := Lib.hid (slEqual_any _ _ a b _ (HA.out.vec.below HW.out) (HB.out.vec.below HW.out))
      rw [decide_eq_true hv] at HE
      obtain ⟨r, hr⟩ : ∃ r, r = decide (s = t) := ⟨_, rfl⟩
      rw [HR.out, ← hr]
      have HQ := Lib.hid hr
      clear hv HR hr
      go_enter Try.func20, Try.ntmps20
      go_wp2_with fail
      refine HE.out.mono ?_
      rintro e w' ⟨rfl, n, rfl⟩
      have HE2 := Lib.hid (btEqual_any _ _ s t _ (HA.out.bytes.below (HW.out.goN n)) (HB.out.bytes.below (HW.out.goN n)))
      rw [← HQ.out] at HE2
      go_wp2_with fail
      refine HE2.out.mono ?_
      rintro e w' ⟨rfl, rfl⟩
      go_wp2_with fail
      go_ret
      exact ⟨rfl, HW.out.goN n⟩
    · have HE := Lib.hid (slEqual_any _ _ a b _ (HA.out.vec.below HW.out) (HB.out.vec.below HW.out))
      rw [decide_eq_false hv] at HE
      rw [Itm.same_vec hv]
      clear hv
      go_enter Try.func20, Try.ntmps20
      go_wp2_with fail
      refine HE.out.mono ?_
      rintro e w' ⟨rfl, n, rfl⟩
      go_wp2_with fail
      go_ret
      exact ⟨rfl, HW.out.goN n⟩
  · rw [Itm.same_key hk]
    have hk' : ¬ (k1 : Int) = (k2 : Int) := by omega
    have hk2 : ((k1 : Int) == (k2 : Int)) = false := by rw [beq_eq_false_iff_ne]; omega
    go_enter Try.func20, Try.ntmps20
    go_wp2_with fail
    go_ret
    exact ⟨rfl, HW.out⟩
end Go.Proofs.Ytpliogkcfhcfpaa
