/- What the document's device answers to Arm, Used, Read. Conditions: the device's blocks. -/
import Derived.Test.YthjciddhghfcbaaDiskRef
import Derived.OwnWalk
namespace Go.Proofs.Ythjciddhghfcbaa
open Go.RowKit

theorem count_next (l : List Bool) (k : Nat) (h : k < l.length) (b : Bool) (hb : l.getD k false = b) : (l.take (k + 1)).count true = (l.take k).count true + (if b then 1 else 0) := by
  rw [List.take_succ_eq_append_getElem h, List.count_append]
  rw [List.getD_eq_getElem?_getD, List.getElem?_eq_getElem h, Option.getD_some] at hb
  subst hb
  cases l[k] <;> simp

theorem refArm_any (B g1 g2 g3 : Nat) (d : Dk.Dev) (n : Int) (w : World) (hR : RDev w B g1 g2 g3 d) :
    Calls Try.prog 30 #[.pointer (some ⟨B, 0, none⟩), .int .i64 n] w fun e w' => e = .returned (.int .i64 ((Dk.arm d n).2 : Nat)) ∧ RDev w' B g1 g2 g3 (Dk.arm d n).1 ∧ Touch (RS B g1 g2 g3) w w' := by
  have HR := Lib.hid hR
  have hb := hR.blk
  have f4 := blk_free hb 4
  have c4 := blk_cell hb 4 (v := .int .i64 (d.armed : Int)) rfl
  by_cases ho : d.off = true
  · have hg : Dk.arm d n = (d, 6) := if_pos ho
    rw [hg]
    have c5 := blk_cell hb 5 (v := .bool true) (by rw [← ho]; rfl)
    clear hg hb ho hR f4 c4
    go_enter Try.func30, Try.ntmps30
    go_wp2
    go_ret
    exact ⟨rfl, HR.out, .refl _ _⟩
  have hof : d.off = false := by cases h : d.off <;> simp_all
  have c5 := blk_cell hb 5 (v := .bool false) (by rw [← hof]; rfl)
  by_cases hn : n < 0 ∨ 1073741824 < n
  · have hg : Dk.arm d n = (d, 2) := by unfold Dk.arm; rw [if_neg ho, if_pos hn]
    rw [hg]
    rcases hn with hn | hn
    · clear hg hb ho hR
      go_enter Try.func30, Try.ntmps30
      go_wp2
      go_ret
      exact ⟨rfl, HR.out, .refl _ _⟩
    · have hn0 : 0 ≤ n := by omega
      clear hg hb ho hR f4 c4
      go_enter Try.func30, Try.ntmps30
      go_wp2
      go_ret
      exact ⟨rfl, HR.out, .refl _ _⟩
  · have hg : Dk.arm d n = ({ d with armed := n.toNat }, 0) := by unfold Dk.arm; rw [if_neg ho, if_neg hn]
    rw [hg]
    obtain ⟨m, rfl⟩ : ∃ m : Nat, n = m := ⟨n.toNat, by omega⟩
    have hm : m ≤ 1073741824 := by omega
    rw [Int.toNat_natCast]
    have hG := grownBy_setCell w B 4 (.int .i64 (m : Int))
    have HT := Lib.hid (hR.turn hG m d.off hm (blk_set (i := 4) hb (.int .i64 (m : Int))))
    have HG := Lib.hid (show Touch (RS B g1 g2 g3) w (w.setCell ⟨B, 4, none⟩ (.int .i64 (m : Int))) from .of_grown hG (Or.inl rfl))
    clear hg hb ho hR hG hn
    go_enter Try.func30, Try.ntmps30
    go_wp2_with fail
    go_ret
    exact ⟨rfl, HT.out, HG.out⟩

theorem refUsed_any (B g1 g2 g3 : Nat) (d : Dk.Dev) (w : World) (hR : RDev w B g1 g2 g3 d) :
    Calls Try.prog 15 #[.pointer (some ⟨B, 0, none⟩)] w fun e w' => e = .returned (.int .i64 (Dk.used d : Nat)) ∧ w' = w := by
  have c2 := blk_cell hR.blk 2 (v := .slice (some ⟨g3, 0, none⟩) (Dk.size d) (Dk.size d)) rfl
  have HS := Lib.hid hR.seen
  have hl := hR.ok.s
  have hn := hR.sz
  unfold Dk.used
  generalize d.seen = s at *
  rw [← hl] at c2 hn
  clear hR hl
  go_enter Try.func15, Try.ntmps15
  go_wp2
  go_loop [3, 4] (fun c i => ∃ k : Nat, k ≤ s.length ∧ i = .int .i64 k ∧ c = .int .i64 ((s.take k).count true : Nat)) (fun _ i => s.length - (intOf i).toNat)
  case atStart => exact ⟨0, Nat.zero_le _, rfl, rfl⟩
  case round =>
    obtain ⟨k, hk, rfl, rfl⟩ := hrel
    have hcb : (s.take k).count true ≤ k := Nat.le_trans List.count_le_length (by rw [List.length_take]; omega)
    by_cases hlt : k < s.length
    · have hcell := blk_at HS.out false hlt
      obtain ⟨b, hb⟩ : ∃ b, s.getD k false = b := ⟨_, rfl⟩
      have hcn := Lib.hid (count_next s k hlt b hb)
      rw [hb] at hcell
      have HB := Lib.hid hb
      clear hb
      generalize (s.take k).count true = c at *
      cases b
      · go_wp2
        go_round
        case rel => exact ⟨k + 1, by omega, by go_num, by rw [hcn.out]; rfl⟩
        case measure => simp [intOf]; omega
      · go_wp2
        go_round
        case rel => exact ⟨k + 1, by omega, by go_num, by rw [hcn.out]; go_num⟩
        case measure => simp [intOf]; omega
    · obtain rfl : k = s.length := by omega
      rw [List.take_length]
      rw [List.take_length] at hcb
      go_wp2
      go_ret
      exact ⟨rfl, rfl⟩

theorem empty_str (l : List Nat) (h : 0 < l.length) : (strOfNums (l.map fun x : Nat => (x : Int))).toList.isEmpty = false := by
  rw [ByteArray.toList_eq]
  cases l with
  | nil => simp at h
  | cons x l => rfl

theorem refRead_any (B g1 g2 g3 : Nat) (d : Dk.Dev) (a : Int) (w : World) (hR : RDev w B g1 g2 g3 d) :
    Calls Try.prog 28 #[.pointer (some ⟨B, 0, none⟩), .int .i64 a] w fun e w' => e = .returned (.tuple #[sv (Dk.read d a).1, .int .i64 ((Dk.read d a).2 : Nat)]) ∧ w' = w := by
  have hb := hR.blk
  have hz := hR.sz
  by_cases ho : d.off = true
  · have hg : Dk.read d a = ([], 6) := if_pos ho
    rw [hg]
    have c5 := blk_cell hb 5 (v := .bool true) (by rw [← ho]; rfl)
    clear hg hb ho hR
    go_enter Try.func28, Try.ntmps28
    go_wp2
    go_ret2
    exact ⟨rfl, rfl⟩
  have hof : d.off = false := by cases h : d.off <;> simp_all
  have c5 := blk_cell hb 5 (v := .bool false) (by rw [← hof]; rfl)
  have c2 := blk_cell hb 2 (v := .slice (some ⟨g3, 0, none⟩) (Dk.size d) (Dk.size d)) rfl
  by_cases hn : Dk.bad d a
  · have hg : Dk.read d a = ([], 2) := by unfold Dk.read; rw [if_neg ho, if_pos hn]
    rw [hg]
    by_cases ha : a < 0
    · clear hg hb ho hR hn
      go_enter Try.func28, Try.ntmps28
      go_wp2
      go_ret2
      exact ⟨rfl, rfl⟩
    · have ha2 : (Dk.size d : Int) ≤ a := by rcases hn with h | h; exact absurd h ha; exact h
      have ha0 : 0 ≤ a := by omega
      clear hg hb ho hR hn
      generalize Dk.size d = n at *
      go_enter Try.func28, Try.ntmps28
      go_wp2
      go_ret2
      exact ⟨rfl, rfl⟩
  · have hg : Dk.read d a = ((d.waits.getD a.toNat none).getD (d.lasts.getD a.toNat []), 0) := by unfold Dk.read; rw [if_neg ho, if_neg hn]
    rw [hg]
    obtain ⟨m, rfl⟩ : ∃ m : Nat, a = m := ⟨a.toNat, by unfold Dk.bad at hn; omega⟩
    have hm : m < Dk.size d := by unfold Dk.bad at hn; omega
    rw [Int.toNat_natCast]
    have c0 := blk_cell hb 0 (v := .slice (some ⟨g1, 0, none⟩) (Dk.size d) (Dk.size d)) rfl
    have c1 := blk_cell hb 1 (v := .slice (some ⟨g2, 0, none⟩) (Dk.size d) (Dk.size d)) rfl
    have e1 := blk_at hR.lasts [] hm
    have e2' := blk_at hR.waits none (show m < d.waits.length by rw [hR.ok.w]; exact hm)
    have hw1 := hR.ok.w1
    have hwm : ∀ b, d.waits.getD m none = some b → some b ∈ d.waits := fun b hb => by
      have hl : m < d.waits.length := by rw [hR.ok.w]; exact hm
      rw [List.getD_eq_getElem?_getD, List.getElem?_eq_getElem hl, Option.getD_some] at hb
      rw [← hb]; exact List.getElem_mem _
    generalize d.lasts.getD m [] = L at *
    clear hg hb ho hR hn
    generalize Dk.size d = n at *
    cases hW : d.waits.getD m none with
    | none =>
      have e2 : w.cell? ⟨g2, m, none⟩ = some (.string { data := #[] }) := by rw [e2', hW]; rfl
      rw [Option.getD_none]
      clear e2' hw1 hwm hW
      unfold sv at *
      generalize strOfNums (L.map fun x : Nat => (x : Int)) = S at *
      go_enter Try.func28, Try.ntmps28
      go_wp2
      go_ret2
      exact ⟨rfl, rfl⟩
    | some b =>
      have hS := empty_str b (by have := (hw1 b (hwm b hW)).1; omega)
      have e2 : w.cell? ⟨g2, m, none⟩ = some (sv b) := by rw [e2', hW]; rfl
      rw [Option.getD_some]
      clear e2' hw1 hwm hW e1
      unfold sv at *
      generalize strOfNums (b.map fun x : Nat => (x : Int)) = S at *
      go_enter Try.func28, Try.ntmps28
      go_wp2
      go_ret2
      exact ⟨rfl, rfl⟩
end Go.Proofs.Ythjciddhghfcbaa
