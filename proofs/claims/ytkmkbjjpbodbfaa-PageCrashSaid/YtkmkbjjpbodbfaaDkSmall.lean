/- The program's device: is it there, is it ready, has it such a sector, an operation; how many sectors, how many were written; armed. Conditions: the device's blocks. -/
import Derived.Test.YtkmkbjjpbodbfaaDkPD
namespace Go.Proofs.Ytkmkbjjpbodbfaa
open Go.RowKit

theorem none_any {B m1 m2 : Nat} {d : Dk.Dev} {w : World} (h : PDev w B m1 m2 d) : Calls Try.prog 42 #[.pointer (some ⟨B, 0, none⟩)] w fun e w' => e = .returned (.bool false) ∧ w' = w := by
  have h1 := h.own.one
  have c0 := h.c0
  have hz : ((Dk.size d : Int) == 0) = false := by rw [beq_eq_false_iff_ne]; omega
  generalize (Dk.size d : Int) = z at *
  clear h1 h
  go_enter Try.func42, Try.ntmps42
  go_wp2
  go_ret
  exact ⟨rfl, rfl⟩

theorem ready_any {B m1 m2 : Nat} {d : Dk.Dev} {w : World} (h : PDev w B m1 m2 d) : Calls Try.prog 39 #[.pointer (some ⟨B, 0, none⟩)] w fun e w' => e = .returned (.int .i64 (if d.off then 6 else 0)) ∧ w' = w := by
  have hn := none_any h
  have c5 := h.c5
  clear h
  go_enter Try.func39, Try.ntmps39
  cases ho : d.off
  · rw [ho] at c5
    clear ho
    go_wp2_with (go_at_call 42; refine hn.mono ?_; rintro e w' ⟨rfl, rfl⟩)
    go_ret
    exact ⟨rfl, rfl⟩
  · rw [ho] at c5
    clear ho
    go_wp2_with (go_at_call 42; refine hn.mono ?_; rintro e w' ⟨rfl, rfl⟩)
    go_ret
    exact ⟨rfl, rfl⟩

theorem has_any {B m1 m2 : Nat} {d : Dk.Dev} {w : World} (h : PDev w B m1 m2 d) (a : Int) : Calls Try.prog 52 #[.pointer (some ⟨B, 0, none⟩), .int .i64 a] w fun e w' => e = .returned (.bool (decide (¬ Dk.bad d a))) ∧ w' = w := by
  have c0 := h.c0
  clear h
  by_cases ha : 0 ≤ a
  · have e : decide (¬ Dk.bad d a) = decide (a < (Dk.size d : Int)) := by rw [decide_eq_decide]; unfold Dk.bad; omega
    rw [e]
    clear e
    generalize (Dk.size d : Int) = z at *
    go_enter Try.func52, Try.ntmps52
    go_wp2
    go_ret
    exact ⟨rfl, rfl⟩
  · have e : decide (¬ Dk.bad d a) = false := by rw [decide_eq_false_iff_not]; unfold Dk.bad; omega
    rw [e]
    clear e
    generalize (Dk.size d : Int) = z at *
    go_enter Try.func52, Try.ntmps52
    go_wp2
    go_ret
    exact ⟨rfl, rfl⟩

theorem sectors_any {B m1 m2 : Nat} {d : Dk.Dev} {w : World} (h : PDev w B m1 m2 d) : Calls Try.prog 51 #[.pointer (some ⟨B, 0, none⟩)] w fun e w' => e = .returned (.int .i64 (Dk.size d : Nat)) ∧ w' = w := by
  have hn := none_any h
  have c0 := h.c0
  clear h
  go_enter Try.func51, Try.ntmps51
  go_wp2_with (go_at_call 42; refine hn.mono ?_; rintro e w' ⟨rfl, rfl⟩)
  go_ret
  exact ⟨rfl, rfl⟩


set_option maxHeartbeats 800000 in
/-- An operation of a device whose power is on. -/
theorem operation_any {B m1 m2 : Nat} {d : Dk.Dev} {w : World} (h : PDev w B m1 m2 d) (ho : d.off = false) :
    Calls Try.prog 40 #[.pointer (some ⟨B, 0, none⟩)] w fun e w' => e = .returned (.int .i64 (if (Dk.goes d).off then 6 else 0)) ∧ PDev w' B m1 m2 (Dk.goes d) ∧ Touch (· = B) w w' := by
  have HH := Lib.hid h
  have hb := h.blk
  have harm := h.own.armed
  have c4' := h.c4
  have f4 := blk_free hb 4
  by_cases ha : 0 < d.armed
  · have hg : Dk.goes d = { d with armed := d.armed - 1, off := decide (d.armed - 1 = 0) } := if_pos ha
    rw [hg]
    obtain ⟨m, hm⟩ : ∃ m, d.armed = m + 1 := ⟨d.armed - 1, by omega⟩
    have hm2 : d.armed - 1 = m := by omega
    rw [hm2]
    obtain ⟨z, hz⟩ : ∃ z, decide (m = 0) = z := ⟨_, rfl⟩
    have hz2 : ((m : Int) == 0) = z := by rw [← hz, Bool.eq_iff_iff]; simp
    rw [hz]
    have s1 := blk_set (i := 4) hb (.int .i64 (m : Int))
    have d4 := blk_cell s1 4 (v := .int .i64 (m : Int)) rfl
    have f5 := blk_free s1 5
    have s2 := blk_set (i := 5) s1 (.bool z)
    have HG := Lib.hid ((Touch.set (S := (· = B)) (a := w) B 4 (.int .i64 (m : Int)) rfl).trans (.set B 5 (.bool z) rfl))
    have HT := Lib.hid (h.turn HG.out m z (by omega) s2)
    have hr := ready_any HT.out
    have hmi : (d.armed : Int) = (m : Int) + 1 := by omega
    have c4 : w.cell? ⟨B, 4, none⟩ = some (.int .i64 ((m : Int) + 1)) := by rw [← hmi]; exact c4'
    have hml : m ≤ 1073741824 := by omega
    have hne : ((m : Int) + 1 == 0) = false := by rw [beq_eq_false_iff_ne]; omega
    have e5 := blk_cell s1 5 (v := .bool d.off) rfl
    clear hg hm hm2 hb s1 s2 hmi ha harm hz c4' h
    cases z
    all_goals
      go_enter Try.func40, Try.ntmps40
      go_wp2_with fail
      refine hr.mono ?_
      rintro e w' ⟨rfl, rfl⟩
      go_wp2
      go_ret
      exact ⟨rfl, HT.out, HG.out⟩
  · have hg : Dk.goes d = d := if_neg ha
    rw [hg, ho]
    have c4 : w.cell? ⟨B, 4, none⟩ = some (.int .i64 0) := by rw [show (0 : Int) = (d.armed : Int) by omega]; exact c4'
    clear hg hb harm ha c4' h
    go_enter Try.func40, Try.ntmps40
    go_wp2
    go_ret
    exact ⟨rfl, HH.out, .refl _ _⟩

theorem code_of {x y : Int} (h : x = y) : Ending.returned (.int .i64 x) = .returned (.int .i64 y) := by rw [h]

theorem arm_any {B m1 m2 : Nat} {d : Dk.Dev} {w : World} (h : PDev w B m1 m2 d) (n : Int) :
    Calls Try.prog 21 #[.pointer (some ⟨B, 0, none⟩), .int .i64 n] w fun e w' => e = .returned (.int .i64 ((Dk.arm d n).2 : Nat)) ∧ PDev w' B m1 m2 (Dk.arm d n).1 ∧ Touch (DS B m1 m2) w w' := by
  have HH := Lib.hid h
  have hr := ready_any h
  have hb := h.blk
  have f4 := blk_free hb 4
  have c4 := h.c4
  by_cases ho : d.off = true
  · have hg : Dk.arm d n = (d, 6) := if_pos ho
    rw [hg]
    rw [ho] at hr
    clear hg hb ho h f4 c4
    go_enter Try.func21, Try.ntmps21
    go_wp2_with (go_at_call 39; refine hr.mono ?_; rintro e w' ⟨rfl, rfl⟩)
    go_ret
    exact ⟨rfl, HH.out, .refl _ _⟩
  have hof : d.off = false := by cases h : d.off <;> simp_all
  rw [hof] at hr
  by_cases hn : n < 0 ∨ 1073741824 < n
  · have hg : Dk.arm d n = (d, 2) := by unfold Dk.arm; rw [if_neg ho, if_pos hn]
    rw [hg]
    rcases hn with hn | hn
    · clear hg hb ho hof h f4 c4
      go_enter Try.func21, Try.ntmps21
      go_wp2_with (go_at_call 39; refine hr.mono ?_; rintro e w' ⟨rfl, rfl⟩)
      go_ret
      exact ⟨rfl, HH.out, .refl _ _⟩
    · have hn0 : 0 ≤ n := by omega
      clear hg hb ho hof h f4 c4
      go_enter Try.func21, Try.ntmps21
      go_wp2_with (go_at_call 39; refine hr.mono ?_; rintro e w' ⟨rfl, rfl⟩)
      go_ret
      exact ⟨rfl, HH.out, .refl _ _⟩
  · have hg : Dk.arm d n = ({ d with armed := n.toNat }, 0) := by unfold Dk.arm; rw [if_neg ho, if_neg hn]
    rw [hg]
    obtain ⟨m, rfl⟩ : ∃ m : Nat, n = m := ⟨n.toNat, by omega⟩
    have hm : m ≤ 1073741824 := by omega
    rw [Int.toNat_natCast]
    have hG := Touch.set (S := (· = B)) (a := w) B 4 (.int .i64 (m : Int)) rfl
    have HT := Lib.hid (h.turn hG m d.off hm (blk_set (i := 4) hb (.int .i64 (m : Int))))
    have HG := Lib.hid (hG.mono (T := DS B m1 m2) fun i _ hi => Or.inl hi)
    clear hg hb ho hof h hG hn
    go_enter Try.func21, Try.ntmps21
    go_wp2_with (go_at_call 39; refine hr.mono ?_; rintro e w' ⟨rfl, rfl⟩)
    go_ret
    exact ⟨rfl, HT.out, HG.out⟩
end Go.Proofs.Ytkmkbjjpbodbfaa
