/- What the document's device answers to Write. Conditions: the device's blocks; the slice's cells hold the bytes. -/
import Derived.Test.YthjciddhghfcbaaDiskCall
import Derived.BigQuiet
import Derived.StillTailTactics
namespace Go.Proofs.Ythjciddhghfcbaa
open Go.RowKit

theorem new_drewN (w : World) (n : Nat) : Below w.heap.size w (w.drewN n) := below_drewN (Below.refl _ _) n

theorem new_drew (w : World) : Below w.heap.size w w.drew := ⟨rfl, rfl, rfl, Nat.le_refl _, fun _ _ => rfl⟩

theorem RDev.put {w : World} {B g1 g2 g3 : Nat} {d : Dk.Dev} (h : RDev w B g1 g2 g3 d) (m : Nat) (b : List Nat) (hb : Dk.Sec b) :
    RDev ((w.setCell ⟨g2, m, none⟩ (sv b)).setCell ⟨g3, m, none⟩ (.bool true)) B g1 g2 g3 (Dk.put d m b) ∧ Touch (RS B g1 g2 g3) w ((w.setCell ⟨g2, m, none⟩ (sv b)).setCell ⟨g3, m, none⟩ (.bool true)) := by
  have t1 : Touch (RS B g1 g2 g3) w (w.setCell ⟨g2, m, none⟩ (sv b)) := .set _ _ _ (Or.inr (Or.inr (Or.inl rfl)))
  have t2 : Touch (RS B g1 g2 g3) (w.setCell ⟨g2, m, none⟩ (sv b)) ((w.setCell ⟨g2, m, none⟩ (sv b)).setCell ⟨g3, m, none⟩ (.bool true)) := .set _ _ _ (Or.inr (Or.inr (Or.inr rfl)))
  have u1 : Touch (fun i => i = g2) w (w.setCell ⟨g2, m, none⟩ (sv b)) := .set _ _ _ rfl
  have u2 : Touch (fun i => i = g3) (w.setCell ⟨g2, m, none⟩ (sv b)) ((w.setCell ⟨g2, m, none⟩ (sv b)).setCell ⟨g3, m, none⟩ (.bool true)) := .set _ _ _ rfl
  have a1 := blk_map (i := m) h.waits (some b)
  have a2 := blk_map (i := m) (u1.row h.seen (fun e => h.n23 e.symm)) true
  refine ⟨⟨?_, ?_, ?_, ?_, h.b1, h.b2, h.b3, h.n12, h.n13, h.n23, Dk.ok_put h.ok m hb, h.arm, h.most, h.sz⟩, t1.trans t2⟩
  · exact u2.row (u1.row h.blk h.b2) h.b3
  · exact u2.row (u1.row h.lasts h.n12) h.n13
  · exact u2.row a1 h.n23
  · exact a2

set_option maxHeartbeats 800000 in
set_option maxRecDepth 20000 in
theorem refWrite_any (B g1 g2 g3 : Nat) (d : Dk.Dev) (a : Int) (v : Value) (b : List Nat) (w : World) (hR : RDev w B g1 g2 g3 d) (hB : Bts w v b) :
    Calls Try.prog 27 #[.pointer (some ⟨B, 0, none⟩), .int .i64 a, v] w fun e w' => e = .returned (.int .i64 ((Dk.write d a b).2 : Nat)) ∧ RDev w' B g1 g2 g3 (Dk.write d a b).1 ∧ Touch (RS B g1 g2 g3) w w' := by
  have HR := Lib.hid hR
  have HB := Lib.hid hB
  have hb := hR.blk
  have hz := hR.sz
  obtain ⟨p, cap, rfl, hbc, -, -⟩ := hB.form
  by_cases ho : d.off = true
  · have hg : Dk.write d a b = (d, 6) := if_pos ho
    rw [hg]
    have c5 := blk_cell hb 5 (v := .bool true) (by rw [← ho]; rfl)
    clear hg hb ho hR hB
    go_enter Try.func27, Try.ntmps27
    go_wp2
    go_ret
    exact ⟨rfl, HR.out, .refl _ _⟩
  have hof : d.off = false := by cases h : d.off <;> simp_all
  have c5 := blk_cell hb 5 (v := .bool false) (by rw [← hof]; rfl)
  have c2 := blk_cell hb 2 (v := .slice (some ⟨g3, 0, none⟩) (Dk.size d) (Dk.size d)) rfl
  by_cases hn : Dk.bad d a ∨ b.length ≠ 128
  · have hg : Dk.write d a b = (d, 2) := by unfold Dk.write; rw [if_neg ho, if_pos hn]
    rw [hg]
    by_cases ha : a < 0
    · clear hg hb ho hR hn hB
      generalize Dk.size d = n at *
      generalize b.length = bl at *
      go_enter Try.func27, Try.ntmps27
      go_wp2
      all_goals (go_ret; exact ⟨rfl, HR.out, .refl _ _⟩)
    · by_cases ha2 : (Dk.size d : Int) ≤ a
      · have ha0 : 0 ≤ a := by omega
        clear hg hb ho hR hn hB ha
        generalize Dk.size d = n at *
        generalize b.length = bl at *
        go_enter Try.func27, Try.ntmps27
        go_wp2
        all_goals (go_ret; exact ⟨rfl, HR.out, .refl _ _⟩)
      · have ha0 : 0 ≤ a := by omega
        have hl : b.length ≠ 128 := by
          rcases hn with (h | h) | h
          · exact absurd h ha
          · exact absurd h ha2
          · exact h
        clear hg hb ho hR hn hB ha
        have ha3 : a < (Dk.size d : Int) := by omega
        have hl3 : ((b.length : Int) != 128) = true := by
          rw [bne_iff_ne]
          omega
        generalize Dk.size d = n at *
        generalize b.length = bl at *
        go_enter Try.func27, Try.ntmps27
        go_wp2
        all_goals first | (go_ret; exact ⟨rfl, HR.out, .refl _ _⟩) | (exfalso; rename_i h; have h2 := h.2; rw [hl3] at h2; cases h2)
  · obtain ⟨m, rfl⟩ : ∃ m : Nat, a = m := ⟨a.toNat, by unfold Dk.bad at hn; omega⟩
    have hm : m < Dk.size d := by unfold Dk.bad at hn; omega
    have hl : b.length = 128 := by omega
    have hms : m < d.seen.length := by rw [hR.ok.s]; exact hm
    have c3 := blk_cell hb 3 (v := .int .i64 (d.most : Int)) rfl
    have c1 := blk_cell hb 1 (v := .slice (some ⟨g2, 0, none⟩) (Dk.size d) (Dk.size d)) rfl
    have e3' := blk_at hR.seen false hms
    have HU := Lib.hid fun k => refUsed_any B g1 g2 g3 d (w.drewN k) (hR.below (new_drewN _ _))
    have hub : Dk.used d ≤ 65536 := Nat.le_trans List.count_le_length (by rw [hR.ok.s]; exact hz)
    have hmb : d.most ≤ 65536 := Nat.le_trans hR.most hz
    rw [hl] at hbc HB hB ⊢
    by_cases hf : d.seen.getD m false = false ∧ d.most ≤ Dk.used d
    · have hg : Dk.write d m b = (d, 5) := by unfold Dk.write; rw [if_neg ho, if_neg hn, Int.toNat_natCast, if_pos hf]
      rw [hg]
      have e3 : w.cell? ⟨g3, m, none⟩ = some (.bool false) := by rw [e3', hf.1]
      have hmu : (d.most : Int) ≤ (Dk.used d : Int) := by omega
      clear hg hb ho hR hn hB hf e3'
      generalize Dk.size d = n at *
      generalize Dk.used d = u at *
      generalize d.most = mo at *
      go_enter Try.func27, Try.ntmps27
      go_wp2_with fail
      go_quiet ((go_at_call 15; exact Calls.quiet_of_same (HU.out _)))
      go_wp2
      go_ret
      exact ⟨rfl, HR.out.below (new_drewN _ _), .of_new (new_drewN _ _)⟩
    · have hg : Dk.write d m b = (Dk.goes (Dk.put d m b), if (Dk.goes (Dk.put d m b)).off then 6 else 0) := by unfold Dk.write; rw [if_neg ho, if_neg hn, Int.toNat_natCast, if_neg hf]
      rw [hg]
      obtain ⟨c, hc⟩ : ∃ c : Nat, (if (Dk.goes (Dk.put d m b)).off then 6 else 0) = c := ⟨_, rfl⟩
      rw [hc]
      have HC := Lib.hid hc
      clear hc
      have e3'' : w.cell? ⟨g3, m, none⟩ = some (.bool (d.seen.getD m false)) := e3'
      have hsec : Dk.Sec b := ⟨hl, hB.small⟩
      have HSC := Lib.hid hsec
      have hW := hR.ok.w
      have HMS := Lib.hid hms
      have HSB : ¬ 0 < (0 : Int) := by omega
      have key : ∀ w1, Touch (RS B g1 g2 g3) w w1 → RDev w1 B g1 g2 g3 d → Bts w1 (.slice p 128 cap) b → True := fun _ _ _ _ => trivial
      clear key HSB
      by_cases hs : d.seen.getD m false = true
      · have e3 : w.cell? ⟨g3, m, none⟩ = some (.bool true) := by rw [e3', hs]
        have hgd : (!true) = false := rfl
        clear hg hb ho hR hn hf e3' e3'' hs hW hsec HU
        have hmn : m < Dk.size d := hm
        generalize hn : Dk.size d = n at *
        go_enter Try.func27, Try.ntmps27
        go_wp2_with fail
        go_quiet (fail)
        have HR1 := Lib.hid (HR.out.below (new_drewN w nq))
        have HB1 := Lib.hid (hB.below (new_drewN w nq))
        have HT1 := Lib.hid (show Touch (RS B g1 g2 g3) w (w.drewN nq) from .of_new (new_drewN _ _))
        generalize w.drewN nq = w1 at HR1 HB1 HT1 ⊢
        clear c1 c2 c3 c5 e3 HB hB
        go_wp2_with fail
        have c1 := blk_cell HR1.out.blk 1 (v := .slice (some ⟨g2, 0, none⟩) n n) (by rw [← hn]; rfl)
        obtain ⟨S, hS⟩ : ∃ S, strOfNums (b.map fun x : Nat => (x : Int)) = S := ⟨_, rfl⟩
        have hconv := strOf_conv (HB1.out.below (new_drew w1))
        rw [hS] at hconv
        have hsv : sv b = .string S := congrArg Value.string hS
        have HS := Lib.hid hS
        have HSV := Lib.hid hsv
        clear hS hsv
        go_still_tail 8, (by kernel_rfl)
        clear c1 hconv
        have HR2 := Lib.hid (HR1.out.below (new_drew w1))
        have HT2 := Lib.hid (HT1.out.drew)
        change wpList _ _ _ _ _ w1.drew
        generalize w1.drew = w2 at HR2 HT2 ⊢
        have e2 := blk_at HR2.out.waits none (show m < d.waits.length by rw [HR2.out.ok.w, hn]; exact hm)
        have f2 := blk_free HR2.out.waits m
        have hP := HR2.out.put m b HSC.out
        rw [HSV.out] at hP
        have HP := Lib.hid hP
        have hu : Touch (fun i => i = g2) w2 (w2.setCell ⟨g2, m, none⟩ (.string S)) := .set _ _ _ rfl
        have hb2 := hu.row HR2.out.blk HR2.out.b2
        have hs2 := hu.row HR2.out.seen (fun e => HR2.out.n23 e.symm)
        have c2 := blk_cell hb2 2 (v := .slice (some ⟨g3, 0, none⟩) n n) (by rw [← hn]; rfl)
        have e3 := blk_at hs2 false HMS.out
        have f3 := blk_free hs2 m
        clear hP hu hb2 hs2 HR1 HB1 HT1
        go_wp2_with fail
        refine (refGoes_any B g1 g2 g3 (Dk.put d m b) _ HP.out.1).mono ?_
        rintro e w3 ⟨rfl, hR3, hg3⟩
        have HR3 := Lib.hid hR3
        have HT3 := Lib.hid ((HT2.out.trans HP.out.2).trans (.of_grown hg3 (Or.inl rfl)))
        clear hR3 hg3 HP e2 f2 c2 e3 f3
        cases ho2 : (Dk.goes (Dk.put d m b)).off
        · have hc0 : c = 0 := by rw [← HC.out, ho2]; rfl
          clear HC ho2
          subst hc0
          go_wp2_with fail
          go_ret
          exact ⟨rfl, HR3.out, HT3.out⟩
        · have hc0 : c = 6 := by rw [← HC.out, ho2]; rfl
          clear HC ho2
          subst hc0
          go_wp2_with fail
          go_ret
          exact ⟨rfl, HR3.out, HT3.out⟩
      · have hsf : d.seen.getD m false = false := by cases h : d.seen.getD m false <;> simp_all
        have e3 : w.cell? ⟨g3, m, none⟩ = some (.bool false) := by rw [e3', hsf]
        have hmu : (Dk.used d : Int) < (d.most : Int) := by
          have : ¬ d.most ≤ Dk.used d := fun h => hf ⟨hsf, h⟩
          omega
        clear hg hb ho hR hn hf e3' e3'' hs hW hsec hsf
        have hmn : m < Dk.size d := hm
        generalize hn : Dk.size d = n at *
        generalize hue : Dk.used d = u at *
        obtain ⟨mo, hmo⟩ : ∃ mo, d.most = mo := ⟨_, rfl⟩
        rw [hmo] at c3 hmu hmb
        go_enter Try.func27, Try.ntmps27
        go_wp2_with fail
        go_quiet ((go_at_call 15; exact Calls.quiet_of_same (HU.out _)))
        have HR1 := Lib.hid (HR.out.below (new_drewN w nq))
        have HB1 := Lib.hid (hB.below (new_drewN w nq))
        have HT1 := Lib.hid (show Touch (RS B g1 g2 g3) w (w.drewN nq) from .of_new (new_drewN _ _))
        generalize w.drewN nq = w1 at HR1 HB1 HT1 ⊢
        clear c1 c2 c3 c5 e3 HB hB HU
        go_wp2_with fail
        have c1 := blk_cell HR1.out.blk 1 (v := .slice (some ⟨g2, 0, none⟩) n n) (by rw [← hn]; rfl)
        obtain ⟨S, hS⟩ : ∃ S, strOfNums (b.map fun x : Nat => (x : Int)) = S := ⟨_, rfl⟩
        have hconv := strOf_conv (HB1.out.below (new_drew w1))
        rw [hS] at hconv
        have hsv : sv b = .string S := congrArg Value.string hS
        have HS := Lib.hid hS
        have HSV := Lib.hid hsv
        clear hS hsv
        go_still_tail 8, (by kernel_rfl)
        clear c1 hconv
        have HR2 := Lib.hid (HR1.out.below (new_drew w1))
        have HT2 := Lib.hid (HT1.out.drew)
        change wpList _ _ _ _ _ w1.drew
        generalize w1.drew = w2 at HR2 HT2 ⊢
        have e2 := blk_at HR2.out.waits none (show m < d.waits.length by rw [HR2.out.ok.w, hn]; exact hm)
        have f2 := blk_free HR2.out.waits m
        have hP := HR2.out.put m b HSC.out
        rw [HSV.out] at hP
        have HP := Lib.hid hP
        have hu : Touch (fun i => i = g2) w2 (w2.setCell ⟨g2, m, none⟩ (.string S)) := .set _ _ _ rfl
        have hb2 := hu.row HR2.out.blk HR2.out.b2
        have hs2 := hu.row HR2.out.seen (fun e => HR2.out.n23 e.symm)
        have c2 := blk_cell hb2 2 (v := .slice (some ⟨g3, 0, none⟩) n n) (by rw [← hn]; rfl)
        have e3 := blk_at hs2 false HMS.out
        have f3 := blk_free hs2 m
        clear hP hu hb2 hs2 HR1 HB1 HT1
        go_wp2_with fail
        refine (refGoes_any B g1 g2 g3 (Dk.put d m b) _ HP.out.1).mono ?_
        rintro e w3 ⟨rfl, hR3, hg3⟩
        have HR3 := Lib.hid hR3
        have HT3 := Lib.hid ((HT2.out.trans HP.out.2).trans (.of_grown hg3 (Or.inl rfl)))
        clear hR3 hg3 HP e2 f2 c2 e3 f3
        cases ho2 : (Dk.goes (Dk.put d m b)).off
        · have hc0 : c = 0 := by rw [← HC.out, ho2]; rfl
          clear HC ho2
          subst hc0
          go_wp2_with fail
          go_ret
          exact ⟨rfl, HR3.out, HT3.out⟩
        · have hc0 : c = 6 := by rw [← HC.out, ho2]; rfl
          clear HC ho2
          subst hc0
          go_wp2_with fail
          go_ret
          exact ⟨rfl, HR3.out, HT3.out⟩
end Go.Proofs.Ythjciddhghfcbaa
