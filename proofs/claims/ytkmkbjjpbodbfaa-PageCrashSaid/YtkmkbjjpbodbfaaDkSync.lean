/- What the program's device makes of a sync. Conditions: the device's blocks. -/
import Derived.Test.YtkmkbjjpbodbfaaDkMerge
import Derived.Test.YtkmkbjjpbodbfaaOrd
namespace Go.Proofs.Ytkmkbjjpbodbfaa
open Go.RowKit

/-- What waits is laid over what lasts: what the operations leave. -/
def Sy (B m1 m2 : Nat) (i : Nat) (x : Value) (_ : World) : Prop :=
  match i with
  | 0 => x = .pointer (some ⟨B, 0, none⟩)
  | 1 => x = .pointer (some ⟨B, 0, none⟩)
  | 2 => x = .pointer (some ⟨B, 2, none⟩)
  | 3 => x = .map (some m1)
  | 4 => x = .pointer (some ⟨B, 0, none⟩)
  | 5 => x = .pointer (some ⟨B, 0, none⟩)
  | 6 => x = .pointer (some ⟨B, 3, none⟩)
  | 7 => x = .map (some m2)
  | _ => True
def SyR (w1 : World) (m1 : Nat) (L : List (Option (List Nat))) (D : Nat → Bool) (_ : Nat → Value) (w : World) : Prop :=
  Touch (· = m1) w1 w ∧ (D 8 = false → Touch (fun _ => False) w1 w) ∧ (D 8 = true → MapAt w m1 L)

set_option maxHeartbeats 3200000 in
set_option maxRecDepth 20000 in
theorem sync_any {B m1 m2 : Nat} {d : Dk.Dev} {w : World} (h : PDev w B m1 m2 d) :
    Calls Try.prog 22 #[.pointer (some ⟨B, 0, none⟩)] w fun e w' => e = .returned (.int .i64 ((Dk.sync d).2 : Nat)) ∧ PDev w' B m1 m2 (Dk.sync d).1 ∧ Touch (DS B m1 m2) w w' := by
  have HH := Lib.hid h
  have hr := ready_any h
  by_cases ho : d.off = true
  · have hg : Dk.sync d = (d, 6) := if_pos ho
    rw [hg]
    rw [ho] at hr
    clear hg ho h
    go_enter Try.func22, Try.ntmps22
    go_wp2_with (go_at_call 39; refine hr.mono ?_; rintro e w' ⟨rfl, rfl⟩)
    go_ret
    exact ⟨rfl, HH.out, .refl _ _⟩
  have hof : d.off = false := by cases h : d.off <;> simp_all
  rw [hof] at hr
  have hop := operation_any h hof
  by_cases hg : (Dk.goes d).off = true
  · have e : Dk.sync d = (Dk.goes d, 6) := by unfold Dk.sync; rw [if_neg ho, if_pos hg]
    rw [e]
    rw [hg] at hop
    clear e hg ho hof h
    go_enter Try.func22, Try.ntmps22
    go_wp2_with (go_at_call 39; refine hr.mono ?_; rintro e w' ⟨rfl, rfl⟩)
    refine hop.mono ?_
    rintro e w1 ⟨rfl, hP, hT⟩
    have HP := Lib.hid hP
    have HT := Lib.hid (hT.mono (T := DS B m1 m2) fun _ _ h => Or.inl h)
    clear hP hT hop hr
    go_wp2_with fail
    go_ret
    exact ⟨rfl, HP.out, HT.out⟩
  · have hgf : (Dk.goes d).off = false := by cases h : (Dk.goes d).off <;> simp_all
    have e : Dk.sync d = (Dk.last (Dk.goes d), 0) := by unfold Dk.sync; rw [if_neg ho, if_neg hg]
    rw [e]
    rw [hgf] at hop
    clear e hg hgf ho hof h
    generalize Dk.goes d = d1 at *
    go_enter Try.func22, Try.ntmps22
    go_wp2_with (go_at_call 39; refine hr.mono ?_; rintro e w' ⟨rfl, rfl⟩)
    refine hop.mono ?_
    rintro e w1 ⟨rfl, hP, hT⟩
    have HP := Lib.hid hP
    have HT := Lib.hid (hT.mono (T := DS B m1 m2) fun _ _ h => Or.inl h)
    clear hP hT hop hr
    go_upto_region 7 with (fail)
    refine Ord.walk (Sy B m1 m2) (SyR w1 m1 (overL d1.waits (Dk.seenL d1))) (fun _ _ => True)
      (by kernel_rfl) (by kernel_rfl) ?fr ?hfr (fun _ _ _ _ _ h => h) ?hs ?he ?hend
    case hs => exact fun _ => ⟨(Touch.refl _ _).drew, fun _ => (Touch.refl _ _).drew, fun h => by cases h⟩
    case hfr =>
      intro xs
      simp only [Ord.fill, Act.put, List.setIfInBounds_toArray, List.set_cons_zero, List.set_cons_succ]
      rfl
    case he =>
      refine Ord.each_cons (fun D xs w2 hD hC hP hR hA K hK => ?_) ?_
      · -- 0
        clear hA
        go_simp
        exact hK _ _ ⟨_, rfl, trivial, hR, rfl⟩
      refine Ord.each_cons (fun D xs w2 hD hC hP hR hA K hK => ?_) ?_
      · -- 1
        have q0 := Ord.ahead_get _ hA 0 (by decide)
        simp only [Sy] at q0
        simp only [q0] at hK
        clear hA
        go_simp
        exact hK _ _ ⟨_, rfl, trivial, hR, rfl⟩
      refine Ord.each_cons (fun D xs w2 hD hC hP hR hA K hK => ?_) ?_
      · -- 2
        have q1 := Ord.ahead_get _ hA 1 (by decide)
        simp only [Sy] at q1
        simp only [q1] at hK
        clear hA
        go_simp
        exact hK _ _ ⟨_, rfl, trivial, hR, rfl⟩
      refine Ord.each_cons (fun D xs w2 hD hC hP hR hA K hK => ?_) ?_
      · -- 3
        have q2 := Ord.ahead_get _ hA 2 (by decide)
        simp only [Sy] at q2
        simp only [q2] at hK
        clear hA
        have c0 := hR.1.cell HP.out.c2 (fun e => HP.out.b1 e)
        go_simp
        exact hK _ _ ⟨_, rfl, trivial, hR, rfl⟩
      refine Ord.each_cons (fun D xs w2 hD hC hP hR hA K hK => ?_) ?_
      · -- 4
        clear hA
        go_simp
        exact hK _ _ ⟨_, rfl, trivial, hR, rfl⟩
      refine Ord.each_cons (fun D xs w2 hD hC hP hR hA K hK => ?_) ?_
      · -- 5
        have q4 := Ord.ahead_get _ hA 4 (by decide)
        simp only [Sy] at q4
        simp only [q4] at hK
        clear hA
        go_simp
        exact hK _ _ ⟨_, rfl, trivial, hR, rfl⟩
      refine Ord.each_cons (fun D xs w2 hD hC hP hR hA K hK => ?_) ?_
      · -- 6
        have q5 := Ord.ahead_get _ hA 5 (by decide)
        simp only [Sy] at q5
        simp only [q5] at hK
        clear hA
        go_simp
        exact hK _ _ ⟨_, rfl, trivial, hR, rfl⟩
      refine Ord.each_cons (fun D xs w2 hD hC hP hR hA K hK => ?_) ?_
      · -- 7
        have q6 := Ord.ahead_get _ hA 6 (by decide)
        simp only [Sy] at q6
        simp only [q6] at hK
        clear hA
        have c0 := hR.1.cell HP.out.c3 (fun e => HP.out.b1 e)
        go_simp
        exact hK _ _ ⟨_, rfl, trivial, hR, rfl⟩
      refine Ord.each_cons (fun D xs w2 hD hC hP hR hA K hK => ?_) ?_
      · -- 8
        have q3 := Ord.ahead_get _ hA 3 (by decide)
        simp only [Sy] at q3
        have q7 := Ord.ahead_get _ hA 7 (by decide)
        simp only [Sy] at q7
        simp only [q3, q7] at hK
        clear hA
        have hp := HP.out.keep (hR.2.1 hD) (fun _ _ h => h)
        go_simp
        refine (copy_maps m1 m2 _ _ w2 hp.lasts hp.waits hp.n12 (by rw [hp.own.ok.w, Dk.seenL_length hp.own.ok])).mono ?_
        rintro e w3 ⟨rfl, hm, ht⟩
        exact hK _ _ ⟨_, rfl, trivial, ⟨hR.1.trans ht, fun h => (by cases h), fun _ => hm⟩, trivial⟩
      exact Ord.each_nil
    case hend =>
      intro D xs w3 hR hF
      have hm3 := hR.2.2 (hF 8 (by decide)).1
      have HM := Lib.hid hm3
      have HB := Lib.hid (hR.1.row HP.out.blk (fun e => HP.out.b1 e))
      have HW := Lib.hid (HP.out.waits.touch hR.1 (fun e => HP.out.n12 e.symm))
      have HT3 := Lib.hid (HT.out.trans (hR.1.mono (T := DS B m1 m2) fun _ _ h => Or.inr (Or.inl h)))
      clear hm3 hR hF
      generalize xs 0 = z0
      generalize xs 1 = z1
      generalize xs 2 = z2
      generalize xs 3 = z3
      generalize xs 4 = z4
      generalize xs 5 = z5
      generalize xs 6 = z6
      generalize xs 7 = z7
      generalize xs 8 = z8
      have c3 := blk_cell (v := .map (some m2)) HB.out 3 rfl
      obtain ⟨w4, hrun, hm4, ht4⟩ := HW.out.clear_run
      have HFIN := Lib.hid (show PDev w4 B m1 m2 (Dk.last d1) from ⟨Dk.own_last HP.out.own, by rw [Dk.last_size2 HP.out.own.ok]; exact ht4.row HB.out (fun e => HP.out.b2 e), by rw [Dk.seenL_last HP.out.own]; exact HM.out.touch ht4 (fun e => HP.out.n12 e),
        by rw [HP.out.own.ok.w] at hm4; exact hm4, HP.out.b1, HP.out.b2, HP.out.n12⟩)
      have HT4 := Lib.hid (HT3.out.trans (ht4.mono (T := DS B m1 m2) fun _ _ h => Or.inr (Or.inr h)))
      clear hm4 ht4
      go_wp2_with fail
      go_ret
      exact ⟨rfl, HFIN.out, HT4.out⟩
end Go.Proofs.Ytkmkbjjpbodbfaa
