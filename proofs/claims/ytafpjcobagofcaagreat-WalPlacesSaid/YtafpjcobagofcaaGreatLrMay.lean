/- Whether a record may be, by the program. Conditions: the value reads as a record; few of each. -/
import Derived.Test.YtafpjcobagofcaaGreatLrBare
import Derived.Test.YtafpjcobagofcaaGreatLrSame
import Derived.Test.YtafpjcobagofcaaGreatRecM
namespace Go.Proofs.YtafpjcobagofcaaGreat
open Go.RowKit

/-- A value that reads as a record. -/
def RecIs (w : World) (v : Value) (x : Lr.R) : Prop := ∃ o n u c d, v = RecV x o n u c d ∧ RecAt w x o n u c d
theorem RecIs.below {w w' : World} {v : Value} {x : Lr.R} (h : RecIs w v x) (hb : Below w.heap.size w w') : RecIs w' v x := by
  obtain ⟨o, n, u, c, d, e, h⟩ := h
  exact ⟨o, n, u, c, d, e, h.below hb⟩
namespace Lr
noncomputable def may (x : R) : Bool := within x && same x (bare x)
theorem may_iff (x : R) : may x = true ↔ May x := by
  unfold may May
  rw [Bool.and_eq_true, within_iff]
  constructor
  · rintro ⟨a, b⟩; exact ⟨a, same_of b⟩
  · rintro ⟨a, b⟩; exact ⟨a, same_true b⟩
theorem may_true {x : R} (h : May x) : may x = true := (may_iff x).2 h
theorem may_false {x : R} (h : ¬ May x) : may x = false := by
  cases hm : may x
  · rfl
  · exact absurd ((may_iff x).1 hm) h
end Lr
def MtF (xv : Value) (b : Bool) (i : Nat) (v : Value) (_ : World) : Prop :=
  match i with
  | 0 => v = xv
  | 1 => v = .bool true
  | 2 => v = .bool true
  | 3 => v = xv
  | 4 => v = xv
  | 6 => v = .bool b
  | 7 => v = .bool b
  | 8 => v = .bool b
  | _ => True
def MtP (x : Lr.R) (i : Nat) (w : World) (v : Value) : Prop :=
  match i with
  | 5 => RecIs w v (Lr.bare x)
  | _ => True
def MtT (i : Nat) : Option Nat :=
  match i with
  | _ => none
theorem MtS (x : Lr.R) : ∀ k w w' v, MtP x k w v → Below w.heap.size w w' → MtP x k w' v := by
  intro k w w' v h hb
  unfold MtP at *
  split
  · exact h.below hb
  · trivial
def MfF (xv : Value) (i : Nat) (v : Value) (_ : World) : Prop :=
  match i with
  | 0 => v = xv
  | 1 => v = .bool false
  | 2 => v = .bool false
  | 7 => v = .bool false
  | 8 => v = .bool false
  | _ => True
def MfP  (i : Nat) (_w : World) (_v : Value) : Prop :=
  match i with
  | _ => True
def MfT (i : Nat) : Option Nat :=
  match i with
  | _ => none
theorem MfS  : ∀ k w w' v, MfP  k w v → Below w.heap.size w w' → MfP  k w' v := by
  intro k w w' v _ _
  unfold MfP
  split
  · trivial
set_option maxHeartbeats 6400000 in
set_option maxRecDepth 20000 in
theorem may_any (x : Lr.R) (o n u c d : Value) (w : World) (h : RecAt w x o n u c d) (hf : Lr.Few x) :
    Calls Tryz.prog 46 #[RecV x o n u c d] w fun e w' => e = .returned (.bool (Lr.may x)) ∧ Below w.heap.size w w' := by
  obtain ⟨W, hW⟩ : ∃ W, W = w.alloc (robj x o n u c d) := ⟨_, rfl⟩
  have hb := below_new1 w (robj x o n u c d)
  have hr := rblk w x o n u c d
  rw [← hW] at hb hr
  have HB := Lib.hid hb
  have HA := Lib.hid (h.below hb)
  have HS : Hid (w.heap.size < W.heap.size) := lt_of_block hr
  obtain ⟨p1, c1, p2, c2, p3, c3, p4, c4, p5, c5, rfl, rfl, rfl, rfl, rfl⟩ := rec_slices h
  have HROW := Lib.hid hr
  have HF := Lib.hid hf
  clear h hb hr hf
  unfold robj at hW
  obtain ⟨bw, hbw⟩ : ∃ bw, Lr.within x = bw := ⟨_, rfl⟩
  have HWI := Lib.hid hbw
  have hm : Lr.may x = (bw && Lr.same x (Lr.bare x)) := by unfold Lr.may; rw [hbw]
  rw [hm]
  clear hm hbw
  cases bw
  · rw [Bool.false_and]
    go_enter Tryz.func46, Tryz.ntmps46
    go_upto_region 1 with (fail)
    rw [← hW]
    clear hW
    refine Ord.walk (MfF (RecV x (.slice p1 x.old.length c1) (.slice p2 x.new.length c2) (.slice p3 x.undo.length c3) (.slice p4 x.opn.length c4) (.slice p5 x.dirt.length c5))) (KeptR W.heap.size W (MfP ) MfT) (fun _ _ => True)
      (by kernel_rfl) (by kernel_rfl) ?frf ?hfrf (fun _ _ _ _ _ h => h) (fun xs => KeptR.first xs (Nat.le_refl _)) ?hef ?hendf
    case hfrf =>
      intro xs
      simp only [Ord.fill, Act.put, List.setIfInBounds_toArray, List.set_cons_zero, List.set_cons_succ]
      rfl
    case hef =>
      refine Ord.each_cons (fun D xs w2 hD hC hP hR hA K hK => ?_) ?_
      · -- 0
        clear hA
        have hrow := (hR.below.block _ HS.out).trans HROW.out
        obtain ⟨e0, e1, e2, e3, e4, e5, e6, e7, e8, e9, e10, e11, e12, e13, e14⟩ := rec_cell hrow
        clear hrow
        go_simp
        exact hK _ _ ⟨_, rfl, trivial, hR.step 0 _ (MfS ) (Below.refl _ _) trivial, rfl⟩
      refine Ord.each_cons (fun D xs w2 hD hC hP hR hA K hK => ?_) ?_
      · -- 1
        have q0 := Ord.ahead_get _ hA 0 (by decide)
        simp only [MfF] at q0
        simp only [q0] at hK
        clear hA
        go_simp
        refine (within_any x _ _ _ _ _ w2 (HA.out.below hR.below)).mono ?_
        rintro e w' ⟨rfl, hb⟩
        rw [HWI.out]
        exact hK _ _ ⟨_, rfl, trivial, hR.step 1 _ (MfS ) hb trivial, rfl⟩
      refine Ord.each_cons (fun D xs w2 hD hC hP hR hA K hK => ?_) ?_
      · -- 2
        have q1 := Ord.ahead_get _ hA 1 (by decide)
        simp only [MfF] at q1
        simp only [q1] at hK
        clear hA
        go_simp
        exact hK _ _ ⟨_, rfl, trivial, hR.step 2 _ (MfS ) (Below.refl _ _) trivial, rfl⟩
      refine Ord.each_cons (fun D xs w2 hD hC hP hR hA K hK => ?_) ?_
      · -- 3
        have q2 := Ord.ahead_get _ hA 2 (by decide)
        simp only [MfF] at q2
        simp only [q2] at hK
        clear hA
        go_simp
        exact hK _ _ ⟨undef, rfl, trivial, hR.step 3 _ (MfS ) (Below.refl _ _) trivial, trivial⟩
      refine Ord.each_cons (fun D xs w2 hD hC hP hR hA K hK => ?_) ?_
      · -- 4
        have q2 := Ord.ahead_get _ hA 2 (by decide)
        simp only [MfF] at q2
        simp only [q2] at hK
        clear hA
        go_simp
        exact hK _ _ ⟨undef, rfl, trivial, hR.step 4 _ (MfS ) (Below.refl _ _) trivial, trivial⟩
      refine Ord.each_cons (fun D xs w2 hD hC hP hR hA K hK => ?_) ?_
      · -- 5
        have q2 := Ord.ahead_get _ hA 2 (by decide)
        simp only [MfF] at q2
        simp only [q2] at hK
        clear hA
        go_simp
        exact hK _ _ ⟨undef, rfl, trivial, hR.step 5 _ (MfS ) (Below.refl _ _) trivial, trivial⟩
      refine Ord.each_cons (fun D xs w2 hD hC hP hR hA K hK => ?_) ?_
      · -- 6
        have q2 := Ord.ahead_get _ hA 2 (by decide)
        simp only [MfF] at q2
        simp only [q2] at hK
        clear hA
        go_simp
        exact hK _ _ ⟨undef, rfl, trivial, hR.step 6 _ (MfS ) (Below.refl _ _) trivial, trivial⟩
      refine Ord.each_cons (fun D xs w2 hD hC hP hR hA K hK => ?_) ?_
      · -- 7
        have q2 := Ord.ahead_get _ hA 2 (by decide)
        simp only [MfF] at q2
        simp only [q2] at hK
        clear hA
        go_simp
        exact hK _ _ ⟨_, rfl, trivial, hR.step 7 _ (MfS ) (Below.refl _ _) trivial, rfl⟩
      refine Ord.each_cons (fun D xs w2 hD hC hP hR hA K hK => ?_) ?_
      · -- 8
        have q7 := Ord.ahead_get _ hA 7 (by decide)
        simp only [MfF] at q7
        simp only [q7] at hK
        clear hA
        go_simp
        exact hK _ _ ⟨_, rfl, trivial, hR.step 8 _ (MfS ) (Below.refl _ _) trivial, rfl⟩
      exact Ord.each_nil
    case hendf =>
      intro D xs w9 hR hall
      have h8 := (hall 8 (by decide)).2
      simp only [MfF] at h8
      have HB9 := Lib.hid hR.below
      clear hR hall
      simp only [h8]
      clear h8
      generalize xs 7 = z7 at *
      generalize xs 6 = z6 at *
      generalize xs 5 = z5 at *
      generalize xs 4 = z4 at *
      generalize xs 3 = z3 at *
      generalize xs 2 = z2 at *
      generalize xs 1 = z1 at *
      generalize xs 0 = z0 at *
      go_wp2_with fail
      go_ret
      exact ⟨rfl, HB.out.trans (HB9.out.mono HB.out.size)⟩
  · rw [Bool.true_and]
    go_enter Tryz.func46, Tryz.ntmps46
    go_upto_region 1 with (fail)
    rw [← hW]
    clear hW
    refine Ord.walk (MtF (RecV x (.slice p1 x.old.length c1) (.slice p2 x.new.length c2) (.slice p3 x.undo.length c3) (.slice p4 x.opn.length c4) (.slice p5 x.dirt.length c5)) (Lr.same x (Lr.bare x))) (KeptR W.heap.size W (MtP x) MtT) (fun _ _ => True)
      (by kernel_rfl) (by kernel_rfl) ?frt ?hfrt (fun _ _ _ _ _ h => h) (fun xs => KeptR.first xs (Nat.le_refl _)) ?het ?hendt
    case hfrt =>
      intro xs
      simp only [Ord.fill, Act.put, List.setIfInBounds_toArray, List.set_cons_zero, List.set_cons_succ]
      rfl
    case het =>
      refine Ord.each_cons (fun D xs w2 hD hC hP hR hA K hK => ?_) ?_
      · -- 0
        clear hA
        have hrow := (hR.below.block _ HS.out).trans HROW.out
        obtain ⟨e0, e1, e2, e3, e4, e5, e6, e7, e8, e9, e10, e11, e12, e13, e14⟩ := rec_cell hrow
        clear hrow
        go_simp
        exact hK _ _ ⟨_, rfl, trivial, hR.step 0 _ (MtS x) (Below.refl _ _) trivial, rfl⟩
      refine Ord.each_cons (fun D xs w2 hD hC hP hR hA K hK => ?_) ?_
      · -- 1
        have q0 := Ord.ahead_get _ hA 0 (by decide)
        simp only [MtF] at q0
        simp only [q0] at hK
        clear hA
        go_simp
        refine (within_any x _ _ _ _ _ w2 (HA.out.below hR.below)).mono ?_
        rintro e w' ⟨rfl, hb⟩
        rw [HWI.out]
        exact hK _ _ ⟨_, rfl, trivial, hR.step 1 _ (MtS x) hb trivial, rfl⟩
      refine Ord.each_cons (fun D xs w2 hD hC hP hR hA K hK => ?_) ?_
      · -- 2
        have q1 := Ord.ahead_get _ hA 1 (by decide)
        simp only [MtF] at q1
        simp only [q1] at hK
        clear hA
        go_simp
        exact hK _ _ ⟨_, rfl, trivial, hR.step 2 _ (MtS x) (Below.refl _ _) trivial, rfl⟩
      refine Ord.each_cons (fun D xs w2 hD hC hP hR hA K hK => ?_) ?_
      · -- 3
        have q2 := Ord.ahead_get _ hA 2 (by decide)
        simp only [MtF] at q2
        simp only [q2] at hK
        clear hA
        have hrow := (hR.below.block _ HS.out).trans HROW.out
        obtain ⟨e0, e1, e2, e3, e4, e5, e6, e7, e8, e9, e10, e11, e12, e13, e14⟩ := rec_cell hrow
        clear hrow
        go_simp
        exact hK _ _ ⟨_, rfl, trivial, hR.step 3 _ (MtS x) (Below.refl _ _) trivial, rfl⟩
      refine Ord.each_cons (fun D xs w2 hD hC hP hR hA K hK => ?_) ?_
      · -- 4
        have q2 := Ord.ahead_get _ hA 2 (by decide)
        simp only [MtF] at q2
        simp only [q2] at hK
        clear hA
        have hrow := (hR.below.block _ HS.out).trans HROW.out
        obtain ⟨e0, e1, e2, e3, e4, e5, e6, e7, e8, e9, e10, e11, e12, e13, e14⟩ := rec_cell hrow
        clear hrow
        go_simp
        exact hK _ _ ⟨_, rfl, trivial, hR.step 4 _ (MtS x) (Below.refl _ _) trivial, rfl⟩
      refine Ord.each_cons (fun D xs w2 hD hC hP hR hA K hK => ?_) ?_
      · -- 5
        have q2 := Ord.ahead_get _ hA 2 (by decide)
        simp only [MtF] at q2
        have q4 := Ord.ahead_get _ hA 4 (by decide)
        simp only [MtF] at q4
        simp only [q2, q4] at hK
        clear hA
        go_simp
        refine (bare_any x _ _ _ _ _ w2 (HA.out.below hR.below)).mono ?_
        rintro e w' ⟨o', n', u', c', d', rfl, hO, hb⟩
        exact hK _ _ ⟨_, rfl, trivial, hR.step 5 _ (MtS x) hb ⟨o', n', u', c', d', rfl, hO⟩, trivial⟩
      refine Ord.each_cons (fun D xs w2 hD hC hP hR hA K hK => ?_) ?_
      · -- 6
        have q2 := Ord.ahead_get _ hA 2 (by decide)
        simp only [MtF] at q2
        have q3 := Ord.ahead_get _ hA 3 (by decide)
        simp only [MtF] at q3
        simp only [q2, q3] at hK
        clear hA
        have o5 : RecIs w2 (xs 5) (Lr.bare x) := hR.each 5 (hP { on := 5, ground := .data } (by simp) rfl) (fun i hi => by cases hi)
        obtain ⟨o', n', u', c', d', ev, hO⟩ := o5
        have q5 := ev
        simp only [q5] at hK
        go_simp
        refine (same_any x (Lr.bare x) _ _ _ _ _ o' n' u' c' d' w2 (HA.out.below hR.below) hO ⟨Nat.le_trans HF.out.opn (by decide), Nat.le_trans HF.out.dirt (by decide)⟩).mono ?_
        rintro e w' ⟨rfl, hb⟩
        exact hK _ _ ⟨_, rfl, trivial, hR.step 6 _ (MtS x) hb trivial, rfl⟩
      refine Ord.each_cons (fun D xs w2 hD hC hP hR hA K hK => ?_) ?_
      · -- 7
        have q2 := Ord.ahead_get _ hA 2 (by decide)
        simp only [MtF] at q2
        have q6 := Ord.ahead_get _ hA 6 (by decide)
        simp only [MtF] at q6
        simp only [q2, q6] at hK
        clear hA
        go_simp
        exact hK _ _ ⟨_, rfl, trivial, hR.step 7 _ (MtS x) (Below.refl _ _) trivial, rfl⟩
      refine Ord.each_cons (fun D xs w2 hD hC hP hR hA K hK => ?_) ?_
      · -- 8
        have q7 := Ord.ahead_get _ hA 7 (by decide)
        simp only [MtF] at q7
        simp only [q7] at hK
        clear hA
        go_simp
        exact hK _ _ ⟨_, rfl, trivial, hR.step 8 _ (MtS x) (Below.refl _ _) trivial, rfl⟩
      exact Ord.each_nil
    case hendt =>
      intro D xs w9 hR hall
      have h8 := (hall 8 (by decide)).2
      simp only [MtF] at h8
      have HB9 := Lib.hid hR.below
      clear hR hall
      simp only [h8]
      clear h8
      generalize xs 7 = z7 at *
      generalize xs 6 = z6 at *
      generalize xs 5 = z5 at *
      generalize xs 4 = z4 at *
      generalize xs 3 = z3 at *
      generalize xs 2 = z2 at *
      generalize xs 1 = z1 at *
      generalize xs 0 = z0 at *
      go_wp2_with fail
      go_ret
      exact ⟨rfl, HB.out.trans (HB9.out.mono HB.out.size)⟩
end Go.Proofs.YtafpjcobagofcaaGreat
