/- Whether a record may be, by the document's own reckoning. Conditions: the value reads as a record; few of each. -/
import Derived.Test.YtkchoelegdknoaaLrBareR
import Derived.Test.YtkchoelegdknoaaLrSameRb
import Derived.Test.YtkchoelegdknoaaLrMay
namespace Go.Proofs.Ytkchoelegdknoaa
open Go.RowKit

def MaF (B : Nat) (kd : Int) (i : Nat) (v : Value) (_ : World) : Prop :=
  match i with
  | 0 => v = .pointer (some ⟨B, 0, none⟩)
  | 1 => v = .int .i64 kd
  | 2 => v = .bool true
  | 3 => v = .bool true
  | 7 => v = .bool true
  | 8 => v = .bool true
  | 14 => v = .bool true
  | _ => True
def MaP  (i : Nat) (_w : World) (_v : Value) : Prop :=
  match i with
  | _ => True
def MaT (i : Nat) : Option Nat :=
  match i with
  | _ => none
theorem MaS  : ∀ k w w' v, MaP  k w v → Below w.heap.size w w' → MaP  k w' v := by
  intro k w w' v _ _
  unfold MaP
  split
  · trivial
def MbF (B : Nat) (kd : Int) (i : Nat) (v : Value) (_ : World) : Prop :=
  match i with
  | 0 => v = .pointer (some ⟨B, 0, none⟩)
  | 1 => v = .int .i64 kd
  | 2 => v = .bool false
  | 3 => v = .bool false
  | 4 => v = .pointer (some ⟨B, 0, none⟩)
  | 5 => v = .int .i64 kd
  | 6 => v = .bool true
  | 7 => v = .bool true
  | 8 => v = .bool true
  | 14 => v = .bool true
  | _ => True
def MbP  (i : Nat) (_w : World) (_v : Value) : Prop :=
  match i with
  | _ => True
def MbT (i : Nat) : Option Nat :=
  match i with
  | _ => none
theorem MbS  : ∀ k w w' v, MbP  k w v → Below w.heap.size w w' → MbP  k w' v := by
  intro k w w' v _ _
  unfold MbP
  split
  · trivial
def McF (B : Nat) (kd : Int) (xv : Value) (i : Nat) (v : Value) (_ : World) : Prop :=
  match i with
  | 0 => v = .pointer (some ⟨B, 0, none⟩)
  | 1 => v = .int .i64 kd
  | 2 => v = .bool false
  | 3 => v = .bool false
  | 4 => v = .pointer (some ⟨B, 0, none⟩)
  | 5 => v = .int .i64 kd
  | 6 => v = .bool false
  | 7 => v = .bool false
  | 8 => v = .bool false
  | 9 => v = xv
  | 10 => v = xv
  | 12 => v = .bool false
  | 13 => v = .bool true
  | 14 => v = .bool true
  | _ => True
def McP (x : Lr.R) (i : Nat) (w : World) (v : Value) : Prop :=
  match i with
  | 11 => RecIs w v (Lr.bare x)
  | _ => True
def McT (i : Nat) : Option Nat :=
  match i with
  | _ => none
theorem McS (x : Lr.R) : ∀ k w w' v, McP x k w v → Below w.heap.size w w' → McP x k w' v := by
  intro k w w' v h hb
  unfold McP at *
  split
  · exact h.below hb
  · trivial
def MdF (B : Nat) (kd : Int) (xv : Value) (i : Nat) (v : Value) (_ : World) : Prop :=
  match i with
  | 0 => v = .pointer (some ⟨B, 0, none⟩)
  | 1 => v = .int .i64 kd
  | 2 => v = .bool false
  | 3 => v = .bool false
  | 4 => v = .pointer (some ⟨B, 0, none⟩)
  | 5 => v = .int .i64 kd
  | 6 => v = .bool false
  | 7 => v = .bool false
  | 8 => v = .bool false
  | 9 => v = xv
  | 10 => v = xv
  | 12 => v = .bool true
  | 13 => v = .bool false
  | 14 => v = .bool false
  | _ => True
def MdP (x : Lr.R) (i : Nat) (w : World) (v : Value) : Prop :=
  match i with
  | 11 => RecIs w v (Lr.bare x)
  | _ => True
def MdT (i : Nat) : Option Nat :=
  match i with
  | _ => none
theorem MdS (x : Lr.R) : ∀ k w w' v, MdP x k w v → Below w.heap.size w w' → MdP x k w' v := by
  intro k w w' v h hb
  unfold MdP at *
  split
  · exact h.below hb
  · trivial
set_option maxHeartbeats 6400000 in
set_option maxRecDepth 20000 in
theorem refMay_any (x : Lr.R) (o n u c d : Value) (w : World) (h : RecAt w x o n u c d) (hf : Lr.Few x) :
    Calls Try.prog 14 #[RecV x o n u c d] w fun e w' => e = .returned (.bool (Lr.may x)) ∧ Below w.heap.size w w' := by
  obtain ⟨W, hW⟩ : ∃ W, W = w.alloc (robj x o n u c d) := ⟨_, rfl⟩
  have hb := below_new1 w (robj x o n u c d)
  have hr := rblk w x o n u c d
  rw [← hW] at hb hr
  have HB := Lib.hid hb
  have HA := Lib.hid (h.below hb)
  have HS : Hid (w.heap.size < W.heap.size) := lt_of_block hr
  obtain ⟨p1, c1, p2, c2, p3, c3, p4, c4, p5, c5, rfl, rfl, rfl, rfl, rfl⟩ := rec_slices h
  have HROW := Lib.hid hr
  have HC0 := Lib.hid (rec_cell hr).1
  have HF := Lib.hid hf
  clear h hb hr hf
  unfold robj at hW
  by_cases hk1 : x.kind < 1
  · have hm : Lr.may x = false := Lr.may_false fun h => by have := Lr.kind_lt h.1; omega
    rw [hm]
    have HK1 : Hid (decide (x.kind < 1) = true) := decide_eq_true hk1
    clear hm hk1
    go_enter Try.func14, Try.ntmps14
    go_upto_region 1 with (fail)
    rw [← hW]
    clear hW
    refine Ord.walk (MaF w.heap.size x.kind) (KeptR W.heap.size W (MaP ) MaT) (fun _ _ => True)
      (by kernel_rfl) (by kernel_rfl) ?fra ?hfra (fun _ _ _ _ _ h => h) (fun xs => KeptR.first xs (Nat.le_refl _)) ?hea ?henda
    case hfra =>
      intro xs
      simp only [Ord.fill, Act.put, List.setIfInBounds_toArray, List.set_cons_zero, List.set_cons_succ]
      rfl
    case hea =>
      refine Ord.each_cons (fun D xs w2 hD hC hP hR hA K hK => ?_) ?_
      · -- 0
        clear hA
        as_aux_lemma =>
          go_simp
          exact hK _ _ ⟨_, rfl, trivial, hR.step 0 _ (MaS ) (Below.refl _ _) trivial, rfl⟩
      refine Ord.each_cons (fun D xs w2 hD hC hP hR hA K hK => ?_) ?_
      · -- 1
        have q0 := Ord.ahead_get _ hA 0 (by decide)
        simp only [MaF] at q0
        simp only [q0] at hK
        clear hA
        as_aux_lemma =>
          have cc := hR.below.cell (p := ⟨w.heap.size, 0, none⟩) HS.out
          rw [HC0.out] at cc
          go_simp
          exact hK _ _ ⟨_, rfl, trivial, hR.step 1 _ (MaS ) (Below.refl _ _) trivial, rfl⟩
      refine Ord.each_cons (fun D xs w2 hD hC hP hR hA K hK => ?_) ?_
      · -- 2
        have q1 := Ord.ahead_get _ hA 1 (by decide)
        simp only [MaF] at q1
        simp only [q1] at hK
        clear hA
        as_aux_lemma =>
          have f1 := HK1.out
          go_simp
          exact hK _ _ ⟨_, rfl, trivial, hR.step 2 _ (MaS ) (Below.refl _ _) trivial, rfl⟩
      refine Ord.each_cons (fun D xs w2 hD hC hP hR hA K hK => ?_) ?_
      · -- 3
        have q2 := Ord.ahead_get _ hA 2 (by decide)
        simp only [MaF] at q2
        simp only [q2] at hK
        clear hA
        as_aux_lemma =>
          go_simp
          exact hK _ _ ⟨_, rfl, trivial, hR.step 3 _ (MaS ) (Below.refl _ _) trivial, rfl⟩
      refine Ord.each_cons (fun D xs w2 hD hC hP hR hA K hK => ?_) ?_
      · -- 4
        have q3 := Ord.ahead_get _ hA 3 (by decide)
        simp only [MaF] at q3
        simp only [q3] at hK
        clear hA
        as_aux_lemma =>
          go_simp
          exact hK _ _ ⟨undef, rfl, trivial, hR.step 4 _ (MaS ) (Below.refl _ _) trivial, trivial⟩
      refine Ord.each_cons (fun D xs w2 hD hC hP hR hA K hK => ?_) ?_
      · -- 5
        have q3 := Ord.ahead_get _ hA 3 (by decide)
        simp only [MaF] at q3
        simp only [q3] at hK
        clear hA
        as_aux_lemma =>
          go_simp
          exact hK _ _ ⟨undef, rfl, trivial, hR.step 5 _ (MaS ) (Below.refl _ _) trivial, trivial⟩
      refine Ord.each_cons (fun D xs w2 hD hC hP hR hA K hK => ?_) ?_
      · -- 6
        have q3 := Ord.ahead_get _ hA 3 (by decide)
        simp only [MaF] at q3
        simp only [q3] at hK
        clear hA
        as_aux_lemma =>
          go_simp
          exact hK _ _ ⟨undef, rfl, trivial, hR.step 6 _ (MaS ) (Below.refl _ _) trivial, trivial⟩
      refine Ord.each_cons (fun D xs w2 hD hC hP hR hA K hK => ?_) ?_
      · -- 7
        have q3 := Ord.ahead_get _ hA 3 (by decide)
        simp only [MaF] at q3
        simp only [q3] at hK
        clear hA
        as_aux_lemma =>
          go_simp
          exact hK _ _ ⟨_, rfl, trivial, hR.step 7 _ (MaS ) (Below.refl _ _) trivial, rfl⟩
      refine Ord.each_cons (fun D xs w2 hD hC hP hR hA K hK => ?_) ?_
      · -- 8
        have q7 := Ord.ahead_get _ hA 7 (by decide)
        simp only [MaF] at q7
        simp only [q7] at hK
        clear hA
        as_aux_lemma =>
          go_simp
          exact hK _ _ ⟨_, rfl, trivial, hR.step 8 _ (MaS ) (Below.refl _ _) trivial, rfl⟩
      refine Ord.each_cons (fun D xs w2 hD hC hP hR hA K hK => ?_) ?_
      · -- 9
        have q8 := Ord.ahead_get _ hA 8 (by decide)
        simp only [MaF] at q8
        simp only [q8] at hK
        clear hA
        as_aux_lemma =>
          go_simp
          exact hK _ _ ⟨undef, rfl, trivial, hR.step 9 _ (MaS ) (Below.refl _ _) trivial, trivial⟩
      refine Ord.each_cons (fun D xs w2 hD hC hP hR hA K hK => ?_) ?_
      · -- 10
        have q8 := Ord.ahead_get _ hA 8 (by decide)
        simp only [MaF] at q8
        simp only [q8] at hK
        clear hA
        as_aux_lemma =>
          go_simp
          exact hK _ _ ⟨undef, rfl, trivial, hR.step 10 _ (MaS ) (Below.refl _ _) trivial, trivial⟩
      refine Ord.each_cons (fun D xs w2 hD hC hP hR hA K hK => ?_) ?_
      · -- 11
        have q8 := Ord.ahead_get _ hA 8 (by decide)
        simp only [MaF] at q8
        simp only [q8] at hK
        clear hA
        as_aux_lemma =>
          go_simp
          exact hK _ _ ⟨undef, rfl, trivial, hR.step 11 _ (MaS ) (Below.refl _ _) trivial, trivial⟩
      refine Ord.each_cons (fun D xs w2 hD hC hP hR hA K hK => ?_) ?_
      · -- 12
        have q8 := Ord.ahead_get _ hA 8 (by decide)
        simp only [MaF] at q8
        simp only [q8] at hK
        clear hA
        as_aux_lemma =>
          go_simp
          exact hK _ _ ⟨undef, rfl, trivial, hR.step 12 _ (MaS ) (Below.refl _ _) trivial, trivial⟩
      refine Ord.each_cons (fun D xs w2 hD hC hP hR hA K hK => ?_) ?_
      · -- 13
        have q8 := Ord.ahead_get _ hA 8 (by decide)
        simp only [MaF] at q8
        simp only [q8] at hK
        clear hA
        as_aux_lemma =>
          go_simp
          exact hK _ _ ⟨undef, rfl, trivial, hR.step 13 _ (MaS ) (Below.refl _ _) trivial, trivial⟩
      refine Ord.each_cons (fun D xs w2 hD hC hP hR hA K hK => ?_) ?_
      · -- 14
        have q8 := Ord.ahead_get _ hA 8 (by decide)
        simp only [MaF] at q8
        simp only [q8] at hK
        clear hA
        as_aux_lemma =>
          go_simp
          exact hK _ _ ⟨_, rfl, trivial, hR.step 14 _ (MaS ) (Below.refl _ _) trivial, rfl⟩
      exact Ord.each_nil
    case henda =>
      intro D xs w9 hR hall
      have h8 := (hall 14 (by decide)).2
      simp only [MaF] at h8
      have HB9 := Lib.hid (HB.out.trans (hR.below.mono HB.out.size))
      have HRW := Lib.hid ((hR.below.block _ HS.out).trans HROW.out)
      clear hR hall
      simp only [h8]
      clear h8
      generalize xs 13 = z13 at *
      generalize xs 12 = z12 at *
      generalize xs 11 = z11 at *
      generalize xs 10 = z10 at *
      generalize xs 9 = z9 at *
      generalize xs 8 = z8 at *
      generalize xs 7 = z7 at *
      generalize xs 6 = z6 at *
      generalize xs 5 = z5 at *
      generalize xs 4 = z4 at *
      generalize xs 3 = z3 at *
      generalize xs 2 = z2 at *
      generalize xs 1 = z1 at *
      generalize xs 0 = z0 at *
      go_wp2_with fail
      go_ret
      exact ⟨rfl, HB9.out⟩
  have HK1 : Hid (decide (x.kind < 1) = false) := decide_eq_false hk1
  by_cases hk2 : 5 < x.kind
  · have hm : Lr.may x = false := Lr.may_false fun h => by have := Lr.kind_lt h.1; omega
    rw [hm]
    have HK2 : Hid (decide (5 < x.kind) = true) := decide_eq_true hk2
    clear hm hk1 hk2
    go_enter Try.func14, Try.ntmps14
    go_upto_region 1 with (fail)
    rw [← hW]
    clear hW
    refine Ord.walk (MbF w.heap.size x.kind) (KeptR W.heap.size W (MbP ) MbT) (fun _ _ => True)
      (by kernel_rfl) (by kernel_rfl) ?frb ?hfrb (fun _ _ _ _ _ h => h) (fun xs => KeptR.first xs (Nat.le_refl _)) ?heb ?hendb
    case hfrb =>
      intro xs
      simp only [Ord.fill, Act.put, List.setIfInBounds_toArray, List.set_cons_zero, List.set_cons_succ]
      rfl
    case heb =>
      refine Ord.each_cons (fun D xs w2 hD hC hP hR hA K hK => ?_) ?_
      · -- 0
        clear hA
        as_aux_lemma =>
          go_simp
          exact hK _ _ ⟨_, rfl, trivial, hR.step 0 _ (MbS ) (Below.refl _ _) trivial, rfl⟩
      refine Ord.each_cons (fun D xs w2 hD hC hP hR hA K hK => ?_) ?_
      · -- 1
        have q0 := Ord.ahead_get _ hA 0 (by decide)
        simp only [MbF] at q0
        simp only [q0] at hK
        clear hA
        as_aux_lemma =>
          have cc := hR.below.cell (p := ⟨w.heap.size, 0, none⟩) HS.out
          rw [HC0.out] at cc
          go_simp
          exact hK _ _ ⟨_, rfl, trivial, hR.step 1 _ (MbS ) (Below.refl _ _) trivial, rfl⟩
      refine Ord.each_cons (fun D xs w2 hD hC hP hR hA K hK => ?_) ?_
      · -- 2
        have q1 := Ord.ahead_get _ hA 1 (by decide)
        simp only [MbF] at q1
        simp only [q1] at hK
        clear hA
        as_aux_lemma =>
          have f1 := HK1.out
          go_simp
          exact hK _ _ ⟨_, rfl, trivial, hR.step 2 _ (MbS ) (Below.refl _ _) trivial, rfl⟩
      refine Ord.each_cons (fun D xs w2 hD hC hP hR hA K hK => ?_) ?_
      · -- 3
        have q2 := Ord.ahead_get _ hA 2 (by decide)
        simp only [MbF] at q2
        simp only [q2] at hK
        clear hA
        as_aux_lemma =>
          go_simp
          exact hK _ _ ⟨_, rfl, trivial, hR.step 3 _ (MbS ) (Below.refl _ _) trivial, rfl⟩
      refine Ord.each_cons (fun D xs w2 hD hC hP hR hA K hK => ?_) ?_
      · -- 4
        have q3 := Ord.ahead_get _ hA 3 (by decide)
        simp only [MbF] at q3
        simp only [q3] at hK
        clear hA
        as_aux_lemma =>
          go_simp
          exact hK _ _ ⟨_, rfl, trivial, hR.step 4 _ (MbS ) (Below.refl _ _) trivial, rfl⟩
      refine Ord.each_cons (fun D xs w2 hD hC hP hR hA K hK => ?_) ?_
      · -- 5
        have q3 := Ord.ahead_get _ hA 3 (by decide)
        simp only [MbF] at q3
        have q4 := Ord.ahead_get _ hA 4 (by decide)
        simp only [MbF] at q4
        simp only [q3, q4] at hK
        clear hA
        as_aux_lemma =>
          have cc := hR.below.cell (p := ⟨w.heap.size, 0, none⟩) HS.out
          rw [HC0.out] at cc
          go_simp
          exact hK _ _ ⟨_, rfl, trivial, hR.step 5 _ (MbS ) (Below.refl _ _) trivial, rfl⟩
      refine Ord.each_cons (fun D xs w2 hD hC hP hR hA K hK => ?_) ?_
      · -- 6
        have q3 := Ord.ahead_get _ hA 3 (by decide)
        simp only [MbF] at q3
        have q5 := Ord.ahead_get _ hA 5 (by decide)
        simp only [MbF] at q5
        simp only [q3, q5] at hK
        clear hA
        as_aux_lemma =>
          have f1 := HK2.out
          go_simp
          exact hK _ _ ⟨_, rfl, trivial, hR.step 6 _ (MbS ) (Below.refl _ _) trivial, rfl⟩
      refine Ord.each_cons (fun D xs w2 hD hC hP hR hA K hK => ?_) ?_
      · -- 7
        have q3 := Ord.ahead_get _ hA 3 (by decide)
        simp only [MbF] at q3
        have q6 := Ord.ahead_get _ hA 6 (by decide)
        simp only [MbF] at q6
        simp only [q3, q6] at hK
        clear hA
        as_aux_lemma =>
          go_simp
          exact hK _ _ ⟨_, rfl, trivial, hR.step 7 _ (MbS ) (Below.refl _ _) trivial, rfl⟩
      refine Ord.each_cons (fun D xs w2 hD hC hP hR hA K hK => ?_) ?_
      · -- 8
        have q7 := Ord.ahead_get _ hA 7 (by decide)
        simp only [MbF] at q7
        simp only [q7] at hK
        clear hA
        as_aux_lemma =>
          go_simp
          exact hK _ _ ⟨_, rfl, trivial, hR.step 8 _ (MbS ) (Below.refl _ _) trivial, rfl⟩
      refine Ord.each_cons (fun D xs w2 hD hC hP hR hA K hK => ?_) ?_
      · -- 9
        have q8 := Ord.ahead_get _ hA 8 (by decide)
        simp only [MbF] at q8
        simp only [q8] at hK
        clear hA
        as_aux_lemma =>
          go_simp
          exact hK _ _ ⟨undef, rfl, trivial, hR.step 9 _ (MbS ) (Below.refl _ _) trivial, trivial⟩
      refine Ord.each_cons (fun D xs w2 hD hC hP hR hA K hK => ?_) ?_
      · -- 10
        have q8 := Ord.ahead_get _ hA 8 (by decide)
        simp only [MbF] at q8
        simp only [q8] at hK
        clear hA
        as_aux_lemma =>
          go_simp
          exact hK _ _ ⟨undef, rfl, trivial, hR.step 10 _ (MbS ) (Below.refl _ _) trivial, trivial⟩
      refine Ord.each_cons (fun D xs w2 hD hC hP hR hA K hK => ?_) ?_
      · -- 11
        have q8 := Ord.ahead_get _ hA 8 (by decide)
        simp only [MbF] at q8
        simp only [q8] at hK
        clear hA
        as_aux_lemma =>
          go_simp
          exact hK _ _ ⟨undef, rfl, trivial, hR.step 11 _ (MbS ) (Below.refl _ _) trivial, trivial⟩
      refine Ord.each_cons (fun D xs w2 hD hC hP hR hA K hK => ?_) ?_
      · -- 12
        have q8 := Ord.ahead_get _ hA 8 (by decide)
        simp only [MbF] at q8
        simp only [q8] at hK
        clear hA
        as_aux_lemma =>
          go_simp
          exact hK _ _ ⟨undef, rfl, trivial, hR.step 12 _ (MbS ) (Below.refl _ _) trivial, trivial⟩
      refine Ord.each_cons (fun D xs w2 hD hC hP hR hA K hK => ?_) ?_
      · -- 13
        have q8 := Ord.ahead_get _ hA 8 (by decide)
        simp only [MbF] at q8
        simp only [q8] at hK
        clear hA
        as_aux_lemma =>
          go_simp
          exact hK _ _ ⟨undef, rfl, trivial, hR.step 13 _ (MbS ) (Below.refl _ _) trivial, trivial⟩
      refine Ord.each_cons (fun D xs w2 hD hC hP hR hA K hK => ?_) ?_
      · -- 14
        have q8 := Ord.ahead_get _ hA 8 (by decide)
        simp only [MbF] at q8
        simp only [q8] at hK
        clear hA
        as_aux_lemma =>
          go_simp
          exact hK _ _ ⟨_, rfl, trivial, hR.step 14 _ (MbS ) (Below.refl _ _) trivial, rfl⟩
      exact Ord.each_nil
    case hendb =>
      intro D xs w9 hR hall
      have h8 := (hall 14 (by decide)).2
      simp only [MbF] at h8
      have HB9 := Lib.hid (HB.out.trans (hR.below.mono HB.out.size))
      have HRW := Lib.hid ((hR.below.block _ HS.out).trans HROW.out)
      clear hR hall
      simp only [h8]
      clear h8
      generalize xs 13 = z13 at *
      generalize xs 12 = z12 at *
      generalize xs 11 = z11 at *
      generalize xs 10 = z10 at *
      generalize xs 9 = z9 at *
      generalize xs 8 = z8 at *
      generalize xs 7 = z7 at *
      generalize xs 6 = z6 at *
      generalize xs 5 = z5 at *
      generalize xs 4 = z4 at *
      generalize xs 3 = z3 at *
      generalize xs 2 = z2 at *
      generalize xs 1 = z1 at *
      generalize xs 0 = z0 at *
      go_wp2_with fail
      go_ret
      exact ⟨rfl, HB9.out⟩
  have HK2 : Hid (decide (5 < x.kind) = false) := decide_eq_false hk2
  obtain ⟨bs, hbs⟩ : ∃ bs, Lr.same x (Lr.bare x) = bs := ⟨_, rfl⟩
  have HBS := Lib.hid hbs
  have hm : Lr.may x = (Lr.within x && bs) := by unfold Lr.may; rw [hbs]
  rw [hm]
  clear hm hbs
  obtain ⟨wi, hwi⟩ : ∃ wi, Lr.within x = wi := ⟨_, rfl⟩
  rw [hwi]
  have HWI := Lib.hid hwi
  have HKR := Lib.hid (show 1 ≤ x.kind ∧ x.kind ≤ 5 by omega)
  clear hwi hk1 hk2
  cases bs
  case false =>
    rw [Bool.and_false]
    go_enter Try.func14, Try.ntmps14
    go_upto_region 1 with (fail)
    rw [← hW]
    clear hW
    refine Ord.walk (McF w.heap.size x.kind (RecV x (.slice p1 x.old.length c1) (.slice p2 x.new.length c2) (.slice p3 x.undo.length c3) (.slice p4 x.opn.length c4) (.slice p5 x.dirt.length c5))) (KeptR W.heap.size W (McP x) McT) (fun _ _ => True)
      (by kernel_rfl) (by kernel_rfl) ?frc ?hfrc (fun _ _ _ _ _ h => h) (fun xs => KeptR.first xs (Nat.le_refl _)) ?hec ?hendc
    case hfrc =>
      intro xs
      simp only [Ord.fill, Act.put, List.setIfInBounds_toArray, List.set_cons_zero, List.set_cons_succ]
      rfl
    case hec =>
      refine Ord.each_cons (fun D xs w2 hD hC hP hR hA K hK => ?_) ?_
      · -- 0
        clear hA
        as_aux_lemma =>
          go_simp
          exact hK _ _ ⟨_, rfl, trivial, hR.step 0 _ (McS x) (Below.refl _ _) trivial, rfl⟩
      refine Ord.each_cons (fun D xs w2 hD hC hP hR hA K hK => ?_) ?_
      · -- 1
        have q0 := Ord.ahead_get _ hA 0 (by decide)
        simp only [McF] at q0
        simp only [q0] at hK
        clear hA
        as_aux_lemma =>
          have cc := hR.below.cell (p := ⟨w.heap.size, 0, none⟩) HS.out
          rw [HC0.out] at cc
          go_simp
          exact hK _ _ ⟨_, rfl, trivial, hR.step 1 _ (McS x) (Below.refl _ _) trivial, rfl⟩
      refine Ord.each_cons (fun D xs w2 hD hC hP hR hA K hK => ?_) ?_
      · -- 2
        have q1 := Ord.ahead_get _ hA 1 (by decide)
        simp only [McF] at q1
        simp only [q1] at hK
        clear hA
        as_aux_lemma =>
          have f1 := HK1.out
          go_simp
          exact hK _ _ ⟨_, rfl, trivial, hR.step 2 _ (McS x) (Below.refl _ _) trivial, rfl⟩
      refine Ord.each_cons (fun D xs w2 hD hC hP hR hA K hK => ?_) ?_
      · -- 3
        have q2 := Ord.ahead_get _ hA 2 (by decide)
        simp only [McF] at q2
        simp only [q2] at hK
        clear hA
        as_aux_lemma =>
          go_simp
          exact hK _ _ ⟨_, rfl, trivial, hR.step 3 _ (McS x) (Below.refl _ _) trivial, rfl⟩
      refine Ord.each_cons (fun D xs w2 hD hC hP hR hA K hK => ?_) ?_
      · -- 4
        have q3 := Ord.ahead_get _ hA 3 (by decide)
        simp only [McF] at q3
        simp only [q3] at hK
        clear hA
        as_aux_lemma =>
          go_simp
          exact hK _ _ ⟨_, rfl, trivial, hR.step 4 _ (McS x) (Below.refl _ _) trivial, rfl⟩
      refine Ord.each_cons (fun D xs w2 hD hC hP hR hA K hK => ?_) ?_
      · -- 5
        have q3 := Ord.ahead_get _ hA 3 (by decide)
        simp only [McF] at q3
        have q4 := Ord.ahead_get _ hA 4 (by decide)
        simp only [McF] at q4
        simp only [q3, q4] at hK
        clear hA
        as_aux_lemma =>
          have cc := hR.below.cell (p := ⟨w.heap.size, 0, none⟩) HS.out
          rw [HC0.out] at cc
          go_simp
          exact hK _ _ ⟨_, rfl, trivial, hR.step 5 _ (McS x) (Below.refl _ _) trivial, rfl⟩
      refine Ord.each_cons (fun D xs w2 hD hC hP hR hA K hK => ?_) ?_
      · -- 6
        have q3 := Ord.ahead_get _ hA 3 (by decide)
        simp only [McF] at q3
        have q5 := Ord.ahead_get _ hA 5 (by decide)
        simp only [McF] at q5
        simp only [q3, q5] at hK
        clear hA
        as_aux_lemma =>
          have f1 := HK2.out
          go_simp
          exact hK _ _ ⟨_, rfl, trivial, hR.step 6 _ (McS x) (Below.refl _ _) trivial, rfl⟩
      refine Ord.each_cons (fun D xs w2 hD hC hP hR hA K hK => ?_) ?_
      · -- 7
        have q3 := Ord.ahead_get _ hA 3 (by decide)
        simp only [McF] at q3
        have q6 := Ord.ahead_get _ hA 6 (by decide)
        simp only [McF] at q6
        simp only [q3, q6] at hK
        clear hA
        as_aux_lemma =>
          go_simp
          exact hK _ _ ⟨_, rfl, trivial, hR.step 7 _ (McS x) (Below.refl _ _) trivial, rfl⟩
      refine Ord.each_cons (fun D xs w2 hD hC hP hR hA K hK => ?_) ?_
      · -- 8
        have q7 := Ord.ahead_get _ hA 7 (by decide)
        simp only [McF] at q7
        simp only [q7] at hK
        clear hA
        as_aux_lemma =>
          go_simp
          exact hK _ _ ⟨_, rfl, trivial, hR.step 8 _ (McS x) (Below.refl _ _) trivial, rfl⟩
      refine Ord.each_cons (fun D xs w2 hD hC hP hR hA K hK => ?_) ?_
      · -- 9
        have q8 := Ord.ahead_get _ hA 8 (by decide)
        simp only [McF] at q8
        simp only [q8] at hK
        clear hA
        as_aux_lemma =>
          have hrow := (hR.below.block _ HS.out).trans HROW.out
          obtain ⟨e0, e1, e2, e3, e4, e5, e6, e7, e8, e9, e10, e11, e12, e13, e14⟩ := rec_cell hrow
          clear hrow
          go_simp
          exact hK _ _ ⟨_, rfl, trivial, hR.step 9 _ (McS x) (Below.refl _ _) trivial, rfl⟩
      refine Ord.each_cons (fun D xs w2 hD hC hP hR hA K hK => ?_) ?_
      · -- 10
        have q8 := Ord.ahead_get _ hA 8 (by decide)
        simp only [McF] at q8
        simp only [q8] at hK
        clear hA
        as_aux_lemma =>
          have hrow := (hR.below.block _ HS.out).trans HROW.out
          obtain ⟨e0, e1, e2, e3, e4, e5, e6, e7, e8, e9, e10, e11, e12, e13, e14⟩ := rec_cell hrow
          clear hrow
          go_simp
          exact hK _ _ ⟨_, rfl, trivial, hR.step 10 _ (McS x) (Below.refl _ _) trivial, rfl⟩
      refine Ord.each_cons (fun D xs w2 hD hC hP hR hA K hK => ?_) ?_
      · -- 11
        have q8 := Ord.ahead_get _ hA 8 (by decide)
        simp only [McF] at q8
        have q10 := Ord.ahead_get _ hA 10 (by decide)
        simp only [McF] at q10
        simp only [q8, q10] at hK
        clear hA
        as_aux_lemma =>
          go_simp
          refine (refBare_any x _ _ _ _ _ w2 (HA.out.below hR.below)).mono ?_
          rintro e w' ⟨o', n', u', c', d', rfl, hO, hb⟩
          exact hK _ _ ⟨_, rfl, trivial, hR.step 11 _ (McS x) hb ⟨o', n', u', c', d', rfl, hO⟩, trivial⟩
      refine Ord.each_cons (fun D xs w2 hD hC hP hR hA K hK => ?_) ?_
      · -- 12
        have q8 := Ord.ahead_get _ hA 8 (by decide)
        simp only [McF] at q8
        have q9 := Ord.ahead_get _ hA 9 (by decide)
        simp only [McF] at q9
        simp only [q8, q9] at hK
        clear hA
        have o11 : RecIs w2 (xs 11) (Lr.bare x) := hR.each 11 (hP { on := 11, ground := .data } (by simp) rfl) (fun i hi => by cases hi)
        as_aux_lemma =>
          obtain ⟨o', n', u', c', d', ev, hO⟩ := o11
          have q11 := ev
          simp only [q11] at hK
          go_simp
          refine (refSame_any x (Lr.bare x) _ _ _ _ _ o' n' u' c' d' w2 (HA.out.below hR.below) hO ⟨Nat.le_trans HF.out.opn (by decide), Nat.le_trans HF.out.dirt (by decide)⟩).mono ?_
          rintro e w' ⟨rfl, hb⟩
          rw [HBS.out]
          exact hK _ _ ⟨_, rfl, trivial, hR.step 12 _ (McS x) hb trivial, rfl⟩
      refine Ord.each_cons (fun D xs w2 hD hC hP hR hA K hK => ?_) ?_
      · -- 13
        have q8 := Ord.ahead_get _ hA 8 (by decide)
        simp only [McF] at q8
        have q12 := Ord.ahead_get _ hA 12 (by decide)
        simp only [McF] at q12
        simp only [q8, q12] at hK
        clear hA
        as_aux_lemma =>
          go_simp
          exact hK _ _ ⟨_, rfl, trivial, hR.step 13 _ (McS x) (Below.refl _ _) trivial, rfl⟩
      refine Ord.each_cons (fun D xs w2 hD hC hP hR hA K hK => ?_) ?_
      · -- 14
        have q8 := Ord.ahead_get _ hA 8 (by decide)
        simp only [McF] at q8
        have q13 := Ord.ahead_get _ hA 13 (by decide)
        simp only [McF] at q13
        simp only [q8, q13] at hK
        clear hA
        as_aux_lemma =>
          go_simp
          exact hK _ _ ⟨_, rfl, trivial, hR.step 14 _ (McS x) (Below.refl _ _) trivial, rfl⟩
      exact Ord.each_nil
    case hendc =>
      intro D xs w9 hR hall
      have h8 := (hall 14 (by decide)).2
      simp only [McF] at h8
      have HB9 := Lib.hid (HB.out.trans (hR.below.mono HB.out.size))
      have HRW := Lib.hid ((hR.below.block _ HS.out).trans HROW.out)
      clear hR hall
      simp only [h8]
      clear h8
      generalize xs 13 = z13 at *
      generalize xs 12 = z12 at *
      generalize xs 11 = z11 at *
      generalize xs 10 = z10 at *
      generalize xs 9 = z9 at *
      generalize xs 8 = z8 at *
      generalize xs 7 = z7 at *
      generalize xs 6 = z6 at *
      generalize xs 5 = z5 at *
      generalize xs 4 = z4 at *
      generalize xs 3 = z3 at *
      generalize xs 2 = z2 at *
      generalize xs 1 = z1 at *
      generalize xs 0 = z0 at *
      go_wp2_with fail
      go_ret
      exact ⟨rfl, HB9.out⟩
  rw [Bool.and_true]
  obtain ⟨hlo, hhi⟩ := HKR.out
  have hn : x.kind = 1 ∨ x.kind = 2 ∨ x.kind = 5 ∨ (x.kind = 3 ∨ x.kind = 4) := by omega
  clear hlo hhi
  have HNN := Lib.hid hn
  clear hn
  go_enter Try.func14, Try.ntmps14
  go_upto_region 1 with (fail)
  rw [← hW]
  clear hW
  refine Ord.walk (MdF w.heap.size x.kind (RecV x (.slice p1 x.old.length c1) (.slice p2 x.new.length c2) (.slice p3 x.undo.length c3) (.slice p4 x.opn.length c4) (.slice p5 x.dirt.length c5))) (KeptR W.heap.size W (MdP x) MdT) (fun _ _ => True)
    (by kernel_rfl) (by kernel_rfl) ?frd ?hfrd (fun _ _ _ _ _ h => h) (fun xs => KeptR.first xs (Nat.le_refl _)) ?hed ?hendd
  case hfrd =>
    intro xs
    simp only [Ord.fill, Act.put, List.setIfInBounds_toArray, List.set_cons_zero, List.set_cons_succ]
    rfl
  case hed =>
    refine Ord.each_cons (fun D xs w2 hD hC hP hR hA K hK => ?_) ?_
    · -- 0
      clear hA
      as_aux_lemma =>
        go_simp
        exact hK _ _ ⟨_, rfl, trivial, hR.step 0 _ (MdS x) (Below.refl _ _) trivial, rfl⟩
    refine Ord.each_cons (fun D xs w2 hD hC hP hR hA K hK => ?_) ?_
    · -- 1
      have q0 := Ord.ahead_get _ hA 0 (by decide)
      simp only [MdF] at q0
      simp only [q0] at hK
      clear hA
      as_aux_lemma =>
        have cc := hR.below.cell (p := ⟨w.heap.size, 0, none⟩) HS.out
        rw [HC0.out] at cc
        go_simp
        exact hK _ _ ⟨_, rfl, trivial, hR.step 1 _ (MdS x) (Below.refl _ _) trivial, rfl⟩
    refine Ord.each_cons (fun D xs w2 hD hC hP hR hA K hK => ?_) ?_
    · -- 2
      have q1 := Ord.ahead_get _ hA 1 (by decide)
      simp only [MdF] at q1
      simp only [q1] at hK
      clear hA
      as_aux_lemma =>
        have f1 := HK1.out
        go_simp
        exact hK _ _ ⟨_, rfl, trivial, hR.step 2 _ (MdS x) (Below.refl _ _) trivial, rfl⟩
    refine Ord.each_cons (fun D xs w2 hD hC hP hR hA K hK => ?_) ?_
    · -- 3
      have q2 := Ord.ahead_get _ hA 2 (by decide)
      simp only [MdF] at q2
      simp only [q2] at hK
      clear hA
      as_aux_lemma =>
        go_simp
        exact hK _ _ ⟨_, rfl, trivial, hR.step 3 _ (MdS x) (Below.refl _ _) trivial, rfl⟩
    refine Ord.each_cons (fun D xs w2 hD hC hP hR hA K hK => ?_) ?_
    · -- 4
      have q3 := Ord.ahead_get _ hA 3 (by decide)
      simp only [MdF] at q3
      simp only [q3] at hK
      clear hA
      as_aux_lemma =>
        go_simp
        exact hK _ _ ⟨_, rfl, trivial, hR.step 4 _ (MdS x) (Below.refl _ _) trivial, rfl⟩
    refine Ord.each_cons (fun D xs w2 hD hC hP hR hA K hK => ?_) ?_
    · -- 5
      have q3 := Ord.ahead_get _ hA 3 (by decide)
      simp only [MdF] at q3
      have q4 := Ord.ahead_get _ hA 4 (by decide)
      simp only [MdF] at q4
      simp only [q3, q4] at hK
      clear hA
      as_aux_lemma =>
        have cc := hR.below.cell (p := ⟨w.heap.size, 0, none⟩) HS.out
        rw [HC0.out] at cc
        go_simp
        exact hK _ _ ⟨_, rfl, trivial, hR.step 5 _ (MdS x) (Below.refl _ _) trivial, rfl⟩
    refine Ord.each_cons (fun D xs w2 hD hC hP hR hA K hK => ?_) ?_
    · -- 6
      have q3 := Ord.ahead_get _ hA 3 (by decide)
      simp only [MdF] at q3
      have q5 := Ord.ahead_get _ hA 5 (by decide)
      simp only [MdF] at q5
      simp only [q3, q5] at hK
      clear hA
      as_aux_lemma =>
        have f1 := HK2.out
        go_simp
        exact hK _ _ ⟨_, rfl, trivial, hR.step 6 _ (MdS x) (Below.refl _ _) trivial, rfl⟩
    refine Ord.each_cons (fun D xs w2 hD hC hP hR hA K hK => ?_) ?_
    · -- 7
      have q3 := Ord.ahead_get _ hA 3 (by decide)
      simp only [MdF] at q3
      have q6 := Ord.ahead_get _ hA 6 (by decide)
      simp only [MdF] at q6
      simp only [q3, q6] at hK
      clear hA
      as_aux_lemma =>
        go_simp
        exact hK _ _ ⟨_, rfl, trivial, hR.step 7 _ (MdS x) (Below.refl _ _) trivial, rfl⟩
    refine Ord.each_cons (fun D xs w2 hD hC hP hR hA K hK => ?_) ?_
    · -- 8
      have q7 := Ord.ahead_get _ hA 7 (by decide)
      simp only [MdF] at q7
      simp only [q7] at hK
      clear hA
      as_aux_lemma =>
        go_simp
        exact hK _ _ ⟨_, rfl, trivial, hR.step 8 _ (MdS x) (Below.refl _ _) trivial, rfl⟩
    refine Ord.each_cons (fun D xs w2 hD hC hP hR hA K hK => ?_) ?_
    · -- 9
      have q8 := Ord.ahead_get _ hA 8 (by decide)
      simp only [MdF] at q8
      simp only [q8] at hK
      clear hA
      as_aux_lemma =>
        have hrow := (hR.below.block _ HS.out).trans HROW.out
        obtain ⟨e0, e1, e2, e3, e4, e5, e6, e7, e8, e9, e10, e11, e12, e13, e14⟩ := rec_cell hrow
        clear hrow
        go_simp
        exact hK _ _ ⟨_, rfl, trivial, hR.step 9 _ (MdS x) (Below.refl _ _) trivial, rfl⟩
    refine Ord.each_cons (fun D xs w2 hD hC hP hR hA K hK => ?_) ?_
    · -- 10
      have q8 := Ord.ahead_get _ hA 8 (by decide)
      simp only [MdF] at q8
      simp only [q8] at hK
      clear hA
      as_aux_lemma =>
        have hrow := (hR.below.block _ HS.out).trans HROW.out
        obtain ⟨e0, e1, e2, e3, e4, e5, e6, e7, e8, e9, e10, e11, e12, e13, e14⟩ := rec_cell hrow
        clear hrow
        go_simp
        exact hK _ _ ⟨_, rfl, trivial, hR.step 10 _ (MdS x) (Below.refl _ _) trivial, rfl⟩
    refine Ord.each_cons (fun D xs w2 hD hC hP hR hA K hK => ?_) ?_
    · -- 11
      have q8 := Ord.ahead_get _ hA 8 (by decide)
      simp only [MdF] at q8
      have q10 := Ord.ahead_get _ hA 10 (by decide)
      simp only [MdF] at q10
      simp only [q8, q10] at hK
      clear hA
      as_aux_lemma =>
        go_simp
        refine (refBare_any x _ _ _ _ _ w2 (HA.out.below hR.below)).mono ?_
        rintro e w' ⟨o', n', u', c', d', rfl, hO, hb⟩
        exact hK _ _ ⟨_, rfl, trivial, hR.step 11 _ (MdS x) hb ⟨o', n', u', c', d', rfl, hO⟩, trivial⟩
    refine Ord.each_cons (fun D xs w2 hD hC hP hR hA K hK => ?_) ?_
    · -- 12
      have q8 := Ord.ahead_get _ hA 8 (by decide)
      simp only [MdF] at q8
      have q9 := Ord.ahead_get _ hA 9 (by decide)
      simp only [MdF] at q9
      simp only [q8, q9] at hK
      clear hA
      have o11 : RecIs w2 (xs 11) (Lr.bare x) := hR.each 11 (hP { on := 11, ground := .data } (by simp) rfl) (fun i hi => by cases hi)
      as_aux_lemma =>
        obtain ⟨o', n', u', c', d', ev, hO⟩ := o11
        have q11 := ev
        simp only [q11] at hK
        go_simp
        refine (refSame_any x (Lr.bare x) _ _ _ _ _ o' n' u' c' d' w2 (HA.out.below hR.below) hO ⟨Nat.le_trans HF.out.opn (by decide), Nat.le_trans HF.out.dirt (by decide)⟩).mono ?_
        rintro e w' ⟨rfl, hb⟩
        rw [HBS.out]
        exact hK _ _ ⟨_, rfl, trivial, hR.step 12 _ (MdS x) hb trivial, rfl⟩
    refine Ord.each_cons (fun D xs w2 hD hC hP hR hA K hK => ?_) ?_
    · -- 13
      have q8 := Ord.ahead_get _ hA 8 (by decide)
      simp only [MdF] at q8
      have q12 := Ord.ahead_get _ hA 12 (by decide)
      simp only [MdF] at q12
      simp only [q8, q12] at hK
      clear hA
      as_aux_lemma =>
        go_simp
        exact hK _ _ ⟨_, rfl, trivial, hR.step 13 _ (MdS x) (Below.refl _ _) trivial, rfl⟩
    refine Ord.each_cons (fun D xs w2 hD hC hP hR hA K hK => ?_) ?_
    · -- 14
      have q8 := Ord.ahead_get _ hA 8 (by decide)
      simp only [MdF] at q8
      have q13 := Ord.ahead_get _ hA 13 (by decide)
      simp only [MdF] at q13
      simp only [q8, q13] at hK
      clear hA
      as_aux_lemma =>
        go_simp
        exact hK _ _ ⟨_, rfl, trivial, hR.step 14 _ (MdS x) (Below.refl _ _) trivial, rfl⟩
    exact Ord.each_nil
  case hendd =>
    intro D xs w9 hR hall
    have h8 := (hall 14 (by decide)).2
    simp only [MdF] at h8
    have HB9 := Lib.hid (HB.out.trans (hR.below.mono HB.out.size))
    have HRW := Lib.hid ((hR.below.block _ HS.out).trans HROW.out)
    clear hR hall
    simp only [h8]
    clear h8
    generalize xs 13 = z13 at *
    generalize xs 12 = z12 at *
    generalize xs 11 = z11 at *
    generalize xs 10 = z10 at *
    generalize xs 9 = z9 at *
    generalize xs 8 = z8 at *
    generalize xs 7 = z7 at *
    generalize xs 6 = z6 at *
    generalize xs 5 = z5 at *
    generalize xs 4 = z4 at *
    generalize xs 3 = z3 at *
    generalize xs 2 = z2 at *
    generalize xs 1 = z1 at *
    generalize xs 0 = z0 at *
    rcases HNN.out with hk | hk | hk | hk
    · as_aux_lemma =>
        have HRW := HRW
        obtain ⟨q0, q1, q2, q3, q4, q5, q6, q7, q8, q9, q10, q11, q12, q13, q14⟩ := rec_cell HRW.out
        have f0 : (x.kind == 1) = true := by rw [beq_iff_eq]; exact hk
        have hoff := HA.out.ok.off
        have f1 : ((x.old.length : Int) == (x.new.length : Int)) = decide (x.old.length = x.new.length) := eqI
        have f2 : decide ((1 : Int) ≤ (x.old.length : Int)) = decide (1 ≤ x.old.length) := leI (a := 1)
        have f3 : decide ((x.old.length : Int) ≤ 500) = decide (x.old.length ≤ 500) := leI (b := 500)
        have hsub : wrap64 (500 - (x.old.length : Int)) = 500 - (x.old.length : Int) := IntWalk.wrap64_in _ ⟨by have := HF.out.old; omega, by omega⟩
        have f4 : decide ((x.off : Int) ≤ 500 - (x.old.length : Int)) = decide (x.off + x.old.length ≤ 500) := by rw [decide_eq_decide]; omega
        have hw : wi = (decide (x.old.length = x.new.length) && decide (1 ≤ x.old.length) && decide (x.old.length ≤ 500) && decide (x.off + x.old.length ≤ 500)) := by
          rw [← HWI.out]; unfold Lr.within; rw [if_pos hk, Bool.eq_iff_iff]; simp only [Bool.and_eq_true, decide_eq_true_eq]; omega
        clear hk
        generalize decide (x.old.length = x.new.length) = b1 at *
        generalize decide (1 ≤ x.old.length) = b2 at *
        generalize decide (x.old.length ≤ 500) = b3 at *
        generalize decide (x.off + x.old.length ≤ 500) = b4 at *
        cases b1 <;> cases b2 <;> cases b3 <;> cases b4
        all_goals
          simp at hw
          subst hw
          go_wp2_with fail
          go_ret
          exact ⟨rfl, HB9.out⟩
    · as_aux_lemma =>
        have HRW := HRW
        obtain ⟨q0, q1, q2, q3, q4, q5, q6, q7, q8, q9, q10, q11, q12, q13, q14⟩ := rec_cell HRW.out
        have f0 : (x.kind == 1) = false := by rw [beq_eq_false_iff_ne]; omega
        have f00 : (x.kind == 2) = true := by rw [beq_iff_eq]; exact hk
        have f1 : decide ((x.undo.length : Int) ≤ 64) = decide (x.undo.length ≤ 64) := leI (b := 64)
        have f2 : ((x.next : Int) == 0) = decide (x.next = 0) := eqI (b := 0)
        have f3 : ((x.undo.length : Int) == 0) = decide (x.undo.length = 0) := eqI (b := 0)
        have hw : wi = (decide (x.undo.length ≤ 64) && (x.clr || decide (x.next = 0)) && (!x.clr || decide (x.undo.length = 0))) := by
          rw [← HWI.out]; unfold Lr.within; rw [if_neg (by omega), if_pos hk, Bool.eq_iff_iff]
          cases x.clr
          · simp
          · simp; intro h; simp [h]
        clear hk
        generalize decide (x.undo.length ≤ 64) = b1 at *
        generalize decide (x.next = 0) = b2 at *
        generalize decide (x.undo.length = 0) = b3 at *
        generalize x.clr = cl at *
        cases cl <;> cases b1 <;> cases b2 <;> cases b3
        all_goals
          simp at hw
          subst hw
          go_wp2_with fail
          go_ret
          exact ⟨rfl, HB9.out⟩
    · as_aux_lemma =>
        have HRW := HRW
        obtain ⟨q0, q1, q2, q3, q4, q5, q6, q7, q8, q9, q10, q11, q12, q13, q14⟩ := rec_cell HRW.out
        have f0 : (x.kind == 1) = false := by rw [beq_eq_false_iff_ne]; omega
        have f00 : (x.kind == 2) = false := by rw [beq_eq_false_iff_ne]; omega
        have f000 : (x.kind == 5) = true := by rw [beq_iff_eq]; exact hk
        have f1 : decide ((x.opn.length : Int) ≤ 16) = decide (x.opn.length ≤ 16) := leI (b := 16)
        have f2 : decide ((x.dirt.length : Int) ≤ 64) = decide (x.dirt.length ≤ 64) := leI (b := 64)
        have hw : wi = (decide (x.opn.length ≤ 16) && decide (x.dirt.length ≤ 64)) := by
          rw [← HWI.out]; unfold Lr.within; rw [if_neg (by omega), if_neg (by omega), if_neg (by omega), if_neg (by omega), if_pos hk]
        clear hk
        generalize decide (x.opn.length ≤ 16) = b1 at *
        generalize decide (x.dirt.length ≤ 64) = b2 at *
        cases b1 <;> cases b2
        all_goals
          simp at hw
          subst hw
          go_wp2_with fail
          go_ret
          exact ⟨rfl, HB9.out⟩
    · as_aux_lemma =>
        have HRW := HRW
        obtain ⟨q0, q1, q2, q3, q4, q5, q6, q7, q8, q9, q10, q11, q12, q13, q14⟩ := rec_cell HRW.out
        have f0 : (x.kind == 1) = false := by rw [beq_eq_false_iff_ne]; omega
        have f00 : (x.kind == 2) = false := by rw [beq_eq_false_iff_ne]; omega
        have f000 : (x.kind == 5) = false := by rw [beq_eq_false_iff_ne]; omega
        have f1 : ((x.txn : Int) != 0) = decide (x.txn ≠ 0) := by rw [Bool.eq_iff_iff]; simp
        have hw : wi = decide (x.txn ≠ 0) := by
          rw [← HWI.out]; unfold Lr.within
          rcases hk with hk | hk
          · rw [if_neg (by omega), if_neg (by omega), if_pos hk]
          · rw [if_neg (by omega), if_neg (by omega), if_neg (by omega), if_pos hk]
        clear hk
        generalize decide (x.txn ≠ 0) = b1 at *
        subst hw
        go_wp2_with fail
        go_ret
        exact ⟨rfl, HB9.out⟩
end Go.Proofs.Ytkchoelegdknoaa
