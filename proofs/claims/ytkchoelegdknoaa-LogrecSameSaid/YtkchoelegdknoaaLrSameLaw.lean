/- What the law LogrecSame answers, for every two records. Conditions: the values read as records. -/
import Derived.Test.YtkchoelegdknoaaLrCopy
namespace Go.Proofs.Ytkchoelegdknoaa
open Go.RowKit

def LsF (xv : Value) (yv : Value) (b : Bool) (i : Nat) (v : Value) (_ : World) : Prop :=
  match i with
  | 0 => v = xv
  | 1 => v = yv
  | 2 => v = .bool b
  | 3 => v = xv
  | 4 => v = yv
  | 5 => v = .bool b
  | 6 => v = .bool true
  | 7 => v = .bool true
  | 8 => v = yv
  | 9 => v = xv
  | 10 => v = .bool b
  | 11 => v = xv
  | 12 => v = yv
  | 13 => v = .bool b
  | 14 => v = .bool true
  | 15 => v = .bool true
  | 16 => v = .bool true
  | 17 => v = xv
  | 18 => v = xv
  | 20 => v = .bool true
  | 21 => v = .bool true
  | 22 => v = .bool true
  | 23 => v = .bool true
  | 24 => v = .bool true
  | 25 => v = .bool true
  | _ => True
def LsP (x : Lr.R) (i : Nat) (w : World) (v : Value) : Prop :=
  match i with
  | 19 => RecIs w v x
  | _ => True
def LsT (i : Nat) : Option Nat :=
  match i with
  | _ => none
theorem LsS (x : Lr.R) : ∀ k w w' v, LsP x k w v → Below w.heap.size w w' → LsP x k w' v := by
  intro k w w' v h hb
  unfold LsP at *
  split
  · exact h.below hb
  · trivial

set_option maxHeartbeats 6400000 in
set_option maxRecDepth 20000 in
theorem logrecSame_any (x y : Lr.R) (o1 n1 u1 c1 d1 o2 n2 u2 c2 d2 : Value) (w : World) (h1 : RecAt w x o1 n1 u1 c1 d1) (h2 : RecAt w y o2 n2 u2 c2 d2) :
    Calls Try.prog 5 #[RecV x o1 n1 u1 c1 d1, RecV y o2 n2 u2 c2 d2] w fun e w' => e = .returned (.bool true) ∧ Below w.heap.size w w' := by
  obtain ⟨W0, hW⟩ : ∃ W, W = (w.alloc (robj x o1 n1 u1 c1 d1)).alloc (robj y o2 n2 u2 c2 d2) := ⟨_, rfl⟩
  have hb0 := below_new1 w (robj x o1 n1 u1 c1 d1)
  have hb1 := below_new1 (w.alloc (robj x o1 n1 u1 c1 d1)) (robj y o2 n2 u2 c2 d2)
  have hr1 := rblk w x o1 n1 u1 c1 d1
  have hr2 := rblk (w.alloc (robj x o1 n1 u1 c1 d1)) y o2 n2 u2 c2 d2
  rw [← hW] at hb1 hr2
  have hr3 := (hb1.block _ (lt_of_block hr1)).trans hr1
  have hbW := hb0.trans (hb1.mono hb0.size)
  have hA := h1.below hbW
  have hB := h2.below hbW
  have hsz : (w.alloc (robj x o1 n1 u1 c1 d1)).heap.size = w.heap.size + 1 := by simp
  rw [hsz] at hr2
  obtain ⟨p1, p1c, p2, p2c, p3, p3c, p4, p4c, p5, p5c, rfl, rfl, rfl, rfl, rfl⟩ := rec_slices h1
  obtain ⟨r1, r1c, r2, r2c, r3, r3c, r4, r4c, r5, r5c, rfl, rfl, rfl, rfl, rfl⟩ := rec_slices h2
  unfold robj at hW
  have HBW := Lib.hid hbW
  have HA0 := Lib.hid hA
  have HB0 := Lib.hid hB
  have HR1 := Lib.hid hr3
  have HR2 := Lib.hid hr2
  clear hb0 hb1 hr1 hr2 hr3 hbW hA hB h1 h2 hsz
  obtain ⟨la, hla⟩ : ∃ la, Lr.large x = la := ⟨_, rfl⟩
  obtain ⟨lb, hlb⟩ : ∃ lb, Lr.large y = lb := ⟨_, rfl⟩
  have HLA := Lib.hid hla
  have HLB := Lib.hid hlb
  clear hla hlb
  go_enter Try.func5, Try.ntmps5
  go_upto_region 1 with (fail)
  rw [← hW]
  clear hW
  go_step
  refine wpList_load_rec rfl (.tmp 2) rfl w.heap.size rfl _ HR1.out rfl ?_
  go_wp2_with fail
  refine (large_any x _ _ _ _ _ W0 HA0.out).mono ?_
  rintro e w1 ⟨rfl, hb1⟩
  rw [HLA.out]
  have HB1 := Lib.hid (HBW.out.trans (hb1.mono HBW.out.size))
  have HA1 := Lib.hid (HA0.out.below hb1)
  have HBB1 := Lib.hid (HB0.out.below hb1)
  have HR1b := Lib.hid ((hb1.block _ (lt_of_block HR1.out)).trans HR1.out)
  have HR2b := Lib.hid ((hb1.block _ (lt_of_block HR2.out)).trans HR2.out)
  clear hb1
  cases la
  case true =>
    go_wp2_with fail
    refine (known_any _).mono ?_
    rintro e w' ⟨rfl, hb⟩
    have hb2 := HB1.out.trans (hb.mono HB1.out.size)
    clear hb
    go_wp2_with fail
    go_ret
    exact ⟨rfl, hb2⟩
  obtain ⟨q0, q1, q2, q3, q4, q5, q6, q7, q8, q9, q10, q11, q12, q13, q14⟩ := rec_cell HR2b.out
  go_wp2_with fail
  refine (large_any y _ _ _ _ _ w1 HBB1.out).mono ?_
  rintro e w2 ⟨rfl, hb2⟩
  rw [HLB.out]
  clear q0 q1 q2 q3 q4 q5 q6 q7 q8 q9 q10 q11 q12 q13 q14
  have HB2 := Lib.hid (HB1.out.trans (hb2.mono HB1.out.size))
  have HA := Lib.hid (HA1.out.below hb2)
  have HB := Lib.hid (HBB1.out.below hb2)
  have HROW1 := Lib.hid ((hb2.block _ (lt_of_block HR1b.out)).trans HR1b.out)
  have HROW2 := Lib.hid ((hb2.block _ (lt_of_block HR2b.out)).trans HR2b.out)
  clear hb2
  cases lb
  case true =>
    go_wp2_with fail
    refine (known_any _).mono ?_
    rintro e w' ⟨rfl, hb⟩
    have hb2 := HB2.out.trans (hb.mono HB2.out.size)
    clear hb
    go_wp2_with fail
    go_ret
    exact ⟨rfl, hb2⟩
  have HFA := Lib.hid (Lr.few_of HLA.out)
  have HFB := Lib.hid (Lr.few_of HLB.out)
  go_upto_region 3 with (fail)
  obtain ⟨W, hW⟩ : ∃ W, W = w2 := ⟨_, rfl⟩
  rw [← hW] at HB2 HA HB HROW1 HROW2 ⊢
  clear hW
  have HL1 : Hid (w.heap.size < W.heap.size) := lt_of_block HROW1.out
  have HL2 : Hid (w.heap.size + 1 < W.heap.size) := lt_of_block HROW2.out
  as_aux_lemma =>
    refine Ord.walk (LsF (RecV x (.slice p1 x.old.length p1c) (.slice p2 x.new.length p2c) (.slice p3 x.undo.length p3c) (.slice p4 x.opn.length p4c) (.slice p5 x.dirt.length p5c)) (RecV y (.slice r1 y.old.length r1c) (.slice r2 y.new.length r2c) (.slice r3 y.undo.length r3c) (.slice r4 y.opn.length r4c) (.slice r5 y.dirt.length r5c)) (Lr.same x y)) (KeptR W.heap.size W (LsP x) LsT) (fun _ _ => True)
      (by kernel_rfl) (by kernel_rfl) ?fr3 ?hfr3 (fun _ _ _ _ _ h => h) (fun xs => KeptR.first xs (Nat.le_refl _)) ?he3 ?hend3
    case hfr3 =>
      intro xs
      simp only [Ord.fill, Act.put, List.setIfInBounds_toArray, List.set_cons_zero, List.set_cons_succ]
      rfl
    case he3 =>
      refine Ord.each_cons (fun D xs w2 hD hC hP hR hA K hK => ?_) ?_
      · -- 0
        clear hA
        as_aux_lemma =>
          have hrow := (hR.below.block _ HL1.out).trans HROW1.out
          obtain ⟨e0, e1, e2, e3, e4, e5, e6, e7, e8, e9, e10, e11, e12, e13, e14⟩ := rec_cell hrow
          clear hrow
          go_simp
          exact hK _ _ ⟨_, rfl, trivial, hR.step 0 _ (LsS x) (Below.refl _ _) trivial, rfl⟩
      refine Ord.each_cons (fun D xs w2 hD hC hP hR hA K hK => ?_) ?_
      · -- 1
        clear hA
        as_aux_lemma =>
          have hrow := (hR.below.block _ HL2.out).trans HROW2.out
          obtain ⟨e0, e1, e2, e3, e4, e5, e6, e7, e8, e9, e10, e11, e12, e13, e14⟩ := rec_cell hrow
          clear hrow
          go_simp
          exact hK _ _ ⟨_, rfl, trivial, hR.step 1 _ (LsS x) (Below.refl _ _) trivial, rfl⟩
      refine Ord.each_cons (fun D xs w2 hD hC hP hR hA K hK => ?_) ?_
      · -- 2
        have q0 := Ord.ahead_get _ hA 0 (by decide)
        simp only [LsF] at q0
        have q1 := Ord.ahead_get _ hA 1 (by decide)
        simp only [LsF] at q1
        simp only [q0, q1] at hK
        clear hA
        as_aux_lemma =>
          have hc := same_any x y _ _ _ _ _ _ _ _ _ _ w2 (HA.out.below hR.below) (HB.out.below hR.below) ⟨Nat.le_trans HFA.out.opn (by decide), Nat.le_trans HFA.out.dirt (by decide)⟩
          go_simp
          refine hc.mono ?_
          rintro e w' ⟨rfl, hb⟩
          exact hK _ _ ⟨_, rfl, trivial, hR.step 2 _ (LsS x) hb trivial, rfl⟩
      refine Ord.each_cons (fun D xs w2 hD hC hP hR hA K hK => ?_) ?_
      · -- 3
        clear hA
        as_aux_lemma =>
          have hrow := (hR.below.block _ HL1.out).trans HROW1.out
          obtain ⟨e0, e1, e2, e3, e4, e5, e6, e7, e8, e9, e10, e11, e12, e13, e14⟩ := rec_cell hrow
          clear hrow
          go_simp
          exact hK _ _ ⟨_, rfl, trivial, hR.step 3 _ (LsS x) (Below.refl _ _) trivial, rfl⟩
      refine Ord.each_cons (fun D xs w2 hD hC hP hR hA K hK => ?_) ?_
      · -- 4
        clear hA
        as_aux_lemma =>
          have hrow := (hR.below.block _ HL2.out).trans HROW2.out
          obtain ⟨e0, e1, e2, e3, e4, e5, e6, e7, e8, e9, e10, e11, e12, e13, e14⟩ := rec_cell hrow
          clear hrow
          go_simp
          exact hK _ _ ⟨_, rfl, trivial, hR.step 4 _ (LsS x) (Below.refl _ _) trivial, rfl⟩
      refine Ord.each_cons (fun D xs w2 hD hC hP hR hA K hK => ?_) ?_
      · -- 5
        have q3 := Ord.ahead_get _ hA 3 (by decide)
        simp only [LsF] at q3
        have q4 := Ord.ahead_get _ hA 4 (by decide)
        simp only [LsF] at q4
        simp only [q3, q4] at hK
        clear hA
        as_aux_lemma =>
          have hc := refSame_any x y _ _ _ _ _ _ _ _ _ _ w2 (HA.out.below hR.below) (HB.out.below hR.below) ⟨Nat.le_trans HFA.out.opn (by decide), Nat.le_trans HFA.out.dirt (by decide)⟩
          go_simp
          refine hc.mono ?_
          rintro e w' ⟨rfl, hb⟩
          exact hK _ _ ⟨_, rfl, trivial, hR.step 5 _ (LsS x) hb trivial, rfl⟩
      refine Ord.each_cons (fun D xs w2 hD hC hP hR hA K hK => ?_) ?_
      · -- 6
        have q2 := Ord.ahead_get _ hA 2 (by decide)
        simp only [LsF] at q2
        have q5 := Ord.ahead_get _ hA 5 (by decide)
        simp only [LsF] at q5
        simp only [q2, q5] at hK
        clear hA
        as_aux_lemma =>
          go_simp
          exact hK _ _ ⟨_, rfl, trivial, hR.step 6 _ (LsS x) (Below.refl _ _) trivial, rfl⟩
      refine Ord.each_cons (fun D xs w2 hD hC hP hR hA K hK => ?_) ?_
      · -- 7
        have q6 := Ord.ahead_get _ hA 6 (by decide)
        simp only [LsF] at q6
        simp only [q6] at hK
        clear hA
        as_aux_lemma =>
          go_simp
          exact hK _ _ ⟨_, rfl, trivial, hR.step 7 _ (LsS x) (Below.refl _ _) trivial, rfl⟩
      refine Ord.each_cons (fun D xs w2 hD hC hP hR hA K hK => ?_) ?_
      · -- 8
        have q7 := Ord.ahead_get _ hA 7 (by decide)
        simp only [LsF] at q7
        simp only [q7] at hK
        clear hA
        as_aux_lemma =>
          have hrow := (hR.below.block _ HL2.out).trans HROW2.out
          obtain ⟨e0, e1, e2, e3, e4, e5, e6, e7, e8, e9, e10, e11, e12, e13, e14⟩ := rec_cell hrow
          clear hrow
          go_simp
          exact hK _ _ ⟨_, rfl, trivial, hR.step 8 _ (LsS x) (Below.refl _ _) trivial, rfl⟩
      refine Ord.each_cons (fun D xs w2 hD hC hP hR hA K hK => ?_) ?_
      · -- 9
        have q7 := Ord.ahead_get _ hA 7 (by decide)
        simp only [LsF] at q7
        simp only [q7] at hK
        clear hA
        as_aux_lemma =>
          have hrow := (hR.below.block _ HL1.out).trans HROW1.out
          obtain ⟨e0, e1, e2, e3, e4, e5, e6, e7, e8, e9, e10, e11, e12, e13, e14⟩ := rec_cell hrow
          clear hrow
          go_simp
          exact hK _ _ ⟨_, rfl, trivial, hR.step 9 _ (LsS x) (Below.refl _ _) trivial, rfl⟩
      refine Ord.each_cons (fun D xs w2 hD hC hP hR hA K hK => ?_) ?_
      · -- 10
        have q7 := Ord.ahead_get _ hA 7 (by decide)
        simp only [LsF] at q7
        have q8 := Ord.ahead_get _ hA 8 (by decide)
        simp only [LsF] at q8
        have q9 := Ord.ahead_get _ hA 9 (by decide)
        simp only [LsF] at q9
        simp only [q7, q8, q9] at hK
        clear hA
        as_aux_lemma =>
          have hc := same_any y x _ _ _ _ _ _ _ _ _ _ w2 (HB.out.below hR.below) (HA.out.below hR.below) ⟨Nat.le_trans HFB.out.opn (by decide), Nat.le_trans HFB.out.dirt (by decide)⟩
          rw [Lr.same_comm x y] at hc
          go_simp
          refine hc.mono ?_
          rintro e w' ⟨rfl, hb⟩
          exact hK _ _ ⟨_, rfl, trivial, hR.step 10 _ (LsS x) hb trivial, rfl⟩
      refine Ord.each_cons (fun D xs w2 hD hC hP hR hA K hK => ?_) ?_
      · -- 11
        have q7 := Ord.ahead_get _ hA 7 (by decide)
        simp only [LsF] at q7
        simp only [q7] at hK
        clear hA
        as_aux_lemma =>
          have hrow := (hR.below.block _ HL1.out).trans HROW1.out
          obtain ⟨e0, e1, e2, e3, e4, e5, e6, e7, e8, e9, e10, e11, e12, e13, e14⟩ := rec_cell hrow
          clear hrow
          go_simp
          exact hK _ _ ⟨_, rfl, trivial, hR.step 11 _ (LsS x) (Below.refl _ _) trivial, rfl⟩
      refine Ord.each_cons (fun D xs w2 hD hC hP hR hA K hK => ?_) ?_
      · -- 12
        have q7 := Ord.ahead_get _ hA 7 (by decide)
        simp only [LsF] at q7
        simp only [q7] at hK
        clear hA
        as_aux_lemma =>
          have hrow := (hR.below.block _ HL2.out).trans HROW2.out
          obtain ⟨e0, e1, e2, e3, e4, e5, e6, e7, e8, e9, e10, e11, e12, e13, e14⟩ := rec_cell hrow
          clear hrow
          go_simp
          exact hK _ _ ⟨_, rfl, trivial, hR.step 12 _ (LsS x) (Below.refl _ _) trivial, rfl⟩
      refine Ord.each_cons (fun D xs w2 hD hC hP hR hA K hK => ?_) ?_
      · -- 13
        have q7 := Ord.ahead_get _ hA 7 (by decide)
        simp only [LsF] at q7
        have q11 := Ord.ahead_get _ hA 11 (by decide)
        simp only [LsF] at q11
        have q12 := Ord.ahead_get _ hA 12 (by decide)
        simp only [LsF] at q12
        simp only [q7, q11, q12] at hK
        clear hA
        as_aux_lemma =>
          have hc := refSame_any x y _ _ _ _ _ _ _ _ _ _ w2 (HA.out.below hR.below) (HB.out.below hR.below) ⟨Nat.le_trans HFA.out.opn (by decide), Nat.le_trans HFA.out.dirt (by decide)⟩
          go_simp
          refine hc.mono ?_
          rintro e w' ⟨rfl, hb⟩
          exact hK _ _ ⟨_, rfl, trivial, hR.step 13 _ (LsS x) hb trivial, rfl⟩
      refine Ord.each_cons (fun D xs w2 hD hC hP hR hA K hK => ?_) ?_
      · -- 14
        have q7 := Ord.ahead_get _ hA 7 (by decide)
        simp only [LsF] at q7
        have q10 := Ord.ahead_get _ hA 10 (by decide)
        simp only [LsF] at q10
        have q13 := Ord.ahead_get _ hA 13 (by decide)
        simp only [LsF] at q13
        simp only [q7, q10, q13] at hK
        clear hA
        as_aux_lemma =>
          go_simp
          exact hK _ _ ⟨_, rfl, trivial, hR.step 14 _ (LsS x) (Below.refl _ _) trivial, rfl⟩
      refine Ord.each_cons (fun D xs w2 hD hC hP hR hA K hK => ?_) ?_
      · -- 15
        have q7 := Ord.ahead_get _ hA 7 (by decide)
        simp only [LsF] at q7
        have q14 := Ord.ahead_get _ hA 14 (by decide)
        simp only [LsF] at q14
        simp only [q7, q14] at hK
        clear hA
        as_aux_lemma =>
          go_simp
          exact hK _ _ ⟨_, rfl, trivial, hR.step 15 _ (LsS x) (Below.refl _ _) trivial, rfl⟩
      refine Ord.each_cons (fun D xs w2 hD hC hP hR hA K hK => ?_) ?_
      · -- 16
        have q15 := Ord.ahead_get _ hA 15 (by decide)
        simp only [LsF] at q15
        simp only [q15] at hK
        clear hA
        as_aux_lemma =>
          go_simp
          exact hK _ _ ⟨_, rfl, trivial, hR.step 16 _ (LsS x) (Below.refl _ _) trivial, rfl⟩
      refine Ord.each_cons (fun D xs w2 hD hC hP hR hA K hK => ?_) ?_
      · -- 17
        have q16 := Ord.ahead_get _ hA 16 (by decide)
        simp only [LsF] at q16
        simp only [q16] at hK
        clear hA
        as_aux_lemma =>
          have hrow := (hR.below.block _ HL1.out).trans HROW1.out
          obtain ⟨e0, e1, e2, e3, e4, e5, e6, e7, e8, e9, e10, e11, e12, e13, e14⟩ := rec_cell hrow
          clear hrow
          go_simp
          exact hK _ _ ⟨_, rfl, trivial, hR.step 17 _ (LsS x) (Below.refl _ _) trivial, rfl⟩
      refine Ord.each_cons (fun D xs w2 hD hC hP hR hA K hK => ?_) ?_
      · -- 18
        have q16 := Ord.ahead_get _ hA 16 (by decide)
        simp only [LsF] at q16
        simp only [q16] at hK
        clear hA
        as_aux_lemma =>
          have hrow := (hR.below.block _ HL1.out).trans HROW1.out
          obtain ⟨e0, e1, e2, e3, e4, e5, e6, e7, e8, e9, e10, e11, e12, e13, e14⟩ := rec_cell hrow
          clear hrow
          go_simp
          exact hK _ _ ⟨_, rfl, trivial, hR.step 18 _ (LsS x) (Below.refl _ _) trivial, rfl⟩
      refine Ord.each_cons (fun D xs w2 hD hC hP hR hA K hK => ?_) ?_
      · -- 19
        have q16 := Ord.ahead_get _ hA 16 (by decide)
        simp only [LsF] at q16
        have q18 := Ord.ahead_get _ hA 18 (by decide)
        simp only [LsF] at q18
        simp only [q16, q18] at hK
        clear hA
        as_aux_lemma =>
          go_simp
          refine (refCopy_any x _ _ _ _ _ w2 (HA.out.below hR.below) HFA.out).mono ?_
          rintro e w' ⟨o', n', u', c', d', rfl, hO, hb⟩
          exact hK _ _ ⟨_, rfl, trivial, hR.step 19 _ (LsS x) hb ⟨o', n', u', c', d', rfl, hO.at⟩, trivial⟩
      refine Ord.each_cons (fun D xs w2 hD hC hP hR hA K hK => ?_) ?_
      · -- 20
        have q16 := Ord.ahead_get _ hA 16 (by decide)
        simp only [LsF] at q16
        have q17 := Ord.ahead_get _ hA 17 (by decide)
        simp only [LsF] at q17
        simp only [q16, q17] at hK
        clear hA
        have o19 : RecIs w2 (xs 19) x := hR.each 19 (hP { on := 19, ground := .data } (by simp) rfl) (fun i hi => by cases hi)
        as_aux_lemma =>
          obtain ⟨o', n', u', c', d', ev, hO⟩ := o19
          have q19 := ev
          simp only [q19] at hK
          have hc := same_any x x _ _ _ _ _ o' n' u' c' d' w2 (HA.out.below hR.below) hO ⟨Nat.le_trans HFA.out.opn (by decide), Nat.le_trans HFA.out.dirt (by decide)⟩
          rw [Lr.same_true rfl] at hc
          go_simp
          refine hc.mono ?_
          rintro e w' ⟨rfl, hb⟩
          exact hK _ _ ⟨_, rfl, trivial, hR.step 20 _ (LsS x) hb trivial, rfl⟩
      refine Ord.each_cons (fun D xs w2 hD hC hP hR hA K hK => ?_) ?_
      · -- 21
        have q16 := Ord.ahead_get _ hA 16 (by decide)
        simp only [LsF] at q16
        have q20 := Ord.ahead_get _ hA 20 (by decide)
        simp only [LsF] at q20
        simp only [q16, q20] at hK
        clear hA
        as_aux_lemma =>
          go_simp
          exact hK _ _ ⟨_, rfl, trivial, hR.step 21 _ (LsS x) (Below.refl _ _) trivial, rfl⟩
      refine Ord.each_cons (fun D xs w2 hD hC hP hR hA K hK => ?_) ?_
      · -- 22
        have q21 := Ord.ahead_get _ hA 21 (by decide)
        simp only [LsF] at q21
        simp only [q21] at hK
        clear hA
        as_aux_lemma =>
          go_simp
          exact hK _ _ ⟨_, rfl, trivial, hR.step 22 _ (LsS x) (Below.refl _ _) trivial, rfl⟩
      refine Ord.each_cons (fun D xs w2 hD hC hP hR hA K hK => ?_) ?_
      · -- 23
        have q22 := Ord.ahead_get _ hA 22 (by decide)
        simp only [LsF] at q22
        simp only [q22] at hK
        clear hA
        as_aux_lemma =>
          have hc := known_any w2
          go_simp
          refine hc.mono ?_
          rintro e w' ⟨rfl, hb⟩
          exact hK _ _ ⟨_, rfl, trivial, hR.step 23 _ (LsS x) hb trivial, rfl⟩
      refine Ord.each_cons (fun D xs w2 hD hC hP hR hA K hK => ?_) ?_
      · -- 24
        have q22 := Ord.ahead_get _ hA 22 (by decide)
        simp only [LsF] at q22
        have q23 := Ord.ahead_get _ hA 23 (by decide)
        simp only [LsF] at q23
        simp only [q22, q23] at hK
        clear hA
        as_aux_lemma =>
          go_simp
          exact hK _ _ ⟨_, rfl, trivial, hR.step 24 _ (LsS x) (Below.refl _ _) trivial, rfl⟩
      refine Ord.each_cons (fun D xs w2 hD hC hP hR hA K hK => ?_) ?_
      · -- 25
        have q24 := Ord.ahead_get _ hA 24 (by decide)
        simp only [LsF] at q24
        simp only [q24] at hK
        clear hA
        as_aux_lemma =>
          go_simp
          exact hK _ _ ⟨_, rfl, trivial, hR.step 25 _ (LsS x) (Below.refl _ _) trivial, rfl⟩
      exact Ord.each_nil
    case hend3 =>
      intro D xs w9 hR hall
      have h8 := (hall 25 (by decide)).2
      simp only [LsF] at h8
      have HB9 := Lib.hid hR.below
      clear hR hall
      simp only [h8]
      clear h8
      generalize xs 24 = z24 at *
      generalize xs 23 = z23 at *
      generalize xs 22 = z22 at *
      generalize xs 21 = z21 at *
      generalize xs 20 = z20 at *
      generalize xs 19 = z19 at *
      generalize xs 18 = z18 at *
      generalize xs 17 = z17 at *
      generalize xs 16 = z16 at *
      generalize xs 15 = z15 at *
      generalize xs 14 = z14 at *
      generalize xs 13 = z13 at *
      generalize xs 12 = z12 at *
      generalize xs 11 = z11 at *
      generalize xs 10 = z10 at *
      generalize xs 9 = z9 at *
      generalize xs 8 = z8 at *
      generalize xs 7 = z7 at *
      generalize xs 6 = z6 at *
      generalize xs 5 = z5 at *
      generalize xs 4 = z4 at *
      generalize xs 3 = z3 at *
      generalize xs 2 = z2 at *
      generalize xs 1 = z1 at *
      generalize xs 0 = z0 at *
      go_wp2_with fail
      go_ret
      exact ⟨rfl, HB2.out.trans (HB9.out.mono HB2.out.size)⟩
end Go.Proofs.Ytkchoelegdknoaa
