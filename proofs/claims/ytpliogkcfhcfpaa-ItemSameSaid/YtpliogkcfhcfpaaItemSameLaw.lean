/- What the law ItemSame answers, for every two records. Conditions: the slices' cells hold what they tell. -/
import Derived.Test.YtpliogkcfhcfpaaItemRef
import Derived.Test.YtpliogkcfhcfpaaItemKnown
namespace Go.Proofs.Ytpliogkcfhcfpaa
open Go.RowKit

/-- What the operations of the law's line leave. -/
def IsF (x y : Value) (r : Bool) (i : Nat) (v : Value) (_ : World) : Prop :=
  match i with
  | 0 => v = x
  | 1 => v = y
  | 2 => v = .bool r
  | 3 => v = x
  | 4 => v = y
  | 5 => v = .bool r
  | 6 => v = .bool true
  | 7 => v = .bool true
  | 8 => v = y
  | 9 => v = x
  | 10 => v = .bool r
  | 11 => v = x
  | 12 => v = y
  | 13 => v = .bool r
  | 14 => v = .bool true
  | 15 => v = .bool true
  | 16 => v = .bool true
  | 17 => v = x
  | 18 => v = x
  | 19 => v = .bool true
  | 20 => v = .bool true
  | 21 => v = .bool true
  | 22 => v = .bool true
  | 23 => v = .bool true
  | _ => v = .bool true

theorem Itm.same_comm (k1 : Nat) (a : List Int) (s : List Nat) (k2 : Nat) (b : List Int) (t : List Nat) : Itm.same k2 b t k1 a s = Itm.same k1 a s k2 b t := by
  unfold Itm.same
  rw [decide_eq_decide]
  constructor
  · rintro ⟨rfl, rfl, rfl⟩; exact ⟨rfl, rfl, rfl⟩
  · rintro ⟨rfl, rfl, rfl⟩; exact ⟨rfl, rfl, rfl⟩

set_option maxHeartbeats 3200000 in
set_option maxRecDepth 20000 in
theorem itemSame_any (k1 k2 : Nat) (v1 m1 v2 m2 : Value) (a b : List Int) (s t : List Nat) (w : World) (hA : ItemAt w k1 v1 m1 a s) (hB : ItemAt w k2 v2 m2 b t) :
    Calls Try.prog 5 #[ItemV k1 v1 m1, ItemV k2 v2 m2] w fun e w' => e = .returned (.bool true) ∧ Below w.heap.size w w' := by
  have hs1 := fun W h1 h2 => same_any k1 k2 v1 m1 v2 m2 a b s t W h1 h2
  have hs2 := fun W h1 h2 => same_any k2 k1 v2 m2 v1 m1 b a t s W h1 h2
  have hs3 := fun W h1 h2 => same_any k1 k1 v1 m1 v1 m1 a a s s W h1 h2
  have hr1 := fun W h1 h2 => refSame_any k1 k2 v1 m1 v2 m2 a b s t W h1 h2
  rw [Itm.same_comm k1 a s k2 b t] at hs2
  rw [Itm.same_self] at hs3
  generalize Itm.same k1 a s k2 b t = r at *
  have S1 := Lib.hid hs1
  have S2 := Lib.hid hs2
  have S3 := Lib.hid hs3
  have R1 := Lib.hid hr1
  have HA := Lib.hid hA
  have HB := Lib.hid hB
  have HW := Lib.hid (below_two w (.cells #[.int .u64 (k1 : Int), v1, m1] 26) (.cells #[.int .u64 (k2 : Int), v2, m2] 26))
  obtain ⟨p1, c1, rfl, -, -, -⟩ := hA.vec.form
  obtain ⟨p2, c2, rfl, -, -, -⟩ := hB.vec.form
  obtain ⟨q1, d1, rfl, -, -, -⟩ := hA.bytes.form
  obtain ⟨q2, d2, rfl, -, -, -⟩ := hB.bytes.form
  clear hs1 hs2 hs3 hr1 hA hB
  go_enter Try.func5, Try.ntmps5
  go_upto_region 1 with (fail)
  obtain ⟨W, hW⟩ : ∃ W, W = (w.alloc (.cells #[.int .u64 (k1 : Int), .slice p1 a.length c1, .slice q1 s.length d1] 26)).alloc (.cells #[.int .u64 (k2 : Int), .slice p2 b.length c2, .slice q2 t.length d2] 26) := ⟨_, rfl⟩
  have z0 : W.cell? ⟨w.heap.size, 0, none⟩ = some (.int .u64 (k1 : Int)) := by rw [hW]; simp
  have z1 : W.cell? ⟨w.heap.size, 1, none⟩ = some (.slice p1 a.length c1) := by rw [hW]; simp
  have z2 : W.cell? ⟨w.heap.size, 2, none⟩ = some (.slice q1 s.length d1) := by rw [hW]; simp
  have y0 : W.cell? ⟨w.heap.size + 1, 0, none⟩ = some (.int .u64 (k2 : Int)) := by rw [hW]; simp
  have y1 : W.cell? ⟨w.heap.size + 1, 1, none⟩ = some (.slice p2 b.length c2) := by rw [hW]; simp
  have y2 : W.cell? ⟨w.heap.size + 1, 2, none⟩ = some (.slice q2 t.length d2) := by rw [hW]; simp
  rw [← hW] at HW ⊢
  clear hW
  have HA1 := Lib.hid (HA.out.below HW.out)
  have HB1 := Lib.hid (HB.out.below HW.out)
  obtain ⟨B, hB⟩ : ∃ B, B = w.heap.size := ⟨_, rfl⟩
  rw [← hB] at HW z0 z1 z2 y0 y1 y2 ⊢
  have Z0 := Lib.hid z0
  have Z1 := Lib.hid z1
  have Z2 := Lib.hid z2
  have Y0 := Lib.hid y0
  have Y1 := Lib.hid y1
  have Y2 := Lib.hid y2
  have HEB := Lib.hid hB
  clear z0 z1 z2 y0 y1 y2 hB
  refine Ord.walk (IsF (ItemV k1 (.slice p1 a.length c1) (.slice q1 s.length d1)) (ItemV k2 (.slice p2 b.length c2) (.slice q2 t.length d2)) r) (fun _ _ w' => Below W.heap.size W w') (fun a b => Below a.heap.size a b)
    (by kernel_rfl) (by kernel_rfl) ?fr ?hfr (fun _ _ _ _ _ h => h) (fun xs => (Below.refl _ _).go1) ?he ?hend
  case hfr =>
    intro xs
    simp only [Ord.fill, Act.put, List.setIfInBounds_toArray, List.set_cons_zero, List.set_cons_succ]
    rfl
  case he =>
    refine Ord.each_cons (fun D xs w2 hD hC hP hR hA K hK => ?_) ?_
    · -- 0
      clear hA
      have c0 := (hR.cell (p := ⟨B, 0, none⟩) (block_lt_of_cell Z0.out)).trans Z0.out
      have c1 := (hR.cell (p := ⟨B, 1, none⟩) (block_lt_of_cell Z1.out)).trans Z1.out
      have c2 := (hR.cell (p := ⟨B, 2, none⟩) (block_lt_of_cell Z2.out)).trans Z2.out
      go_simp
      exact hK _ _ ⟨_, rfl, Below.refl _ _, hR, rfl⟩
    refine Ord.each_cons (fun D xs w2 hD hC hP hR hA K hK => ?_) ?_
    · -- 1
      clear hA
      have c0 := (hR.cell (p := ⟨B + 1, 0, none⟩) (block_lt_of_cell Y0.out)).trans Y0.out
      have c1 := (hR.cell (p := ⟨B + 1, 1, none⟩) (block_lt_of_cell Y1.out)).trans Y1.out
      have c2 := (hR.cell (p := ⟨B + 1, 2, none⟩) (block_lt_of_cell Y2.out)).trans Y2.out
      go_simp
      exact hK _ _ ⟨_, rfl, Below.refl _ _, hR, rfl⟩
    refine Ord.each_cons (fun D xs w2 hD hC hP hR hA K hK => ?_) ?_
    · -- 2
      have q0 := Ord.ahead_get _ hA 0 (by decide)
      simp only [IsF] at q0
      have q1 := Ord.ahead_get _ hA 1 (by decide)
      simp only [IsF] at q1
      simp only [q0, q1] at hK
      clear hA
      go_simp
      refine (S1.out w2 (HA1.out.below hR) (HB1.out.below hR)).mono ?_
      rintro e w' ⟨rfl, hb⟩
      exact hK _ _ ⟨_, rfl, hb, hR.trans (hb.mono hR.size), rfl⟩
    refine Ord.each_cons (fun D xs w2 hD hC hP hR hA K hK => ?_) ?_
    · -- 3
      clear hA
      have c0 := (hR.cell (p := ⟨B, 0, none⟩) (block_lt_of_cell Z0.out)).trans Z0.out
      have c1 := (hR.cell (p := ⟨B, 1, none⟩) (block_lt_of_cell Z1.out)).trans Z1.out
      have c2 := (hR.cell (p := ⟨B, 2, none⟩) (block_lt_of_cell Z2.out)).trans Z2.out
      go_simp
      exact hK _ _ ⟨_, rfl, Below.refl _ _, hR, rfl⟩
    refine Ord.each_cons (fun D xs w2 hD hC hP hR hA K hK => ?_) ?_
    · -- 4
      clear hA
      have c0 := (hR.cell (p := ⟨B + 1, 0, none⟩) (block_lt_of_cell Y0.out)).trans Y0.out
      have c1 := (hR.cell (p := ⟨B + 1, 1, none⟩) (block_lt_of_cell Y1.out)).trans Y1.out
      have c2 := (hR.cell (p := ⟨B + 1, 2, none⟩) (block_lt_of_cell Y2.out)).trans Y2.out
      go_simp
      exact hK _ _ ⟨_, rfl, Below.refl _ _, hR, rfl⟩
    refine Ord.each_cons (fun D xs w2 hD hC hP hR hA K hK => ?_) ?_
    · -- 5
      have q3 := Ord.ahead_get _ hA 3 (by decide)
      simp only [IsF] at q3
      have q4 := Ord.ahead_get _ hA 4 (by decide)
      simp only [IsF] at q4
      simp only [q3, q4] at hK
      clear hA
      go_simp
      refine (R1.out w2 (HA1.out.below hR) (HB1.out.below hR)).mono ?_
      rintro e w' ⟨rfl, hb⟩
      exact hK _ _ ⟨_, rfl, hb, hR.trans (hb.mono hR.size), rfl⟩
    refine Ord.each_cons (fun D xs w2 hD hC hP hR hA K hK => ?_) ?_
    · -- 6
      have q2 := Ord.ahead_get _ hA 2 (by decide)
      simp only [IsF] at q2
      have q5 := Ord.ahead_get _ hA 5 (by decide)
      simp only [IsF] at q5
      simp only [q2, q5] at hK
      clear hA
      go_simp
      exact hK _ _ ⟨_, rfl, Below.refl _ _, hR, rfl⟩
    refine Ord.each_cons (fun D xs w2 hD hC hP hR hA K hK => ?_) ?_
    · -- 7
      have q6 := Ord.ahead_get _ hA 6 (by decide)
      simp only [IsF] at q6
      simp only [q6] at hK
      clear hA
      go_simp
      exact hK _ _ ⟨_, rfl, Below.refl _ _, hR, rfl⟩
    refine Ord.each_cons (fun D xs w2 hD hC hP hR hA K hK => ?_) ?_
    · -- 8
      have q7 := Ord.ahead_get _ hA 7 (by decide)
      simp only [IsF] at q7
      simp only [q7] at hK
      clear hA
      have c0 := (hR.cell (p := ⟨B + 1, 0, none⟩) (block_lt_of_cell Y0.out)).trans Y0.out
      have c1 := (hR.cell (p := ⟨B + 1, 1, none⟩) (block_lt_of_cell Y1.out)).trans Y1.out
      have c2 := (hR.cell (p := ⟨B + 1, 2, none⟩) (block_lt_of_cell Y2.out)).trans Y2.out
      go_simp
      exact hK _ _ ⟨_, rfl, Below.refl _ _, hR, rfl⟩
    refine Ord.each_cons (fun D xs w2 hD hC hP hR hA K hK => ?_) ?_
    · -- 9
      have q7 := Ord.ahead_get _ hA 7 (by decide)
      simp only [IsF] at q7
      simp only [q7] at hK
      clear hA
      have c0 := (hR.cell (p := ⟨B, 0, none⟩) (block_lt_of_cell Z0.out)).trans Z0.out
      have c1 := (hR.cell (p := ⟨B, 1, none⟩) (block_lt_of_cell Z1.out)).trans Z1.out
      have c2 := (hR.cell (p := ⟨B, 2, none⟩) (block_lt_of_cell Z2.out)).trans Z2.out
      go_simp
      exact hK _ _ ⟨_, rfl, Below.refl _ _, hR, rfl⟩
    refine Ord.each_cons (fun D xs w2 hD hC hP hR hA K hK => ?_) ?_
    · -- 10
      have q8 := Ord.ahead_get _ hA 8 (by decide)
      simp only [IsF] at q8
      have q9 := Ord.ahead_get _ hA 9 (by decide)
      simp only [IsF] at q9
      have q7 := Ord.ahead_get _ hA 7 (by decide)
      simp only [IsF] at q7
      simp only [q8, q9, q7] at hK
      clear hA
      go_simp
      refine (S2.out w2 (HB1.out.below hR) (HA1.out.below hR)).mono ?_
      rintro e w' ⟨rfl, hb⟩
      exact hK _ _ ⟨_, rfl, hb, hR.trans (hb.mono hR.size), rfl⟩
    refine Ord.each_cons (fun D xs w2 hD hC hP hR hA K hK => ?_) ?_
    · -- 11
      have q7 := Ord.ahead_get _ hA 7 (by decide)
      simp only [IsF] at q7
      simp only [q7] at hK
      clear hA
      have c0 := (hR.cell (p := ⟨B, 0, none⟩) (block_lt_of_cell Z0.out)).trans Z0.out
      have c1 := (hR.cell (p := ⟨B, 1, none⟩) (block_lt_of_cell Z1.out)).trans Z1.out
      have c2 := (hR.cell (p := ⟨B, 2, none⟩) (block_lt_of_cell Z2.out)).trans Z2.out
      go_simp
      exact hK _ _ ⟨_, rfl, Below.refl _ _, hR, rfl⟩
    refine Ord.each_cons (fun D xs w2 hD hC hP hR hA K hK => ?_) ?_
    · -- 12
      have q7 := Ord.ahead_get _ hA 7 (by decide)
      simp only [IsF] at q7
      simp only [q7] at hK
      clear hA
      have c0 := (hR.cell (p := ⟨B + 1, 0, none⟩) (block_lt_of_cell Y0.out)).trans Y0.out
      have c1 := (hR.cell (p := ⟨B + 1, 1, none⟩) (block_lt_of_cell Y1.out)).trans Y1.out
      have c2 := (hR.cell (p := ⟨B + 1, 2, none⟩) (block_lt_of_cell Y2.out)).trans Y2.out
      go_simp
      exact hK _ _ ⟨_, rfl, Below.refl _ _, hR, rfl⟩
    refine Ord.each_cons (fun D xs w2 hD hC hP hR hA K hK => ?_) ?_
    · -- 13
      have q11 := Ord.ahead_get _ hA 11 (by decide)
      simp only [IsF] at q11
      have q12 := Ord.ahead_get _ hA 12 (by decide)
      simp only [IsF] at q12
      have q7 := Ord.ahead_get _ hA 7 (by decide)
      simp only [IsF] at q7
      simp only [q11, q12, q7] at hK
      clear hA
      go_simp
      refine (R1.out w2 (HA1.out.below hR) (HB1.out.below hR)).mono ?_
      rintro e w' ⟨rfl, hb⟩
      exact hK _ _ ⟨_, rfl, hb, hR.trans (hb.mono hR.size), rfl⟩
    refine Ord.each_cons (fun D xs w2 hD hC hP hR hA K hK => ?_) ?_
    · -- 14
      have q10 := Ord.ahead_get _ hA 10 (by decide)
      simp only [IsF] at q10
      have q13 := Ord.ahead_get _ hA 13 (by decide)
      simp only [IsF] at q13
      have q7 := Ord.ahead_get _ hA 7 (by decide)
      simp only [IsF] at q7
      simp only [q10, q13, q7] at hK
      clear hA
      go_simp
      exact hK _ _ ⟨_, rfl, Below.refl _ _, hR, rfl⟩
    refine Ord.each_cons (fun D xs w2 hD hC hP hR hA K hK => ?_) ?_
    · -- 15
      have q7 := Ord.ahead_get _ hA 7 (by decide)
      simp only [IsF] at q7
      have q14 := Ord.ahead_get _ hA 14 (by decide)
      simp only [IsF] at q14
      simp only [q7, q14] at hK
      clear hA
      go_simp
      exact hK _ _ ⟨_, rfl, Below.refl _ _, hR, rfl⟩
    refine Ord.each_cons (fun D xs w2 hD hC hP hR hA K hK => ?_) ?_
    · -- 16
      have q15 := Ord.ahead_get _ hA 15 (by decide)
      simp only [IsF] at q15
      simp only [q15] at hK
      clear hA
      go_simp
      exact hK _ _ ⟨_, rfl, Below.refl _ _, hR, rfl⟩
    refine Ord.each_cons (fun D xs w2 hD hC hP hR hA K hK => ?_) ?_
    · -- 17
      have q16 := Ord.ahead_get _ hA 16 (by decide)
      simp only [IsF] at q16
      simp only [q16] at hK
      clear hA
      have c0 := (hR.cell (p := ⟨B, 0, none⟩) (block_lt_of_cell Z0.out)).trans Z0.out
      have c1 := (hR.cell (p := ⟨B, 1, none⟩) (block_lt_of_cell Z1.out)).trans Z1.out
      have c2 := (hR.cell (p := ⟨B, 2, none⟩) (block_lt_of_cell Z2.out)).trans Z2.out
      go_simp
      exact hK _ _ ⟨_, rfl, Below.refl _ _, hR, rfl⟩
    refine Ord.each_cons (fun D xs w2 hD hC hP hR hA K hK => ?_) ?_
    · -- 18
      have q16 := Ord.ahead_get _ hA 16 (by decide)
      simp only [IsF] at q16
      simp only [q16] at hK
      clear hA
      have c0 := (hR.cell (p := ⟨B, 0, none⟩) (block_lt_of_cell Z0.out)).trans Z0.out
      have c1 := (hR.cell (p := ⟨B, 1, none⟩) (block_lt_of_cell Z1.out)).trans Z1.out
      have c2 := (hR.cell (p := ⟨B, 2, none⟩) (block_lt_of_cell Z2.out)).trans Z2.out
      go_simp
      exact hK _ _ ⟨_, rfl, Below.refl _ _, hR, rfl⟩
    refine Ord.each_cons (fun D xs w2 hD hC hP hR hA K hK => ?_) ?_
    · -- 19
      have q17 := Ord.ahead_get _ hA 17 (by decide)
      simp only [IsF] at q17
      have q18 := Ord.ahead_get _ hA 18 (by decide)
      simp only [IsF] at q18
      have q16 := Ord.ahead_get _ hA 16 (by decide)
      simp only [IsF] at q16
      simp only [q17, q18, q16] at hK
      clear hA
      go_simp
      refine (S3.out w2 (HA1.out.below hR) (HA1.out.below hR)).mono ?_
      rintro e w' ⟨rfl, hb⟩
      exact hK _ _ ⟨_, rfl, hb, hR.trans (hb.mono hR.size), rfl⟩
    refine Ord.each_cons (fun D xs w2 hD hC hP hR hA K hK => ?_) ?_
    · -- 20
      have q16 := Ord.ahead_get _ hA 16 (by decide)
      simp only [IsF] at q16
      have q19 := Ord.ahead_get _ hA 19 (by decide)
      simp only [IsF] at q19
      simp only [q16, q19] at hK
      clear hA
      go_simp
      exact hK _ _ ⟨_, rfl, Below.refl _ _, hR, rfl⟩
    refine Ord.each_cons (fun D xs w2 hD hC hP hR hA K hK => ?_) ?_
    · -- 21
      have q20 := Ord.ahead_get _ hA 20 (by decide)
      simp only [IsF] at q20
      simp only [q20] at hK
      clear hA
      go_simp
      exact hK _ _ ⟨_, rfl, Below.refl _ _, hR, rfl⟩
    refine Ord.each_cons (fun D xs w2 hD hC hP hR hA K hK => ?_) ?_
    · -- 22
      have q21 := Ord.ahead_get _ hA 21 (by decide)
      simp only [IsF] at q21
      simp only [q21] at hK
      clear hA
      go_simp
      refine (known_any w2).mono ?_
      rintro e w' ⟨rfl, hb⟩
      exact hK _ _ ⟨_, rfl, hb, hR.trans (hb.mono hR.size), rfl⟩
    refine Ord.each_cons (fun D xs w2 hD hC hP hR hA K hK => ?_) ?_
    · -- 23
      have q21 := Ord.ahead_get _ hA 21 (by decide)
      simp only [IsF] at q21
      have q22 := Ord.ahead_get _ hA 22 (by decide)
      simp only [IsF] at q22
      simp only [q21, q22] at hK
      clear hA
      go_simp
      exact hK _ _ ⟨_, rfl, Below.refl _ _, hR, rfl⟩
    refine Ord.each_cons (fun D xs w2 hD hC hP hR hA K hK => ?_) ?_
    · -- 24
      have q23 := Ord.ahead_get _ hA 23 (by decide)
      simp only [IsF] at q23
      simp only [q23] at hK
      clear hA
      go_simp
      exact hK _ _ ⟨_, rfl, Below.refl _ _, hR, rfl⟩
    exact Ord.each_nil
  case hend =>
    intro D xs w2 hR hF
    have e24 := (hF 24 (by decide)).2
    simp only [IsF] at e24
    rw [e24]
    clear e24 hF
    have HR := Lib.hid (HW.out.trans (hR.mono (by rw [HEB.out]; exact HW.out.size)))
    clear hR
    go_wp2_with fail
    go_ret
    exact ⟨rfl, by rw [← HEB.out]; exact HR.out⟩
end Go.Proofs.Ytpliogkcfhcfpaa
