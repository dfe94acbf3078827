/- What the document's Kept answers of a copy that is as it was. Conditions: the slices' cells hold what they tell. -/
import Derived.Test.YtpliogkcfhcfpaaItemCopy
import Derived.Test.YtpliogkcfhcfpaaItemRef
import Derived.IntWalk
namespace Go.Proofs.Ytpliogkcfhcfpaa
open Go.RowKit

theorem CopyAt.vec {base : Nat} {w : World} {v : List Int} {m : List Nat} {g1 c1 g2 c2 : Nat} (h : CopyAt base w v m g1 c1 g2 c2) : I32.Bts w (.slice (some ⟨g1, 0, none⟩) v.length c1) v := by
  have hB := h.nums.bts
  have e : v.length + 1 = (v ++ [(77 : Int)]).length := by simp
  rw [e] at hB
  have := hB.take v.length (by simp)
  rwa [List.take_left'] at this
  rfl
theorem CopyAt.bytes {base : Nat} {w : World} {v : List Int} {m : List Nat} {g1 c1 g2 c2 : Nat} (h : CopyAt base w v m g1 c1 g2 c2) : Bts w (.slice (some ⟨g2, 0, none⟩) m.length c2) m := by
  have hB := h.text.bts
  have e : m.length + 1 = (m ++ [78]).length := by simp
  rw [e] at hB
  have := hB.take m.length (by simp)
  rwa [List.take_left'] at this
  rfl
theorem CopyAt.item {base : Nat} {w : World} {v : List Int} {m : List Nat} {g1 c1 g2 c2 k : Nat} (h : CopyAt base w v m g1 c1 g2 c2) (hk : k < 18446744073709551616) : ItemAt w k (.slice (some ⟨g1, 0, none⟩) v.length c1) (.slice (some ⟨g2, 0, none⟩) m.length c2) v m :=
  ⟨hk, h.vec, h.bytes⟩
theorem CopyAt.mark {base : Nat} {w : World} {v : List Int} {m : List Nat} {g1 c1 g2 c2 : Nat} (h : CopyAt base w v m g1 c1 g2 c2) : w.cell? ⟨g1, v.length, none⟩ = some (.int .i32 77) ∧ v.length + 1 ≤ c1 ∧ c1 ≤ 9223372036854775807 := by
  have ho := h.nums.own
  rw [show (v ++ [(77 : Int)]).length = v.length + 1 by simp] at ho
  obtain ⟨h1, h2, h3, h4, h5⟩ := I32.owns_cells ho
  refine ⟨?_, h2, by unfold maxLen at h3; exact h3⟩
  rw [h5 v.length (by simp)]
  simp
theorem CopyAt.mark2 {base : Nat} {w : World} {v : List Int} {m : List Nat} {g1 c1 g2 c2 : Nat} (h : CopyAt base w v m g1 c1 g2 c2) : w.cell? ⟨g2, m.length, none⟩ = some (.int .u8 78) ∧ m.length + 1 ≤ c2 ∧ c2 ≤ 9223372036854775807 := by
  have ho := h.text.own
  rw [show (m ++ [(78 : Nat)]).length = m.length + 1 by simp] at ho
  obtain ⟨h1, h2, h3, h4, h5⟩ := owns_cells ho
  refine ⟨?_, h2, by unfold maxLen at h3; exact h3⟩
  rw [h5 m.length (by simp)]
  simp

/-- What its operations leave. -/
def KpF (B : Nat) (k : Nat) (g1 n c1 : Nat) (g2 q c2 : Nat) (p1 : Option Addr) (d1 : Nat) (p2 : Option Addr) (d2 : Nat) (i : Nat) (x : Value) (_ : World) : Prop :=
  match i with
  | 0 => x = ItemV k (.slice (some ⟨g1, 0, none⟩) n c1) (.slice (some ⟨g2, 0, none⟩) q c2)
  | 1 => x = ItemV k (.slice p1 n d1) (.slice p2 q d2)
  | 2 => x = .bool true
  | 3 => x = .bool true
  | 4 => x = .pointer (some ⟨B, 1, none⟩)
  | 5 => x = .slice (some ⟨g1, 0, none⟩) n c1
  | 6 => x = .pointer (some ⟨B + 1, 1, none⟩)
  | 7 => x = .slice p1 n d1
  | 8 => x = .int .i64 (n : Int)
  | 9 => x = .int .i64 ((n : Int) + 1)
  | 10 => x = .slice (some ⟨g1, 0, none⟩) (n + 1) c1
  | 11 => x = .pointer (some ⟨B + 1, 1, none⟩)
  | 12 => x = .slice p1 n d1
  | 13 => x = .int .i64 (n : Int)
  | 14 => x = .pointer (some ⟨g1, n, none⟩)
  | 15 => x = .int .i32 77
  | 16 => x = .bool true
  | 17 => x = .bool true
  | 18 => x = .bool true
  | 19 => x = .pointer (some ⟨B, 2, none⟩)
  | 20 => x = .slice (some ⟨g2, 0, none⟩) q c2
  | 21 => x = .pointer (some ⟨B + 1, 2, none⟩)
  | 22 => x = .slice p2 q d2
  | 23 => x = .int .i64 (q : Int)
  | 24 => x = .int .i64 ((q : Int) + 1)
  | 25 => x = .slice (some ⟨g2, 0, none⟩) (q + 1) c2
  | 26 => x = .pointer (some ⟨B + 1, 2, none⟩)
  | 27 => x = .slice p2 q d2
  | 28 => x = .int .i64 (q : Int)
  | 29 => x = .pointer (some ⟨g2, q, none⟩)
  | 30 => x = .int .u8 78
  | 31 => x = .bool true
  | 32 => x = .bool true
  | _ => x = .bool true

set_option maxHeartbeats 3200000 in
set_option maxRecDepth 20000 in
theorem kept_any (base k g1 c1 g2 c2 : Nat) (vv vm : Value) (v : List Int) (m : List Nat) (w : World) (hC : CopyAt base w v m g1 c1 g2 c2) (hI : ItemAt w k vv vm v m) :
    Calls Try.prog 15 #[ItemV k (.slice (some ⟨g1, 0, none⟩) v.length c1) (.slice (some ⟨g2, 0, none⟩) m.length c2), ItemV k vv vm] w fun e w' => e = .returned (.bool true) ∧ Below w.heap.size w w' := by
  have HS := Lib.hid (fun W h1 h2 => refSame_any k k (.slice (some ⟨g1, 0, none⟩) v.length c1) (.slice (some ⟨g2, 0, none⟩) m.length c2) vv vm v v m m W h1 h2)
  have HC := Lib.hid hC
  have HI := Lib.hid hI
  obtain ⟨p1, d1, rfl, -, -, -⟩ := hI.vec.form
  obtain ⟨p2, d2, rfl, -, -, -⟩ := hI.bytes.form
  have l1 := hI.vec.len
  have l2 := hI.bytes.len
  have M1 := Lib.hid hC.mark.1
  have M2 := Lib.hid hC.mark2.1
  have r1 := hC.mark.2.1
  have r2 := hC.mark.2.2
  have r3 := hC.mark2.2.1
  have r4 := hC.mark2.2.2
  rw [Itm.same_self] at HS
  clear hC hI
  have HW := Lib.hid (below_two w (.cells #[.int .u64 (k : Int), .slice (some ⟨g1, 0, none⟩) v.length c1, .slice (some ⟨g2, 0, none⟩) m.length c2] 26) (.cells #[.int .u64 (k : Int), .slice p1 v.length d1, .slice p2 m.length d2] 26))
  go_enter Try.func15, Try.ntmps15
  go_upto_region 1 with (fail)
  obtain ⟨W, hW⟩ : ∃ W, W = (w.alloc (.cells #[.int .u64 (k : Int), .slice (some ⟨g1, 0, none⟩) v.length c1, .slice (some ⟨g2, 0, none⟩) m.length c2] 26)).alloc (.cells #[.int .u64 (k : Int), .slice p1 v.length d1, .slice p2 m.length d2] 26) := ⟨_, rfl⟩
  have z0 : W.cell? ⟨w.heap.size, 0, none⟩ = some (.int .u64 (k : Int)) := by rw [hW]; simp
  have z1 : W.cell? ⟨w.heap.size, 1, none⟩ = some (.slice (some ⟨g1, 0, none⟩) v.length c1) := by rw [hW]; simp
  have z2 : W.cell? ⟨w.heap.size, 2, none⟩ = some (.slice (some ⟨g2, 0, none⟩) m.length c2) := by rw [hW]; simp
  have y0 : W.cell? ⟨w.heap.size + 1, 0, none⟩ = some (.int .u64 (k : Int)) := by rw [hW]; simp
  have y1 : W.cell? ⟨w.heap.size + 1, 1, none⟩ = some (.slice p1 v.length d1) := by rw [hW]; simp
  have y2 : W.cell? ⟨w.heap.size + 1, 2, none⟩ = some (.slice p2 m.length d2) := by rw [hW]; simp
  rw [← hW] at HW ⊢
  clear hW
  have HC1 := Lib.hid (HC.out.below HW.out)
  have HI1 := Lib.hid (HI.out.below HW.out)
  have M1 := Lib.hid ((HW.out.cell (p := ⟨g1, v.length, none⟩) (block_lt_of_cell M1.out)).trans M1.out)
  have M2 := Lib.hid ((HW.out.cell (p := ⟨g2, m.length, none⟩) (block_lt_of_cell M2.out)).trans M2.out)
  have HKEY := Lib.hid HI.out.key
  obtain ⟨B, hB⟩ : ∃ B, B = w.heap.size := ⟨_, rfl⟩
  rw [← hB] at z0 z1 z2 y0 y1 y2 ⊢
  have Z0 := Lib.hid z0
  have Z1 := Lib.hid z1
  have Z2 := Lib.hid z2
  have Y0 := Lib.hid y0
  have Y1 := Lib.hid y1
  have Y2 := Lib.hid y2
  have W9 := Lib.hid (IntWalk.i64_in ((v.length : Int) + 1) (by omega))
  have W24 := Lib.hid (IntWalk.i64_in ((m.length : Int) + 1) (by omega))
  clear z0 z1 z2 y0 y1 y2 hB HC HI
  refine Ord.walk (KpF B k g1 v.length c1 g2 m.length c2 p1 d1 p2 d2) (fun _ _ w' => Below W.heap.size W w') (fun a b => Below a.heap.size a b)
    (by kernel_rfl) (by kernel_rfl) ?fr ?hfr (fun _ _ _ _ _ h => h) (fun xs => (Below.refl _ _).go1) ?he ?hend
  case hfr =>
    intro xs
    simp only [Ord.fill, Act.put, List.setIfInBounds_toArray, List.set_cons_zero, List.set_cons_succ]
    rfl
  case he =>
    refine Ord.each_cons (fun D xs w2 hD hC hP hR hA K hK => ?_) ?_
    · -- 0
      clear hA
      have c0 := (hR.cell (p := ⟨B, 0, none⟩) (block_lt_of_cell Z0.out)).trans Z0.out
      have c1 := (hR.cell (p := ⟨B, 1, none⟩) (block_lt_of_cell Z1.out)).trans Z1.out
      have c2 := (hR.cell (p := ⟨B, 2, none⟩) (block_lt_of_cell Z2.out)).trans Z2.out
      go_simp
      exact hK _ _ ⟨_, rfl, Below.refl _ _, hR, rfl⟩
    refine Ord.each_cons (fun D xs w2 hD hC hP hR hA K hK => ?_) ?_
    · -- 1
      clear hA
      have c0 := (hR.cell (p := ⟨B + 1, 0, none⟩) (block_lt_of_cell Y0.out)).trans Y0.out
      have c1 := (hR.cell (p := ⟨B + 1, 1, none⟩) (block_lt_of_cell Y1.out)).trans Y1.out
      have c2 := (hR.cell (p := ⟨B + 1, 2, none⟩) (block_lt_of_cell Y2.out)).trans Y2.out
      go_simp
      exact hK _ _ ⟨_, rfl, Below.refl _ _, hR, rfl⟩
    refine Ord.each_cons (fun D xs w2 hD hC hP hR hA K hK => ?_) ?_
    · -- 2
      have q0 := Ord.ahead_get _ hA 0 (by decide)
      simp only [KpF] at q0
      have q1 := Ord.ahead_get _ hA 1 (by decide)
      simp only [KpF] at q1
      simp only [q0, q1] at hK
      clear hA
      go_simp
      refine (HS.out w2 ((HC1.out.below hR).item HKEY.out) (HI1.out.below hR)).mono ?_
      rintro e w' ⟨rfl, hb⟩
      exact hK _ _ ⟨_, rfl, hb, hR.trans (hb.mono hR.size), rfl⟩
    refine Ord.each_cons (fun D xs w2 hD hC hP hR hA K hK => ?_) ?_
    · -- 3
      have q2 := Ord.ahead_get _ hA 2 (by decide)
      simp only [KpF] at q2
      simp only [q2] at hK
      clear hA
      go_simp
      exact hK _ _ ⟨_, rfl, Below.refl _ _, hR, rfl⟩
    refine Ord.each_cons (fun D xs w2 hD hC hP hR hA K hK => ?_) ?_
    · -- 4
      have q3 := Ord.ahead_get _ hA 3 (by decide)
      simp only [KpF] at q3
      simp only [q3] at hK
      clear hA
      go_simp
      exact hK _ _ ⟨_, rfl, Below.refl _ _, hR, rfl⟩
    refine Ord.each_cons (fun D xs w2 hD hC hP hR hA K hK => ?_) ?_
    · -- 5
      have q4 := Ord.ahead_get _ hA 4 (by decide)
      simp only [KpF] at q4
      have q3 := Ord.ahead_get _ hA 3 (by decide)
      simp only [KpF] at q3
      simp only [q4, q3] at hK
      clear hA
      have c0 := (hR.cell (p := ⟨B, 1, none⟩) (block_lt_of_cell Z1.out)).trans Z1.out
      go_simp
      exact hK _ _ ⟨_, rfl, Below.refl _ _, hR, rfl⟩
    refine Ord.each_cons (fun D xs w2 hD hC hP hR hA K hK => ?_) ?_
    · -- 6
      have q3 := Ord.ahead_get _ hA 3 (by decide)
      simp only [KpF] at q3
      simp only [q3] at hK
      clear hA
      go_simp
      exact hK _ _ ⟨_, rfl, Below.refl _ _, hR, rfl⟩
    refine Ord.each_cons (fun D xs w2 hD hC hP hR hA K hK => ?_) ?_
    · -- 7
      have q6 := Ord.ahead_get _ hA 6 (by decide)
      simp only [KpF] at q6
      have q3 := Ord.ahead_get _ hA 3 (by decide)
      simp only [KpF] at q3
      simp only [q6, q3] at hK
      clear hA
      have c0 := (hR.cell (p := ⟨B + 1, 1, none⟩) (block_lt_of_cell Y1.out)).trans Y1.out
      go_simp
      exact hK _ _ ⟨_, rfl, Below.refl _ _, hR, rfl⟩
    refine Ord.each_cons (fun D xs w2 hD hC hP hR hA K hK => ?_) ?_
    · -- 8
      have q7 := Ord.ahead_get _ hA 7 (by decide)
      simp only [KpF] at q7
      have q3 := Ord.ahead_get _ hA 3 (by decide)
      simp only [KpF] at q3
      simp only [q7, q3] at hK
      clear hA
      go_simp
      exact hK _ _ ⟨_, rfl, Below.refl _ _, hR, rfl⟩
    refine Ord.each_cons (fun D xs w2 hD hC hP hR hA K hK => ?_) ?_
    · -- 9
      have q8 := Ord.ahead_get _ hA 8 (by decide)
      simp only [KpF] at q8
      have q3 := Ord.ahead_get _ hA 3 (by decide)
      simp only [KpF] at q3
      simp only [q8, q3] at hK
      clear hA
      go_simp
      try rw [W9.out]
      exact hK _ _ ⟨_, rfl, Below.refl _ _, hR, rfl⟩
    refine Ord.each_cons (fun D xs w2 hD hC hP hR hA K hK => ?_) ?_
    · -- 10
      have q5 := Ord.ahead_get _ hA 5 (by decide)
      simp only [KpF] at q5
      have q9 := Ord.ahead_get _ hA 9 (by decide)
      simp only [KpF] at q9
      have q3 := Ord.ahead_get _ hA 3 (by decide)
      simp only [KpF] at q3
      simp only [q5, q9, q3] at hK
      clear hA
      go_simp
      rw [if_pos (by omega)]
      exact hK _ _ ⟨_, rfl, Below.refl _ _, hR, rfl⟩
    refine Ord.each_cons (fun D xs w2 hD hC hP hR hA K hK => ?_) ?_
    · -- 11
      have q3 := Ord.ahead_get _ hA 3 (by decide)
      simp only [KpF] at q3
      simp only [q3] at hK
      clear hA
      go_simp
      exact hK _ _ ⟨_, rfl, Below.refl _ _, hR, rfl⟩
    refine Ord.each_cons (fun D xs w2 hD hC hP hR hA K hK => ?_) ?_
    · -- 12
      have q11 := Ord.ahead_get _ hA 11 (by decide)
      simp only [KpF] at q11
      have q3 := Ord.ahead_get _ hA 3 (by decide)
      simp only [KpF] at q3
      simp only [q11, q3] at hK
      clear hA
      have c0 := (hR.cell (p := ⟨B + 1, 1, none⟩) (block_lt_of_cell Y1.out)).trans Y1.out
      go_simp
      exact hK _ _ ⟨_, rfl, Below.refl _ _, hR, rfl⟩
    refine Ord.each_cons (fun D xs w2 hD hC hP hR hA K hK => ?_) ?_
    · -- 13
      have q12 := Ord.ahead_get _ hA 12 (by decide)
      simp only [KpF] at q12
      have q3 := Ord.ahead_get _ hA 3 (by decide)
      simp only [KpF] at q3
      simp only [q12, q3] at hK
      clear hA
      go_simp
      exact hK _ _ ⟨_, rfl, Below.refl _ _, hR, rfl⟩
    refine Ord.each_cons (fun D xs w2 hD hC hP hR hA K hK => ?_) ?_
    · -- 14
      have q10 := Ord.ahead_get _ hA 10 (by decide)
      simp only [KpF] at q10
      have q13 := Ord.ahead_get _ hA 13 (by decide)
      simp only [KpF] at q13
      have q3 := Ord.ahead_get _ hA 3 (by decide)
      simp only [KpF] at q3
      simp only [q10, q13, q3] at hK
      clear hA
      go_simp
      rw [if_pos (by omega)]
      exact hK _ _ ⟨_, rfl, Below.refl _ _, hR, rfl⟩
    refine Ord.each_cons (fun D xs w2 hD hC hP hR hA K hK => ?_) ?_
    · -- 15
      have q14 := Ord.ahead_get _ hA 14 (by decide)
      simp only [KpF] at q14
      have q3 := Ord.ahead_get _ hA 3 (by decide)
      simp only [KpF] at q3
      simp only [q14, q3] at hK
      clear hA
      have c0 := (hR.cell (p := ⟨g1, v.length, none⟩) (block_lt_of_cell M1.out)).trans M1.out
      go_simp
      exact hK _ _ ⟨_, rfl, Below.refl _ _, hR, rfl⟩
    refine Ord.each_cons (fun D xs w2 hD hC hP hR hA K hK => ?_) ?_
    · -- 16
      have q15 := Ord.ahead_get _ hA 15 (by decide)
      simp only [KpF] at q15
      have q3 := Ord.ahead_get _ hA 3 (by decide)
      simp only [KpF] at q3
      simp only [q15, q3] at hK
      clear hA
      go_simp
      exact hK _ _ ⟨_, rfl, Below.refl _ _, hR, rfl⟩
    refine Ord.each_cons (fun D xs w2 hD hC hP hR hA K hK => ?_) ?_
    · -- 17
      have q3 := Ord.ahead_get _ hA 3 (by decide)
      simp only [KpF] at q3
      have q16 := Ord.ahead_get _ hA 16 (by decide)
      simp only [KpF] at q16
      simp only [q3, q16] at hK
      clear hA
      go_simp
      exact hK _ _ ⟨_, rfl, Below.refl _ _, hR, rfl⟩
    refine Ord.each_cons (fun D xs w2 hD hC hP hR hA K hK => ?_) ?_
    · -- 18
      have q17 := Ord.ahead_get _ hA 17 (by decide)
      simp only [KpF] at q17
      simp only [q17] at hK
      clear hA
      go_simp
      exact hK _ _ ⟨_, rfl, Below.refl _ _, hR, rfl⟩
    refine Ord.each_cons (fun D xs w2 hD hC hP hR hA K hK => ?_) ?_
    · -- 19
      have q18 := Ord.ahead_get _ hA 18 (by decide)
      simp only [KpF] at q18
      simp only [q18] at hK
      clear hA
      go_simp
      exact hK _ _ ⟨_, rfl, Below.refl _ _, hR, rfl⟩
    refine Ord.each_cons (fun D xs w2 hD hC hP hR hA K hK => ?_) ?_
    · -- 20
      have q19 := Ord.ahead_get _ hA 19 (by decide)
      simp only [KpF] at q19
      have q18 := Ord.ahead_get _ hA 18 (by decide)
      simp only [KpF] at q18
      simp only [q19, q18] at hK
      clear hA
      have c0 := (hR.cell (p := ⟨B, 2, none⟩) (block_lt_of_cell Z2.out)).trans Z2.out
      go_simp
      exact hK _ _ ⟨_, rfl, Below.refl _ _, hR, rfl⟩
    refine Ord.each_cons (fun D xs w2 hD hC hP hR hA K hK => ?_) ?_
    · -- 21
      have q18 := Ord.ahead_get _ hA 18 (by decide)
      simp only [KpF] at q18
      simp only [q18] at hK
      clear hA
      go_simp
      exact hK _ _ ⟨_, rfl, Below.refl _ _, hR, rfl⟩
    refine Ord.each_cons (fun D xs w2 hD hC hP hR hA K hK => ?_) ?_
    · -- 22
      have q21 := Ord.ahead_get _ hA 21 (by decide)
      simp only [KpF] at q21
      have q18 := Ord.ahead_get _ hA 18 (by decide)
      simp only [KpF] at q18
      simp only [q21, q18] at hK
      clear hA
      have c0 := (hR.cell (p := ⟨B + 1, 2, none⟩) (block_lt_of_cell Y2.out)).trans Y2.out
      go_simp
      exact hK _ _ ⟨_, rfl, Below.refl _ _, hR, rfl⟩
    refine Ord.each_cons (fun D xs w2 hD hC hP hR hA K hK => ?_) ?_
    · -- 23
      have q22 := Ord.ahead_get _ hA 22 (by decide)
      simp only [KpF] at q22
      have q18 := Ord.ahead_get _ hA 18 (by decide)
      simp only [KpF] at q18
      simp only [q22, q18] at hK
      clear hA
      go_simp
      exact hK _ _ ⟨_, rfl, Below.refl _ _, hR, rfl⟩
    refine Ord.each_cons (fun D xs w2 hD hC hP hR hA K hK => ?_) ?_
    · -- 24
      have q23 := Ord.ahead_get _ hA 23 (by decide)
      simp only [KpF] at q23
      have q18 := Ord.ahead_get _ hA 18 (by decide)
      simp only [KpF] at q18
      simp only [q23, q18] at hK
      clear hA
      go_simp
      try rw [W24.out]
      exact hK _ _ ⟨_, rfl, Below.refl _ _, hR, rfl⟩
    refine Ord.each_cons (fun D xs w2 hD hC hP hR hA K hK => ?_) ?_
    · -- 25
      have q20 := Ord.ahead_get _ hA 20 (by decide)
      simp only [KpF] at q20
      have q24 := Ord.ahead_get _ hA 24 (by decide)
      simp only [KpF] at q24
      have q18 := Ord.ahead_get _ hA 18 (by decide)
      simp only [KpF] at q18
      simp only [q20, q24, q18] at hK
      clear hA
      go_simp
      rw [if_pos (by omega)]
      exact hK _ _ ⟨_, rfl, Below.refl _ _, hR, rfl⟩
    refine Ord.each_cons (fun D xs w2 hD hC hP hR hA K hK => ?_) ?_
    · -- 26
      have q18 := Ord.ahead_get _ hA 18 (by decide)
      simp only [KpF] at q18
      simp only [q18] at hK
      clear hA
      go_simp
      exact hK _ _ ⟨_, rfl, Below.refl _ _, hR, rfl⟩
    refine Ord.each_cons (fun D xs w2 hD hC hP hR hA K hK => ?_) ?_
    · -- 27
      have q26 := Ord.ahead_get _ hA 26 (by decide)
      simp only [KpF] at q26
      have q18 := Ord.ahead_get _ hA 18 (by decide)
      simp only [KpF] at q18
      simp only [q26, q18] at hK
      clear hA
      have c0 := (hR.cell (p := ⟨B + 1, 2, none⟩) (block_lt_of_cell Y2.out)).trans Y2.out
      go_simp
      exact hK _ _ ⟨_, rfl, Below.refl _ _, hR, rfl⟩
    refine Ord.each_cons (fun D xs w2 hD hC hP hR hA K hK => ?_) ?_
    · -- 28
      have q27 := Ord.ahead_get _ hA 27 (by decide)
      simp only [KpF] at q27
      have q18 := Ord.ahead_get _ hA 18 (by decide)
      simp only [KpF] at q18
      simp only [q27, q18] at hK
      clear hA
      go_simp
      exact hK _ _ ⟨_, rfl, Below.refl _ _, hR, rfl⟩
    refine Ord.each_cons (fun D xs w2 hD hC hP hR hA K hK => ?_) ?_
    · -- 29
      have q25 := Ord.ahead_get _ hA 25 (by decide)
      simp only [KpF] at q25
      have q28 := Ord.ahead_get _ hA 28 (by decide)
      simp only [KpF] at q28
      have q18 := Ord.ahead_get _ hA 18 (by decide)
      simp only [KpF] at q18
      simp only [q25, q28, q18] at hK
      clear hA
      go_simp
      rw [if_pos (by omega)]
      exact hK _ _ ⟨_, rfl, Below.refl _ _, hR, rfl⟩
    refine Ord.each_cons (fun D xs w2 hD hC hP hR hA K hK => ?_) ?_
    · -- 30
      have q29 := Ord.ahead_get _ hA 29 (by decide)
      simp only [KpF] at q29
      have q18 := Ord.ahead_get _ hA 18 (by decide)
      simp only [KpF] at q18
      simp only [q29, q18] at hK
      clear hA
      have c0 := (hR.cell (p := ⟨g2, m.length, none⟩) (block_lt_of_cell M2.out)).trans M2.out
      go_simp
      exact hK _ _ ⟨_, rfl, Below.refl _ _, hR, rfl⟩
    refine Ord.each_cons (fun D xs w2 hD hC hP hR hA K hK => ?_) ?_
    · -- 31
      have q30 := Ord.ahead_get _ hA 30 (by decide)
      simp only [KpF] at q30
      have q18 := Ord.ahead_get _ hA 18 (by decide)
      simp only [KpF] at q18
      simp only [q30, q18] at hK
      clear hA
      go_simp
      exact hK _ _ ⟨_, rfl, Below.refl _ _, hR, rfl⟩
    refine Ord.each_cons (fun D xs w2 hD hC hP hR hA K hK => ?_) ?_
    · -- 32
      have q18 := Ord.ahead_get _ hA 18 (by decide)
      simp only [KpF] at q18
      have q31 := Ord.ahead_get _ hA 31 (by decide)
      simp only [KpF] at q31
      simp only [q18, q31] at hK
      clear hA
      go_simp
      exact hK _ _ ⟨_, rfl, Below.refl _ _, hR, rfl⟩
    refine Ord.each_cons (fun D xs w2 hD hC hP hR hA K hK => ?_) ?_
    · -- 33
      have q32 := Ord.ahead_get _ hA 32 (by decide)
      simp only [KpF] at q32
      simp only [q32] at hK
      clear hA
      go_simp
      exact hK _ _ ⟨_, rfl, Below.refl _ _, hR, rfl⟩
    exact Ord.each_nil
  case hend =>
    intro D xs w2 hR hF
    have e33 := (hF 33 (by decide)).2
    simp only [KpF] at e33
    rw [e33]
    clear e33 hF
    have HR := Lib.hid (HW.out.trans (hR.mono HW.out.size))
    clear hR
    go_wp2_with fail
    go_ret
    exact ⟨rfl, HR.out⟩
end Go.Proofs.Ytpliogkcfhcfpaa
