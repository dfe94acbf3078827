/- What the document's Copy answers: the same record in new memory, with marked numbers behind its lists. Conditions: the slices' cells hold what they tell; the room for one more. -/
import Derived.Test.YtpliogkcfhcfpaaItemCopyR
import Derived.Test.YtpliogkcfhcfpaaCell3
namespace Go.Proofs.Ytpliogkcfhcfpaa
open Go.RowKit

/-- A copy, with marked numbers behind its lists. -/
structure CopyAt (base : Nat) (w : World) (v : List Int) (m : List Nat) (g1 c1 g2 c2 : Nat) : Prop where
  nums : I32.Own base w (.slice (some ⟨g1, 0, none⟩) (v.length + 1) c1) (v ++ [77])
  text : Own base w (.slice (some ⟨g2, 0, none⟩) (m.length + 1) c2) (m ++ [78])

theorem CopyAt.below {base : Nat} {w w' : World} {v : List Int} {m : List Nat} {g1 c1 g2 c2 : Nat} (h : CopyAt base w v m g1 c1 g2 c2) (hb : Below w.heap.size w w') : CopyAt base w' v m g1 c1 g2 c2 :=
  ⟨h.nums.below hb, h.text.below hb⟩

/-- Behind the store: the result's cells. -/
structure CpFin (w0 : World) (base R k : Nat) (v : List Int) (m : List Nat) (w : World) : Prop where
  ex : ∃ g1 c1 g2 c2, w.heap[R]? = some (.cells #[.int .u64 (k : Int), .slice (some ⟨g1, 0, none⟩) v.length c1, .slice (some ⟨g2, 0, none⟩) m.length c2] 26 (0, 0)) ∧ CopyAt base w v m g1 c1 g2 c2
  bel : Below w0.heap.size w0 w

def CpRR (w0 W : World) (R k : Nat) (v : List Int) (m : List Nat) (D : Nat → Bool) (xs : Nat → Value) (w : World) : Prop :=
  (D 23 = false → CpR W k v m D xs w) ∧ (D 23 = true → CpFin w0 W.heap.size R k v m w)

/-- What its operations leave. -/
def CpF (B k : Nat) (v : List Int) (m : List Nat) (p1 : Option Addr) (c1 : Nat) (p2 : Option Addr) (c2 : Nat) (i : Nat) (x : Value) (_ : World) : Prop :=
  match i with
  | 0 => x = .pointer (some ⟨B, 0, none⟩)
  | 1 => x = .int .u64 (k : Int)
  | 3 => x = .pointer (some ⟨B, 1, none⟩)
  | 4 => x = .slice p1 v.length c1
  | 8 => x = .pointer (some ⟨B, 1, none⟩)
  | 9 => x = .slice p1 v.length c1
  | 10 => x = .int .i64 (v.length : Int)
  | 13 => x = .pointer (some ⟨B, 2, none⟩)
  | 14 => x = .slice p2 m.length c2
  | 18 => x = .pointer (some ⟨B, 2, none⟩)
  | 19 => x = .slice p2 m.length c2
  | 20 => x = .int .i64 (m.length : Int)
  | _ => True

theorem cpRR_skip {w0 W : World} {R k : Nat} {v : List Int} {m : List Nat} {D : Nat → Bool} {xs : Nat → Value} {w w' : World} {u : Value} (h : CpRR w0 W R k v m D xs w) (h23 : D 23 = false) (hb : Below w.heap.size w w') (j : Nat) (hj : (j != 2 && j != 5 && j != 6 && j != 7 && j != 11 && j != 12 && j != 15 && j != 16 && j != 17 && j != 21 && j != 22) = true) (hj2 : (j != 23) = true) : CpRR w0 W R k v m (Ord.wth D j) (Ord.set xs j u) w' := by
  refine ⟨fun _ => (h.1 h23).skip hb j hj, fun h2 => ?_⟩
  unfold Ord.wth at h2
  rw [if_neg (by simp at hj2; omega)] at h2
  rw [h23] at h2; cases h2

theorem cpRR_of {w0 W : World} {R k : Nat} {v : List Int} {m : List Nat} {D : Nat → Bool} {xs : Nat → Value} {w' : World} {u : Value} {j : Nat} (h23 : D 23 = false) (hj2 : (j != 23) = true) (h : CpR W k v m (Ord.wth D j) (Ord.set xs j u) w') : CpRR w0 W R k v m (Ord.wth D j) (Ord.set xs j u) w' := by
  refine ⟨fun _ => h, fun h2 => ?_⟩
  unfold Ord.wth at h2
  rw [if_neg (by simp at hj2; omega)] at h2
  rw [h23] at h2; cases h2

/-- What Copy answers. -/
def CopyAns (w0 : World) (k : Nat) (v : List Int) (m : List Nat) (e : Ending) (w' : World) : Prop :=
  ∃ g1 c1 g2 c2, e = .returned (ItemV k (.slice (some ⟨g1, 0, none⟩) v.length c1) (.slice (some ⟨g2, 0, none⟩) m.length c2)) ∧ CopyAt w0.heap.size w' v m g1 c1 g2 c2 ∧ Below w0.heap.size w0 w'

theorem own_forms {base : Nat} {w : World} {x : Value} {l : List Int} (h : I32.Own base w x l) (h0 : 0 < l.length) : ∃ g c, x = .slice (some ⟨g, 0, none⟩) l.length c ∧ l.length ≤ c ∧ c ≤ 9223372036854775807 := by
  obtain ⟨g, c, e, _, _, h1, h2, _⟩ := I32.own_some h h0
  exact ⟨g, c, e, h1, h2⟩
theorem own_forms2 {base : Nat} {w : World} {x : Value} {l : List Nat} (h : Own base w x l) (h0 : 0 < l.length) : ∃ g c, x = .slice (some ⟨g, 0, none⟩) l.length c ∧ l.length ≤ c ∧ c ≤ 9223372036854775807 := by
  obtain ⟨g, c, e, _, _, h1, h2, _⟩ := own_some h h0
  exact ⟨g, c, e, h1, h2⟩

set_option maxHeartbeats 3200000 in
set_option maxRecDepth 20000 in
theorem copy_any (k : Nat) (vv vm : Value) (v : List Int) (m : List Nat) (w : World) (hI : ItemAt w k vv vm v m) (hv : v.length + 1 ≤ 35184372088832) (hm : m.length + 1 ≤ 140737488355328) :
    Calls Try.prog 10 #[ItemV k vv vm] w (CopyAns w k v m) := by
  have HI := Lib.hid hI
  obtain ⟨p1, c1, rfl, -, -, -⟩ := hI.vec.form
  obtain ⟨p2, c2, rfl, -, -, -⟩ := hI.bytes.form
  clear hI
  go_enter Try.func10, Try.ntmps10
  go_upto_region 1 with (fail)
  obtain ⟨W, hW⟩ : ∃ W, W = (w.alloc (.cells #[.int .u64 (k : Int), .slice p1 v.length c1, .slice p2 m.length c2] 26)).alloc (.cells #[.int .u64 0, .slice none 0 0, .slice none 0 0] 26) := ⟨_, rfl⟩
  have hb0 : Below w.heap.size w W := by rw [hW]; exact ((Below.refl _ _).alloc (Nat.le_refl _) _).alloc (by simp) _
  have z0 : W.cell? ⟨w.heap.size, 0, none⟩ = some (.int .u64 (k : Int)) := by rw [hW]; simp
  have z1 : W.cell? ⟨w.heap.size, 1, none⟩ = some (.slice p1 v.length c1) := by rw [hW]; simp
  have z2 : W.cell? ⟨w.heap.size, 2, none⟩ = some (.slice p2 m.length c2) := by rw [hW]; simp
  have hr : W.heap[w.heap.size + 1]? = some (.cells #[.int .u64 0, .slice none 0 0, .slice none 0 0] 26 (0, 0)) := by
    rw [hW]
    have := heap_alloc_last (w.alloc (.cells #[.int .u64 (k : Int), .slice p1 v.length c1, .slice p2 m.length c2] 26)) (.cells #[.int .u64 0, .slice none 0 0, .slice none 0 0] 26)
    rwa [show (w.alloc (.cells #[.int .u64 (k : Int), .slice p1 v.length c1, .slice p2 m.length c2] 26)).heap.size = w.heap.size + 1 by simp] at this
  rw [← hW]
  clear hW
  obtain ⟨B, hB⟩ : ∃ B, B = w.heap.size := ⟨_, rfl⟩
  rw [← hB] at z0 z1 z2 hr ⊢
  have HV := Lib.hid (HI.out.vec.below hb0)
  have HM := Lib.hid (HI.out.bytes.below hb0)
  have Z0 := Lib.hid z0
  have Z1 := Lib.hid z1
  have Z2 := Lib.hid z2
  have HR := Lib.hid hr
  have HB0 := Lib.hid hb0
  have HB := Lib.hid hB
  have hlv : (v ++ [77]).length = v.length + 1 := by simp
  have hlm : (m ++ [78]).length = m.length + 1 := by simp
  have LV := Lib.hid hlv
  have LM := Lib.hid hlm
  have K77 : Hid (I32.Okk 77) := okk_of ⟨by decide, by decide⟩
  clear z0 z1 z2 hr hb0 hB hlv hlm
  refine Ord.walk (CpF B k v m p1 c1 p2 c2) (CpRR w W (B + 1) k v m) (fun _ _ => True)
    (by kernel_rfl) (by kernel_rfl) ?fr ?hfr (fun _ _ _ _ _ h => h) ?h0 ?he ?hend
  case h0 =>
    intro xs
    refine ⟨fun _ => ?_, fun h => by cases h⟩
    exact ⟨(Below.refl _ _).go1, (fun h => by cases h), (fun h => by cases h), (fun h => by cases h), (fun h => by cases h), (fun h => by cases h), (fun h => by cases h), (fun h => by cases h), (fun h => by cases h), (fun h => by cases h), (fun h => by cases h), (fun h => by cases h)⟩
  case hfr =>
    intro xs
    simp only [Ord.fill, Act.put, List.setIfInBounds_toArray, List.set_cons_zero, List.set_cons_succ]
    rfl
  case he =>
    refine Ord.each_cons (fun D xs w2 hD hC hP hR hA K hK => ?_) ?_
    · -- 0
      clear hA
      have hD' : D 0 = false := hD
      have hN : D 23 = false := by
        cases h : D 23
        · rfl
        · have := Ord.closed_at hC 23 0 (by kernel_rfl) h
          rw [hD'] at this; cases this
      have hR1 := hR.1 hN
      go_simp
      exact hK _ _ ⟨_, rfl, trivial, cpRR_skip hR hN (Below.refl _ _) _ (by decide) (by decide), rfl⟩
    refine Ord.each_cons (fun D xs w2 hD hC hP hR hA K hK => ?_) ?_
    · -- 1
      have q0 := Ord.ahead_get _ hA 0 (by decide)
      simp only [CpF] at q0
      simp only [q0] at hK
      clear hA
      have hD' : D 1 = false := hD
      have hN : D 23 = false := by
        cases h : D 23
        · rfl
        · have := Ord.closed_at hC 23 1 (by kernel_rfl) h
          rw [hD'] at this; cases this
      have hR1 := hR.1 hN
      have c0 := (hR1.bel.cell (p := ⟨B, 0, none⟩) (block_lt_of_cell Z0.out)).trans Z0.out
      go_simp
      exact hK _ _ ⟨_, rfl, trivial, cpRR_skip hR hN (Below.refl _ _) _ (by decide) (by decide), rfl⟩
    refine Ord.each_cons (fun D xs w2 hD hC hP hR hA K hK => ?_) ?_
    · -- 2
      clear hA
      have hD' : D 2 = false := hD
      have hN : D 23 = false := by
        cases h : D 23
        · rfl
        · have := Ord.closed_at hC 23 2 (by kernel_rfl) h
          rw [hD'] at this; cases this
      have hR1 := hR.1 hN
      go_simp
      have hal : Below w2.heap.size w2 (w2.alloc (.cells #[] 21)) := (Below.refl _ _).alloc (Nat.le_refl _) _
      exact hK _ _ ⟨_, rfl, trivial, cpRR_of hN (by decide) (hR1.op2 hal (I32.own_empty w2 W.heap.size 0 #[] hR1.bel.size (Nat.zero_le _) rfl) rfl), trivial⟩
    refine Ord.each_cons (fun D xs w2 hD hC hP hR hA K hK => ?_) ?_
    · -- 3
      clear hA
      have hD' : D 3 = false := hD
      have hN : D 23 = false := by
        cases h : D 23
        · rfl
        · have := Ord.closed_at hC 23 3 (by kernel_rfl) h
          rw [hD'] at this; cases this
      have hR1 := hR.1 hN
      go_simp
      exact hK _ _ ⟨_, rfl, trivial, cpRR_skip hR hN (Below.refl _ _) _ (by decide) (by decide), rfl⟩
    refine Ord.each_cons (fun D xs w2 hD hC hP hR hA K hK => ?_) ?_
    · -- 4
      have q3 := Ord.ahead_get _ hA 3 (by decide)
      simp only [CpF] at q3
      simp only [q3] at hK
      clear hA
      have hD' : D 4 = false := hD
      have hN : D 23 = false := by
        cases h : D 23
        · rfl
        · have := Ord.closed_at hC 23 4 (by kernel_rfl) h
          rw [hD'] at this; cases this
      have hR1 := hR.1 hN
      have c0 := (hR1.bel.cell (p := ⟨B, 1, none⟩) (block_lt_of_cell Z1.out)).trans Z1.out
      go_simp
      exact hK _ _ ⟨_, rfl, trivial, cpRR_skip hR hN (Below.refl _ _) _ (by decide) (by decide), rfl⟩
    refine Ord.each_cons (fun D xs w2 hD hC hP hR hA K hK => ?_) ?_
    · -- 5
      have q4 := Ord.ahead_get _ hA 4 (by decide)
      simp only [CpF] at q4
      clear hA
      have hD' : D 5 = false := hD
      have hN : D 23 = false := by
        cases h : D 23
        · rfl
        · have := Ord.closed_at hC 23 5 (by kernel_rfl) h
          rw [hD'] at this; cases this
      have hR1 := hR.1 hN
      have h2 : D 2 = true := hP { on := 2, ground := .data } (by simp) rfl
      have h7 : D 7 = false := by
        cases h : D 7
        · rfl
        · have := Ord.closed_at hC 7 5 (by kernel_rfl) h
          rw [hD'] at this; cases this
      have h11 : D 11 = false := by
        cases h : D 11
        · rfl
        · have := Ord.closed_at hC 11 7 (by kernel_rfl) h
          rw [h7] at this; cases this
      rw [if_pos (by rfl)]
      refine I32.wp_append_Own (.tmp 5) (.tmp 7) rfl W.heap.size (xs 2) [] rfl (hR1.a2 h2 hD') (.slice p1 v.length c1) v q4 (HV.out.below hR1.bel) (by rw [List.length_nil]; omega) hR1.bel.size ?_
      intro u w' ho hbel hg
      rw [List.nil_append] at ho
      exact hK _ _ ⟨u, rfl, trivial, cpRR_of hN (by decide) (hR1.op5 h2 hD' h7 h11 hbel hg ho), trivial⟩
    refine Ord.each_cons (fun D xs w2 hD hC hP hR hA K hK => ?_) ?_
    · -- 6
      clear hA
      have hD' : D 6 = false := hD
      have hN : D 23 = false := by
        cases h : D 23
        · rfl
        · have := Ord.closed_at hC 23 6 (by kernel_rfl) h
          rw [hD'] at this; cases this
      have hR1 := hR.1 hN
      go_simp
      have hal : Below w2.heap.size w2 (w2.alloc (.cells #[.int .i32 77] 21)) := (Below.refl _ _).alloc (Nat.le_refl _) _
      exact hK _ _ ⟨_, rfl, trivial, cpRR_of hN (by decide) (hR1.op6 hal (I32.own_one w2 W.heap.size 77 hR1.bel.size K77.out) rfl), trivial⟩
    refine Ord.each_cons (fun D xs w2 hD hC hP hR hA K hK => ?_) ?_
    · -- 7
      clear hA
      have hD' : D 7 = false := hD
      have hN : D 23 = false := by
        cases h : D 23
        · rfl
        · have := Ord.closed_at hC 23 7 (by kernel_rfl) h
          rw [hD'] at this; cases this
      have hR1 := hR.1 hN
      have h5 : D 5 = true := hP { on := 5, ground := .data } (by simp) rfl
      have h6 : D 6 = true := hP { on := 6, ground := .data } (by simp) rfl
      have h11 : D 11 = false := by
        cases h : D 11
        · rfl
        · have := Ord.closed_at hC 11 7 (by kernel_rfl) h
          rw [hD'] at this; cases this
      rw [if_pos (by rfl)]
      refine I32.wp_append_Own (.tmp 8) (.tmp 9) rfl W.heap.size (xs 5) v rfl (hR1.a5 h5 hD') (xs 6) [77] rfl (hR1.m6 h6 hD').1.bts (by rw [List.length_singleton]; omega) hR1.bel.size ?_
      intro u w' ho hbel hg
      exact hK _ _ ⟨u, rfl, trivial, cpRR_of hN (by decide) (hR1.op7 h5 hD' h11 hbel hg ho), trivial⟩
    refine Ord.each_cons (fun D xs w2 hD hC hP hR hA K hK => ?_) ?_
    · -- 8
      clear hA
      have hD' : D 8 = false := hD
      have hN : D 23 = false := by
        cases h : D 23
        · rfl
        · have := Ord.closed_at hC 23 8 (by kernel_rfl) h
          rw [hD'] at this; cases this
      have hR1 := hR.1 hN
      go_simp
      exact hK _ _ ⟨_, rfl, trivial, cpRR_skip hR hN (Below.refl _ _) _ (by decide) (by decide), rfl⟩
    refine Ord.each_cons (fun D xs w2 hD hC hP hR hA K hK => ?_) ?_
    · -- 9
      have q8 := Ord.ahead_get _ hA 8 (by decide)
      simp only [CpF] at q8
      simp only [q8] at hK
      clear hA
      have hD' : D 9 = false := hD
      have hN : D 23 = false := by
        cases h : D 23
        · rfl
        · have := Ord.closed_at hC 23 9 (by kernel_rfl) h
          rw [hD'] at this; cases this
      have hR1 := hR.1 hN
      have c0 := (hR1.bel.cell (p := ⟨B, 1, none⟩) (block_lt_of_cell Z1.out)).trans Z1.out
      go_simp
      exact hK _ _ ⟨_, rfl, trivial, cpRR_skip hR hN (Below.refl _ _) _ (by decide) (by decide), rfl⟩
    refine Ord.each_cons (fun D xs w2 hD hC hP hR hA K hK => ?_) ?_
    · -- 10
      have q9 := Ord.ahead_get _ hA 9 (by decide)
      simp only [CpF] at q9
      simp only [q9] at hK
      clear hA
      have hD' : D 10 = false := hD
      have hN : D 23 = false := by
        cases h : D 23
        · rfl
        · have := Ord.closed_at hC 23 10 (by kernel_rfl) h
          rw [hD'] at this; cases this
      have hR1 := hR.1 hN
      go_simp
      exact hK _ _ ⟨_, rfl, trivial, cpRR_skip hR hN (Below.refl _ _) _ (by decide) (by decide), rfl⟩
    refine Ord.each_cons (fun D xs w2 hD hC hP hR hA K hK => ?_) ?_
    · -- 11
      have q10 := Ord.ahead_get _ hA 10 (by decide)
      simp only [CpF] at q10
      simp only [q10] at hK
      clear hA
      have hD' : D 11 = false := hD
      have hN : D 23 = false := by
        cases h : D 23
        · rfl
        · have := Ord.closed_at hC 23 11 (by kernel_rfl) h
          rw [hD'] at this; cases this
      have hR1 := hR.1 hN
      have h7 : D 7 = true := hP { on := 7, ground := .data } (by simp) rfl
      have h22 : D 22 = false := by
        cases h : D 22
        · rfl
        · have := Ord.closed_at hC 22 11 (by kernel_rfl) h
          rw [hD'] at this; cases this
      obtain ⟨g, c, e7, l1, l2⟩ := own_forms (hR1.a7 h7) (by rw [LV.out]; omega)
      rw [LV.out] at e7 l1
      have l3 : v.length ≤ c := by omega
      have he := e7
      simp only [e7] at hK
      go_simp
      exact hK _ _ ⟨_, rfl, trivial, cpRR_of hN (by decide) (hR1.op11 h22 ⟨g, c, he, rfl⟩), trivial⟩
    refine Ord.each_cons (fun D xs w2 hD hC hP hR hA K hK => ?_) ?_
    · -- 12
      clear hA
      have hD' : D 12 = false := hD
      have hN : D 23 = false := by
        cases h : D 23
        · rfl
        · have := Ord.closed_at hC 23 12 (by kernel_rfl) h
          rw [hD'] at this; cases this
      have hR1 := hR.1 hN
      go_simp
      have hal : Below w2.heap.size w2 (w2.alloc (.cells #[] 5)) := (Below.refl _ _).alloc (Nat.le_refl _) _
      exact hK _ _ ⟨_, rfl, trivial, cpRR_of hN (by decide) (hR1.op12 hal (own_empty w2 W.heap.size 0 #[] hR1.bel.size (Nat.zero_le _) rfl) rfl), trivial⟩
    refine Ord.each_cons (fun D xs w2 hD hC hP hR hA K hK => ?_) ?_
    · -- 13
      clear hA
      have hD' : D 13 = false := hD
      have hN : D 23 = false := by
        cases h : D 23
        · rfl
        · have := Ord.closed_at hC 23 13 (by kernel_rfl) h
          rw [hD'] at this; cases this
      have hR1 := hR.1 hN
      go_simp
      exact hK _ _ ⟨_, rfl, trivial, cpRR_skip hR hN (Below.refl _ _) _ (by decide) (by decide), rfl⟩
    refine Ord.each_cons (fun D xs w2 hD hC hP hR hA K hK => ?_) ?_
    · -- 14
      have q13 := Ord.ahead_get _ hA 13 (by decide)
      simp only [CpF] at q13
      simp only [q13] at hK
      clear hA
      have hD' : D 14 = false := hD
      have hN : D 23 = false := by
        cases h : D 23
        · rfl
        · have := Ord.closed_at hC 23 14 (by kernel_rfl) h
          rw [hD'] at this; cases this
      have hR1 := hR.1 hN
      have c0 := (hR1.bel.cell (p := ⟨B, 2, none⟩) (block_lt_of_cell Z2.out)).trans Z2.out
      go_simp
      exact hK _ _ ⟨_, rfl, trivial, cpRR_skip hR hN (Below.refl _ _) _ (by decide) (by decide), rfl⟩
    refine Ord.each_cons (fun D xs w2 hD hC hP hR hA K hK => ?_) ?_
    · -- 15
      have q14 := Ord.ahead_get _ hA 14 (by decide)
      simp only [CpF] at q14
      clear hA
      have hD' : D 15 = false := hD
      have hN : D 23 = false := by
        cases h : D 23
        · rfl
        · have := Ord.closed_at hC 23 15 (by kernel_rfl) h
          rw [hD'] at this; cases this
      have hR1 := hR.1 hN
      have h12 : D 12 = true := hP { on := 12, ground := .data } (by simp) rfl
      have h7 : D 7 = true := hP { on := 7, ground := .chain } (by simp) rfl
      have h17 : D 17 = false := by
        cases h : D 17
        · rfl
        · have := Ord.closed_at hC 17 15 (by kernel_rfl) h
          rw [hD'] at this; cases this
      have h21 : D 21 = false := by
        cases h : D 21
        · rfl
        · have := Ord.closed_at hC 21 17 (by kernel_rfl) h
          rw [h17] at this; cases this
      rw [if_pos (by rfl)]
      refine wp_append_Own (.tmp 15) (.tmp 17) rfl W.heap.size (xs 12) [] rfl (hR1.b12 h12 hD') (.slice p2 m.length c2) m q14 (HM.out.below hR1.bel) (by rw [List.length_nil]; omega) hR1.bel.size ?_
      intro u w' ho hbel hg
      rw [List.nil_append] at ho
      exact hK _ _ ⟨u, rfl, trivial, cpRR_of hN (by decide) (hR1.op15 h7 h12 hD' h17 h21 hbel hg ho), trivial⟩
    refine Ord.each_cons (fun D xs w2 hD hC hP hR hA K hK => ?_) ?_
    · -- 16
      clear hA
      have hD' : D 16 = false := hD
      have hN : D 23 = false := by
        cases h : D 23
        · rfl
        · have := Ord.closed_at hC 23 16 (by kernel_rfl) h
          rw [hD'] at this; cases this
      have hR1 := hR.1 hN
      go_simp
      have hal : Below w2.heap.size w2 (w2.alloc (.cells #[.int .u8 78] 5)) := (Below.refl _ _).alloc (Nat.le_refl _) _
      exact hK _ _ ⟨_, rfl, trivial, cpRR_of hN (by decide) (hR1.op16 hal (own_one w2 W.heap.size 78 hR1.bel.size (by decide)) rfl), trivial⟩
    refine Ord.each_cons (fun D xs w2 hD hC hP hR hA K hK => ?_) ?_
    · -- 17
      clear hA
      have hD' : D 17 = false := hD
      have hN : D 23 = false := by
        cases h : D 23
        · rfl
        · have := Ord.closed_at hC 23 17 (by kernel_rfl) h
          rw [hD'] at this; cases this
      have hR1 := hR.1 hN
      have h15 : D 15 = true := hP { on := 15, ground := .data } (by simp) rfl
      have h16 : D 16 = true := hP { on := 16, ground := .data } (by simp) rfl
      have h7 : D 7 = true := Ord.closed_at hC 15 7 (by kernel_rfl) h15
      have h21 : D 21 = false := by
        cases h : D 21
        · rfl
        · have := Ord.closed_at hC 21 17 (by kernel_rfl) h
          rw [hD'] at this; cases this
      rw [if_pos (by rfl)]
      refine wp_append_Own (.tmp 18) (.tmp 19) rfl W.heap.size (xs 15) m rfl (hR1.b15 h15 hD') (xs 16) [78] rfl (hR1.n16 h16 hD').1.bts (by rw [List.length_singleton]; omega) hR1.bel.size ?_
      intro u w' ho hbel hg
      exact hK _ _ ⟨u, rfl, trivial, cpRR_of hN (by decide) (hR1.op17 h7 h15 hD' h21 hbel hg ho), trivial⟩
    refine Ord.each_cons (fun D xs w2 hD hC hP hR hA K hK => ?_) ?_
    · -- 18
      clear hA
      have hD' : D 18 = false := hD
      have hN : D 23 = false := by
        cases h : D 23
        · rfl
        · have := Ord.closed_at hC 23 18 (by kernel_rfl) h
          rw [hD'] at this; cases this
      have hR1 := hR.1 hN
      go_simp
      exact hK _ _ ⟨_, rfl, trivial, cpRR_skip hR hN (Below.refl _ _) _ (by decide) (by decide), rfl⟩
    refine Ord.each_cons (fun D xs w2 hD hC hP hR hA K hK => ?_) ?_
    · -- 19
      have q18 := Ord.ahead_get _ hA 18 (by decide)
      simp only [CpF] at q18
      simp only [q18] at hK
      clear hA
      have hD' : D 19 = false := hD
      have hN : D 23 = false := by
        cases h : D 23
        · rfl
        · have := Ord.closed_at hC 23 19 (by kernel_rfl) h
          rw [hD'] at this; cases this
      have hR1 := hR.1 hN
      have c0 := (hR1.bel.cell (p := ⟨B, 2, none⟩) (block_lt_of_cell Z2.out)).trans Z2.out
      go_simp
      exact hK _ _ ⟨_, rfl, trivial, cpRR_skip hR hN (Below.refl _ _) _ (by decide) (by decide), rfl⟩
    refine Ord.each_cons (fun D xs w2 hD hC hP hR hA K hK => ?_) ?_
    · -- 20
      have q19 := Ord.ahead_get _ hA 19 (by decide)
      simp only [CpF] at q19
      simp only [q19] at hK
      clear hA
      have hD' : D 20 = false := hD
      have hN : D 23 = false := by
        cases h : D 23
        · rfl
        · have := Ord.closed_at hC 23 20 (by kernel_rfl) h
          rw [hD'] at this; cases this
      have hR1 := hR.1 hN
      go_simp
      exact hK _ _ ⟨_, rfl, trivial, cpRR_skip hR hN (Below.refl _ _) _ (by decide) (by decide), rfl⟩
    refine Ord.each_cons (fun D xs w2 hD hC hP hR hA K hK => ?_) ?_
    · -- 21
      have q20 := Ord.ahead_get _ hA 20 (by decide)
      simp only [CpF] at q20
      simp only [q20] at hK
      clear hA
      have hD' : D 21 = false := hD
      have hN : D 23 = false := by
        cases h : D 23
        · rfl
        · have := Ord.closed_at hC 23 21 (by kernel_rfl) h
          rw [hD'] at this; cases this
      have hR1 := hR.1 hN
      have h17 : D 17 = true := hP { on := 17, ground := .data } (by simp) rfl
      have h22 : D 22 = false := by
        cases h : D 22
        · rfl
        · have := Ord.closed_at hC 22 21 (by kernel_rfl) h
          rw [hD'] at this; cases this
      obtain ⟨g, c, e7, l1, l2⟩ := own_forms2 (hR1.b17 h17) (by rw [LM.out]; omega)
      rw [LM.out] at e7 l1
      have l3 : m.length ≤ c := by omega
      have he := e7
      simp only [e7] at hK
      go_simp
      exact hK _ _ ⟨_, rfl, trivial, cpRR_of hN (by decide) (hR1.op21 h22 ⟨g, c, he, rfl⟩), trivial⟩
    refine Ord.each_cons (fun D xs w2 hD hC hP hR hA K hK => ?_) ?_
    · -- 22
      have q1 := Ord.ahead_get _ hA 1 (by decide)
      simp only [CpF] at q1
      simp only [q1] at hK
      clear hA
      have hD' : D 22 = false := hD
      have hN : D 23 = false := by
        cases h : D 23
        · rfl
        · have := Ord.closed_at hC 23 22 (by kernel_rfl) h
          rw [hD'] at this; cases this
      have hR1 := hR.1 hN
      have h11 : D 11 = true := hP { on := 11, ground := .data } (by simp) rfl
      have h21 : D 21 = true := hP { on := 21, ground := .data } (by simp) rfl
      obtain ⟨g1, d1, -, e11⟩ := hR1.s11 h11
      obtain ⟨g2, d2, -, e21⟩ := hR1.s21 h21
      have he1 := e11
      have he2 := e21
      simp only [e11, e21] at hK
      go_simp
      exact hK _ _ ⟨_, rfl, trivial, cpRR_of hN (by decide) (hR1.op22 (by rw [he1, he2])), trivial⟩
    refine Ord.each_cons (fun D xs w2 hD hC hP hR hA K hK => ?_) ?_
    · -- 23
      have hN : D 23 = false := hD
      have hR1 := hR.1 hN
      have h22 : D 22 = true := hP { on := 22, ground := .data } (by simp) rfl
      have h11 : D 11 = true := Ord.closed_at hC 22 11 (by kernel_rfl) h22
      have h21 : D 21 = true := Ord.closed_at hC 22 21 (by kernel_rfl) h22
      have h7 : D 7 = true := Ord.closed_at hC 11 7 (by kernel_rfl) h11
      have h17 : D 17 = true := Ord.closed_at hC 21 17 (by kernel_rfl) h21
      obtain ⟨g1, d1, e7, e11⟩ := hR1.s11 h11
      obtain ⟨g2, d2, e17, e21⟩ := hR1.s21 h21
      have e22 := hR1.s22 h22
      have o7 := hR1.a7 h7
      have o17 := hR1.b17 h17
      rw [e7] at o7
      rw [e17] at o17
      rw [e11, e21] at e22
      have hrow := row3_below HR.out (hR1.bel)
      have n1 : g1 ≠ B + 1 := by have := (o7.own.lt g1 rfl).1; have := lt_of_block HR.out; omega
      have n2 : g2 ≠ B + 1 := by have := (o17.own.lt g2 rfl).1; have := lt_of_block HR.out; omega
      obtain ⟨s1, s2⟩ := set3 (x := .int .u64 (k : Int)) (y := .slice (some ⟨g1, 0, none⟩) v.length d1) (z := .slice (some ⟨g2, 0, none⟩) m.length d2) hrow
      have hfin : CpFin w W.heap.size (B + 1) k v m (((w2.setCell ⟨B + 1, 0, none⟩ (.int .u64 (k : Int))).setCell ⟨B + 1, 1, none⟩ (.slice (some ⟨g1, 0, none⟩) v.length d1)).setCell ⟨B + 1, 2, none⟩ (.slice (some ⟨g2, 0, none⟩) m.length d2)) := by
        refine ⟨⟨g1, d1, g2, d2, s1, o7.grown s2 (Or.inr (by intro e; exact n1 (Option.some.inj e))), o17.grown s2 (Or.inr (by intro e; exact n2 (Option.some.inj e)))⟩, ?_⟩
        refine below_grown (HB0.out.trans (hR1.bel.mono HB0.out.size)) s2 (Nat.le_trans HB0.out.size hR1.bel.size) (by have := HB.out; omega)
      have HFIN := Lib.hid hfin
      have q0 := cell3_0 hrow
      have q1 := cell3_1 (set3_0 (u := .int .u64 (k : Int)) hrow)
      have q2 := cell3_2 (set3_1 (u := .slice (some ⟨g1, 0, none⟩) v.length d1) (set3_0 (u := .int .u64 (k : Int)) hrow))
      have f0 := free3 hrow 0
      have f1 := free3 (set3_0 (u := .int .u64 (k : Int)) hrow) 1
      have f2 := free3 (set3_1 (u := .slice (some ⟨g1, 0, none⟩) v.length d1) (set3_0 (u := .int .u64 (k : Int)) hrow)) 2
      clear hA hrow s1 s2 hfin o7 o17 e7 e17 e11 e21
      simp only [e22] at hK
      go_simp
      refine hK _ _ ⟨undef, rfl, trivial, ⟨fun h => ?_, fun _ => HFIN.out⟩, trivial⟩
      rw [wth_self] at h; cases h
    exact Ord.each_nil
  case hend =>
    intro D xs w2 hR hF
    have h23 := (hF 23 (by decide)).1
    obtain ⟨⟨g1, d1, g2, d2, hrow, hcp⟩, hbel⟩ := hR.2 h23
    have q0 := cell3_0 hrow
    have q1 := cell3_1 hrow
    have q2 := cell3_2 hrow
    have HCP := Lib.hid hcp
    have HBE := Lib.hid hbel
    have HLE := Lib.hid (HB0.out.size)
    clear hF hR hrow hcp hbel h23
    go_wp2_with fail
    exact bodyPost_ret (v := ItemV k (.slice (some ⟨g1, 0, none⟩) v.length d1) (.slice (some ⟨g2, 0, none⟩) m.length d2)) (by simp [results, Try.results10, go_sem, q0, q1, q2]) rfl
      ⟨g1, d1, g2, d2, rfl, ⟨HCP.out.nums.from HLE.out, HCP.out.text.from HLE.out⟩, HBE.out⟩
end Go.Proofs.Ytpliogkcfhcfpaa
