/- What Size answers: how many bytes a record's form has; 0 of what may not be. Conditions: the slices' cells hold what they tell. -/
import Derived.Test.YtpliogkcfhcfpaaItemBytes
import Derived.IntWalk
namespace Go.Proofs.Ytpliogkcfhcfpaa
open Go.RowKit

theorem wrap_u64_nat (n : Nat) (h : n < 18446744073709551616) : IntKind.u64.wrap (n : Int) = (n : Int) := by
  rw [show IntKind.u64.wrap (n : Int) = (n : Int) % 18446744073709551616 by simp [IntKind.wrap, IntKind.bits, IntKind.signed]]
  omega

set_option maxHeartbeats 400000 in
set_option maxRecDepth 20000 in
theorem countSize_any (n : Nat) (w : World) (hn : n ≤ 140737488355328) :
    Calls Try.prog 26 #[.int .i64 (n : Int)] w fun e w' => e = .returned (.int .i64 ((Cod.uv n).length : Nat)) ∧ Below w.heap.size w w' := by
  have HN := Lib.hid (wrap_u64_nat n (by omega))
  go_enter Try.func26, Try.ntmps26
  have hwr := HN.out
  go_wp2_with fail
  refine (putUv_nil n _ (by omega)).mono ?_
  rintro e w1 ⟨v, rfl, hO, hb⟩
  obtain ⟨p, c, rfl, -, -, -⟩ := hO.bts.form
  have HB := Lib.hid hb
  clear hO hb hwr
  go_wp2_with fail
  go_ret
  exact ⟨rfl, HB.out⟩

/-- What the operations of Size's last line leave. -/
def SzF (B : Nat) (p1 : Option Addr) (c1 : Nat) (p2 : Option Addr) (c2 : Nat) (n m un um : Nat) (i : Nat) (v : Value) (_ : World) : Prop :=
  match i with
  | 0 => v = .pointer (some ⟨B, 1, none⟩)
  | 1 => v = .slice p1 n c1
  | 2 => v = .int .i64 (n : Int)
  | 3 => v = .int .i64 (un : Int)
  | 4 => v = .int .i64 (8 + (un : Int))
  | 5 => v = .pointer (some ⟨B, 1, none⟩)
  | 6 => v = .slice p1 n c1
  | 7 => v = .int .i64 (n : Int)
  | 8 => v = .int .i64 (4 * (n : Int))
  | 9 => v = .int .i64 (8 + (un : Int) + 4 * (n : Int))
  | 10 => v = .pointer (some ⟨B, 2, none⟩)
  | 11 => v = .slice p2 m c2
  | 12 => v = .int .i64 (m : Int)
  | 13 => v = .int .i64 (um : Int)
  | 14 => v = .int .i64 (8 + (un : Int) + 4 * (n : Int) + (um : Int))
  | 15 => v = .pointer (some ⟨B, 2, none⟩)
  | 16 => v = .slice p2 m c2
  | 17 => v = .int .i64 (m : Int)
  | 18 => v = .int .i64 (8 + (un : Int) + 4 * (n : Int) + (um : Int) + (m : Int))
  | _ => v = .int .i64 (8 + (un : Int) + 4 * (n : Int) + (um : Int) + (m : Int))

/-- How many bytes a record's form has. -/
def Itm.size (k : Nat) (v : List Int) (m : List Nat) : Nat := if Itm.mayE v.length m.length = 0 then (Itm.form k v m).length else 0

set_option maxHeartbeats 1600000 in
set_option maxRecDepth 20000 in
theorem size_any (k : Nat) (vv vm : Value) (v : List Int) (m : List Nat) (w : World) (hI : ItemAt w k vv vm v m) :
    Calls Try.prog 13 #[ItemV k vv vm] w fun e w' => e = .returned (.int .i64 (Itm.size k v m : Nat)) ∧ Below w.heap.size w w' := by
  obtain ⟨p1, c1, rfl, -, -, -⟩ := hI.vec.form
  obtain ⟨p2, c2, rfl, -, -, -⟩ := hI.bytes.form
  have h1 := hI.vec.len
  have h2 := hI.bytes.len
  clear hI
  by_cases hm : Itm.mayE v.length m.length = 0
  · obtain ⟨n1, n2, n3⟩ := Itm.may_zero hm
    have hu1 := Cod.uv_ten (n := v.length) (by omega)
    have hu2 := Cod.uv_ten (n := m.length) (by omega)
    obtain ⟨S, hS⟩ : ∃ S, S = Itm.size k v m := ⟨_, rfl⟩
    rw [← hS]
    have hans : (S : Int) = 8 + ((Cod.uv v.length).length : Int) + 4 * (v.length : Int) + ((Cod.uv m.length).length : Int) + (m.length : Int) := by
      rw [hS]; unfold Itm.size; rw [if_pos hm, Itm.form_length]; omega
    clear hS
    have HANS := Lib.hid hans
    have HM := Lib.hid hm
    have hc1 := fun w => countSize_any v.length w (by omega)
    have hc2 := fun w => countSize_any m.length w (by omega)
    clear hm hans
    generalize (Cod.uv v.length).length = un at *
    generalize (Cod.uv m.length).length = um at *
    generalize hnv : v.length = n at *
    generalize hnm : m.length = q at *
    clear hnv hnm
    have C1 := Lib.hid hc1
    have C2 := Lib.hid hc2
    have W4 := Lib.hid (IntWalk.i64_in (8 + (un : Int)) (by omega))
    have W8 := Lib.hid (IntWalk.i64_in (4 * (n : Int)) (by omega))
    have W9 := Lib.hid (IntWalk.i64_in (8 + (un : Int) + 4 * (n : Int)) (by omega))
    have W14 := Lib.hid (IntWalk.i64_in (8 + (un : Int) + 4 * (n : Int) + (um : Int)) (by omega))
    have W18 := Lib.hid (IntWalk.i64_in (8 + (un : Int) + 4 * (n : Int) + (um : Int) + (q : Int)) (by omega))
    clear hc1 hc2
    go_enter Try.func13, Try.ntmps13
    go_wp2_with fail
    refine (may_any _ _ _ _ _ _ _ _ h1 h2).mono ?_
    rintro e w1 ⟨rfl, hb1⟩
    rw [HM.out]
    go_upto_region 3 with (fail)
    have hc1 := hb1.cell (p := ⟨w.heap.size, 1, none⟩) (by simp)
    have hc2 := hb1.cell (p := ⟨w.heap.size, 2, none⟩) (by simp)
    rw [cell_of_row _ w.heap.size _ _ _ _ (heap_alloc_last _ _)] at hc1 hc2
    have hbs := hb1.size
    rw [show (w.alloc (Obj.cells #[Value.int IntKind.u64 ↑k, Value.slice p1 n c1, Value.slice p2 q c2] 26)).heap.size = w.heap.size + 1 by simp] at hbs
    have HBW := Lib.hid (((Below.refl w.heap.size w).alloc (Nat.le_refl _) (Obj.cells #[Value.int IntKind.u64 ↑k, Value.slice p1 n c1, Value.slice p2 q c2] 26)).trans (hb1.mono (by simp)))
    obtain ⟨B, hB⟩ : ∃ B, B = w.heap.size := ⟨_, rfl⟩
    rw [← hB] at hc1 hc2 hbs HBW ⊢
    have D1 := Lib.hid hc1
    have D2 := Lib.hid hc2
    have HBB : Hid (B < w1.heap.size) := hbs
    have HEB := Lib.hid hB
    clear hc1 hc2 hbs hb1 hB
    refine Ord.walk (SzF B p1 c1 p2 c2 n q un um) (fun _ _ w' => Below w1.heap.size w1 w') (fun a b => Below a.heap.size a b)
      (by kernel_rfl) (by kernel_rfl) ?fr ?hfr (fun _ _ _ _ _ h => h) (fun xs => (Below.refl _ _).go1) ?he ?hend
    case hfr =>
      intro xs
      simp only [Ord.fill, Act.put, List.setIfInBounds_toArray, List.set_cons_zero, List.set_cons_succ]
      rfl
    case he =>
      refine Ord.each_cons (fun D xs w2 hD hC hP hR hA K hK => ?_) ?_
      · -- 0
        clear hA
        go_simp
        exact hK _ _ ⟨_, rfl, Below.refl _ _, hR, rfl⟩
      refine Ord.each_cons (fun D xs w2 hD hC hP hR hA K hK => ?_) ?_
      · -- 1
        have q0 := Ord.ahead_get _ hA 0 (by decide)
        simp only [SzF] at q0
        simp only [q0] at hK
        clear hA
        have c0 := hR.cell (p := ⟨B, 1, none⟩) HBB.out
        rw [D1.out] at c0
        go_simp
        exact hK _ _ ⟨_, rfl, Below.refl _ _, hR, rfl⟩
      refine Ord.each_cons (fun D xs w2 hD hC hP hR hA K hK => ?_) ?_
      · -- 2
        have q1 := Ord.ahead_get _ hA 1 (by decide)
        simp only [SzF] at q1
        simp only [q1] at hK
        clear hA
        go_simp
        exact hK _ _ ⟨_, rfl, Below.refl _ _, hR, rfl⟩
      refine Ord.each_cons (fun D xs w2 hD hC hP hR hA K hK => ?_) ?_
      · -- 3
        have q2 := Ord.ahead_get _ hA 2 (by decide)
        simp only [SzF] at q2
        simp only [q2] at hK
        clear hA
        go_simp
        refine (C1.out w2).mono ?_
        rintro e w' ⟨rfl, hb⟩
        exact hK _ _ ⟨_, rfl, hb, hR.trans (hb.mono hR.size), rfl⟩
      refine Ord.each_cons (fun D xs w2 hD hC hP hR hA K hK => ?_) ?_
      · -- 4
        have q3 := Ord.ahead_get _ hA 3 (by decide)
        simp only [SzF] at q3
        simp only [q3] at hK
        clear hA
        go_simp
        try rw [W4.out]
        exact hK _ _ ⟨_, rfl, Below.refl _ _, hR, rfl⟩
      refine Ord.each_cons (fun D xs w2 hD hC hP hR hA K hK => ?_) ?_
      · -- 5
        clear hA
        go_simp
        exact hK _ _ ⟨_, rfl, Below.refl _ _, hR, rfl⟩
      refine Ord.each_cons (fun D xs w2 hD hC hP hR hA K hK => ?_) ?_
      · -- 6
        have q5 := Ord.ahead_get _ hA 5 (by decide)
        simp only [SzF] at q5
        simp only [q5] at hK
        clear hA
        have c0 := hR.cell (p := ⟨B, 1, none⟩) HBB.out
        rw [D1.out] at c0
        go_simp
        exact hK _ _ ⟨_, rfl, Below.refl _ _, hR, rfl⟩
      refine Ord.each_cons (fun D xs w2 hD hC hP hR hA K hK => ?_) ?_
      · -- 7
        have q6 := Ord.ahead_get _ hA 6 (by decide)
        simp only [SzF] at q6
        simp only [q6] at hK
        clear hA
        go_simp
        exact hK _ _ ⟨_, rfl, Below.refl _ _, hR, rfl⟩
      refine Ord.each_cons (fun D xs w2 hD hC hP hR hA K hK => ?_) ?_
      · -- 8
        have q7 := Ord.ahead_get _ hA 7 (by decide)
        simp only [SzF] at q7
        simp only [q7] at hK
        clear hA
        go_simp
        try rw [W8.out]
        exact hK _ _ ⟨_, rfl, Below.refl _ _, hR, rfl⟩
      refine Ord.each_cons (fun D xs w2 hD hC hP hR hA K hK => ?_) ?_
      · -- 9
        have q4 := Ord.ahead_get _ hA 4 (by decide)
        simp only [SzF] at q4
        have q8 := Ord.ahead_get _ hA 8 (by decide)
        simp only [SzF] at q8
        simp only [q4, q8] at hK
        clear hA
        go_simp
        try rw [W9.out]
        exact hK _ _ ⟨_, rfl, Below.refl _ _, hR, rfl⟩
      refine Ord.each_cons (fun D xs w2 hD hC hP hR hA K hK => ?_) ?_
      · -- 10
        clear hA
        go_simp
        exact hK _ _ ⟨_, rfl, Below.refl _ _, hR, rfl⟩
      refine Ord.each_cons (fun D xs w2 hD hC hP hR hA K hK => ?_) ?_
      · -- 11
        have q10 := Ord.ahead_get _ hA 10 (by decide)
        simp only [SzF] at q10
        simp only [q10] at hK
        clear hA
        have c0 := hR.cell (p := ⟨B, 2, none⟩) HBB.out
        rw [D2.out] at c0
        go_simp
        exact hK _ _ ⟨_, rfl, Below.refl _ _, hR, rfl⟩
      refine Ord.each_cons (fun D xs w2 hD hC hP hR hA K hK => ?_) ?_
      · -- 12
        have q11 := Ord.ahead_get _ hA 11 (by decide)
        simp only [SzF] at q11
        simp only [q11] at hK
        clear hA
        go_simp
        exact hK _ _ ⟨_, rfl, Below.refl _ _, hR, rfl⟩
      refine Ord.each_cons (fun D xs w2 hD hC hP hR hA K hK => ?_) ?_
      · -- 13
        have q12 := Ord.ahead_get _ hA 12 (by decide)
        simp only [SzF] at q12
        simp only [q12] at hK
        clear hA
        go_simp
        refine (C2.out w2).mono ?_
        rintro e w' ⟨rfl, hb⟩
        exact hK _ _ ⟨_, rfl, hb, hR.trans (hb.mono hR.size), rfl⟩
      refine Ord.each_cons (fun D xs w2 hD hC hP hR hA K hK => ?_) ?_
      · -- 14
        have q9 := Ord.ahead_get _ hA 9 (by decide)
        simp only [SzF] at q9
        have q13 := Ord.ahead_get _ hA 13 (by decide)
        simp only [SzF] at q13
        simp only [q9, q13] at hK
        clear hA
        go_simp
        try rw [W14.out]
        exact hK _ _ ⟨_, rfl, Below.refl _ _, hR, rfl⟩
      refine Ord.each_cons (fun D xs w2 hD hC hP hR hA K hK => ?_) ?_
      · -- 15
        clear hA
        go_simp
        exact hK _ _ ⟨_, rfl, Below.refl _ _, hR, rfl⟩
      refine Ord.each_cons (fun D xs w2 hD hC hP hR hA K hK => ?_) ?_
      · -- 16
        have q15 := Ord.ahead_get _ hA 15 (by decide)
        simp only [SzF] at q15
        simp only [q15] at hK
        clear hA
        have c0 := hR.cell (p := ⟨B, 2, none⟩) HBB.out
        rw [D2.out] at c0
        go_simp
        exact hK _ _ ⟨_, rfl, Below.refl _ _, hR, rfl⟩
      refine Ord.each_cons (fun D xs w2 hD hC hP hR hA K hK => ?_) ?_
      · -- 17
        have q16 := Ord.ahead_get _ hA 16 (by decide)
        simp only [SzF] at q16
        simp only [q16] at hK
        clear hA
        go_simp
        exact hK _ _ ⟨_, rfl, Below.refl _ _, hR, rfl⟩
      refine Ord.each_cons (fun D xs w2 hD hC hP hR hA K hK => ?_) ?_
      · -- 18
        have q14 := Ord.ahead_get _ hA 14 (by decide)
        simp only [SzF] at q14
        have q17 := Ord.ahead_get _ hA 17 (by decide)
        simp only [SzF] at q17
        simp only [q14, q17] at hK
        clear hA
        go_simp
        try rw [W18.out]
        exact hK _ _ ⟨_, rfl, Below.refl _ _, hR, rfl⟩
      refine Ord.each_cons (fun D xs w2 hD hC hP hR hA K hK => ?_) ?_
      · -- 19
        have q18 := Ord.ahead_get _ hA 18 (by decide)
        simp only [SzF] at q18
        simp only [q18] at hK
        clear hA
        go_simp
        exact hK _ _ ⟨_, rfl, Below.refl _ _, hR, rfl⟩
      exact Ord.each_nil
    case hend =>
      intro D xs w2 hR hF
      have e19 := (hF 19 (by decide)).2
      simp only [SzF] at e19
      rw [e19]
      clear e19 hF
      have HR := Lib.hid (HBW.out.trans (hR.mono (Nat.le_of_lt HBB.out)))
      clear hR
      go_wp2_with fail
      go_ret
      exact ⟨by rw [HANS.out]; rfl, by rw [← HEB.out]; exact HR.out⟩
  · have hi : Itm.size k v m = 0 := if_neg hm
    rw [hi]
    obtain ⟨e, he⟩ : ∃ e, Itm.mayE v.length m.length = e := ⟨_, rfl⟩
    rw [he] at hm
    have HE := Lib.hid he
    have hne : ((e : Nat) : Int) ≠ 0 := by omega
    have hne2 : ((e : Int) != 0) = true := by simp; omega
    have hne3 : ((e : Int) == 0) = false := by simp; omega
    clear hm hi he
    go_enter Try.func13, Try.ntmps13
    go_wp2_with fail
    refine (may_any _ _ _ _ _ _ _ _ h1 h2).mono ?_
    rintro en w1 ⟨rfl, hb1⟩
    have HBW := Lib.hid (((Below.refl w.heap.size w).alloc (Nat.le_refl _) (Obj.cells #[Value.int IntKind.u64 ↑k, Value.slice p1 v.length c1, Value.slice p2 m.length c2] 26)).trans (hb1.mono (by simp)))
    clear hb1
    rw [HE.out]
    go_wp2_with fail
    go_ret
    exact ⟨rfl, HBW.out⟩
end Go.Proofs.Ytpliogkcfhcfpaa
