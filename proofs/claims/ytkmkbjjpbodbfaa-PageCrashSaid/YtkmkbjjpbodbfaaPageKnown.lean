/- What the laws ask of pages, and what is known of one. Conditions: the program's contracts. -/
import Derived.Test.YtkmkbjjpbodbfaaPageRefO
import Derived.Test.YtkmkbjjpbodbfaaPageBody
namespace Go.Proofs.Ytkmkbjjpbodbfaa
open Go.RowKit

/-- What the laws ask of the program's pages, ahead of any device. -/
structure PgApi : Prop where
  bytes : ∀ (n : Nat) (m : Value) (l : List Nat) (w : World), n < 18446744073709551616 → Bts w m l →
    Calls Try.prog 8 #[PgV n m] w fun e w' => ∃ u, e = .returned (.tuple #[u, .int .i64 ((if l.length = 500 then 0 else 2 : Nat) : Int)]) ∧ Own w.heap.size w' u (if l.length = 500 then Pg.form n l else []) ∧ Below w.heap.size w w'
  opens : ∀ (m : Value) (b : List Nat) (w : World), Bts w m b →
    Calls Try.prog 10 #[m] w fun e w' => ∃ u, e = .returned (.tuple #[PgV (Pg.openN b) u, .int .i64 (Pg.openE b : Nat)]) ∧ Own w.heap.size w' u (Pg.openL b) ∧ Below w.heap.size w w'
  blank : ∀ w : World, Calls Try.prog 13 #[] w fun e w' => ∃ v, e = .returned (PgV 0 v) ∧ Own w.heap.size w' v (Pg.zeros 500) ∧ Below w.heap.size w w'

/-- Where what is known is compared: what the operations left. -/
def KnF (P : Nat) (u : Value) (S : ByteArray) (i : Nat) (v : Value) (w : World) : Prop :=
  match i with
  | 0 => v = .int .i64 0
  | 3 => v = .int .i64 0
  | 7 => v = .pointer (some ⟨P, 0, none⟩)
  | 8 => v = .int .u64 5
  | 12 => v = .pointer (some ⟨P, 1, none⟩)
  | 13 => v = u
  | 14 => v = .string S
  | 15 => (∃ p n c, v = .slice p n c) ∧ Bts w v (Pg.bodyL 3)
  | 16 => v = .string S
  | _ => v = .bool true
theorem knf_later {P : Nat} {u : Value} {S : ByteArray} (k : Nat) (v : Value) (w w' : World) (h : Below w.heap.size w w') (hF : KnF P u S k v w) : KnF P u S k v w' := by
  by_cases h15 : k = 15
  · subst h15; exact ⟨hF.1, hF.2.below h⟩
  · unfold KnF at hF ⊢
    split <;> first | exact hF | exact absurd rfl h15 | (simp at hF; exact hF) | simp_all

set_option maxHeartbeats 1600000 in
set_option maxRecDepth 20000 in
theorem known_any (A : PgApi) (w : World) : Calls Try.prog 7 #[] w fun e w' => e = .returned (.bool true) ∧ Below w.heap.size w w' := by
  have HA := Lib.hid A
  go_enter Try.func7, Try.ntmps7
  go_wp2_with fail
  refine (body_any 3 w).mono ?_
  rintro e w1 ⟨g1, rfl, -, hO1, hb1⟩
  have HO1 := Lib.hid hO1
  have HB1 := Lib.hid hb1
  clear hO1 hb1
  go_wp2_with fail
  have hc := HA.out.bytes 5 _ _ _ (by decide) HO1.out.bts
  rw [if_pos (Pg.bodyL_length 3), if_pos (Pg.bodyL_length 3)] at hc
  refine hc.mono ?_
  rintro e w2 ⟨u2, rfl, hO2, hb2⟩
  obtain ⟨p2, c2, rfl, -, -, -⟩ := hO2.bts.form
  have HO2 := Lib.hid hO2
  have HB2 := Lib.hid (HB1.out.trans (hb2.mono HB1.out.size))
  clear hO2 hb2 hc
  go_wp2_with fail
  have hc := HA.out.opens _ _ _ HO2.out.bts
  rw [Pg.openE_form (Pg.bodyL_small 3) (Pg.bodyL_length 3), Pg.openN_form (Pg.bodyL_small 3) (Pg.bodyL_length 3) (by decide), Pg.openL_form (Pg.bodyL_small 3) (Pg.bodyL_length 3)] at hc
  refine hc.mono ?_
  rintro e w3 ⟨u3, rfl, hO3, hb3⟩
  obtain ⟨p3, c3, rfl, -, -, -⟩ := hO3.bts.form
  rw [Pg.bodyL_length] at hO3 ⊢
  have HO3 := Lib.hid hO3
  have HB3 := Lib.hid (HB2.out.trans (hb3.mono HB2.out.size))
  clear hO3 hb3 hc
  obtain ⟨S, hS⟩ : ∃ S, S = strOfNums ((Pg.bodyL 3).map fun x : Nat => (x : Int)) := ⟨_, rfl⟩
  have HS := Lib.hid hS
  clear hS
  go_upto_region 3 with (fail)
  obtain ⟨W, hW⟩ : ∃ W, W = w3.alloc (.cells #[.int .u64 5, .slice p3 500 c3] 25) := ⟨_, rfl⟩
  have hr : W.heap[w3.heap.size]? = some (.cells #[.int .u64 5, .slice p3 500 c3] 25 (0, 0)) := by rw [hW]; exact heap_alloc_last _ _
  have hb : Below w3.heap.size w3 W := by rw [hW]; exact (Below.refl _ _).alloc (Nat.le_refl _) _
  rw [← hW]
  obtain ⟨P, hP⟩ : ∃ P, P = w3.heap.size := ⟨_, rfl⟩
  rw [← hP] at hr ⊢
  have c0 := cell2_0 hr
  have c1 := cell2_1 hr
  have D0 := Lib.hid c0
  have D1 := Lib.hid c1
  have HP : Hid (P < W.heap.size) := lt_of_block hr
  have HO := Lib.hid (HO3.out.bts.below hb)
  have HB := Lib.hid (HB3.out.trans (hb.mono HB3.out.size))
  clear hW hr hb c0 c1 hP
  have hstr : ∀ W', Below W.heap.size W W' → (convert 23 9 (.slice p3 500 c3)).run Try.prog W' = .ok (.string S) W' := fun W' h => by rw [HS.out]; exact strOf_conv (HO.out.below h)
  have HSTR := Lib.hid hstr
  clear hstr
  refine Ord.walk (KnF P (.slice p3 500 c3) S) (fun _ _ w' => Below W.heap.size W w') (fun a b => Below a.heap.size a b)
    (by kernel_rfl) (by kernel_rfl) ?fr ?hfr knf_later (fun xs => (Below.refl _ _).go1) ?he ?hend
  case hfr =>
    intro xs
    simp only [Ord.fill, Act.put, List.setIfInBounds_toArray, List.set_cons_zero, List.set_cons_succ]
    rfl
  case he =>
    refine Ord.each_cons (fun D xs w2 hD hC hP hR hA K hK => ?_) ?_
    · -- 0
      clear hA
      go_simp
      exact hK _ _ ⟨_, rfl, Below.refl _ _, hR, rfl⟩
    refine Ord.each_cons (fun D xs w2 hD hC hP hR hA K hK => ?_) ?_
    · -- 1
      have q0 := Ord.ahead_get _ hA 0 (by decide)
      simp only [KnF] at q0
      simp only [q0] at hK
      clear hA
      go_simp
      exact hK _ _ ⟨_, rfl, Below.refl _ _, hR, rfl⟩
    refine Ord.each_cons (fun D xs w2 hD hC hP hR hA K hK => ?_) ?_
    · -- 2
      have q1 := Ord.ahead_get _ hA 1 (by decide)
      simp only [KnF] at q1
      simp only [q1] at hK
      clear hA
      go_simp
      exact hK _ _ ⟨_, rfl, Below.refl _ _, hR, rfl⟩
    refine Ord.each_cons (fun D xs w2 hD hC hP hR hA K hK => ?_) ?_
    · -- 3
      have q2 := Ord.ahead_get _ hA 2 (by decide)
      simp only [KnF] at q2
      simp only [q2] at hK
      clear hA
      go_simp
      exact hK _ _ ⟨_, rfl, Below.refl _ _, hR, rfl⟩
    refine Ord.each_cons (fun D xs w2 hD hC hP hR hA K hK => ?_) ?_
    · -- 4
      have q2 := Ord.ahead_get _ hA 2 (by decide)
      simp only [KnF] at q2
      have q3 := Ord.ahead_get _ hA 3 (by decide)
      simp only [KnF] at q3
      simp only [q2, q3] at hK
      clear hA
      go_simp
      exact hK _ _ ⟨_, rfl, Below.refl _ _, hR, rfl⟩
    refine Ord.each_cons (fun D xs w2 hD hC hP hR hA K hK => ?_) ?_
    · -- 5
      have q2 := Ord.ahead_get _ hA 2 (by decide)
      simp only [KnF] at q2
      have q4 := Ord.ahead_get _ hA 4 (by decide)
      simp only [KnF] at q4
      simp only [q2, q4] at hK
      clear hA
      go_simp
      exact hK _ _ ⟨_, rfl, Below.refl _ _, hR, rfl⟩
    refine Ord.each_cons (fun D xs w2 hD hC hP hR hA K hK => ?_) ?_
    · -- 6
      have q5 := Ord.ahead_get _ hA 5 (by decide)
      simp only [KnF] at q5
      simp only [q5] at hK
      clear hA
      go_simp
      exact hK _ _ ⟨_, rfl, Below.refl _ _, hR, rfl⟩
    refine Ord.each_cons (fun D xs w2 hD hC hP hR hA K hK => ?_) ?_
    · -- 7
      have q6 := Ord.ahead_get _ hA 6 (by decide)
      simp only [KnF] at q6
      simp only [q6] at hK
      clear hA
      go_simp
      exact hK _ _ ⟨_, rfl, Below.refl _ _, hR, rfl⟩
    refine Ord.each_cons (fun D xs w2 hD hC hP hR hA K hK => ?_) ?_
    · -- 8
      have q7 := Ord.ahead_get _ hA 7 (by decide)
      simp only [KnF] at q7
      have q6 := Ord.ahead_get _ hA 6 (by decide)
      simp only [KnF] at q6
      simp only [q7, q6] at hK
      clear hA
      have c0 := hR.cell (p := ⟨P, 0, none⟩) HP.out
      rw [D0.out] at c0
      go_simp
      exact hK _ _ ⟨_, rfl, Below.refl _ _, hR, rfl⟩
    refine Ord.each_cons (fun D xs w2 hD hC hP hR hA K hK => ?_) ?_
    · -- 9
      have q8 := Ord.ahead_get _ hA 8 (by decide)
      simp only [KnF] at q8
      have q6 := Ord.ahead_get _ hA 6 (by decide)
      simp only [KnF] at q6
      simp only [q8, q6] at hK
      clear hA
      go_simp
      exact hK _ _ ⟨_, rfl, Below.refl _ _, hR, rfl⟩
    refine Ord.each_cons (fun D xs w2 hD hC hP hR hA K hK => ?_) ?_
    · -- 10
      have q6 := Ord.ahead_get _ hA 6 (by decide)
      simp only [KnF] at q6
      have q9 := Ord.ahead_get _ hA 9 (by decide)
      simp only [KnF] at q9
      simp only [q6, q9] at hK
      clear hA
      go_simp
      exact hK _ _ ⟨_, rfl, Below.refl _ _, hR, rfl⟩
    refine Ord.each_cons (fun D xs w2 hD hC hP hR hA K hK => ?_) ?_
    · -- 11
      have q10 := Ord.ahead_get _ hA 10 (by decide)
      simp only [KnF] at q10
      simp only [q10] at hK
      clear hA
      go_simp
      exact hK _ _ ⟨_, rfl, Below.refl _ _, hR, rfl⟩
    refine Ord.each_cons (fun D xs w2 hD hC hP hR hA K hK => ?_) ?_
    · -- 12
      have q11 := Ord.ahead_get _ hA 11 (by decide)
      simp only [KnF] at q11
      simp only [q11] at hK
      clear hA
      go_simp
      exact hK _ _ ⟨_, rfl, Below.refl _ _, hR, rfl⟩
    refine Ord.each_cons (fun D xs w2 hD hC hP hR hA K hK => ?_) ?_
    · -- 13
      have q12 := Ord.ahead_get _ hA 12 (by decide)
      simp only [KnF] at q12
      have q11 := Ord.ahead_get _ hA 11 (by decide)
      simp only [KnF] at q11
      simp only [q12, q11] at hK
      clear hA
      have c0 := hR.cell (p := ⟨P, 1, none⟩) HP.out
      rw [D1.out] at c0
      go_simp
      exact hK _ _ ⟨_, rfl, Below.refl _ _, hR, rfl⟩
    refine Ord.each_cons (fun D xs w2 hD hC hP hR hA K hK => ?_) ?_
    · -- 14
      have q13 := Ord.ahead_get _ hA 13 (by decide)
      simp only [KnF] at q13
      have q11 := Ord.ahead_get _ hA 11 (by decide)
      simp only [KnF] at q11
      simp only [q13, q11] at hK
      clear hA
      have hcv := HSTR.out w2 hR
      go_simp
      exact hK _ _ ⟨_, rfl, Below.refl _ _, hR, rfl⟩
    refine Ord.each_cons (fun D xs w2 hD hC hP hR hA K hK => ?_) ?_
    · -- 15
      have q11 := Ord.ahead_get _ hA 11 (by decide)
      simp only [KnF] at q11
      simp only [q11] at hK
      clear hA
      go_simp
      refine (body_any 3 w2).mono ?_
      rintro e w' ⟨g5, rfl, -, hO5, hb5⟩
      exact hK _ _ ⟨_, rfl, hb5, hR.trans (hb5.mono hR.size), ⟨⟨_, _, _, rfl⟩, hO5.bts⟩⟩
    refine Ord.each_cons (fun D xs w2 hD hC hP hR hA K hK => ?_) ?_
    · -- 16
      have q11 := Ord.ahead_get _ hA 11 (by decide)
      simp only [KnF] at q11
      have q15 := Ord.ahead_get _ hA 15 (by decide)
      simp only [KnF] at q15
      obtain ⟨⟨p5, n5, c5, e5⟩, q5⟩ := q15
      simp only [q11] at hK
      clear hA
      have hcv := strOf_conv q5
      rw [← HS.out] at hcv
      rw [e5] at hcv
      simp only [e5] at hK
      go_simp
      exact hK _ _ ⟨_, rfl, Below.refl _ _, hR, rfl⟩
    refine Ord.each_cons (fun D xs w2 hD hC hP hR hA K hK => ?_) ?_
    · -- 17
      have q11 := Ord.ahead_get _ hA 11 (by decide)
      simp only [KnF] at q11
      have q14 := Ord.ahead_get _ hA 14 (by decide)
      simp only [KnF] at q14
      have q16 := Ord.ahead_get _ hA 16 (by decide)
      simp only [KnF] at q16
      simp only [q11, q14, q16] at hK
      clear hA
      go_simp
      exact hK _ _ ⟨_, rfl, Below.refl _ _, hR, rfl⟩
    refine Ord.each_cons (fun D xs w2 hD hC hP hR hA K hK => ?_) ?_
    · -- 18
      have q11 := Ord.ahead_get _ hA 11 (by decide)
      simp only [KnF] at q11
      have q17 := Ord.ahead_get _ hA 17 (by decide)
      simp only [KnF] at q17
      simp only [q11, q17] at hK
      clear hA
      go_simp
      exact hK _ _ ⟨_, rfl, Below.refl _ _, hR, rfl⟩
    refine Ord.each_cons (fun D xs w2 hD hC hP hR hA K hK => ?_) ?_
    · -- 19
      have q18 := Ord.ahead_get _ hA 18 (by decide)
      simp only [KnF] at q18
      simp only [q18] at hK
      clear hA
      go_simp
      exact hK _ _ ⟨_, rfl, Below.refl _ _, hR, rfl⟩
    exact Ord.each_nil
  case hend =>
    intro D xs w2 hR hF
    have e19 := (hF 19 (by decide)).2
    simp only [KnF] at e19
    rw [e19]
    have HR := Lib.hid (HB.out.trans (hR.mono HB.out.size))
    clear e19 hF hR
    go_wp2_with fail
    go_ret
    exact ⟨rfl, HR.out⟩
end Go.Proofs.Ytkmkbjjpbodbfaa
