/- What the law PageBytes answers, for every page. Conditions: the body's cells hold what they tell. -/
import Derived.Test.YtkmkbjjpbodbfaaPageKnown
import Derived.Test.YtkmkbjjpbodbfaaPageIn
import Derived.IntWalk
namespace Go.Proofs.Ytkmkbjjpbodbfaa
open Go.RowKit

theorem row2_below {w w' : World} {B : Nat} {a b : Value} {T : TypeId} (h : w.heap[B]? = some (.cells #[a, b] T (0, 0))) (hb : Below w.heap.size w w') : w'.heap[B]? = some (.cells #[a, b] T (0, 0)) := by
  rw [hb.block B (lt_of_block h)]; exact h
theorem row2_grown {w w' : World} {B : Nat} {a b : Value} {T : TypeId} {row : Option Nat} (h : w.heap[B]? = some (.cells #[a, b] T (0, 0))) (hb : w.grownBy w' row) (hr : row ≠ some B) : w'.heap[B]? = some (.cells #[a, b] T (0, 0)) := by
  rw [hb.block B (lt_of_block h) (fun e => hr e.symm)]; exact h

/-- Where what is handed in is put together: what the operations left. -/
def InF (B N : Nat) (m : Value) (i : Nat) (v : Value) (_ : World) : Prop :=
  match i with
  | 1 => v = .pointer (some ⟨B, 1, none⟩)
  | 2 => v = m
  | 6 => v = .pointer (some ⟨B, 1, none⟩)
  | 7 => v = m
  | 8 => v = .int .i64 (N : Int)
  | _ => True
/-- Where it is compared in the end: what the operations left. -/
def OutF (B N g c : Nat) (m : Value) (S : ByteArray) (i : Nat) (v : Value) (_ : World) : Prop :=
  match i with
  | 0 => v = .slice (some ⟨g, 0, none⟩) N c
  | 1 => v = .string S
  | 2 => v = .pointer (some ⟨B, 1, none⟩)
  | 3 => v = m
  | 4 => v = .string S
  | 7 => v = .slice (some ⟨g, 0, none⟩) N c
  | 8 => v = .pointer (some ⟨B, 1, none⟩)
  | 9 => v = m
  | 10 => v = .int .i64 (N : Int)
  | 11 => v = .int .i64 ((N : Int) + 1)
  | 12 => v = .slice (some ⟨g, 0, none⟩) (N + 1) c
  | 13 => v = .pointer (some ⟨B, 1, none⟩)
  | 14 => v = m
  | 15 => v = .int .i64 (N : Int)
  | 16 => v = .pointer (some ⟨g, N, none⟩)
  | 17 => v = .int .u8 77
  | _ => v = .bool true

set_option maxHeartbeats 3200000 in
set_option maxRecDepth 20000 in
theorem pageBytes_any (A : PgApi) (n : Nat) (m : Value) (l : List Nat) (w : World) (hn : n < 18446744073709551616) (hB : Bts w m l) :
    Calls Try.prog 3 #[PgV n m] w fun e w' => e = .returned (.bool true) ∧ Below w.heap.size w w' := by
  have HA := Lib.hid A
  have HN64 := Lib.hid hn
  obtain ⟨p, cap, rfl, -, -, -⟩ := hB.form
  obtain ⟨W, hW⟩ : ∃ W, W = w.alloc (.cells #[.int .u64 (n : Int), .slice p l.length cap] 25) := ⟨_, rfl⟩
  have hb0 : Below w.heap.size w W := by rw [hW]; exact (Below.refl _ _).alloc (Nat.le_refl _) _
  have hr0 : W.heap[w.heap.size]? = some (.cells #[.int .u64 (n : Int), .slice p l.length cap] 25 (0, 0)) := by rw [hW]; exact heap_alloc_last _ _
  have HB := Lib.hid (hB.below hb0)
  have hlen := hB.len
  have HB0 := Lib.hid hb0
  have HR0 := Lib.hid hr0
  clear hb0 hr0 hB hn
  obtain ⟨N, hN⟩ : ∃ N, l.length = N := ⟨_, rfl⟩
  rw [hN] at hlen HB HR0 hW ⊢
  have HN := Lib.hid hN
  clear hN
  by_cases hlg : 2000 < N
  · go_enter Try.func3, Try.ntmps3
    go_wp2_with fail
    rw [← hW]
    refine (known_any HA.out _).mono ?_
    rintro e w2 ⟨rfl, hb2⟩
    have HW2 := Lib.hid (HB0.out.trans (hb2.mono HB0.out.size))
    clear hb2
    go_wp2_with fail
    go_ret
    exact ⟨rfl, HW2.out⟩
  · have hdl : decide (2000 < (N : Int)) = false := by simp; omega
    go_enter Try.func3, Try.ntmps3
    go_upto_region 3 with (fail)
    rw [← hW]
    obtain ⟨B, hBs⟩ : ∃ B, B = w.heap.size := ⟨_, rfl⟩
    rw [← hBs] at HR0 ⊢
    have HBS := Lib.hid hBs
    have D0 := Lib.hid (cell2_0 HR0.out)
    have D1 := Lib.hid (cell2_1 HR0.out)
    have HBW : Hid (B < W.heap.size) := lt_of_block HR0.out
    clear hW hBs
    refine Ord.walk (InF B N (.slice p N cap)) (InR W l) (fun _ _ => True)
      (by kernel_rfl) (by kernel_rfl) ?fr ?hfr (fun _ _ _ _ _ h => h) (fun xs => InR.first W l xs) ?he ?hend
    case hfr =>
      intro xs
      simp only [Ord.fill, Act.put, List.setIfInBounds_toArray, List.set_cons_zero, List.set_cons_succ]
      rfl
    case he =>
      refine Ord.each_cons (fun D xs w2 hD hC hP hR hA K hK => ?_) ?_
      · -- 0
        clear hA
        have hD' : D 0 = false := hD
        go_simp
        have hal : Below w2.heap.size w2 (w2.alloc (.cells #[] 5)) := (Below.refl _ _).alloc (Nat.le_refl _) _
        exact hK _ _ ⟨_, rfl, trivial, hR.op0 hal (own_empty w2 W.heap.size 0 #[] hR.bel.size (Nat.zero_le _) rfl) rfl, trivial⟩
      refine Ord.each_cons (fun D xs w2 hD hC hP hR hA K hK => ?_) ?_
      · -- 1
        clear hA
        have hD' : D 1 = false := hD
        go_simp
        exact hK _ _ ⟨_, rfl, trivial, hR.skip _ (by decide), rfl⟩
      refine Ord.each_cons (fun D xs w2 hD hC hP hR hA K hK => ?_) ?_
      · -- 2
        have q1 := Ord.ahead_get _ hA 1 (by decide)
        simp only [InF] at q1
        simp only [q1] at hK
        clear hA
        have hD' : D 2 = false := hD
        have c0 := hR.bel.cell (p := ⟨B, 1, none⟩) HBW.out
        rw [D1.out] at c0
        go_simp
        exact hK _ _ ⟨_, rfl, trivial, hR.skip _ (by decide), rfl⟩
      refine Ord.each_cons (fun D xs w2 hD hC hP hR hA K hK => ?_) ?_
      · -- 3
        have q2 := Ord.ahead_get _ hA 2 (by decide)
        simp only [InF] at q2
        clear hA
        have hD' : D 3 = false := hD
        have h0 : D 0 = true := hP { on := 0, ground := .data } (by simp) rfl
        have h5 : D 5 = false := by
          cases h : D 5
          · rfl
          · have := Ord.closed_at hC 5 3 (by kernel_rfl) h
            rw [hD'] at this; cases this
        have h9 : D 9 = false := by
          cases h : D 9
          · rfl
          · have := Ord.closed_at hC 9 5 (by kernel_rfl) h
            rw [h5] at this; cases this
        refine wp_append_Own (.tmp 15) (.tmp 17) rfl W.heap.size (xs 0) [] rfl (hR.a0 h0 hD') (.slice p N cap) l q2 (HB.out.below hR.bel) (by rw [List.length_nil]; have := HN.out; omega) hR.bel.size ?_
        intro u w' ho hbel hg
        rw [List.nil_append] at ho
        exact hK _ _ ⟨u, rfl, trivial, hR.op3 h0 hD' h5 h9 hbel hg ho, trivial⟩
      refine Ord.each_cons (fun D xs w2 hD hC hP hR hA K hK => ?_) ?_
      · -- 4
        clear hA
        have hD' : D 4 = false := hD
        go_simp
        have hal : Below w2.heap.size w2 (w2.alloc (.cells #[.int .u8 77] 5)) := (Below.refl _ _).alloc (Nat.le_refl _) _
        exact hK _ _ ⟨_, rfl, trivial, hR.op4 hal (own_one w2 W.heap.size 77 hR.bel.size (by decide)) rfl, trivial⟩
      refine Ord.each_cons (fun D xs w2 hD hC hP hR hA K hK => ?_) ?_
      · -- 5
        clear hA
        have hD' : D 5 = false := hD
        have h3 : D 3 = true := hP { on := 3, ground := .data } (by simp) rfl
        have h4 : D 4 = true := hP { on := 4, ground := .data } (by simp) rfl
        have h9 : D 9 = false := by
          cases h : D 9
          · rfl
          · have := Ord.closed_at hC 9 5 (by kernel_rfl) h
            rw [hD'] at this; cases this
        refine wp_append_Own (.tmp 18) (.tmp 19) rfl W.heap.size (xs 3) l rfl (hR.a3 h3 hD') (xs 4) [77] rfl (hR.m4 h4 hD').1.bts (by rw [List.length_singleton]; have := HN.out; omega) hR.bel.size ?_
        intro u w' ho hbel hg
        exact hK _ _ ⟨u, rfl, trivial, hR.op5 h3 h9 hbel ho, trivial⟩
      refine Ord.each_cons (fun D xs w2 hD hC hP hR hA K hK => ?_) ?_
      · -- 6
        clear hA
        have hD' : D 6 = false := hD
        go_simp
        exact hK _ _ ⟨_, rfl, trivial, hR.skip _ (by decide), rfl⟩
      refine Ord.each_cons (fun D xs w2 hD hC hP hR hA K hK => ?_) ?_
      · -- 7
        have q6 := Ord.ahead_get _ hA 6 (by decide)
        simp only [InF] at q6
        simp only [q6] at hK
        clear hA
        have hD' : D 7 = false := hD
        have c0 := hR.bel.cell (p := ⟨B, 1, none⟩) HBW.out
        rw [D1.out] at c0
        go_simp
        exact hK _ _ ⟨_, rfl, trivial, hR.skip _ (by decide), rfl⟩
      refine Ord.each_cons (fun D xs w2 hD hC hP hR hA K hK => ?_) ?_
      · -- 8
        have q7 := Ord.ahead_get _ hA 7 (by decide)
        simp only [InF] at q7
        simp only [q7] at hK
        clear hA
        have hD' : D 8 = false := hD
        go_simp
        exact hK _ _ ⟨_, rfl, trivial, hR.skip _ (by decide), rfl⟩
      refine Ord.each_cons (fun D xs w2 hD hC hP hR hA K hK => ?_) ?_
      · -- 9
        have q8 := Ord.ahead_get _ hA 8 (by decide)
        simp only [InF] at q8
        simp only [q8] at hK
        clear hA
        have hD' : D 9 = false := hD
        have h5 : D 5 = true := hP { on := 5, ground := .data } (by simp) rfl
        have h10 : D 10 = false := by
          cases h : D 10
          · rfl
          · have := Ord.closed_at hC 10 9 (by kernel_rfl) h
            rw [hD'] at this; cases this
        obtain ⟨g, c, e7, l1, l2⟩ := own_forms2 (hR.a5 h5) (by simp)
        have hl1 : (l ++ [77]).length = N + 1 := by have := HN.out; simp; omega
        rw [hl1] at e7 l1
        have l3 : N ≤ c := by omega
        have he := e7
        simp only [e7] at hK
        go_simp
        exact hK _ _ ⟨_, rfl, trivial, hR.op9 h10 ⟨g, c, by rw [he, HN.out], by rw [HN.out]⟩, trivial⟩
      refine Ord.each_cons (fun D xs w2 hD hC hP hR hA K hK => ?_) ?_
      · -- 10
        clear hA
        have hD' : D 10 = false := hD
        go_simp
        exact hK _ _ ⟨_, rfl, trivial, hR.op10, trivial⟩
      exact Ord.each_nil
    case hend =>
      intro D xs w2 hR hF
      obtain ⟨g, c, e10, hc1, hc2, hin, hmk⟩ := hR.last (hF 5 (by decide)).1 (hF 9 (by decide)).1 (hF 10 (by decide)).1
      rw [HN.out] at e10 hc1 hin hmk
      rw [e10]
      generalize xs 0 = x0
      generalize xs 1 = x1
      generalize xs 2 = x2
      generalize xs 3 = x3
      generalize xs 4 = x4
      generalize xs 5 = x5
      generalize xs 6 = x6
      generalize xs 7 = x7
      generalize xs 8 = x8
      generalize xs 9 = x9
      have HIN := Lib.hid hin
      have HMK := Lib.hid hmk
      have HG := Lib.hid hR.bel
      clear hF hR e10 hin hmk
      have hr2 := row2_below HR0.out HG.out
      have HR2 := Lib.hid hr2
      have HB2 := Lib.hid (HB.out.below HG.out)
      have q0 := cell2_0 hr2
      have q1 := cell2_1 hr2
      clear hr2
      have hc2' : N ≤ c := by omega
      obtain ⟨E, hE⟩ : ∃ E : Nat, E = if l.length = 500 then 0 else 2 := ⟨_, rfl⟩
      obtain ⟨FL, hFL⟩ : ∃ FL, FL = if l.length = 500 then Pg.form n l else [] := ⟨_, rfl⟩
      have hca := HA.out.bytes n _ l _ HN64.out HIN.out
      rw [← hE, ← hFL] at hca
      have hcr := fun W' (h : Bts W' (.slice p N cap) l) => refBytes_any n _ l W' h
      rw [← hE, ← hFL] at hcr
      have HCA := Lib.hid hca
      have HCR := Lib.hid hcr
      have HE := Lib.hid hE
      have HFL := Lib.hid hFL
      obtain ⟨S, hS⟩ : ∃ S, S = strOfNums (FL.map fun x : Nat => (x : Int)) := ⟨_, rfl⟩
      have HS := Lib.hid hS
      clear hca hcr hE hFL hS
      go_wp2_with fail
      refine HCA.out.mono ?_
      rintro e w3 ⟨u4, rfl, hO4, hb3⟩
      obtain ⟨p4, c4, rfl⟩ := own_slv hO4
      have HO4 := Lib.hid hO4
      have hr3 := row2_below HR2.out hb3
      have HR3 := Lib.hid hr3
      have HB3 := Lib.hid (HB2.out.below hb3)
      have HG3 := Lib.hid hb3
      clear q0 q1 hO4 hb3
      have q0 := cell2_0 hr3
      have q1 := cell2_1 hr3
      clear hr3
      go_wp2_with fail
      refine (HCR.out _ HB3.out).mono ?_
      rintro e w5 ⟨u6, rfl, hO6, hb5⟩
      obtain ⟨p6, c6, rfl⟩ := own_slv hO6
      have HO5 := Lib.hid (HO4.out.below hb5)
      have hr5 := row2_below HR3.out hb5
      have HR5 := Lib.hid hr5
      have HB5 := Lib.hid (HB3.out.below hb5)
      have HG5 := Lib.hid (HG3.out.trans (hb5.mono HG3.out.size))
      have cv1 := strOf_conv HO5.out.bts
      have cv2 := strOf_conv hO6.bts
      rw [← HS.out] at cv1 cv2
      have HG35 := Lib.hid hb5.size
      clear q0 q1 hO6 hb5
      have q0 := cell2_0 hr5
      have q1 := cell2_1 hr5
      have hee : ((E : Int) == (E : Int)) = true := by simp
      have hee2 : ((E : Int) != (E : Int)) = false := by simp
      clear hr5
      go_upto_region 8 with (fail)
      clear cv1 cv2 hee hee2
      by_cases hl : l.length = 500
      · have hE := HE.out
        have hF := HFL.out
        rw [if_pos hl] at hE hF
        subst hE
        subst hF
        have HL := Lib.hid hl
        clear hl
        have hfl : (Pg.form n l).length = 512 := by rw [Pg.form_length, HL.out]
        rw [hfl] at HO4 HO5 ⊢
        have hco := HA.out.opens _ _ _ HO5.out.bts
        rw [Pg.openE_form HIN.out.small HL.out, Pg.openN_form HIN.out.small HL.out HN64.out, Pg.openL_form HIN.out.small HL.out] at hco
        have HCO := Lib.hid hco
        clear hco hfl
        go_wp2_with fail
        refine HCO.out.mono ?_
        rintro e w6 ⟨u7, rfl, hO7, hb6⟩
        obtain ⟨p7, c7, rfl⟩ := own_slv hO7
        rw [HL.out] at hO7 ⊢
        obtain ⟨W6, hW6⟩ : ∃ W6, W6 = w6.alloc (.cells #[.int .u64 (n : Int), .slice p7 500 c7] 25) := ⟨_, rfl⟩
        have hal : Below w6.heap.size w6 W6 := by rw [hW6]; exact (Below.refl _ _).alloc (Nat.le_refl _) _
        have hp6 : W6.heap[w6.heap.size]? = some (.cells #[.int .u64 (n : Int), .slice p7 500 c7] 25 (0, 0)) := by rw [hW6]; exact heap_alloc_last _ _
        have hb6' : Below w5.heap.size w5 W6 := hb6.trans (hal.mono hb6.size)
        have hr6 := row2_below HR5.out hb6'
        have HR6 := Lib.hid hr6
        have HB6 := Lib.hid (HB5.out.below hb6')
        have HG6 := Lib.hid (HG5.out.trans (hb6'.mono HG5.out.size))
        have HO6 := Lib.hid (HO5.out.below hb6')
        have HO7 := Lib.hid (hO7.below hal)
        have HP6 := Lib.hid hp6
        clear q0 q1
        have q0 := cell2_0 hr6
        have q1 := cell2_1 hr6
        have t0 := cell2_0 hp6
        have t1 := cell2_1 hp6
        clear hr6 hp6 hb6' hb6 hO7 hal
        go_upto_region 10 with (fail)
        rw [← hW6]
        clear hW6
        obtain ⟨P, hP⟩ : ∃ P, P = w6.heap.size := ⟨_, rfl⟩
        rw [← hP] at HP6 t0 t1 ⊢
        clear hP
        go_wp2_with fail
        refine (refSame_any _ _ _ _ _ _ _ HO7.out.bts HB6.out).mono ?_
        rintro e w8 ⟨rfl, hb8⟩
        rw [Pg.same_self]
        have HR8 := Lib.hid (row2_below HR6.out hb8)
        have HB8 := Lib.hid (HB6.out.below hb8)
        have HG8 := Lib.hid (HG6.out.trans (hb8.mono HG6.out.size))
        have HO8 := Lib.hid (HO6.out.below hb8)
        have HU8 := Lib.hid (HO7.out.below hb8)
        have HP8 := Lib.hid (row2_below HP6.out hb8)
        clear q0 q1 t0 t1 hb8
        obtain ⟨g7, d7, e7, l7, -, k7, m7, R7⟩ := own_some HU8.out (by rw [HL.out]; decide)
        simp only [Value.slice.injEq] at e7
        obtain ⟨rfl, -, rfl⟩ := e7
        obtain ⟨g4, d4, e4, l4, -, k4, m4, R4⟩ := own_some HO8.out (by rw [Pg.form_length, HL.out]; decide)
        simp only [Value.slice.injEq] at e4
        obtain ⟨rfl, -, rfl⟩ := e4
        rw [HL.out] at R7
        rw [Pg.form_length, HL.out] at R4
        obtain ⟨b7, hb7, cell7⟩ := R7.cell 0 (by decide)
        have f7 := R7.free 0
        obtain ⟨g4lt⟩ : Nonempty (g4 < w5.heap.size) := ⟨(HO5.out.own.lt g4 rfl).2⟩
        have L7 := Lib.hid l7
        have L4 := Lib.hid l4
        have G4 := Lib.hid g4lt
        have RR7 := Lib.hid R7
        have RR4 := Lib.hid R4
        have t1 := cell2_1 HP8.out
        have HX7 : Hid (((b7 : Int) + 1) % 256 = (((b7 + 1) % 256 : Nat) : Int)) := by show _ = _; omega
        clear k7 m7 k4 m4 R7 R4 l7 l4 g4lt
        go_upto_region 13 with (fail)
        rw [HX7.out]
        obtain ⟨w9, hw9⟩ : ∃ w9, w9 = w8.setCell ⟨g7, 0, none⟩ (.int .u8 (((b7 + 1) % 256 : Nat) : Int)) := ⟨_, rfl⟩
        have hg9 := grownBy_setCell w8 g7 0 (.int .u8 (((b7 + 1) % 256 : Nat) : Int))
        rw [← hw9] at hg9 ⊢
        clear hw9 cell7 f7 t1
        have HG9 := Lib.hid (below_grown HG8.out hg9 HG8.out.size (Nat.le_trans HG5.out.size L7.out))
        have RR9 := Lib.hid (RR4.out.grown hg9 (fun e => by
          have := L7.out
          have := G4.out
          simp only [Option.some.injEq] at e
          omega))
        clear hg9
        obtain ⟨b4, hb4, cell4⟩ := RR9.out.cell 5 (by decide)
        have f4 := RR9.out.free 5
        have HX4 : Hid (((b4 : Int) + 1) % 256 = (((b4 + 1) % 256 : Nat) : Int)) := by show _ = _; omega
        go_upto_region 14 with (fail)
        rw [HX4.out]
        obtain ⟨wX, hwX⟩ : ∃ wX, wX = w9.setCell ⟨g4, 5, none⟩ (.int .u8 (((b4 + 1) % 256 : Nat) : Int)) := ⟨_, rfl⟩
        have hgX := grownBy_setCell w9 g4 5 (.int .u8 (((b4 + 1) % 256 : Nat) : Int))
        rw [← hwX] at hgX ⊢
        clear hwX cell4 f4
        have HGX := Lib.hid (below_grown HG9.out hgX HG9.out.size L4.out)
        clear hgX
        have hrX := row2_below HR2.out HGX.out
        have E1 := Lib.hid (cell2_1 hrX)
        have HPX : Hid (B < wX.heap.size) := lt_of_block hrX
        have HBX := Lib.hid (HB2.out.below HGX.out)
        have HINX := Lib.hid (HIN.out.below HGX.out)
        have HMX := Lib.hid ((HGX.out.cell (p := ⟨g, N, none⟩) (block_lt_of_cell HMK.out)).trans HMK.out)
        have HGM : Hid (g < wX.heap.size) := block_lt_of_cell HMX.out
        have HCX : Hid (N + 1 ≤ c ∧ c ≤ 9223372036854775807) := ⟨hc1, hc2⟩
        have HNW := Lib.hid (IntWalk.i64_in ((N : Int) + 1) (by omega))
        obtain ⟨T, hT⟩ : ∃ T, T = strOfNums (l.map fun x : Nat => (x : Int)) := ⟨_, rfl⟩
        have HT := Lib.hid hT
        clear hrX hT
        refine Ord.walk (OutF B N g c (.slice p N cap) T) (fun _ _ w' => Below wX.heap.size wX w') (fun a b => Below a.heap.size a b)
          (by kernel_rfl) (by kernel_rfl) ?fr1 ?hfr1 (fun _ _ _ _ _ h => h) (fun xs => (Below.refl _ _).go1) ?he1 ?hend1
        case hfr1 =>
          intro xs
          simp only [Ord.fill, Act.put, List.setIfInBounds_toArray, List.set_cons_zero, List.set_cons_succ]
          rfl
        case he1 =>
          refine Ord.each_cons (fun D xs w2 hD hC hP hR hA K hK => ?_) ?_
          · -- 0
            clear hA
            go_simp
            exact hK _ _ ⟨_, rfl, Below.refl _ _, hR, rfl⟩
          refine Ord.each_cons (fun D xs w2 hD hC hP hR hA K hK => ?_) ?_
          · -- 1
            have q0 := Ord.ahead_get _ hA 0 (by decide)
            simp only [OutF] at q0
            simp only [q0] at hK
            clear hA
            have hcv := strOf_conv (HINX.out.below hR)
            rw [← HT.out] at hcv
            go_simp
            exact hK _ _ ⟨_, rfl, Below.refl _ _, hR, rfl⟩
          refine Ord.each_cons (fun D xs w2 hD hC hP hR hA K hK => ?_) ?_
          · -- 2
            clear hA
            go_simp
            exact hK _ _ ⟨_, rfl, Below.refl _ _, hR, rfl⟩
          refine Ord.each_cons (fun D xs w2 hD hC hP hR hA K hK => ?_) ?_
          · -- 3
            have q2 := Ord.ahead_get _ hA 2 (by decide)
            simp only [OutF] at q2
            simp only [q2] at hK
            clear hA
            have c0 := hR.cell (p := ⟨B, 1, none⟩) HPX.out
            rw [E1.out] at c0
            go_simp
            exact hK _ _ ⟨_, rfl, Below.refl _ _, hR, rfl⟩
          refine Ord.each_cons (fun D xs w2 hD hC hP hR hA K hK => ?_) ?_
          · -- 4
            have q3 := Ord.ahead_get _ hA 3 (by decide)
            simp only [OutF] at q3
            simp only [q3] at hK
            clear hA
            have hcv := strOf_conv (HBX.out.below hR)
            rw [← HT.out] at hcv
            go_simp
            exact hK _ _ ⟨_, rfl, Below.refl _ _, hR, rfl⟩
          refine Ord.each_cons (fun D xs w2 hD hC hP hR hA K hK => ?_) ?_
          · -- 5
            have q1 := Ord.ahead_get _ hA 1 (by decide)
            simp only [OutF] at q1
            have q4 := Ord.ahead_get _ hA 4 (by decide)
            simp only [OutF] at q4
            simp only [q1, q4] at hK
            clear hA
            go_simp
            exact hK _ _ ⟨_, rfl, Below.refl _ _, hR, rfl⟩
          refine Ord.each_cons (fun D xs w2 hD hC hP hR hA K hK => ?_) ?_
          · -- 6
            have q5 := Ord.ahead_get _ hA 5 (by decide)
            simp only [OutF] at q5
            simp only [q5] at hK
            clear hA
            go_simp
            exact hK _ _ ⟨_, rfl, Below.refl _ _, hR, rfl⟩
          refine Ord.each_cons (fun D xs w2 hD hC hP hR hA K hK => ?_) ?_
          · -- 7
            have q6 := Ord.ahead_get _ hA 6 (by decide)
            simp only [OutF] at q6
            simp only [q6] at hK
            clear hA
            go_simp
            exact hK _ _ ⟨_, rfl, Below.refl _ _, hR, rfl⟩
          refine Ord.each_cons (fun D xs w2 hD hC hP hR hA K hK => ?_) ?_
          · -- 8
            have q6 := Ord.ahead_get _ hA 6 (by decide)
            simp only [OutF] at q6
            simp only [q6] at hK
            clear hA
            go_simp
            exact hK _ _ ⟨_, rfl, Below.refl _ _, hR, rfl⟩
          refine Ord.each_cons (fun D xs w2 hD hC hP hR hA K hK => ?_) ?_
          · -- 9
            have q8 := Ord.ahead_get _ hA 8 (by decide)
            simp only [OutF] at q8
            have q6 := Ord.ahead_get _ hA 6 (by decide)
            simp only [OutF] at q6
            simp only [q8, q6] at hK
            clear hA
            have c0 := hR.cell (p := ⟨B, 1, none⟩) HPX.out
            rw [E1.out] at c0
            go_simp
            exact hK _ _ ⟨_, rfl, Below.refl _ _, hR, rfl⟩
          refine Ord.each_cons (fun D xs w2 hD hC hP hR hA K hK => ?_) ?_
          · -- 10
            have q9 := Ord.ahead_get _ hA 9 (by decide)
            simp only [OutF] at q9
            have q6 := Ord.ahead_get _ hA 6 (by decide)
            simp only [OutF] at q6
            simp only [q9, q6] at hK
            clear hA
            go_simp
            exact hK _ _ ⟨_, rfl, Below.refl _ _, hR, rfl⟩
          refine Ord.each_cons (fun D xs w2 hD hC hP hR hA K hK => ?_) ?_
          · -- 11
            have q10 := Ord.ahead_get _ hA 10 (by decide)
            simp only [OutF] at q10
            have q6 := Ord.ahead_get _ hA 6 (by decide)
            simp only [OutF] at q6
            simp only [q10, q6] at hK
            clear hA
            have hnw := HNW.out
            go_simp
            exact hK _ _ ⟨_, rfl, Below.refl _ _, hR, rfl⟩
          refine Ord.each_cons (fun D xs w2 hD hC hP hR hA K hK => ?_) ?_
          · -- 12
            have q7 := Ord.ahead_get _ hA 7 (by decide)
            simp only [OutF] at q7
            have q11 := Ord.ahead_get _ hA 11 (by decide)
            simp only [OutF] at q11
            have q6 := Ord.ahead_get _ hA 6 (by decide)
            simp only [OutF] at q6
            simp only [q7, q11, q6] at hK
            clear hA
            have hcx := HCX.out.1
            have hcx2 := HCX.out.2
            have hz : (0 : Int) ≤ (N : Int) + 1 := by omega
            have hzc : (N : Int) + 1 ≤ (c : Int) := by omega
            go_simp
            exact hK _ _ ⟨_, rfl, Below.refl _ _, hR, rfl⟩
          refine Ord.each_cons (fun D xs w2 hD hC hP hR hA K hK => ?_) ?_
          · -- 13
            have q6 := Ord.ahead_get _ hA 6 (by decide)
            simp only [OutF] at q6
            simp only [q6] at hK
            clear hA
            go_simp
            exact hK _ _ ⟨_, rfl, Below.refl _ _, hR, rfl⟩
          refine Ord.each_cons (fun D xs w2 hD hC hP hR hA K hK => ?_) ?_
          · -- 14
            have q13 := Ord.ahead_get _ hA 13 (by decide)
            simp only [OutF] at q13
            have q6 := Ord.ahead_get _ hA 6 (by decide)
            simp only [OutF] at q6
            simp only [q13, q6] at hK
            clear hA
            have c0 := hR.cell (p := ⟨B, 1, none⟩) HPX.out
            rw [E1.out] at c0
            go_simp
            exact hK _ _ ⟨_, rfl, Below.refl _ _, hR, rfl⟩
          refine Ord.each_cons (fun D xs w2 hD hC hP hR hA K hK => ?_) ?_
          · -- 15
            have q14 := Ord.ahead_get _ hA 14 (by decide)
            simp only [OutF] at q14
            have q6 := Ord.ahead_get _ hA 6 (by decide)
            simp only [OutF] at q6
            simp only [q14, q6] at hK
            clear hA
            go_simp
            exact hK _ _ ⟨_, rfl, Below.refl _ _, hR, rfl⟩
          refine Ord.each_cons (fun D xs w2 hD hC hP hR hA K hK => ?_) ?_
          · -- 16
            have q12 := Ord.ahead_get _ hA 12 (by decide)
            simp only [OutF] at q12
            have q15 := Ord.ahead_get _ hA 15 (by decide)
            simp only [OutF] at q15
            have q6 := Ord.ahead_get _ hA 6 (by decide)
            simp only [OutF] at q6
            simp only [q12, q15, q6] at hK
            clear hA
            have hzn : (N : Int) < (N : Int) + 1 := by omega
            go_simp
            exact hK _ _ ⟨_, rfl, Below.refl _ _, hR, rfl⟩
          refine Ord.each_cons (fun D xs w2 hD hC hP hR hA K hK => ?_) ?_
          · -- 17
            have q16 := Ord.ahead_get _ hA 16 (by decide)
            simp only [OutF] at q16
            have q6 := Ord.ahead_get _ hA 6 (by decide)
            simp only [OutF] at q6
            simp only [q16, q6] at hK
            clear hA
            have c0 := hR.cell (p := ⟨g, N, none⟩) HGM.out
            rw [HMX.out] at c0
            go_simp
            exact hK _ _ ⟨_, rfl, Below.refl _ _, hR, rfl⟩
          refine Ord.each_cons (fun D xs w2 hD hC hP hR hA K hK => ?_) ?_
          · -- 18
            have q17 := Ord.ahead_get _ hA 17 (by decide)
            simp only [OutF] at q17
            have q6 := Ord.ahead_get _ hA 6 (by decide)
            simp only [OutF] at q6
            simp only [q17, q6] at hK
            clear hA
            go_simp
            exact hK _ _ ⟨_, rfl, Below.refl _ _, hR, rfl⟩
          refine Ord.each_cons (fun D xs w2 hD hC hP hR hA K hK => ?_) ?_
          · -- 19
            have q6 := Ord.ahead_get _ hA 6 (by decide)
            simp only [OutF] at q6
            have q18 := Ord.ahead_get _ hA 18 (by decide)
            simp only [OutF] at q18
            simp only [q6, q18] at hK
            clear hA
            go_simp
            exact hK _ _ ⟨_, rfl, Below.refl _ _, hR, rfl⟩
          refine Ord.each_cons (fun D xs w2 hD hC hP hR hA K hK => ?_) ?_
          · -- 20
            have q19 := Ord.ahead_get _ hA 19 (by decide)
            simp only [OutF] at q19
            simp only [q19] at hK
            clear hA
            go_simp
            exact hK _ _ ⟨_, rfl, Below.refl _ _, hR, rfl⟩
          refine Ord.each_cons (fun D xs w2 hD hC hP hR hA K hK => ?_) ?_
          · -- 21
            have q20 := Ord.ahead_get _ hA 20 (by decide)
            simp only [OutF] at q20
            simp only [q20] at hK
            clear hA
            go_simp
            refine (known_any HA.out w2).mono ?_
            rintro e w' ⟨rfl, hb⟩
            exact hK _ _ ⟨_, rfl, hb, hR.trans (hb.mono hR.size), rfl⟩
          refine Ord.each_cons (fun D xs w2 hD hC hP hR hA K hK => ?_) ?_
          · -- 22
            have q20 := Ord.ahead_get _ hA 20 (by decide)
            simp only [OutF] at q20
            have q21 := Ord.ahead_get _ hA 21 (by decide)
            simp only [OutF] at q21
            simp only [q20, q21] at hK
            clear hA
            go_simp
            exact hK _ _ ⟨_, rfl, Below.refl _ _, hR, rfl⟩
          refine Ord.each_cons (fun D xs w2 hD hC hP hR hA K hK => ?_) ?_
          · -- 23
            have q22 := Ord.ahead_get _ hA 22 (by decide)
            simp only [OutF] at q22
            simp only [q22] at hK
            clear hA
            go_simp
            exact hK _ _ ⟨_, rfl, Below.refl _ _, hR, rfl⟩
          exact Ord.each_nil
        case hend1 =>
          intro D xs w12 hR hF
          have e23 := (hF 23 (by decide)).2
          simp only [OutF] at e23
          rw [e23]
          have HR := Lib.hid (HB0.out.trans ((HG.out.trans ((HGX.out.trans (hR.mono HGX.out.size)).mono HG.out.size)).mono HB0.out.size))
          clear e23 hF hR
          go_wp2_with fail
          go_ret
          exact ⟨rfl, HR.out⟩
      · have hE := HE.out
        have hF := HFL.out
        rw [if_neg hl] at hE hF
        subst hE
        subst hF
        go_upto_region 14 with (fail)
        have HGX := HG5
        have hrX := row2_below HR2.out HGX.out
        have E1 := Lib.hid (cell2_1 hrX)
        have HPX : Hid (B < w5.heap.size) := lt_of_block hrX
        have HBX := Lib.hid (HB2.out.below HGX.out)
        have HINX := Lib.hid (HIN.out.below HGX.out)
        have HMX := Lib.hid ((HGX.out.cell (p := ⟨g, N, none⟩) (block_lt_of_cell HMK.out)).trans HMK.out)
        have HGM : Hid (g < w5.heap.size) := block_lt_of_cell HMX.out
        have HCX : Hid (N + 1 ≤ c ∧ c ≤ 9223372036854775807) := ⟨hc1, hc2⟩
        have HNW := Lib.hid (IntWalk.i64_in ((N : Int) + 1) (by omega))
        obtain ⟨T, hT⟩ : ∃ T, T = strOfNums (l.map fun x : Nat => (x : Int)) := ⟨_, rfl⟩
        have HT := Lib.hid hT
        clear hrX hT
        refine Ord.walk (OutF B N g c (.slice p N cap) T) (fun _ _ w' => Below w5.heap.size w5 w') (fun a b => Below a.heap.size a b)
          (by kernel_rfl) (by kernel_rfl) ?fr2 ?hfr2 (fun _ _ _ _ _ h => h) (fun xs => (Below.refl _ _).go1) ?he2 ?hend2
        case hfr2 =>
          intro xs
          simp only [Ord.fill, Act.put, List.setIfInBounds_toArray, List.set_cons_zero, List.set_cons_succ]
          rfl
        case he2 =>
          refine Ord.each_cons (fun D xs w2 hD hC hP hR hA K hK => ?_) ?_
          · -- 0
            clear hA
            go_simp
            exact hK _ _ ⟨_, rfl, Below.refl _ _, hR, rfl⟩
          refine Ord.each_cons (fun D xs w2 hD hC hP hR hA K hK => ?_) ?_
          · -- 1
            have q0 := Ord.ahead_get _ hA 0 (by decide)
            simp only [OutF] at q0
            simp only [q0] at hK
            clear hA
            have hcv := strOf_conv (HINX.out.below hR)
            rw [← HT.out] at hcv
            go_simp
            exact hK _ _ ⟨_, rfl, Below.refl _ _, hR, rfl⟩
          refine Ord.each_cons (fun D xs w2 hD hC hP hR hA K hK => ?_) ?_
          · -- 2
            clear hA
            go_simp
            exact hK _ _ ⟨_, rfl, Below.refl _ _, hR, rfl⟩
          refine Ord.each_cons (fun D xs w2 hD hC hP hR hA K hK => ?_) ?_
          · -- 3
            have q2 := Ord.ahead_get _ hA 2 (by decide)
            simp only [OutF] at q2
            simp only [q2] at hK
            clear hA
            have c0 := hR.cell (p := ⟨B, 1, none⟩) HPX.out
            rw [E1.out] at c0
            go_simp
            exact hK _ _ ⟨_, rfl, Below.refl _ _, hR, rfl⟩
          refine Ord.each_cons (fun D xs w2 hD hC hP hR hA K hK => ?_) ?_
          · -- 4
            have q3 := Ord.ahead_get _ hA 3 (by decide)
            simp only [OutF] at q3
            simp only [q3] at hK
            clear hA
            have hcv := strOf_conv (HBX.out.below hR)
            rw [← HT.out] at hcv
            go_simp
            exact hK _ _ ⟨_, rfl, Below.refl _ _, hR, rfl⟩
          refine Ord.each_cons (fun D xs w2 hD hC hP hR hA K hK => ?_) ?_
          · -- 5
            have q1 := Ord.ahead_get _ hA 1 (by decide)
            simp only [OutF] at q1
            have q4 := Ord.ahead_get _ hA 4 (by decide)
            simp only [OutF] at q4
            simp only [q1, q4] at hK
            clear hA
            go_simp
            exact hK _ _ ⟨_, rfl, Below.refl _ _, hR, rfl⟩
          refine Ord.each_cons (fun D xs w2 hD hC hP hR hA K hK => ?_) ?_
          · -- 6
            have q5 := Ord.ahead_get _ hA 5 (by decide)
            simp only [OutF] at q5
            simp only [q5] at hK
            clear hA
            go_simp
            exact hK _ _ ⟨_, rfl, Below.refl _ _, hR, rfl⟩
          refine Ord.each_cons (fun D xs w2 hD hC hP hR hA K hK => ?_) ?_
          · -- 7
            have q6 := Ord.ahead_get _ hA 6 (by decide)
            simp only [OutF] at q6
            simp only [q6] at hK
            clear hA
            go_simp
            exact hK _ _ ⟨_, rfl, Below.refl _ _, hR, rfl⟩
          refine Ord.each_cons (fun D xs w2 hD hC hP hR hA K hK => ?_) ?_
          · -- 8
            have q6 := Ord.ahead_get _ hA 6 (by decide)
            simp only [OutF] at q6
            simp only [q6] at hK
            clear hA
            go_simp
            exact hK _ _ ⟨_, rfl, Below.refl _ _, hR, rfl⟩
          refine Ord.each_cons (fun D xs w2 hD hC hP hR hA K hK => ?_) ?_
          · -- 9
            have q8 := Ord.ahead_get _ hA 8 (by decide)
            simp only [OutF] at q8
            have q6 := Ord.ahead_get _ hA 6 (by decide)
            simp only [OutF] at q6
            simp only [q8, q6] at hK
            clear hA
            have c0 := hR.cell (p := ⟨B, 1, none⟩) HPX.out
            rw [E1.out] at c0
            go_simp
            exact hK _ _ ⟨_, rfl, Below.refl _ _, hR, rfl⟩
          refine Ord.each_cons (fun D xs w2 hD hC hP hR hA K hK => ?_) ?_
          · -- 10
            have q9 := Ord.ahead_get _ hA 9 (by decide)
            simp only [OutF] at q9
            have q6 := Ord.ahead_get _ hA 6 (by decide)
            simp only [OutF] at q6
            simp only [q9, q6] at hK
            clear hA
            go_simp
            exact hK _ _ ⟨_, rfl, Below.refl _ _, hR, rfl⟩
          refine Ord.each_cons (fun D xs w2 hD hC hP hR hA K hK => ?_) ?_
          · -- 11
            have q10 := Ord.ahead_get _ hA 10 (by decide)
            simp only [OutF] at q10
            have q6 := Ord.ahead_get _ hA 6 (by decide)
            simp only [OutF] at q6
            simp only [q10, q6] at hK
            clear hA
            have hnw := HNW.out
            go_simp
            exact hK _ _ ⟨_, rfl, Below.refl _ _, hR, rfl⟩
          refine Ord.each_cons (fun D xs w2 hD hC hP hR hA K hK => ?_) ?_
          · -- 12
            have q7 := Ord.ahead_get _ hA 7 (by decide)
            simp only [OutF] at q7
            have q11 := Ord.ahead_get _ hA 11 (by decide)
            simp only [OutF] at q11
            have q6 := Ord.ahead_get _ hA 6 (by decide)
            simp only [OutF] at q6
            simp only [q7, q11, q6] at hK
            clear hA
            have hcx := HCX.out.1
            have hcx2 := HCX.out.2
            have hz : (0 : Int) ≤ (N : Int) + 1 := by omega
            have hzc : (N : Int) + 1 ≤ (c : Int) := by omega
            go_simp
            exact hK _ _ ⟨_, rfl, Below.refl _ _, hR, rfl⟩
          refine Ord.each_cons (fun D xs w2 hD hC hP hR hA K hK => ?_) ?_
          · -- 13
            have q6 := Ord.ahead_get _ hA 6 (by decide)
            simp only [OutF] at q6
            simp only [q6] at hK
            clear hA
            go_simp
            exact hK _ _ ⟨_, rfl, Below.refl _ _, hR, rfl⟩
          refine Ord.each_cons (fun D xs w2 hD hC hP hR hA K hK => ?_) ?_
          · -- 14
            have q13 := Ord.ahead_get _ hA 13 (by decide)
            simp only [OutF] at q13
            have q6 := Ord.ahead_get _ hA 6 (by decide)
            simp only [OutF] at q6
            simp only [q13, q6] at hK
            clear hA
            have c0 := hR.cell (p := ⟨B, 1, none⟩) HPX.out
            rw [E1.out] at c0
            go_simp
            exact hK _ _ ⟨_, rfl, Below.refl _ _, hR, rfl⟩
          refine Ord.each_cons (fun D xs w2 hD hC hP hR hA K hK => ?_) ?_
          · -- 15
            have q14 := Ord.ahead_get _ hA 14 (by decide)
            simp only [OutF] at q14
            have q6 := Ord.ahead_get _ hA 6 (by decide)
            simp only [OutF] at q6
            simp only [q14, q6] at hK
            clear hA
            go_simp
            exact hK _ _ ⟨_, rfl, Below.refl _ _, hR, rfl⟩
          refine Ord.each_cons (fun D xs w2 hD hC hP hR hA K hK => ?_) ?_
          · -- 16
            have q12 := Ord.ahead_get _ hA 12 (by decide)
            simp only [OutF] at q12
            have q15 := Ord.ahead_get _ hA 15 (by decide)
            simp only [OutF] at q15
            have q6 := Ord.ahead_get _ hA 6 (by decide)
            simp only [OutF] at q6
            simp only [q12, q15, q6] at hK
            clear hA
            have hzn : (N : Int) < (N : Int) + 1 := by omega
            go_simp
            exact hK _ _ ⟨_, rfl, Below.refl _ _, hR, rfl⟩
          refine Ord.each_cons (fun D xs w2 hD hC hP hR hA K hK => ?_) ?_
          · -- 17
            have q16 := Ord.ahead_get _ hA 16 (by decide)
            simp only [OutF] at q16
            have q6 := Ord.ahead_get _ hA 6 (by decide)
            simp only [OutF] at q6
            simp only [q16, q6] at hK
            clear hA
            have c0 := hR.cell (p := ⟨g, N, none⟩) HGM.out
            rw [HMX.out] at c0
            go_simp
            exact hK _ _ ⟨_, rfl, Below.refl _ _, hR, rfl⟩
          refine Ord.each_cons (fun D xs w2 hD hC hP hR hA K hK => ?_) ?_
          · -- 18
            have q17 := Ord.ahead_get _ hA 17 (by decide)
            simp only [OutF] at q17
            have q6 := Ord.ahead_get _ hA 6 (by decide)
            simp only [OutF] at q6
            simp only [q17, q6] at hK
            clear hA
            go_simp
            exact hK _ _ ⟨_, rfl, Below.refl _ _, hR, rfl⟩
          refine Ord.each_cons (fun D xs w2 hD hC hP hR hA K hK => ?_) ?_
          · -- 19
            have q6 := Ord.ahead_get _ hA 6 (by decide)
            simp only [OutF] at q6
            have q18 := Ord.ahead_get _ hA 18 (by decide)
            simp only [OutF] at q18
            simp only [q6, q18] at hK
            clear hA
            go_simp
            exact hK _ _ ⟨_, rfl, Below.refl _ _, hR, rfl⟩
          refine Ord.each_cons (fun D xs w2 hD hC hP hR hA K hK => ?_) ?_
          · -- 20
            have q19 := Ord.ahead_get _ hA 19 (by decide)
            simp only [OutF] at q19
            simp only [q19] at hK
            clear hA
            go_simp
            exact hK _ _ ⟨_, rfl, Below.refl _ _, hR, rfl⟩
          refine Ord.each_cons (fun D xs w2 hD hC hP hR hA K hK => ?_) ?_
          · -- 21
            have q20 := Ord.ahead_get _ hA 20 (by decide)
            simp only [OutF] at q20
            simp only [q20] at hK
            clear hA
            go_simp
            refine (known_any HA.out w2).mono ?_
            rintro e w' ⟨rfl, hb⟩
            exact hK _ _ ⟨_, rfl, hb, hR.trans (hb.mono hR.size), rfl⟩
          refine Ord.each_cons (fun D xs w2 hD hC hP hR hA K hK => ?_) ?_
          · -- 22
            have q20 := Ord.ahead_get _ hA 20 (by decide)
            simp only [OutF] at q20
            have q21 := Ord.ahead_get _ hA 21 (by decide)
            simp only [OutF] at q21
            simp only [q20, q21] at hK
            clear hA
            go_simp
            exact hK _ _ ⟨_, rfl, Below.refl _ _, hR, rfl⟩
          refine Ord.each_cons (fun D xs w2 hD hC hP hR hA K hK => ?_) ?_
          · -- 23
            have q22 := Ord.ahead_get _ hA 22 (by decide)
            simp only [OutF] at q22
            simp only [q22] at hK
            clear hA
            go_simp
            exact hK _ _ ⟨_, rfl, Below.refl _ _, hR, rfl⟩
          exact Ord.each_nil
        case hend2 =>
          intro D xs w12 hR hF
          have e23 := (hF 23 (by decide)).2
          simp only [OutF] at e23
          rw [e23]
          have HR := Lib.hid (HB0.out.trans ((HG.out.trans ((HGX.out.trans (hR.mono HGX.out.size)).mono HG.out.size)).mono HB0.out.size))
          clear e23 hF hR
          go_wp2_with fail
          go_ret
          exact ⟨rfl, HR.out⟩
end Go.Proofs.Ytkmkbjjpbodbfaa
