/- What the law VectOrder answers, for every three hits. -/
import Derived.Test.YtljichhmfbefaaaHitOrder
import Derived.Laws.StructEq
namespace Go.Proofs.Ytljichhmfbefaaa
open Go.RowKit Go.Sort

theorem cell_new (w : World) (cs : Array Value) (t : TypeId) (i : Nat) (v : Value) (h : cs[i]? = some v) : (w.alloc (.cells cs t)).cell? ⟨w.heap.size, i, none⟩ = some v := by
  rw [cell_of_row _ _ i cs t (0, 0) (heap_alloc_last _ _)]; exact h

/-- What each operation of the law's first line leaves. -/
def VoF (a b c : Value) (ab ba bc ac : Int) (i : Nat) (v : Value) (_ : World) : Prop :=
  match i with
  | 0 => v = a
  | 1 => v = b
  | 2 => v = .int .i64 ab
  | 3 => v = b
  | 4 => v = a
  | 5 => v = .int .i64 ba
  | 6 => v = b
  | 7 => v = c
  | 8 => v = .int .i64 bc
  | 9 => v = a
  | 10 => v = c
  | 11 => v = .int .i64 ac
  | 12 => v = .int .i64 ab
  | 13 => v = .int .i64 ba
  | 14 => v = .int .i64 bc
  | _ => v = .int .i64 ac

theorem voF_went {a b c : Value} {ab ba bc ac : Int} (i : Nat) (v : Value) (w w' : World) (_ : Went w w') (h : VoF a b c ab ba bc ac i v w) : VoF a b c ab ba bc ac i v w' := h

set_option maxHeartbeats 2000000 in
set_option maxRecDepth 20000 in
theorem vectOrder_any (a b c : Hit) (w : World) :
    Calls Try.prog 8 #[.agg #[.int .u64 (a.1.toNat : Int), .int .i64 a.2.toInt], .agg #[.int .u64 (b.1.toNat : Int), .int .i64 b.2.toInt], .agg #[.int .u64 (c.1.toNat : Int), .int .i64 c.2.toInt]] w fun e w' => e = .returned (.bool true) ∧ Below w.heap.size w w' := by
  have h1 := fun W => order_any a b W
  have h2 := fun W => order_any b a W
  have h3 := fun W => order_any b c W
  have h4 := fun W => order_any a c W
  have g1 := Hp.ord_range a b
  have g2 := Hp.ord_swap b a
  have g3 := @Hp.ord_lt a b
  have g4 := @Hp.ord_gt a b
  have g5 := @Hp.ord_lt b c
  have g6 := @Hp.ord_gt b c
  have g7 := @Hp.ord_lt a c
  have g8 := @Hp.ord_gt a c
  have t1 : 0 < Hp.ord a b ∨ 0 < Hp.ord b c ∨ Hp.ord a c ≤ 0 := by omega
  have t2 : Hp.ord a b < 0 ∨ Hp.ord b c < 0 ∨ 0 ≤ Hp.ord a c := by omega
  have t3 : Hp.ord a b = 0 ↔ a = b := Hp.ord_zero
  have t4 : a = b ↔ (a.1.toNat : Int) = b.1.toNat ∧ a.2.toInt = b.2.toInt := by
    constructor
    · rintro rfl; exact ⟨rfl, rfl⟩
    · rintro ⟨h1, h2⟩; exact Prod.ext (UInt64.toNat_inj.1 (by omega)) (Int64.toInt_inj.1 h2)
  rw [t4] at t3
  rw [g2] at h2
  clear g2 g3 g4 g5 g6 g7 g8 t4
  generalize Hp.ord a b = ab at *
  generalize Hp.ord b c = bc at *
  generalize Hp.ord a c = ac at *
  generalize (a.1.toNat : Int) = ka at *
  generalize a.2.toInt = da at *
  generalize (b.1.toNat : Int) = kb at *
  generalize b.2.toInt = db at *
  generalize (c.1.toNat : Int) = kc at *
  generalize c.2.toInt = dc at *
  have H1 := Lib.hid h1
  have H2 := Lib.hid h2
  have H3 := Lib.hid h3
  have H4 := Lib.hid h4
  have T1 := Lib.hid t1
  have T2 := Lib.hid t2
  have T3 := Lib.hid t3
  clear h1 h2 h3 h4 t1 t2 t3
  go_enter Try.func8, Try.ntmps8
  go_wp2_with fail
  obtain ⟨w1, hw1⟩ : ∃ w1, w1 = ((w.alloc (Obj.cells #[Value.int IntKind.u64 ka, Value.int IntKind.i64 da] 35)).alloc (Obj.cells #[Value.int IntKind.u64 kb, Value.int IntKind.i64 db] 35)).alloc (Obj.cells #[Value.int IntKind.u64 kc, Value.int IntKind.i64 dc] 35) := ⟨_, rfl⟩
  have hG : Went w w1 := by rw [hw1]; exact (((Went.refl w).alloc _).alloc _).alloc _
  have d1 := (((Went.refl _).alloc (Obj.cells #[Value.int IntKind.u64 kb, Value.int IntKind.i64 db] 35)).alloc (Obj.cells #[Value.int IntKind.u64 kc, Value.int IntKind.i64 dc] 35)).cell (cell_new w #[Value.int IntKind.u64 ka, Value.int IntKind.i64 da] 35 0 _ rfl)
  have d2 := (((Went.refl _).alloc (Obj.cells #[Value.int IntKind.u64 kb, Value.int IntKind.i64 db] 35)).alloc (Obj.cells #[Value.int IntKind.u64 kc, Value.int IntKind.i64 dc] 35)).cell (cell_new w #[Value.int IntKind.u64 ka, Value.int IntKind.i64 da] 35 1 _ rfl)
  have d3 := ((Went.refl _).alloc (Obj.cells #[Value.int IntKind.u64 kc, Value.int IntKind.i64 dc] 35)).cell (cell_new (w.alloc (Obj.cells #[Value.int IntKind.u64 ka, Value.int IntKind.i64 da] 35)) #[Value.int IntKind.u64 kb, Value.int IntKind.i64 db] 35 0 _ rfl)
  have d4 := ((Went.refl _).alloc (Obj.cells #[Value.int IntKind.u64 kc, Value.int IntKind.i64 dc] 35)).cell (cell_new (w.alloc (Obj.cells #[Value.int IntKind.u64 ka, Value.int IntKind.i64 da] 35)) #[Value.int IntKind.u64 kb, Value.int IntKind.i64 db] 35 1 _ rfl)
  have d5 := cell_new ((w.alloc (Obj.cells #[Value.int IntKind.u64 ka, Value.int IntKind.i64 da] 35)).alloc (Obj.cells #[Value.int IntKind.u64 kb, Value.int IntKind.i64 db] 35)) #[Value.int IntKind.u64 kc, Value.int IntKind.i64 dc] 35 0 _ rfl
  have d6 := cell_new ((w.alloc (Obj.cells #[Value.int IntKind.u64 ka, Value.int IntKind.i64 da] 35)).alloc (Obj.cells #[Value.int IntKind.u64 kb, Value.int IntKind.i64 db] 35)) #[Value.int IntKind.u64 kc, Value.int IntKind.i64 dc] 35 1 _ rfl
  rw [← hw1] at d1 d2 d3 d4 d5 d6
  rw [show (w.alloc (Obj.cells #[Value.int IntKind.u64 ka, Value.int IntKind.i64 da] 35)).heap.size = w.heap.size + 1 by simp] at d3 d4
  rw [show ((w.alloc (Obj.cells #[Value.int IntKind.u64 ka, Value.int IntKind.i64 da] 35)).alloc (Obj.cells #[Value.int IntKind.u64 kb, Value.int IntKind.i64 db] 35)).heap.size = w.heap.size + 1 + 1 by simp] at d5 d6
  rw [← hw1]
  clear hw1
  have HG := Lib.hid hG
  have D1 := Lib.hid d1
  have D2 := Lib.hid d2
  have D3 := Lib.hid d3
  have D4 := Lib.hid d4
  have D5 := Lib.hid d5
  have D6 := Lib.hid d6
  clear hG d1 d2 d3 d4 d5 d6
  obtain ⟨B, hB⟩ : ∃ B, B = w.heap.size := ⟨_, rfl⟩
  rw [← hB] at D1 D2 D3 D4 D5 D6 ⊢
  have HBB := Lib.hid hB
  clear hB
  refine Ord.walk (VoF (.agg #[.int .u64 ka, .int .i64 da]) (.agg #[.int .u64 kb, .int .i64 db]) (.agg #[.int .u64 kc, .int .i64 dc]) ab (-ab) bc ac) (fun _ _ w' => Went w1 w') Went
    (by kernel_rfl) (by kernel_rfl) ?fr ?hfr voF_went (fun xs => (Went.refl w1).drew) ?he ?hend
  case hfr =>
    intro xs
    simp only [Ord.fill, Act.put, List.setIfInBounds_toArray, List.set_cons_zero, List.set_cons_succ]
    rfl
  case he =>
    refine Ord.each_cons (fun D xs w2 hD hC hP hR hA K hK => ?_) ?_
    · -- 0
      have c0 := hR.cell D1.out
      have c1 := hR.cell D2.out
      go_simp
      exact hK _ _ ⟨_, rfl, Went.refl _, hR, rfl⟩
    refine Ord.each_cons (fun D xs w2 hD hC hP hR hA K hK => ?_) ?_
    · -- 1
      have c0 := hR.cell D3.out
      have c1 := hR.cell D4.out
      go_simp
      exact hK _ _ ⟨_, rfl, Went.refl _, hR, rfl⟩
    refine Ord.each_cons (fun D xs w2 hD hC hP hR hA K hK => ?_) ?_
    · -- 2
      simp only [List.filter_cons, List.filter_nil, Region.binds, if_true, Ord.ahead, VoF, and_true] at hA
      obtain ⟨q0, q1⟩ := hA
      simp only [q0, q1] at hK
      go_simp
      refine (H1.out _).mono ?_
      rintro e w' ⟨rfl, hw⟩
      exact hK _ _ ⟨_, rfl, hw, hR.trans hw, rfl⟩
    refine Ord.each_cons (fun D xs w2 hD hC hP hR hA K hK => ?_) ?_
    · -- 3
      have c0 := hR.cell D3.out
      have c1 := hR.cell D4.out
      go_simp
      exact hK _ _ ⟨_, rfl, Went.refl _, hR, rfl⟩
    refine Ord.each_cons (fun D xs w2 hD hC hP hR hA K hK => ?_) ?_
    · -- 4
      have c0 := hR.cell D1.out
      have c1 := hR.cell D2.out
      go_simp
      exact hK _ _ ⟨_, rfl, Went.refl _, hR, rfl⟩
    refine Ord.each_cons (fun D xs w2 hD hC hP hR hA K hK => ?_) ?_
    · -- 5
      simp only [List.filter_cons, List.filter_nil, Region.binds, if_true, Ord.ahead, VoF, and_true] at hA
      obtain ⟨q0, q1, -⟩ := hA
      simp only [q0, q1] at hK
      go_simp
      refine (H2.out _).mono ?_
      rintro e w' ⟨rfl, hw⟩
      exact hK _ _ ⟨_, rfl, hw, hR.trans hw, rfl⟩
    refine Ord.each_cons (fun D xs w2 hD hC hP hR hA K hK => ?_) ?_
    · -- 6
      have c0 := hR.cell D3.out
      have c1 := hR.cell D4.out
      go_simp
      exact hK _ _ ⟨_, rfl, Went.refl _, hR, rfl⟩
    refine Ord.each_cons (fun D xs w2 hD hC hP hR hA K hK => ?_) ?_
    · -- 7
      have c0 := hR.cell D5.out
      have c1 := hR.cell D6.out
      go_simp
      exact hK _ _ ⟨_, rfl, Went.refl _, hR, rfl⟩
    refine Ord.each_cons (fun D xs w2 hD hC hP hR hA K hK => ?_) ?_
    · -- 8
      simp only [List.filter_cons, List.filter_nil, Region.binds, if_true, Ord.ahead, VoF, and_true] at hA
      obtain ⟨q0, q1, -⟩ := hA
      simp only [q0, q1] at hK
      go_simp
      refine (H3.out _).mono ?_
      rintro e w' ⟨rfl, hw⟩
      exact hK _ _ ⟨_, rfl, hw, hR.trans hw, rfl⟩
    refine Ord.each_cons (fun D xs w2 hD hC hP hR hA K hK => ?_) ?_
    · -- 9
      have c0 := hR.cell D1.out
      have c1 := hR.cell D2.out
      go_simp
      exact hK _ _ ⟨_, rfl, Went.refl _, hR, rfl⟩
    refine Ord.each_cons (fun D xs w2 hD hC hP hR hA K hK => ?_) ?_
    · -- 10
      have c0 := hR.cell D5.out
      have c1 := hR.cell D6.out
      go_simp
      exact hK _ _ ⟨_, rfl, Went.refl _, hR, rfl⟩
    refine Ord.each_cons (fun D xs w2 hD hC hP hR hA K hK => ?_) ?_
    · -- 11
      simp only [List.filter_cons, List.filter_nil, Region.binds, if_true, Ord.ahead, VoF, and_true] at hA
      obtain ⟨q0, q1, -⟩ := hA
      simp only [q0, q1] at hK
      go_simp
      refine (H4.out _).mono ?_
      rintro e w' ⟨rfl, hw⟩
      exact hK _ _ ⟨_, rfl, hw, hR.trans hw, rfl⟩
    refine Ord.each_cons (fun D xs w2 hD hC hP hR hA K hK => ?_) ?_
    · -- 12
      simp only [List.filter_cons, List.filter_nil, Region.binds, if_true, Ord.ahead, VoF] at hA
      have q0 := hA.1
      clear hA
      simp only [q0] at hK
      go_simp
      exact hK _ _ ⟨_, rfl, Went.refl _, hR, rfl⟩
    refine Ord.each_cons (fun D xs w2 hD hC hP hR hA K hK => ?_) ?_
    · -- 13
      simp only [List.filter_cons, List.filter_nil, Region.binds, if_true, Ord.ahead, VoF] at hA
      have q0 := hA.1
      clear hA
      simp only [q0] at hK
      go_simp
      exact hK _ _ ⟨_, rfl, Went.refl _, hR, rfl⟩
    refine Ord.each_cons (fun D xs w2 hD hC hP hR hA K hK => ?_) ?_
    · -- 14
      simp only [List.filter_cons, List.filter_nil, Region.binds, if_true, Ord.ahead, VoF] at hA
      have q0 := hA.1
      clear hA
      simp only [q0] at hK
      go_simp
      exact hK _ _ ⟨_, rfl, Went.refl _, hR, rfl⟩
    refine Ord.each_cons (fun D xs w2 hD hC hP hR hA K hK => ?_) ?_
    · -- 15
      simp only [List.filter_cons, List.filter_nil, Region.binds, if_true, Ord.ahead, VoF] at hA
      have q0 := hA.1
      clear hA
      simp only [q0] at hK
      go_simp
      exact hK _ _ ⟨_, rfl, Went.refl _, hR, rfl⟩
    exact Ord.each_nil
  case hend =>
    intro D xs w2 hR hF
    have e12 := (hF 12 (by decide)).2
    have e13 := (hF 13 (by decide)).2
    have e14 := (hF 14 (by decide)).2
    have e15 := (hF 15 (by decide)).2
    simp only [VoF] at e12 e13 e14 e15
    rw [e12, e13, e14, e15]
    clear e12 e13 e14 e15 hF
    have hc1 := hR.cell D1.out
    have hc2 := hR.cell D2.out
    have hc3 := hR.cell D3.out
    have hc4 := hR.cell D4.out
    have HR := Lib.hid (HG.out.trans hR)
    clear hR D1 D2 D3 D4 D5 D6 HG H1 H2 H3 H4
    have t1 := T1.out
    have t2 := T2.out
    have t3 := T3.out
    have hcase : ab = -1 ∨ ab = 0 ∨ ab = 1 := by omega
    rcases hcase with rfl | rfl | rfl
    · have hne : ¬ (ka = kb ∧ da = db) := by omega
      have hl : bc < 0 ∨ 0 ≤ bc := by omega
      have hk : ka = kb ∧ da ≠ db ∨ ka ≠ kb := by omega
      clear t3 hne
      go_wp2_with fail
      all_goals
        refine (known_any _).mono ?_
        rintro e w' ⟨rfl, hb⟩
        have HK := Lib.hid (HR.out.below.trans (hb.mono HR.out.below.size))
        clear hb
        go_wp2_with fail
        go_ret
        exact ⟨ret_bool (by first | rfl | (simp <;> omega)), HK.out⟩
    · obtain ⟨rfl, rfl⟩ : ka = kb ∧ da = db := t3.1 rfl
      clear t3
      go_wp2_with fail
      all_goals
        refine (known_any _).mono ?_
        rintro e w' ⟨rfl, hb⟩
        have HK := Lib.hid (HR.out.below.trans (hb.mono HR.out.below.size))
        clear hb
        go_wp2_with fail
        go_ret
        exact ⟨ret_bool (by first | rfl | (simp <;> omega)), HK.out⟩
    · have hne : ¬ (ka = kb ∧ da = db) := by omega
      have hl : bc < 0 ∨ 0 ≤ bc := by omega
      have hk : ka = kb ∧ da ≠ db ∨ ka ≠ kb := by omega
      clear t3 hne
      go_wp2_with fail
      all_goals
        refine (known_any _).mono ?_
        rintro e w' ⟨rfl, hb⟩
        have HK := Lib.hid (HR.out.below.trans (hb.mono HR.out.below.size))
        clear hb
        go_wp2_with fail
        go_ret
        exact ⟨ret_bool (by first | rfl | (simp <;> omega)), HK.out⟩
end Go.Proofs.Ytljichhmfbefaaa
