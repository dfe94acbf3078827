/- What the document's fields tells. Conditions: the slice's cells hold the bytes. -/
import Derived.Test.YtkchoelegdknoaaLrFs
namespace Go.Proofs.Ytkchoelegdknoaa
open Go.RowKit

def RfIs (l : List Nat) (w w' : World) (en : Ending) : Prop := ∃ x o n u c d e', en = .returned (.tuple #[RecV x o n u c d, .bool (decide (e' = 0))]) ∧ RecOwn w.heap.size w' x o n u c d ∧ Lr.Took l x e' ∧ Lr.Few x
set_option maxHeartbeats 6400000 in
set_option maxRecDepth 20000 in
theorem refFields_any (m : Value) (l : List Nat) (w : World) (hB : Bts w m l) :
    Calls Try.prog 35 #[m] w fun en w' => RfIs l w w' en ∧ Below w.heap.size w w' := by
  obtain ⟨p, cap, rfl⟩ := hB.slice
  obtain ⟨W, hW⟩ : ∃ W, W = w.alloc zobj := ⟨_, rfl⟩
  have hb := below_new1 w zobj
  have hz := zblk w
  rw [← hW] at hb hz
  obtain ⟨V, hV⟩ : ∃ V, V = W.alloc (.cells #[.slice p l.length cap, .int .i64 0] 79) := ⟨_, rfl⟩
  have hbV : Below W.heap.size W V := by rw [hV]; exact below_new1 _ _
  have hrV : V.heap[W.heap.size]? = some (.cells #[.slice p l.length cap, .int .i64 0] 79 (0, 0)) := by rw [hV]; exact heap_alloc_last _ _
  obtain ⟨Q, hQ⟩ : ∃ Q, Q = w.heap.size := ⟨_, rfl⟩
  obtain ⟨r, hr⟩ : ∃ r, r = W.heap.size := ⟨_, rfl⟩
  have hQr : Q < r := by rw [hQ, hr]; exact lt_of_block hz
  have hR0 : Rd 79 (fun b => b < Q) V r l 0 := ⟨_, by rw [hr]; exact hrV, (hB.below hb).below hbV, (by omega), fun h0 b e => by rw [hQ]; exact hB.block_lt h0 b e⟩
  have hz2 := (hbV.block _ (lt_of_block hz)).trans hz
  have hbw := hb.trans (hbV.mono hb.size)
  rw [← hQ] at hz2 hbw ⊢
  have HR := Lib.hid hR0
  have HZ := Lib.hid hz2
  have HK := Lib.hid hbw
  have HQR := Lib.hid hQr
  have HQE := Lib.hid hQ
  unfold zobj at hW
  have hQ2 := hQ
  have hr2 : r = Q + 1 := by rw [hr, hQ, hW]; exact Array.size_push _
  clear hB hb hz hbV hrV hR0 hz2 hbw hQr hQ hr
  go_enter Try.func35, Try.ntmps35
  go_upto_region 2 with (fail)
  rw [← hW, ← hV, ← hQ2, ← hr2]
  clear hW hV hQ2 hr2
  have hc := rd_num HR.out 4 4 rfl (by decide) (by decide)
  go_wp2_with fail
  refine hc.mono ?_
  rintro en v0 ⟨x0, m0, f0, hx, hs, rfl, hR, hg⟩
  have HX0 := Lib.hid hx
  replace HK := Lib.hid (HK.out.grown hg (Nat.le_of_lt (lt_of_block HZ.out)) (fun k hk => by rw [← Option.some.inj hk]; exact Nat.le_of_lt HQR.out))
  replace HZ := Lib.hid ((hg.block _ (lt_of_block HZ.out) (fun e => Nat.ne_of_lt HQR.out (Option.some.inj e))).trans HZ.out)
  replace HR := Lib.hid hR
  clear hc hx hs hR hg
  have hc := rd_num HR.out 2 2 rfl (by decide) (by decide)
  go_wp2_with fail
  refine hc.mono ?_
  rintro en v1 ⟨x1, m1, f1, hx, hs, rfl, hR, hg⟩
  have HX1 := Lib.hid hx
  replace HK := Lib.hid (HK.out.grown hg (Nat.le_of_lt (lt_of_block HZ.out)) (fun k hk => by rw [← Option.some.inj hk]; exact Nat.le_of_lt HQR.out))
  replace HZ := Lib.hid ((hg.block _ (lt_of_block HZ.out) (fun e => Nat.ne_of_lt HQR.out (Option.some.inj e))).trans HZ.out)
  replace HR := Lib.hid hR
  clear hc hx hs hR hg
  go_upto_region 5 with (fail)
  have hfs := Fs.start HR.out HZ.out HK.out HQR.out
  obtain ⟨y, hy⟩ : ∃ y, y = v1.heap.size := ⟨_, rfl⟩
  rw [← hy] at hfs ⊢
  unfold zobj at hfs
  generalize v1.alloc (.cells #[.int .i64 0, .int .u64 0, .int .u32 0, .int .u64 0, .int .u32 0, .int .u16 0, .slice none 0 0, .slice none 0 0, .slice none 0 0, .int .u64 0, .int .u64 0, .bool false, .int .u64 0, .slice none 0 0, .slice none 0 0] 30) = Y at hfs ⊢
  have HS := Lib.hid hfs
  have HYQ : Hid (y ≠ Q) := by have := hfs.lt; exact Lib.hid (by omega)
  have HRQ : Hid (r ≠ Q) := by have := hfs.lt; exact Lib.hid (by omega)
  obtain ⟨M, hM⟩ : ∃ M, M = y + 1 := ⟨_, rfl⟩
  rw [← hM] at hfs HS
  have HRM : Hid (r < M) := by have := hfs.lt; exact Lib.hid (by omega)
  have HYM : Hid (y < M) := by have := hfs.lt; exact Lib.hid (by omega)
  have HQM : Hid (Q < M) := by have := hfs.lt; exact Lib.hid (by omega)
  have HWM : Hid (w.heap.size ≤ M) := by have h1 := HQE.out; have h2 := HQM.out; exact Lib.hid (by omega)
  have HYR : Hid (y ≠ r) := by have := hfs.lt; exact Lib.hid (by omega)
  clear hfs hy hM HR HZ HK HQE
  have hc := HS.out.num 8 8 rfl (by decide) (by decide)
  go_wp2_with fail
  refine hc.mono ?_
  rintro en v2 ⟨x2, m2, f2, hx, hs, rfl, hS, hg⟩
  have HX2 := Lib.hid hx
  have HB2 := Lib.hid hs
  replace HS := Lib.hid hS
  clear hc hx hs hS hg
  obtain ⟨cu, hcu⟩ := HS.out.cell 1 (show 1 < 15 by decide)
  have hfr := HS.out.free 1
  go_upto_region 6 with (fail)
  clear hcu hfr
  have hS := HS.out.set 1 (.int .u64 (x2 : Int))
  simp only [List.setIfInBounds_toArray, List.set_cons_zero, List.set_cons_succ] at hS
  have hg := grownBy_setCell v2 y 1 (.int .u64 (x2 : Int))
  generalize v2.setCell ⟨y, 1, none⟩ (.int .u64 (x2 : Int)) = v3 at hS hg ⊢
  replace HS := Lib.hid hS
  clear hS hg
  have hc := HS.out.num 4 4 rfl (by decide) (by decide)
  go_wp2_with fail
  refine hc.mono ?_
  rintro en v4 ⟨x4, m4, f4, hx, hs, rfl, hS, hg⟩
  have HX4 := Lib.hid hx
  have HB4 := Lib.hid hs
  replace HS := Lib.hid hS
  clear hc hx hs hS hg
  have hcv := u32_of HB4.out
  obtain ⟨cu, hcu⟩ := HS.out.cell 2 (show 2 < 15 by decide)
  have hfr := HS.out.free 2
  go_upto_region 7 with (fail)
  clear hcu hfr hcv
  have hS := HS.out.set 2 (.int .u32 (x4 : Int))
  simp only [List.setIfInBounds_toArray, List.set_cons_zero, List.set_cons_succ] at hS
  have hg := grownBy_setCell v4 y 2 (.int .u32 (x4 : Int))
  generalize v4.setCell ⟨y, 2, none⟩ (.int .u32 (x4 : Int)) = v5 at hS hg ⊢
  replace HS := Lib.hid hS
  clear hS hg
  have hc := HS.out.num 1 1 rfl (by decide) (by decide)
  go_wp2_with fail
  refine hc.mono ?_
  rintro en v6 ⟨x6, m6, f6, hx, hs, rfl, hS, hg⟩
  have HX6 := Lib.hid hx
  have HB6 := Lib.hid hs
  replace HS := Lib.hid hS
  clear hc hx hs hS hg
  have hcv := i64_of HB6.out
  obtain ⟨cu, hcu⟩ := HS.out.cell 0 (show 0 < 15 by decide)
  have hfr := HS.out.free 0
  go_upto_region 8 with (fail)
  clear hcu hfr hcv
  have hS := HS.out.set 0 (.int .i64 (x6 : Int))
  simp only [List.setIfInBounds_toArray, List.set_cons_zero] at hS
  have hg := grownBy_setCell v6 y 0 (.int .i64 (x6 : Int))
  generalize v6.setCell ⟨y, 0, none⟩ (.int .i64 (x6 : Int)) = v7 at hS hg ⊢
  replace HS := Lib.hid hS
  clear hS hg
  have HH := Lib.hid (Lr.head_of HX0.out HX1.out HX2.out HX4.out HX6.out)
  clear HX0 HX1 HX2 HX4 HX6
  by_cases h1 : x6 = 1
  · as_aux_lemma =>
      subst h1
      rw [show ((1 : Nat) : Int) = 1 from rfl] at HS
      obtain ⟨y0, -, -, -, -, -, -, -, -, -, -, -, -, -, -⟩ := rec_cell HS.out.yrow
      go_upto_region 10 with (fail)
      clear y0
      have hc := HS.out.num 4 4 rfl (by decide) (by decide)
      go_wp2_with fail
      refine hc.mono ?_
      rintro en v8 ⟨x8, m8, f8, hx, hs, rfl, hS, hg⟩
      have HX8 := Lib.hid hx
      have HB8 := Lib.hid hs
      replace HS := Lib.hid hS
      clear hc hx hs hS hg
      have hcv := u32_of HB8.out
      obtain ⟨cu, hcu⟩ := HS.out.cell 4 (show 4 < 15 by decide)
      have hfr := HS.out.free 4
      go_upto_region 11 with (fail)
      clear hcu hfr hcv
      have hS := HS.out.set 4 (.int .u32 (x8 : Int))
      simp only [List.setIfInBounds_toArray, List.set_cons_zero, List.set_cons_succ] at hS
      have hg := grownBy_setCell v8 y 4 (.int .u32 (x8 : Int))
      generalize v8.setCell ⟨y, 4, none⟩ (.int .u32 (x8 : Int)) = v9 at hS hg ⊢
      replace HS := Lib.hid hS
      clear hS hg
      have hc := HS.out.num 2 2 rfl (by decide) (by decide)
      go_wp2_with fail
      refine hc.mono ?_
      rintro en v10 ⟨x10, m10, f10, hx, hs, rfl, hS, hg⟩
      have HX10 := Lib.hid hx
      have HB10 := Lib.hid hs
      replace HS := Lib.hid hS
      clear hc hx hs hS hg
      have hcv := u16_of HB10.out
      obtain ⟨cu, hcu⟩ := HS.out.cell 5 (show 5 < 15 by decide)
      have hfr := HS.out.free 5
      go_upto_region 12 with (fail)
      clear hcu hfr hcv
      have hS := HS.out.set 5 (.int .u16 (x10 : Int))
      simp only [List.setIfInBounds_toArray, List.set_cons_zero, List.set_cons_succ] at hS
      have hg := grownBy_setCell v10 y 5 (.int .u16 (x10 : Int))
      generalize v10.setCell ⟨y, 5, none⟩ (.int .u16 (x10 : Int)) = v11 at hS hg ⊢
      replace HS := Lib.hid hS
      clear hS hg
      have hc := HS.out.text 500 (by decide)
      go_wp2_with fail
      refine hc.mono ?_
      rintro en v12 ⟨t12, p12, c12, m12, f12, hx, hs, rfl, hO, hS, hg⟩
      have HX12 := Lib.hid hx
      have HB12 := Lib.hid (show t12.length ≤ 500 by omega)
      have HO12 := Lib.hid hO
      replace HS := Lib.hid hS
      clear hc hx hs hS hg hO
      obtain ⟨cu, hcu⟩ := HS.out.cell 6 (show 6 < 15 by decide)
      have hfr := HS.out.free 6
      go_upto_region 13 with (fail)
      clear hcu hfr
      have hS := HS.out.set 6 (.slice p12 t12.length c12)
      simp only [List.setIfInBounds_toArray, List.set_cons_zero, List.set_cons_succ] at hS
      have hg := grownBy_setCell v12 y 6 (.slice p12 t12.length c12)
      generalize v12.setCell ⟨y, 6, none⟩ (.slice p12 t12.length c12) = v13 at hS hg ⊢
      replace HO12 := Lib.hid (HO12.out.grown hg (own_neB HO12.out HYM.out))
      replace HS := Lib.hid hS
      clear hS hg
      have hc := HS.out.text 500 (by decide)
      go_wp2_with fail
      refine hc.mono ?_
      rintro en v14 ⟨t14, p14, c14, m14, f14, hx, hs, rfl, hO, hS, hg⟩
      have HX14 := Lib.hid hx
      have HB14 := Lib.hid (show t14.length ≤ 500 by omega)
      replace HO12 := Lib.hid (HO12.out.grown hg (own_neB HO12.out HRM.out))
      have HO14 := Lib.hid hO
      replace HS := Lib.hid hS
      clear hc hx hs hS hg hO
      obtain ⟨cu, hcu⟩ := HS.out.cell 7 (show 7 < 15 by decide)
      have hfr := HS.out.free 7
      go_upto_region 43 with (fail)
      clear hcu hfr
      have hS := HS.out.set 7 (.slice p14 t14.length c14)
      simp only [List.setIfInBounds_toArray, List.set_cons_zero, List.set_cons_succ] at hS
      have hg := grownBy_setCell v14 y 7 (.slice p14 t14.length c14)
      generalize v14.setCell ⟨y, 7, none⟩ (.slice p14 t14.length c14) = v15 at hS hg ⊢
      replace HO12 := Lib.hid (HO12.out.grown hg (own_neB HO12.out HYM.out))
      replace HO14 := Lib.hid (HO14.out.grown hg (own_neB HO14.out HYM.out))
      replace HS := Lib.hid hS
      clear hS hg
      refine Ord.walk (FfF #[.int .i64 1, .int .u64 (x2 : Int), .int .u32 (x4 : Int), .int .u64 0, .int .u32 (x8 : Int), .int .u16 (x10 : Int), .slice p12 t12.length c12, .slice p14 t14.length c14, .slice none 0 0, .int .u64 0, .int .u64 0, .bool false, .int .u64 0, .slice none 0 0, .slice none 0 0] r f14) (FfR Q v15 #[.int .i64 1, .int .u64 (x2 : Int), .int .u32 (x4 : Int), .int .u64 0, .int .u32 (x8 : Int), .int .u16 (x10 : Int), .slice p12 t12.length c12, .slice p14 t14.length c14, .slice none 0 0, .int .u64 0, .int .u64 0, .bool false, .int .u64 0, .slice none 0 0, .slice none 0 0]) (fun _ _ => True)
        (by kernel_rfl) (by kernel_rfl) ?frw1 ?hfrw1 (fun _ _ _ _ _ h => h) (fun xs => FfR.first HS.out.qrow) ?hew1 ?hendw1
      case hfrw1 =>
        intro xs
        simp only [Ord.fill, Act.put, List.setIfInBounds_toArray, List.set_cons_zero, List.set_cons_succ]
        rfl
      case hew1 =>
        refine Ord.each_cons (fun D xs w2 hD hC hP hR hA K hK => ?_) ?_
        · -- 0
          clear hA
          as_aux_lemma =>
            refine wp_load_rec (.tmp 5) rfl y rfl _ (hR.row HS.out.yrow HYQ.out) rfl ?_
            exact hK _ _ ⟨_, rfl, trivial, hR.skip 0 (by decide) _, rfl⟩
        refine Ord.each_cons (fun D xs w2 hD hC hP hR hA K hK => ?_) ?_
        · -- 1
          clear hA
          as_aux_lemma =>
            go_simp
            exact hK _ _ ⟨_, rfl, trivial, hR.skip 1 (by decide) _, rfl⟩
        refine Ord.each_cons (fun D xs w2 hD hC hP hR hA K hK => ?_) ?_
        · -- 2
          have q1 := Ord.ahead_get _ hA 1 (by decide)
          simp only [FfF] at q1
          simp only [q1] at hK
          clear hA
          as_aux_lemma =>
            have cc := hR.cell HS.out.err HRQ.out
            go_simp
            exact hK _ _ ⟨_, rfl, trivial, hR.skip 2 (by decide) _, rfl⟩
        refine Ord.each_cons (fun D xs w2 hD hC hP hR hA K hK => ?_) ?_
        · -- 3
          have q2 := Ord.ahead_get _ hA 2 (by decide)
          simp only [FfF] at q2
          simp only [q2] at hK
          clear hA
          as_aux_lemma =>
            have he : ((f14 : Int) == 0) = decide (f14 = 0) := eqI (b := 0)
            go_simp
            exact hK _ _ ⟨_, rfl, trivial, hR.skip 3 (by decide) _, rfl⟩
        refine Ord.each_cons (fun D xs w2 hD hC hP hR hA K hK => ?_) ?_
        · -- 4
          have q0 := Ord.ahead_get _ hA 0 (by decide)
          simp only [FfF] at q0
          clear hA
          as_aux_lemma =>
            have hrow := hR.2
            rw [hD] at hrow
            refine wp_store_rec (.tmp 2) (.tmp 105) rfl Q rfl _ q0 _ hrow rfl rfl (by simp [Value.oneCell']) ?_
            intro w' hr hg
            exact hK _ _ ⟨undef, rfl, trivial, hR.store hr hg _, trivial⟩
        refine Ord.each_cons (fun D xs w2 hD hC hP hR hA K hK => ?_) ?_
        · -- 5
          have q3 := Ord.ahead_get _ hA 3 (by decide)
          simp only [FfF] at q3
          simp only [q3] at hK
          clear hA
          as_aux_lemma =>
            go_simp
            exact hK _ _ ⟨_, rfl, trivial, hR.skip 5 (by decide) _, rfl⟩
        exact Ord.each_nil
      case hendw1 =>
        intro D xs w9 hR hall
        have r5 := (hall 5 (by decide)).2
        have d4 := (hall 4 (by decide)).1
        simp only [FfF] at r5
        have hrow := hR.2
        rw [d4] at hrow
        have HROW := Lib.hid (show w9.heap[Q]? = some (.cells #[.int .i64 1, .int .u64 (x2 : Int), .int .u32 (x4 : Int), .int .u64 0, .int .u32 (x8 : Int), .int .u16 (x10 : Int), .slice p12 t12.length c12, .slice p14 t14.length c14, .slice none 0 0, .int .u64 0, .int .u64 0, .bool false, .int .u64 0, .slice none 0 0, .slice none 0 0] 30 (0, 0)) from hrow)
        have HGR := Lib.hid hR.1
        clear hR hall d4 hrow
        simp only [r5]
        clear r5
        generalize xs 0 = z0
        generalize xs 1 = z1
        generalize xs 2 = z2
        generalize xs 3 = z3
        go_wp2_with fail
        obtain ⟨u0, u1, u2, u3, u4, u5, u6, u7, u8, u9, u10, u11, u12, u13, u14⟩ := rec_cell HROW.out
        have hg := HGR.out
        refine bodyPost_ret (v := .tuple #[.agg #[.int .i64 1, .int .u64 (x2 : Int), .int .u32 (x4 : Int), .int .u64 0, .int .u32 (x8 : Int), .int .u16 (x10 : Int), .slice p12 t12.length c12, .slice p14 t14.length c14, .slice none 0 0, .int .u64 0, .int .u64 0, .bool false, .int .u64 0, .slice none 0 0, .slice none 0 0], .bool (decide (f14 = 0))]) (by simp [results, Try.results35, go_sem, u0, u1, u2, u3, u4, u5, u6, u7, u8, u9, u10, u11, u12, u13, u14]) rfl ?_
        refine ⟨⟨⟨1, x2, x4, 0, x8, x10, t12, t14, [], 0, 0, false, 0, [], []⟩, (.slice p12 t12.length c12), (.slice p14 t14.length c14), (.slice none 0 0), (.slice none 0 0), (.slice none 0 0), _, rfl, ⟨((HO12.out.grown hg (own_neB HO12.out HQM.out)).from HWM.out), ((HO14.out.grown hg (own_neB HO14.out HQM.out)).from HWM.out), own_nil _ _, Chr.own_nil _ _, Dir.own_nil _ _, ?_⟩, Lr.took_write HH.out HX8.out HX10.out HX12.out HX14.out, ?_⟩, HS.out.below.grown hg (Nat.le_trans (Nat.le_of_lt HQM.out) HS.out.lt.2.2.2) (fun k hk => by rw [← Option.some.inj hk]; exact Nat.le_refl _)⟩
        · exact ⟨by dsimp only; omega, Nat.lt_of_lt_of_le HB2.out (by decide), Nat.lt_of_lt_of_le HB4.out (by decide), (show 0 < 18446744073709551616 by decide), Nat.lt_of_lt_of_le HB8.out (by decide), Nat.lt_of_lt_of_le HB10.out (by decide), HO12.out.small, HO14.out.small, (by simp), (show 0 < 18446744073709551616 by decide), (show 0 < 18446744073709551616 by decide), (show 0 < 18446744073709551616 by decide), (by simp), (by simp)⟩
        · exact ⟨Nat.le_trans HB12.out (by decide), Nat.le_trans HB14.out (by decide), (by simp), (by simp), (by simp)⟩
  have k1 : ((x6 : Int) == 1) = false := by rw [beq_eq_false_iff_ne]; omega
  by_cases h2 : x6 = 2
  · as_aux_lemma =>
      subst h2
      rw [show ((2 : Nat) : Int) = 2 from rfl] at HS
      obtain ⟨y0, -, -, -, -, -, -, -, -, -, -, -, -, -, -⟩ := rec_cell HS.out.yrow
      go_upto_region 15 with (fail)
      clear y0
      have hc := HS.out.num 8 8 rfl (by decide) (by decide)
      go_wp2_with fail
      refine hc.mono ?_
      rintro en v8 ⟨x8, m8, f8, hx, hs, rfl, hS, hg⟩
      have HX8 := Lib.hid hx
      have HB8 := Lib.hid hs
      replace HS := Lib.hid hS
      clear hc hx hs hS hg
      obtain ⟨cu, hcu⟩ := HS.out.cell 3 (show 3 < 15 by decide)
      have hfr := HS.out.free 3
      go_upto_region 16 with (fail)
      clear hcu hfr
      have hS := HS.out.set 3 (.int .u64 (x8 : Int))
      simp only [List.setIfInBounds_toArray, List.set_cons_zero, List.set_cons_succ] at hS
      have hg := grownBy_setCell v8 y 3 (.int .u64 (x8 : Int))
      generalize v8.setCell ⟨y, 3, none⟩ (.int .u64 (x8 : Int)) = v9 at hS hg ⊢
      replace HS := Lib.hid hS
      clear hS hg
      have hc := HS.out.num 8 8 rfl (by decide) (by decide)
      go_wp2_with fail
      refine hc.mono ?_
      rintro en v10 ⟨x10, m10, f10, hx, hs, rfl, hS, hg⟩
      have HX10 := Lib.hid hx
      have HB10 := Lib.hid hs
      replace HS := Lib.hid hS
      clear hc hx hs hS hg
      obtain ⟨cu, hcu⟩ := HS.out.cell 9 (show 9 < 15 by decide)
      have hfr := HS.out.free 9
      go_upto_region 17 with (fail)
      clear hcu hfr
      have hS := HS.out.set 9 (.int .u64 (x10 : Int))
      simp only [List.setIfInBounds_toArray, List.set_cons_zero, List.set_cons_succ] at hS
      have hg := grownBy_setCell v10 y 9 (.int .u64 (x10 : Int))
      generalize v10.setCell ⟨y, 9, none⟩ (.int .u64 (x10 : Int)) = v11 at hS hg ⊢
      replace HS := Lib.hid hS
      clear hS hg
      have hc := HS.out.num 8 8 rfl (by decide) (by decide)
      go_wp2_with fail
      refine hc.mono ?_
      rintro en v12 ⟨x12, m12, f12, hx, hs, rfl, hS, hg⟩
      have HX12 := Lib.hid hx
      have HB12 := Lib.hid hs
      replace HS := Lib.hid hS
      clear hc hx hs hS hg
      obtain ⟨cu, hcu⟩ := HS.out.cell 10 (show 10 < 15 by decide)
      have hfr := HS.out.free 10
      go_upto_region 18 with (fail)
      clear hcu hfr
      have hS := HS.out.set 10 (.int .u64 (x12 : Int))
      simp only [List.setIfInBounds_toArray, List.set_cons_zero, List.set_cons_succ] at hS
      have hg := grownBy_setCell v12 y 10 (.int .u64 (x12 : Int))
      generalize v12.setCell ⟨y, 10, none⟩ (.int .u64 (x12 : Int)) = v13 at hS hg ⊢
      replace HS := Lib.hid hS
      clear hS hg
      have hc := HS.out.num 1 1 rfl (by decide) (by decide)
      go_wp2_with fail
      refine hc.mono ?_
      rintro en v14 ⟨x14, m14, f14, hx, hs, rfl, hS, hg⟩
      have HX14 := Lib.hid hx
      have HB14 := Lib.hid hs
      replace HS := Lib.hid hS
      clear hc hx hs hS hg
      have hcb : ((x14 : Int) == 1) = decide (x14 = 1) := eqI (b := 1)
      generalize hcd : decide (x14 = 1) = cb at *
      have HCD := Lib.hid hcd
      clear hcd
      obtain ⟨cu, hcu⟩ := HS.out.cell 11 (show 11 < 15 by decide)
      have hfr := HS.out.free 11
      go_upto_region 19 with (fail)
      clear hcu hfr hcb
      have hS := HS.out.set 11 (.bool cb)
      simp only [List.setIfInBounds_toArray, List.set_cons_zero, List.set_cons_succ] at hS
      have hg := grownBy_setCell v14 y 11 (.bool cb)
      generalize v14.setCell ⟨y, 11, none⟩ (.bool cb) = v15 at hS hg ⊢
      replace HS := Lib.hid hS
      clear hS hg
      have hc := HS.out.text 64 (by decide)
      go_wp2_with fail
      refine hc.mono ?_
      rintro en v16 ⟨t16, p16, c16, m16, f16, hx, hs, rfl, hO, hS, hg⟩
      have HX16 := Lib.hid hx
      have HB16 := Lib.hid (show t16.length ≤ 64 by omega)
      have HO16 := Lib.hid hO
      replace HS := Lib.hid hS
      clear hc hx hs hS hg hO
      obtain ⟨cu, hcu⟩ := HS.out.cell 8 (show 8 < 15 by decide)
      have hfr := HS.out.free 8
      go_upto_region 43 with (fail)
      clear hcu hfr
      have hS := HS.out.set 8 (.slice p16 t16.length c16)
      simp only [List.setIfInBounds_toArray, List.set_cons_zero, List.set_cons_succ] at hS
      have hg := grownBy_setCell v16 y 8 (.slice p16 t16.length c16)
      generalize v16.setCell ⟨y, 8, none⟩ (.slice p16 t16.length c16) = v17 at hS hg ⊢
      replace HO16 := Lib.hid (HO16.out.grown hg (own_neB HO16.out HYM.out))
      replace HS := Lib.hid hS
      clear hS hg
      refine Ord.walk (FfF #[.int .i64 2, .int .u64 (x2 : Int), .int .u32 (x4 : Int), .int .u64 (x8 : Int), .int .u32 0, .int .u16 0, .slice none 0 0, .slice none 0 0, .slice p16 t16.length c16, .int .u64 (x10 : Int), .int .u64 (x12 : Int), .bool cb, .int .u64 0, .slice none 0 0, .slice none 0 0] r f16) (FfR Q v17 #[.int .i64 2, .int .u64 (x2 : Int), .int .u32 (x4 : Int), .int .u64 (x8 : Int), .int .u32 0, .int .u16 0, .slice none 0 0, .slice none 0 0, .slice p16 t16.length c16, .int .u64 (x10 : Int), .int .u64 (x12 : Int), .bool cb, .int .u64 0, .slice none 0 0, .slice none 0 0]) (fun _ _ => True)
        (by kernel_rfl) (by kernel_rfl) ?frw2 ?hfrw2 (fun _ _ _ _ _ h => h) (fun xs => FfR.first HS.out.qrow) ?hew2 ?hendw2
      case hfrw2 =>
        intro xs
        simp only [Ord.fill, Act.put, List.setIfInBounds_toArray, List.set_cons_zero, List.set_cons_succ]
        rfl
      case hew2 =>
        refine Ord.each_cons (fun D xs w2 hD hC hP hR hA K hK => ?_) ?_
        · -- 0
          clear hA
          as_aux_lemma =>
            refine wp_load_rec (.tmp 5) rfl y rfl _ (hR.row HS.out.yrow HYQ.out) rfl ?_
            exact hK _ _ ⟨_, rfl, trivial, hR.skip 0 (by decide) _, rfl⟩
        refine Ord.each_cons (fun D xs w2 hD hC hP hR hA K hK => ?_) ?_
        · -- 1
          clear hA
          as_aux_lemma =>
            go_simp
            exact hK _ _ ⟨_, rfl, trivial, hR.skip 1 (by decide) _, rfl⟩
        refine Ord.each_cons (fun D xs w2 hD hC hP hR hA K hK => ?_) ?_
        · -- 2
          have q1 := Ord.ahead_get _ hA 1 (by decide)
          simp only [FfF] at q1
          simp only [q1] at hK
          clear hA
          as_aux_lemma =>
            have cc := hR.cell HS.out.err HRQ.out
            go_simp
            exact hK _ _ ⟨_, rfl, trivial, hR.skip 2 (by decide) _, rfl⟩
        refine Ord.each_cons (fun D xs w2 hD hC hP hR hA K hK => ?_) ?_
        · -- 3
          have q2 := Ord.ahead_get _ hA 2 (by decide)
          simp only [FfF] at q2
          simp only [q2] at hK
          clear hA
          as_aux_lemma =>
            have he : ((f16 : Int) == 0) = decide (f16 = 0) := eqI (b := 0)
            go_simp
            exact hK _ _ ⟨_, rfl, trivial, hR.skip 3 (by decide) _, rfl⟩
        refine Ord.each_cons (fun D xs w2 hD hC hP hR hA K hK => ?_) ?_
        · -- 4
          have q0 := Ord.ahead_get _ hA 0 (by decide)
          simp only [FfF] at q0
          clear hA
          as_aux_lemma =>
            have hrow := hR.2
            rw [hD] at hrow
            refine wp_store_rec (.tmp 2) (.tmp 105) rfl Q rfl _ q0 _ hrow rfl rfl (by simp [Value.oneCell']) ?_
            intro w' hr hg
            exact hK _ _ ⟨undef, rfl, trivial, hR.store hr hg _, trivial⟩
        refine Ord.each_cons (fun D xs w2 hD hC hP hR hA K hK => ?_) ?_
        · -- 5
          have q3 := Ord.ahead_get _ hA 3 (by decide)
          simp only [FfF] at q3
          simp only [q3] at hK
          clear hA
          as_aux_lemma =>
            go_simp
            exact hK _ _ ⟨_, rfl, trivial, hR.skip 5 (by decide) _, rfl⟩
        exact Ord.each_nil
      case hendw2 =>
        intro D xs w9 hR hall
        have r5 := (hall 5 (by decide)).2
        have d4 := (hall 4 (by decide)).1
        simp only [FfF] at r5
        have hrow := hR.2
        rw [d4] at hrow
        have HROW := Lib.hid (show w9.heap[Q]? = some (.cells #[.int .i64 2, .int .u64 (x2 : Int), .int .u32 (x4 : Int), .int .u64 (x8 : Int), .int .u32 0, .int .u16 0, .slice none 0 0, .slice none 0 0, .slice p16 t16.length c16, .int .u64 (x10 : Int), .int .u64 (x12 : Int), .bool cb, .int .u64 0, .slice none 0 0, .slice none 0 0] 30 (0, 0)) from hrow)
        have HGR := Lib.hid hR.1
        clear hR hall d4 hrow
        simp only [r5]
        clear r5
        generalize xs 0 = z0
        generalize xs 1 = z1
        generalize xs 2 = z2
        generalize xs 3 = z3
        go_wp2_with fail
        obtain ⟨u0, u1, u2, u3, u4, u5, u6, u7, u8, u9, u10, u11, u12, u13, u14⟩ := rec_cell HROW.out
        have hg := HGR.out
        refine bodyPost_ret (v := .tuple #[.agg #[.int .i64 2, .int .u64 (x2 : Int), .int .u32 (x4 : Int), .int .u64 (x8 : Int), .int .u32 0, .int .u16 0, .slice none 0 0, .slice none 0 0, .slice p16 t16.length c16, .int .u64 (x10 : Int), .int .u64 (x12 : Int), .bool cb, .int .u64 0, .slice none 0 0, .slice none 0 0], .bool (decide (f16 = 0))]) (by simp [results, Try.results35, go_sem, u0, u1, u2, u3, u4, u5, u6, u7, u8, u9, u10, u11, u12, u13, u14]) rfl ?_
        refine ⟨⟨⟨2, x2, x4, x8, 0, 0, [], [], t16, x10, x12, cb, 0, [], []⟩, (.slice none 0 0), (.slice none 0 0), (.slice p16 t16.length c16), (.slice none 0 0), (.slice none 0 0), _, rfl, ⟨own_nil _ _, own_nil _ _, ((HO16.out.grown hg (own_neB HO16.out HQM.out)).from HWM.out), Chr.own_nil _ _, Dir.own_nil _ _, ?_⟩, (by rw [← HCD.out]; exact Lr.took_end HH.out HX8.out HX10.out HX12.out HX14.out HX16.out), ?_⟩, HS.out.below.grown hg (Nat.le_trans (Nat.le_of_lt HQM.out) HS.out.lt.2.2.2) (fun k hk => by rw [← Option.some.inj hk]; exact Nat.le_refl _)⟩
        · exact ⟨by dsimp only; omega, Nat.lt_of_lt_of_le HB2.out (by decide), Nat.lt_of_lt_of_le HB4.out (by decide), Nat.lt_of_lt_of_le HB8.out (by decide), (show 0 < 4294967296 by decide), (show 0 < 65536 by decide), (by simp), (by simp), HO16.out.small, Nat.lt_of_lt_of_le HB10.out (by decide), Nat.lt_of_lt_of_le HB12.out (by decide), (show 0 < 18446744073709551616 by decide), (by simp), (by simp)⟩
        · exact ⟨(by simp), (by simp), Nat.le_trans HB16.out (by decide), (by simp), (by simp)⟩
  have k2 : ((x6 : Int) == 2) = false := by rw [beq_eq_false_iff_ne]; omega
  by_cases h3 : x6 = 3
  · as_aux_lemma =>
      subst h3
      rw [show ((3 : Nat) : Int) = 3 from rfl] at HS
      obtain ⟨y0, -, -, -, -, -, -, -, -, -, -, -, -, -, -⟩ := rec_cell HS.out.yrow
      go_upto_region 21 with (fail)
      clear y0
      have hc := HS.out.num 8 8 rfl (by decide) (by decide)
      go_wp2_with fail
      refine hc.mono ?_
      rintro en v8 ⟨x8, m8, f8, hx, hs, rfl, hS, hg⟩
      have HX8 := Lib.hid hx
      have HB8 := Lib.hid hs
      replace HS := Lib.hid hS
      clear hc hx hs hS hg
      obtain ⟨cu, hcu⟩ := HS.out.cell 3 (show 3 < 15 by decide)
      have hfr := HS.out.free 3
      go_upto_region 22 with (fail)
      clear hcu hfr
      have hS := HS.out.set 3 (.int .u64 (x8 : Int))
      simp only [List.setIfInBounds_toArray, List.set_cons_zero, List.set_cons_succ] at hS
      have hg := grownBy_setCell v8 y 3 (.int .u64 (x8 : Int))
      generalize v8.setCell ⟨y, 3, none⟩ (.int .u64 (x8 : Int)) = v9 at hS hg ⊢
      replace HS := Lib.hid hS
      clear hS hg
      have hc := HS.out.num 8 8 rfl (by decide) (by decide)
      go_wp2_with fail
      refine hc.mono ?_
      rintro en v10 ⟨x10, m10, f10, hx, hs, rfl, hS, hg⟩
      have HX10 := Lib.hid hx
      have HB10 := Lib.hid hs
      replace HS := Lib.hid hS
      clear hc hx hs hS hg
      obtain ⟨cu, hcu⟩ := HS.out.cell 12 (show 12 < 15 by decide)
      have hfr := HS.out.free 12
      go_upto_region 43 with (fail)
      clear hcu hfr
      have hS := HS.out.set 12 (.int .u64 (x10 : Int))
      simp only [List.setIfInBounds_toArray, List.set_cons_zero, List.set_cons_succ] at hS
      have hg := grownBy_setCell v10 y 12 (.int .u64 (x10 : Int))
      generalize v10.setCell ⟨y, 12, none⟩ (.int .u64 (x10 : Int)) = v11 at hS hg ⊢
      replace HS := Lib.hid hS
      clear hS hg
      refine Ord.walk (FfF #[.int .i64 3, .int .u64 (x2 : Int), .int .u32 (x4 : Int), .int .u64 (x8 : Int), .int .u32 0, .int .u16 0, .slice none 0 0, .slice none 0 0, .slice none 0 0, .int .u64 0, .int .u64 0, .bool false, .int .u64 (x10 : Int), .slice none 0 0, .slice none 0 0] r f10) (FfR Q v11 #[.int .i64 3, .int .u64 (x2 : Int), .int .u32 (x4 : Int), .int .u64 (x8 : Int), .int .u32 0, .int .u16 0, .slice none 0 0, .slice none 0 0, .slice none 0 0, .int .u64 0, .int .u64 0, .bool false, .int .u64 (x10 : Int), .slice none 0 0, .slice none 0 0]) (fun _ _ => True)
        (by kernel_rfl) (by kernel_rfl) ?frw3 ?hfrw3 (fun _ _ _ _ _ h => h) (fun xs => FfR.first HS.out.qrow) ?hew3 ?hendw3
      case hfrw3 =>
        intro xs
        simp only [Ord.fill, Act.put, List.setIfInBounds_toArray, List.set_cons_zero, List.set_cons_succ]
        rfl
      case hew3 =>
        refine Ord.each_cons (fun D xs w2 hD hC hP hR hA K hK => ?_) ?_
        · -- 0
          clear hA
          as_aux_lemma =>
            refine wp_load_rec (.tmp 5) rfl y rfl _ (hR.row HS.out.yrow HYQ.out) rfl ?_
            exact hK _ _ ⟨_, rfl, trivial, hR.skip 0 (by decide) _, rfl⟩
        refine Ord.each_cons (fun D xs w2 hD hC hP hR hA K hK => ?_) ?_
        · -- 1
          clear hA
          as_aux_lemma =>
            go_simp
            exact hK _ _ ⟨_, rfl, trivial, hR.skip 1 (by decide) _, rfl⟩
        refine Ord.each_cons (fun D xs w2 hD hC hP hR hA K hK => ?_) ?_
        · -- 2
          have q1 := Ord.ahead_get _ hA 1 (by decide)
          simp only [FfF] at q1
          simp only [q1] at hK
          clear hA
          as_aux_lemma =>
            have cc := hR.cell HS.out.err HRQ.out
            go_simp
            exact hK _ _ ⟨_, rfl, trivial, hR.skip 2 (by decide) _, rfl⟩
        refine Ord.each_cons (fun D xs w2 hD hC hP hR hA K hK => ?_) ?_
        · -- 3
          have q2 := Ord.ahead_get _ hA 2 (by decide)
          simp only [FfF] at q2
          simp only [q2] at hK
          clear hA
          as_aux_lemma =>
            have he : ((f10 : Int) == 0) = decide (f10 = 0) := eqI (b := 0)
            go_simp
            exact hK _ _ ⟨_, rfl, trivial, hR.skip 3 (by decide) _, rfl⟩
        refine Ord.each_cons (fun D xs w2 hD hC hP hR hA K hK => ?_) ?_
        · -- 4
          have q0 := Ord.ahead_get _ hA 0 (by decide)
          simp only [FfF] at q0
          clear hA
          as_aux_lemma =>
            have hrow := hR.2
            rw [hD] at hrow
            refine wp_store_rec (.tmp 2) (.tmp 105) rfl Q rfl _ q0 _ hrow rfl rfl (by simp [Value.oneCell']) ?_
            intro w' hr hg
            exact hK _ _ ⟨undef, rfl, trivial, hR.store hr hg _, trivial⟩
        refine Ord.each_cons (fun D xs w2 hD hC hP hR hA K hK => ?_) ?_
        · -- 5
          have q3 := Ord.ahead_get _ hA 3 (by decide)
          simp only [FfF] at q3
          simp only [q3] at hK
          clear hA
          as_aux_lemma =>
            go_simp
            exact hK _ _ ⟨_, rfl, trivial, hR.skip 5 (by decide) _, rfl⟩
        exact Ord.each_nil
      case hendw3 =>
        intro D xs w9 hR hall
        have r5 := (hall 5 (by decide)).2
        have d4 := (hall 4 (by decide)).1
        simp only [FfF] at r5
        have hrow := hR.2
        rw [d4] at hrow
        have HROW := Lib.hid (show w9.heap[Q]? = some (.cells #[.int .i64 3, .int .u64 (x2 : Int), .int .u32 (x4 : Int), .int .u64 (x8 : Int), .int .u32 0, .int .u16 0, .slice none 0 0, .slice none 0 0, .slice none 0 0, .int .u64 0, .int .u64 0, .bool false, .int .u64 (x10 : Int), .slice none 0 0, .slice none 0 0] 30 (0, 0)) from hrow)
        have HGR := Lib.hid hR.1
        clear hR hall d4 hrow
        simp only [r5]
        clear r5
        generalize xs 0 = z0
        generalize xs 1 = z1
        generalize xs 2 = z2
        generalize xs 3 = z3
        go_wp2_with fail
        obtain ⟨u0, u1, u2, u3, u4, u5, u6, u7, u8, u9, u10, u11, u12, u13, u14⟩ := rec_cell HROW.out
        have hg := HGR.out
        refine bodyPost_ret (v := .tuple #[.agg #[.int .i64 3, .int .u64 (x2 : Int), .int .u32 (x4 : Int), .int .u64 (x8 : Int), .int .u32 0, .int .u16 0, .slice none 0 0, .slice none 0 0, .slice none 0 0, .int .u64 0, .int .u64 0, .bool false, .int .u64 (x10 : Int), .slice none 0 0, .slice none 0 0], .bool (decide (f10 = 0))]) (by simp [results, Try.results35, go_sem, u0, u1, u2, u3, u4, u5, u6, u7, u8, u9, u10, u11, u12, u13, u14]) rfl ?_
        refine ⟨⟨⟨3, x2, x4, x8, 0, 0, [], [], [], 0, 0, false, x10, [], []⟩, (.slice none 0 0), (.slice none 0 0), (.slice none 0 0), (.slice none 0 0), (.slice none 0 0), _, rfl, ⟨own_nil _ _, own_nil _ _, own_nil _ _, Chr.own_nil _ _, Dir.own_nil _ _, ?_⟩, Lr.took_commit HH.out HX8.out HX10.out, ?_⟩, HS.out.below.grown hg (Nat.le_trans (Nat.le_of_lt HQM.out) HS.out.lt.2.2.2) (fun k hk => by rw [← Option.some.inj hk]; exact Nat.le_refl _)⟩
        · exact ⟨by dsimp only; omega, Nat.lt_of_lt_of_le HB2.out (by decide), Nat.lt_of_lt_of_le HB4.out (by decide), Nat.lt_of_lt_of_le HB8.out (by decide), (show 0 < 4294967296 by decide), (show 0 < 65536 by decide), (by simp), (by simp), (by simp), (show 0 < 18446744073709551616 by decide), (show 0 < 18446744073709551616 by decide), Nat.lt_of_lt_of_le HB10.out (by decide), (by simp), (by simp)⟩
        · exact ⟨(by simp), (by simp), (by simp), (by simp), (by simp)⟩
  have k3 : ((x6 : Int) == 3) = false := by rw [beq_eq_false_iff_ne]; omega
  by_cases h4 : x6 = 4
  · as_aux_lemma =>
      subst h4
      rw [show ((4 : Nat) : Int) = 4 from rfl] at HS
      obtain ⟨y0, -, -, -, -, -, -, -, -, -, -, -, -, -, -⟩ := rec_cell HS.out.yrow
      go_upto_region 24 with (fail)
      clear y0
      have hc := HS.out.num 8 8 rfl (by decide) (by decide)
      go_wp2_with fail
      refine hc.mono ?_
      rintro en v8 ⟨x8, m8, f8, hx, hs, rfl, hS, hg⟩
      have HX8 := Lib.hid hx
      have HB8 := Lib.hid hs
      replace HS := Lib.hid hS
      clear hc hx hs hS hg
      obtain ⟨cu, hcu⟩ := HS.out.cell 3 (show 3 < 15 by decide)
      have hfr := HS.out.free 3
      go_upto_region 43 with (fail)
      clear hcu hfr
      have hS := HS.out.set 3 (.int .u64 (x8 : Int))
      simp only [List.setIfInBounds_toArray, List.set_cons_zero, List.set_cons_succ] at hS
      have hg := grownBy_setCell v8 y 3 (.int .u64 (x8 : Int))
      generalize v8.setCell ⟨y, 3, none⟩ (.int .u64 (x8 : Int)) = v9 at hS hg ⊢
      replace HS := Lib.hid hS
      clear hS hg
      refine Ord.walk (FfF #[.int .i64 4, .int .u64 (x2 : Int), .int .u32 (x4 : Int), .int .u64 (x8 : Int), .int .u32 0, .int .u16 0, .slice none 0 0, .slice none 0 0, .slice none 0 0, .int .u64 0, .int .u64 0, .bool false, .int .u64 0, .slice none 0 0, .slice none 0 0] r f8) (FfR Q v9 #[.int .i64 4, .int .u64 (x2 : Int), .int .u32 (x4 : Int), .int .u64 (x8 : Int), .int .u32 0, .int .u16 0, .slice none 0 0, .slice none 0 0, .slice none 0 0, .int .u64 0, .int .u64 0, .bool false, .int .u64 0, .slice none 0 0, .slice none 0 0]) (fun _ _ => True)
        (by kernel_rfl) (by kernel_rfl) ?frw4 ?hfrw4 (fun _ _ _ _ _ h => h) (fun xs => FfR.first HS.out.qrow) ?hew4 ?hendw4
      case hfrw4 =>
        intro xs
        simp only [Ord.fill, Act.put, List.setIfInBounds_toArray, List.set_cons_zero, List.set_cons_succ]
        rfl
      case hew4 =>
        refine Ord.each_cons (fun D xs w2 hD hC hP hR hA K hK => ?_) ?_
        · -- 0
          clear hA
          as_aux_lemma =>
            refine wp_load_rec (.tmp 5) rfl y rfl _ (hR.row HS.out.yrow HYQ.out) rfl ?_
            exact hK _ _ ⟨_, rfl, trivial, hR.skip 0 (by decide) _, rfl⟩
        refine Ord.each_cons (fun D xs w2 hD hC hP hR hA K hK => ?_) ?_
        · -- 1
          clear hA
          as_aux_lemma =>
            go_simp
            exact hK _ _ ⟨_, rfl, trivial, hR.skip 1 (by decide) _, rfl⟩
        refine Ord.each_cons (fun D xs w2 hD hC hP hR hA K hK => ?_) ?_
        · -- 2
          have q1 := Ord.ahead_get _ hA 1 (by decide)
          simp only [FfF] at q1
          simp only [q1] at hK
          clear hA
          as_aux_lemma =>
            have cc := hR.cell HS.out.err HRQ.out
            go_simp
            exact hK _ _ ⟨_, rfl, trivial, hR.skip 2 (by decide) _, rfl⟩
        refine Ord.each_cons (fun D xs w2 hD hC hP hR hA K hK => ?_) ?_
        · -- 3
          have q2 := Ord.ahead_get _ hA 2 (by decide)
          simp only [FfF] at q2
          simp only [q2] at hK
          clear hA
          as_aux_lemma =>
            have he : ((f8 : Int) == 0) = decide (f8 = 0) := eqI (b := 0)
            go_simp
            exact hK _ _ ⟨_, rfl, trivial, hR.skip 3 (by decide) _, rfl⟩
        refine Ord.each_cons (fun D xs w2 hD hC hP hR hA K hK => ?_) ?_
        · -- 4
          have q0 := Ord.ahead_get _ hA 0 (by decide)
          simp only [FfF] at q0
          clear hA
          as_aux_lemma =>
            have hrow := hR.2
            rw [hD] at hrow
            refine wp_store_rec (.tmp 2) (.tmp 105) rfl Q rfl _ q0 _ hrow rfl rfl (by simp [Value.oneCell']) ?_
            intro w' hr hg
            exact hK _ _ ⟨undef, rfl, trivial, hR.store hr hg _, trivial⟩
        refine Ord.each_cons (fun D xs w2 hD hC hP hR hA K hK => ?_) ?_
        · -- 5
          have q3 := Ord.ahead_get _ hA 3 (by decide)
          simp only [FfF] at q3
          simp only [q3] at hK
          clear hA
          as_aux_lemma =>
            go_simp
            exact hK _ _ ⟨_, rfl, trivial, hR.skip 5 (by decide) _, rfl⟩
        exact Ord.each_nil
      case hendw4 =>
        intro D xs w9 hR hall
        have r5 := (hall 5 (by decide)).2
        have d4 := (hall 4 (by decide)).1
        simp only [FfF] at r5
        have hrow := hR.2
        rw [d4] at hrow
        have HROW := Lib.hid (show w9.heap[Q]? = some (.cells #[.int .i64 4, .int .u64 (x2 : Int), .int .u32 (x4 : Int), .int .u64 (x8 : Int), .int .u32 0, .int .u16 0, .slice none 0 0, .slice none 0 0, .slice none 0 0, .int .u64 0, .int .u64 0, .bool false, .int .u64 0, .slice none 0 0, .slice none 0 0] 30 (0, 0)) from hrow)
        have HGR := Lib.hid hR.1
        clear hR hall d4 hrow
        simp only [r5]
        clear r5
        generalize xs 0 = z0
        generalize xs 1 = z1
        generalize xs 2 = z2
        generalize xs 3 = z3
        go_wp2_with fail
        obtain ⟨u0, u1, u2, u3, u4, u5, u6, u7, u8, u9, u10, u11, u12, u13, u14⟩ := rec_cell HROW.out
        have hg := HGR.out
        refine bodyPost_ret (v := .tuple #[.agg #[.int .i64 4, .int .u64 (x2 : Int), .int .u32 (x4 : Int), .int .u64 (x8 : Int), .int .u32 0, .int .u16 0, .slice none 0 0, .slice none 0 0, .slice none 0 0, .int .u64 0, .int .u64 0, .bool false, .int .u64 0, .slice none 0 0, .slice none 0 0], .bool (decide (f8 = 0))]) (by simp [results, Try.results35, go_sem, u0, u1, u2, u3, u4, u5, u6, u7, u8, u9, u10, u11, u12, u13, u14]) rfl ?_
        refine ⟨⟨⟨4, x2, x4, x8, 0, 0, [], [], [], 0, 0, false, 0, [], []⟩, (.slice none 0 0), (.slice none 0 0), (.slice none 0 0), (.slice none 0 0), (.slice none 0 0), _, rfl, ⟨own_nil _ _, own_nil _ _, own_nil _ _, Chr.own_nil _ _, Dir.own_nil _ _, ?_⟩, Lr.took_done HH.out HX8.out, ?_⟩, HS.out.below.grown hg (Nat.le_trans (Nat.le_of_lt HQM.out) HS.out.lt.2.2.2) (fun k hk => by rw [← Option.some.inj hk]; exact Nat.le_refl _)⟩
        · exact ⟨by dsimp only; omega, Nat.lt_of_lt_of_le HB2.out (by decide), Nat.lt_of_lt_of_le HB4.out (by decide), Nat.lt_of_lt_of_le HB8.out (by decide), (show 0 < 4294967296 by decide), (show 0 < 65536 by decide), (by simp), (by simp), (by simp), (show 0 < 18446744073709551616 by decide), (show 0 < 18446744073709551616 by decide), (show 0 < 18446744073709551616 by decide), (by simp), (by simp)⟩
        · exact ⟨(by simp), (by simp), (by simp), (by simp), (by simp)⟩
  have k4 : ((x6 : Int) == 4) = false := by rw [beq_eq_false_iff_ne]; omega
  by_cases h5 : x6 = 5
  · as_aux_lemma =>
      subst h5
      rw [show ((5 : Nat) : Int) = 5 from rfl] at HS
      obtain ⟨y0, -, -, -, -, -, -, -, -, -, -, -, -, -, -⟩ := rec_cell HS.out.yrow
      go_upto_region 26 with (fail)
      clear y0
      have hc := HS.out.uv
      go_wp2_with fail
      refine hc.mono ?_
      rintro en v8 ⟨x8, m8, f8, hx, rfl, hS, hg⟩
      have HX8 := Lib.hid hx
      replace HS := Lib.hid hS
      clear hc hx hS hg
      go_wp2_with fail
      go_loopw [7] (fun i wr => ∃ k : Nat, k ≤ 17 ∧ k ≤ x8 ∧ i = .int .u64 (k : Int) ∧ ∃ C8 l' e' pp8 cc8, Lr.rdChs k m8 f8 = (C8, l', e') ∧ (∀ c ∈ C8, c.1 < 256 ^ 8 ∧ c.2.1 < 256 ^ 8 ∧ c.2.2 < 256 ^ 8) ∧ Chr.Own M wr (.slice pp8 C8.length cc8) C8 ∧ Fs Q r y M w #[.int .i64 5, .int .u64 (x2 : Int), .int .u32 (x4 : Int), .int .u64 0, .int .u32 0, .int .u16 0, .slice none 0 0, .slice none 0 0, .slice none 0 0, .int .u64 0, .int .u64 0, .bool false, .int .u64 0, .slice pp8 C8.length cc8, .slice none 0 0] l' e' wr) (fun i _ => 17 - (intOf i).toNat)
      case atStart => exact ⟨0, by decide, Nat.zero_le _, rfl, [], m8, f8, none, 0, rfl, by simp, Chr.own_nil _ _, HS.out⟩
      case round =>
        obtain ⟨k8, hk, hkn, rfl, C8, l8', e8', pp8, cc8, hrd, hCb, hO, hS⟩ := hrel
        have hCl : C8.length = k8 := by have := Lr.rdChs_length k8 m8 f8; rw [hrd] at this; exact this
        have HRD8 := Lib.hid hrd
        have HCB8 := Lib.hid hCb
        have HCL8 := Lib.hid hCl
        have HO8 := Lib.hid hO
        replace HS := Lib.hid hS
        clear hrd hCb hCl hO hS
        by_cases hgo : k8 < x8 ∧ k8 ≤ 16
        · as_aux_lemma =>
            have h1 : (k8 : Int) < (x8 : Int) := by omega
            have h2 : (k8 : Int) ≤ 16 := by omega
            have HGO := Lib.hid hgo
            clear hgo hkn hk
            go_upto_region 31 with (fail)
            clear h1 h2
            obtain ⟨g, hgz⟩ : ∃ g, g = wr.heap.size := ⟨_, rfl⟩
            have HNE_HO8 := Lib.hid (by rw [hgz]; exact not_here HO8.out.2 : (Value.slice pp8 C8.length cc8).ownBlock ≠ some g)
            have hrow : (wr.alloc (.cells #[.int .u64 0, .int .u64 0, .int .u64 0] 50)).heap[wr.heap.size]? = some (.cells #[.int .u64 0, .int .u64 0, .int .u64 0] 50 (0, 0)) := heap_alloc_last _ _
            have hgM : M ≤ g := by rw [hgz]; exact HS.out.lt.2.2.2
            have hb := below_new1 wr (.cells #[.int .u64 0, .int .u64 0, .int .u64 0] 50)
            have hS := HS.out.beyond (hb.mono HS.out.lt.2.2.2)
            replace HO8 := Lib.hid (HO8.out.below hb)
            rw [← hgz] at hrow ⊢
            generalize wr.alloc (.cells #[.int .u64 0, .int .u64 0, .int .u64 0] 50) = z0 at hrow hS HO8 ⊢
            replace HS := Lib.hid hS
            have HROW := Lib.hid hrow
            have HGM := Lib.hid hgM
            clear hS hrow hgM hb hgz
            have hc := HS.out.num 8 8 rfl (by decide) (by decide)
            go_wp2_with fail
            refine hc.mono ?_
            rintro en v9 ⟨x9, m9, f9, hx, hs, rfl, hS, hg⟩
            have HX9 := Lib.hid hx
            have HB9 := Lib.hid hs
            replace HO8 := Lib.hid (HO8.out.grown hg (Chr.own_neB HO8.out HRM.out))
            have hrow := (hg.block _ (lt_of_block HROW.out) (fun e => by have := Option.some.inj e; have := HGM.out; have := HRM.out; omega)).trans HROW.out
            replace HROW := Lib.hid hrow
            replace HS := Lib.hid hS
            clear hc hx hs hS hg hrow
            obtain ⟨cu, hcu⟩ : ∃ u, v9.cell? ⟨g, 0, none⟩ = some u := ⟨_, cell_of_row _ g 0 _ _ (0, 0) HROW.out⟩
            have hfr : v9.frozen? ⟨g, 0, none⟩ = false := rec_free HROW.out 0
            go_upto_region 32 with (fail)
            clear hcu hfr
            have hrow := rec_set (i := 0) (.int .u64 (x9 : Int)) HROW.out
            simp only [List.setIfInBounds_toArray, List.set_cons_zero] at hrow
            have hg := grownBy_setCell v9 g 0 (.int .u64 (x9 : Int))
            have hS := HS.out.other hg (fun k hk => by rw [← Option.some.inj hk]; exact HGM.out)
            generalize v9.setCell ⟨g, 0, none⟩ (.int .u64 (x9 : Int)) = z1 at hS hg hrow ⊢
            replace HO8 := Lib.hid (HO8.out.grown hg (Or.inr HNE_HO8.out))
            replace HROW := Lib.hid hrow
            replace HS := Lib.hid hS
            clear hS hg hrow
            have hc := HS.out.num 8 8 rfl (by decide) (by decide)
            go_wp2_with fail
            refine hc.mono ?_
            rintro en v10 ⟨x10, m10, f10, hx, hs, rfl, hS, hg⟩
            have HX10 := Lib.hid hx
            have HB10 := Lib.hid hs
            replace HO8 := Lib.hid (HO8.out.grown hg (Chr.own_neB HO8.out HRM.out))
            have hrow := (hg.block _ (lt_of_block HROW.out) (fun e => by have := Option.some.inj e; have := HGM.out; have := HRM.out; omega)).trans HROW.out
            replace HROW := Lib.hid hrow
            replace HS := Lib.hid hS
            clear hc hx hs hS hg hrow
            obtain ⟨cu, hcu⟩ : ∃ u, v10.cell? ⟨g, 1, none⟩ = some u := ⟨_, cell_of_row _ g 1 _ _ (0, 0) HROW.out⟩
            have hfr : v10.frozen? ⟨g, 1, none⟩ = false := rec_free HROW.out 1
            go_upto_region 33 with (fail)
            clear hcu hfr
            have hrow := rec_set (i := 1) (.int .u64 (x10 : Int)) HROW.out
            simp only [List.setIfInBounds_toArray, List.set_cons_zero, List.set_cons_succ] at hrow
            have hg := grownBy_setCell v10 g 1 (.int .u64 (x10 : Int))
            have hS := HS.out.other hg (fun k hk => by rw [← Option.some.inj hk]; exact HGM.out)
            generalize v10.setCell ⟨g, 1, none⟩ (.int .u64 (x10 : Int)) = z2 at hS hg hrow ⊢
            replace HO8 := Lib.hid (HO8.out.grown hg (Or.inr HNE_HO8.out))
            replace HROW := Lib.hid hrow
            replace HS := Lib.hid hS
            clear hS hg hrow
            have hc := HS.out.num 8 8 rfl (by decide) (by decide)
            go_wp2_with fail
            refine hc.mono ?_
            rintro en v11 ⟨x11, m11, f11, hx, hs, rfl, hS, hg⟩
            have HX11 := Lib.hid hx
            have HB11 := Lib.hid hs
            replace HO8 := Lib.hid (HO8.out.grown hg (Chr.own_neB HO8.out HRM.out))
            have hrow := (hg.block _ (lt_of_block HROW.out) (fun e => by have := Option.some.inj e; have := HGM.out; have := HRM.out; omega)).trans HROW.out
            replace HROW := Lib.hid hrow
            replace HS := Lib.hid hS
            clear hc hx hs hS hg hrow
            obtain ⟨cu, hcu⟩ : ∃ u, v11.cell? ⟨g, 2, none⟩ = some u := ⟨_, cell_of_row _ g 2 _ _ (0, 0) HROW.out⟩
            have hfr : v11.frozen? ⟨g, 2, none⟩ = false := rec_free HROW.out 2
            go_upto_region 34 with (fail)
            clear hcu hfr
            have hrow := rec_set (i := 2) (.int .u64 (x11 : Int)) HROW.out
            simp only [List.setIfInBounds_toArray, List.set_cons_zero, List.set_cons_succ] at hrow
            have hg := grownBy_setCell v11 g 2 (.int .u64 (x11 : Int))
            have hS := HS.out.other hg (fun k hk => by rw [← Option.some.inj hk]; exact HGM.out)
            generalize v11.setCell ⟨g, 2, none⟩ (.int .u64 (x11 : Int)) = z3 at hS hg hrow ⊢
            replace HO8 := Lib.hid (HO8.out.grown hg (Or.inr HNE_HO8.out))
            replace HROW := Lib.hid hrow
            replace HS := Lib.hid hS
            clear hS hg hrow
            obtain ⟨-, -, -, -, -, -, -, -, -, -, -, -, -, yv, -⟩ := rec_cell HS.out.yrow
            have gc0 : z3.cell? ⟨g, 0, none⟩ = some (.int .u64 (x9 : Int)) := by simp [World.cell?, HROW.out]
            have gc1 : z3.cell? ⟨g, 1, none⟩ = some (.int .u64 (x10 : Int)) := by simp [World.cell?, HROW.out]
            have gc2 : z3.cell? ⟨g, 2, none⟩ = some (.int .u64 (x11 : Int)) := by simp [World.cell?, HROW.out]
            iterate 13 go_step
            clear yv gc0 gc1 gc2
            have hb := below_new1 z3 (.cells #[.int .u64 (x9 : Int), .int .u64 (x10 : Int), .int .u64 (x11 : Int)] 50)
            have hbt := Chr.bts_one z3 (x9, x10, x11) 50
            have hS := HS.out.beyond (hb.mono HS.out.lt.2.2.2)
            replace HO8 := Lib.hid (HO8.out.below hb)
            refine Chr.wpList_append_Own rfl (.tmp 79) (.tmp 81) rfl M _ C8 rfl HO8.out _ [(x9, x10, x11)] rfl hbt (by have := HCL8.out; have := HGO.out; simp; omega) hS.lt.2.2.2 ?_
            intro v9 w9 hO9 hb9 hg9
            obtain ⟨p9, c9, rfl⟩ := hO9.bts.slice
            replace hS := hS.beyond hb9
            replace HS := Lib.hid hS
            replace HO8 := Lib.hid hO9
            clear hS hO9 hb9 hbt hb hg9
            obtain ⟨cu, hcu⟩ := HS.out.cell 13 (show 13 < 15 by decide)
            have hfr := HS.out.free 13
            generalize hCx : C8 ++ [(x9, x10, x11)] = Cx at *
            have HCX := Lib.hid hCx
            clear hCx
            go_upto_region 29 with (fail)
            clear hcu hfr
            have hS := HS.out.set 13 (.slice p9 Cx.length c9)
            simp only [List.setIfInBounds_toArray, List.set_cons_zero, List.set_cons_succ] at hS
            have hg := grownBy_setCell w9 y 13 (.slice p9 Cx.length c9)
            generalize w9.setCell ⟨y, 13, none⟩ (.slice p9 Cx.length c9) = v12 at hS hg ⊢
            replace HO8 := Lib.hid (HO8.out.grown hg (Chr.own_neB HO8.out HYM.out))
            replace HS := Lib.hid hS
            clear hS hg
            have hw1 : IntKind.u64.wrap ((k8 : Int) + 1) = (k8 : Int) + 1 := by have := HGO.out; rw [IntKind.wrap_u64]; omega
            go_wp2_with fail
            go_roundw
            case rel =>
              refine ⟨k8 + 1, by have := HGO.out; omega, by have := HGO.out; omega, by go_num, Cx, m11, f11, p9, c9, ?_, ?_, HO8.out, HS.out⟩
              · rw [← HCX.out]; exact Lr.rdChs_succ HRD8.out HX9.out HX10.out HX11.out
              · intro c hc
                rw [← HCX.out] at hc
                rcases List.mem_append.1 hc with hc | hc
                · exact HCB8.out c hc
                · rw [List.mem_singleton.1 hc]
                  exact ⟨HB9.out, HB10.out, HB11.out⟩
            case measure => have := HGO.out; simp [intOf]; omega
        · have hway : ¬ ((k8 : Int) < (x8 : Int)) ∨ ((k8 : Int) < (x8 : Int) ∧ ¬ (k8 : Int) ≤ 16) := by omega
          have HN8 : Hid (x8 ≤ 16 → k8 = x8) := fun h => by omega
          have HK8 : Hid (k8 ≤ 17) := hk
          clear hgo hk hkn
          rcases hway with h1 | ⟨h1, h2⟩
          · as_aux_lemma =>
              have hc := HS.out.uv
              go_wp2_with fail
              refine hc.mono ?_
              rintro en v19 ⟨x19, m19, f19, hx, rfl, hS, hg⟩
              have HX19 := Lib.hid hx
              replace HO8 := Lib.hid (HO8.out.grown hg (Chr.own_neB HO8.out HRM.out))
              replace HS := Lib.hid hS
              clear hc hx hS hg
              go_wp2_with fail
              go_loopw [9] (fun i wr => ∃ k : Nat, k ≤ 65 ∧ k ≤ x19 ∧ i = .int .u64 (k : Int) ∧ ∃ C19 l' e' pp19 cc19, Lr.rdDis k m19 f19 = (C19, l', e') ∧ (∀ c ∈ C19, c.1 < 256 ^ 4 ∧ c.2 < 256 ^ 8) ∧ Dir.Own M wr (.slice pp19 C19.length cc19) C19 ∧ Fs Q r y M w #[.int .i64 5, .int .u64 (x2 : Int), .int .u32 (x4 : Int), .int .u64 0, .int .u32 0, .int .u16 0, .slice none 0 0, .slice none 0 0, .slice none 0 0, .int .u64 0, .int .u64 0, .bool false, .int .u64 0, .slice pp8 C8.length cc8, .slice pp19 C19.length cc19] l' e' wr ∧ Chr.Own M wr (.slice pp8 C8.length cc8) C8) (fun i _ => 65 - (intOf i).toNat)
              case atStart => exact ⟨0, by decide, Nat.zero_le _, rfl, [], m19, f19, none, 0, rfl, by simp, Dir.own_nil _ _, HS.out, HO8.out⟩
              case round =>
                obtain ⟨k19, hk, hkn, rfl, C19, l19', e19', pp19, cc19, hrd, hCb, hO, hS, hHO8⟩ := hrel
                have hCl : C19.length = k19 := by have := Lr.rdDis_length k19 m19 f19; rw [hrd] at this; exact this
                have HRD19 := Lib.hid hrd
                have HCB19 := Lib.hid hCb
                have HCL19 := Lib.hid hCl
                have HO19 := Lib.hid hO
                replace HS := Lib.hid hS
                clear hrd hCb hCl hO hS
                replace HO8 := Lib.hid hHO8
                clear hHO8
                by_cases hgo : k19 < x19 ∧ k19 ≤ 64
                · as_aux_lemma =>
                    have h1 : (k19 : Int) < (x19 : Int) := by omega
                    have h2 : (k19 : Int) ≤ 64 := by omega
                    have HGO := Lib.hid hgo
                    clear hgo hkn hk
                    go_upto_region 40 with (fail)
                    clear h1 h2
                    obtain ⟨g, hgz⟩ : ∃ g, g = wr.heap.size := ⟨_, rfl⟩
                    have HNE_HO8 := Lib.hid (by rw [hgz]; exact not_here HO8.out.2 : (Value.slice pp8 C8.length cc8).ownBlock ≠ some g)
                    have HNE_HO19 := Lib.hid (by rw [hgz]; exact not_here HO19.out.2 : (Value.slice pp19 C19.length cc19).ownBlock ≠ some g)
                    have hrow : (wr.alloc (.cells #[.int .u32 0, .int .u64 0] 52)).heap[wr.heap.size]? = some (.cells #[.int .u32 0, .int .u64 0] 52 (0, 0)) := heap_alloc_last _ _
                    have hgM : M ≤ g := by rw [hgz]; exact HS.out.lt.2.2.2
                    have hb := below_new1 wr (.cells #[.int .u32 0, .int .u64 0] 52)
                    have hS := HS.out.beyond (hb.mono HS.out.lt.2.2.2)
                    replace HO8 := Lib.hid (HO8.out.below hb)
                    replace HO19 := Lib.hid (HO19.out.below hb)
                    rw [← hgz] at hrow ⊢
                    generalize wr.alloc (.cells #[.int .u32 0, .int .u64 0] 52) = z0 at hrow hS HO8 HO19 ⊢
                    replace HS := Lib.hid hS
                    have HROW := Lib.hid hrow
                    have HGM := Lib.hid hgM
                    clear hS hrow hgM hb hgz
                    have hc := HS.out.num 4 4 rfl (by decide) (by decide)
                    go_wp2_with fail
                    refine hc.mono ?_
                    rintro en v20 ⟨x20, m20, f20, hx, hs, rfl, hS, hg⟩
                    have HX20 := Lib.hid hx
                    have HB20 := Lib.hid hs
                    replace HO8 := Lib.hid (HO8.out.grown hg (Chr.own_neB HO8.out HRM.out))
                    replace HO19 := Lib.hid (HO19.out.grown hg (Dir.own_neB HO19.out HRM.out))
                    have hrow := (hg.block _ (lt_of_block HROW.out) (fun e => by have := Option.some.inj e; have := HGM.out; have := HRM.out; omega)).trans HROW.out
                    replace HROW := Lib.hid hrow
                    replace HS := Lib.hid hS
                    clear hc hx hs hS hg hrow
                    have hcv := u32_of HB20.out
                    obtain ⟨cu, hcu⟩ : ∃ u, v20.cell? ⟨g, 0, none⟩ = some u := ⟨_, cell_of_row _ g 0 _ _ (0, 0) HROW.out⟩
                    have hfr : v20.frozen? ⟨g, 0, none⟩ = false := rec_free HROW.out 0
                    go_upto_region 41 with (fail)
                    clear hcu hfr hcv
                    have hrow := rec_set (i := 0) (.int .u32 (x20 : Int)) HROW.out
                    simp only [List.setIfInBounds_toArray, List.set_cons_zero] at hrow
                    have hg := grownBy_setCell v20 g 0 (.int .u32 (x20 : Int))
                    have hS := HS.out.other hg (fun k hk => by rw [← Option.some.inj hk]; exact HGM.out)
                    generalize v20.setCell ⟨g, 0, none⟩ (.int .u32 (x20 : Int)) = z1 at hS hg hrow ⊢
                    replace HO8 := Lib.hid (HO8.out.grown hg (Or.inr HNE_HO8.out))
                    replace HO19 := Lib.hid (HO19.out.grown hg (Or.inr HNE_HO19.out))
                    replace HROW := Lib.hid hrow
                    replace HS := Lib.hid hS
                    clear hS hg hrow
                    have hc := HS.out.num 8 8 rfl (by decide) (by decide)
                    go_wp2_with fail
                    refine hc.mono ?_
                    rintro en v21 ⟨x21, m21, f21, hx, hs, rfl, hS, hg⟩
                    have HX21 := Lib.hid hx
                    have HB21 := Lib.hid hs
                    replace HO8 := Lib.hid (HO8.out.grown hg (Chr.own_neB HO8.out HRM.out))
                    replace HO19 := Lib.hid (HO19.out.grown hg (Dir.own_neB HO19.out HRM.out))
                    have hrow := (hg.block _ (lt_of_block HROW.out) (fun e => by have := Option.some.inj e; have := HGM.out; have := HRM.out; omega)).trans HROW.out
                    replace HROW := Lib.hid hrow
                    replace HS := Lib.hid hS
                    clear hc hx hs hS hg hrow
                    obtain ⟨cu, hcu⟩ : ∃ u, v21.cell? ⟨g, 1, none⟩ = some u := ⟨_, cell_of_row _ g 1 _ _ (0, 0) HROW.out⟩
                    have hfr : v21.frozen? ⟨g, 1, none⟩ = false := rec_free HROW.out 1
                    go_upto_region 42 with (fail)
                    clear hcu hfr
                    have hrow := rec_set (i := 1) (.int .u64 (x21 : Int)) HROW.out
                    simp only [List.setIfInBounds_toArray, List.set_cons_zero, List.set_cons_succ] at hrow
                    have hg := grownBy_setCell v21 g 1 (.int .u64 (x21 : Int))
                    have hS := HS.out.other hg (fun k hk => by rw [← Option.some.inj hk]; exact HGM.out)
                    generalize v21.setCell ⟨g, 1, none⟩ (.int .u64 (x21 : Int)) = z2 at hS hg hrow ⊢
                    replace HO8 := Lib.hid (HO8.out.grown hg (Or.inr HNE_HO8.out))
                    replace HO19 := Lib.hid (HO19.out.grown hg (Or.inr HNE_HO19.out))
                    replace HROW := Lib.hid hrow
                    replace HS := Lib.hid hS
                    clear hS hg hrow
                    obtain ⟨-, -, -, -, -, -, -, -, -, -, -, -, -, -, yv⟩ := rec_cell HS.out.yrow
                    have gc0 : z2.cell? ⟨g, 0, none⟩ = some (.int .u32 (x20 : Int)) := by simp [World.cell?, HROW.out]
                    have gc1 : z2.cell? ⟨g, 1, none⟩ = some (.int .u64 (x21 : Int)) := by simp [World.cell?, HROW.out]
                    iterate 13 go_step
                    clear yv gc0 gc1
                    have hb := below_new1 z2 (.cells #[.int .u32 (x20 : Int), .int .u64 (x21 : Int)] 52)
                    have hbt := Dir.bts_one z2 (x20, x21) 52
                    have hS := HS.out.beyond (hb.mono HS.out.lt.2.2.2)
                    replace HO8 := Lib.hid (HO8.out.below hb)
                    replace HO19 := Lib.hid (HO19.out.below hb)
                    refine Dir.wpList_append_Own rfl (.tmp 100) (.tmp 102) rfl M _ C19 rfl HO19.out _ [(x20, x21)] rfl hbt (by have := HCL19.out; have := HGO.out; simp; omega) hS.lt.2.2.2 ?_
                    intro v9 w9 hO9 hb9 hg9
                    obtain ⟨p9, c9, rfl⟩ := hO9.bts.slice
                    replace hS := hS.beyond hb9
                    replace HO8 := Lib.hid (HO8.out.grown hg9 (chr_dir_apart HO8.out HO19.out))
                    replace HS := Lib.hid hS
                    replace HO19 := Lib.hid hO9
                    clear hS hO9 hb9 hbt hb hg9
                    obtain ⟨cu, hcu⟩ := HS.out.cell 14 (show 14 < 15 by decide)
                    have hfr := HS.out.free 14
                    generalize hCx : C19 ++ [(x20, x21)] = Cx at *
                    have HCX := Lib.hid hCx
                    clear hCx
                    go_upto_region 38 with (fail)
                    clear hcu hfr
                    have hS := HS.out.set 14 (.slice p9 Cx.length c9)
                    simp only [List.setIfInBounds_toArray, List.set_cons_zero, List.set_cons_succ] at hS
                    have hg := grownBy_setCell w9 y 14 (.slice p9 Cx.length c9)
                    generalize w9.setCell ⟨y, 14, none⟩ (.slice p9 Cx.length c9) = v22 at hS hg ⊢
                    replace HO8 := Lib.hid (HO8.out.grown hg (Chr.own_neB HO8.out HYM.out))
                    replace HO19 := Lib.hid (HO19.out.grown hg (Dir.own_neB HO19.out HYM.out))
                    replace HS := Lib.hid hS
                    clear hS hg
                    have hw1 : IntKind.u64.wrap ((k19 : Int) + 1) = (k19 : Int) + 1 := by have := HGO.out; rw [IntKind.wrap_u64]; omega
                    go_wp2_with fail
                    go_roundw
                    case rel =>
                      refine ⟨k19 + 1, by have := HGO.out; omega, by have := HGO.out; omega, by go_num, Cx, m21, f21, p9, c9, ?_, ?_, HO19.out, HS.out, HO8.out⟩
                      · rw [← HCX.out]; exact Lr.rdDis_succ HRD19.out HX20.out HX21.out
                      · intro c hc
                        rw [← HCX.out] at hc
                        rcases List.mem_append.1 hc with hc | hc
                        · exact HCB19.out c hc
                        · rw [List.mem_singleton.1 hc]
                          exact ⟨HB20.out, HB21.out⟩
                    case measure => have := HGO.out; simp [intOf]; omega
                · have hway : ¬ ((k19 : Int) < (x19 : Int)) ∨ ((k19 : Int) < (x19 : Int) ∧ ¬ (k19 : Int) ≤ 64) := by omega
                  have HN19 : Hid (x19 ≤ 64 → k19 = x19) := fun h => by omega
                  have HK19 : Hid (k19 ≤ 65) := hk
                  clear hgo hk hkn
                  rcases hway with h1 | ⟨h1, h2⟩
                  · as_aux_lemma =>
                      go_upto_region 43 with (fail)
                      clear h1
                      refine Ord.walk (FfF #[.int .i64 5, .int .u64 (x2 : Int), .int .u32 (x4 : Int), .int .u64 0, .int .u32 0, .int .u16 0, .slice none 0 0, .slice none 0 0, .slice none 0 0, .int .u64 0, .int .u64 0, .bool false, .int .u64 0, .slice pp8 C8.length cc8, .slice pp19 C19.length cc19] r e19') (FfR Q wr #[.int .i64 5, .int .u64 (x2 : Int), .int .u32 (x4 : Int), .int .u64 0, .int .u32 0, .int .u16 0, .slice none 0 0, .slice none 0 0, .slice none 0 0, .int .u64 0, .int .u64 0, .bool false, .int .u64 0, .slice pp8 C8.length cc8, .slice pp19 C19.length cc19]) (fun _ _ => True)
                        (by kernel_rfl) (by kernel_rfl) ?frw5 ?hfrw5 (fun _ _ _ _ _ h => h) (fun xs => FfR.first HS.out.qrow) ?hew5 ?hendw5
                      case hfrw5 =>
                        intro xs
                        simp only [Ord.fill, Act.put, List.setIfInBounds_toArray, List.set_cons_zero, List.set_cons_succ]
                        rfl
                      case hew5 =>
                        refine Ord.each_cons (fun D xs w2 hD hC hP hR hA K hK => ?_) ?_
                        · -- 0
                          clear hA
                          as_aux_lemma =>
                            refine wp_load_rec (.tmp 5) rfl y rfl _ (hR.row HS.out.yrow HYQ.out) rfl ?_
                            exact hK _ _ ⟨_, rfl, trivial, hR.skip 0 (by decide) _, rfl⟩
                        refine Ord.each_cons (fun D xs w2 hD hC hP hR hA K hK => ?_) ?_
                        · -- 1
                          clear hA
                          as_aux_lemma =>
                            go_simp
                            exact hK _ _ ⟨_, rfl, trivial, hR.skip 1 (by decide) _, rfl⟩
                        refine Ord.each_cons (fun D xs w2 hD hC hP hR hA K hK => ?_) ?_
                        · -- 2
                          have q1 := Ord.ahead_get _ hA 1 (by decide)
                          simp only [FfF] at q1
                          simp only [q1] at hK
                          clear hA
                          as_aux_lemma =>
                            have cc := hR.cell HS.out.err HRQ.out
                            go_simp
                            exact hK _ _ ⟨_, rfl, trivial, hR.skip 2 (by decide) _, rfl⟩
                        refine Ord.each_cons (fun D xs w2 hD hC hP hR hA K hK => ?_) ?_
                        · -- 3
                          have q2 := Ord.ahead_get _ hA 2 (by decide)
                          simp only [FfF] at q2
                          simp only [q2] at hK
                          clear hA
                          as_aux_lemma =>
                            have he : ((e19' : Int) == 0) = decide (e19' = 0) := eqI (b := 0)
                            go_simp
                            exact hK _ _ ⟨_, rfl, trivial, hR.skip 3 (by decide) _, rfl⟩
                        refine Ord.each_cons (fun D xs w2 hD hC hP hR hA K hK => ?_) ?_
                        · -- 4
                          have q0 := Ord.ahead_get _ hA 0 (by decide)
                          simp only [FfF] at q0
                          clear hA
                          as_aux_lemma =>
                            have hrow := hR.2
                            rw [hD] at hrow
                            refine wp_store_rec (.tmp 2) (.tmp 105) rfl Q rfl _ q0 _ hrow rfl rfl (by simp [Value.oneCell']) ?_
                            intro w' hr hg
                            exact hK _ _ ⟨undef, rfl, trivial, hR.store hr hg _, trivial⟩
                        refine Ord.each_cons (fun D xs w2 hD hC hP hR hA K hK => ?_) ?_
                        · -- 5
                          have q3 := Ord.ahead_get _ hA 3 (by decide)
                          simp only [FfF] at q3
                          simp only [q3] at hK
                          clear hA
                          as_aux_lemma =>
                            go_simp
                            exact hK _ _ ⟨_, rfl, trivial, hR.skip 5 (by decide) _, rfl⟩
                        exact Ord.each_nil
                      case hendw5 =>
                        intro D xs w9 hR hall
                        have r5 := (hall 5 (by decide)).2
                        have d4 := (hall 4 (by decide)).1
                        simp only [FfF] at r5
                        have hrow := hR.2
                        rw [d4] at hrow
                        have HROW := Lib.hid (show w9.heap[Q]? = some (.cells #[.int .i64 5, .int .u64 (x2 : Int), .int .u32 (x4 : Int), .int .u64 0, .int .u32 0, .int .u16 0, .slice none 0 0, .slice none 0 0, .slice none 0 0, .int .u64 0, .int .u64 0, .bool false, .int .u64 0, .slice pp8 C8.length cc8, .slice pp19 C19.length cc19] 30 (0, 0)) from hrow)
                        have HGR := Lib.hid hR.1
                        clear hR hall d4 hrow
                        simp only [r5]
                        clear r5
                        generalize xs 0 = z0
                        generalize xs 1 = z1
                        generalize xs 2 = z2
                        generalize xs 3 = z3
                        go_wp2_with fail
                        obtain ⟨u0, u1, u2, u3, u4, u5, u6, u7, u8, u9, u10, u11, u12, u13, u14⟩ := rec_cell HROW.out
                        have hg := HGR.out
                        refine bodyPost_ret (v := .tuple #[.agg #[.int .i64 5, .int .u64 (x2 : Int), .int .u32 (x4 : Int), .int .u64 0, .int .u32 0, .int .u16 0, .slice none 0 0, .slice none 0 0, .slice none 0 0, .int .u64 0, .int .u64 0, .bool false, .int .u64 0, .slice pp8 C8.length cc8, .slice pp19 C19.length cc19], .bool (decide (e19' = 0))]) (by simp [results, Try.results35, go_sem, u0, u1, u2, u3, u4, u5, u6, u7, u8, u9, u10, u11, u12, u13, u14]) rfl ?_
                        refine ⟨⟨⟨5, x2, x4, 0, 0, 0, [], [], [], 0, 0, false, 0, C8, C19⟩, (.slice none 0 0), (.slice none 0 0), (.slice none 0 0), (.slice pp8 C8.length cc8), (.slice pp19 C19.length cc19), _, rfl, ⟨own_nil _ _, own_nil _ _, own_nil _ _, ((HO8.out.grown hg (Chr.own_neB HO8.out HQM.out)).from HWM.out), ((HO19.out.grown hg (Dir.own_neB HO19.out HQM.out)).from HWM.out), ?_⟩, Lr.took_point HH.out HX8.out HRD8.out HN8.out HX19.out HRD19.out HN19.out, ?_⟩, HS.out.below.grown hg (Nat.le_trans (Nat.le_of_lt HQM.out) HS.out.lt.2.2.2) (fun k hk => by rw [← Option.some.inj hk]; exact Nat.le_refl _)⟩
                        · exact ⟨by dsimp only; omega, Nat.lt_of_lt_of_le HB2.out (by decide), Nat.lt_of_lt_of_le HB4.out (by decide), (show 0 < 18446744073709551616 by decide), (show 0 < 4294967296 by decide), (show 0 < 65536 by decide), (by simp), (by simp), (by simp), (show 0 < 18446744073709551616 by decide), (show 0 < 18446744073709551616 by decide), (show 0 < 18446744073709551616 by decide), (fun c hc => by have h := HCB8.out c hc; exact ⟨Nat.lt_of_lt_of_le h.1 (by decide), Nat.lt_of_lt_of_le h.2.1 (by decide), Nat.lt_of_lt_of_le h.2.2 (by decide)⟩), (fun c hc => by have h := HCB19.out c hc; exact ⟨Nat.lt_of_lt_of_le h.1 (by decide), Nat.lt_of_lt_of_le h.2 (by decide)⟩)⟩
                        · exact ⟨(by simp), (by simp), (by simp), (by have h1 := HCL8.out; have h2 := HK8.out; dsimp only; omega), (by have h1 := HCL19.out; have h2 := HK19.out; dsimp only; omega)⟩
                  · as_aux_lemma =>
                      go_upto_region 43 with (fail)
                      clear h1
                      refine Ord.walk (FfF #[.int .i64 5, .int .u64 (x2 : Int), .int .u32 (x4 : Int), .int .u64 0, .int .u32 0, .int .u16 0, .slice none 0 0, .slice none 0 0, .slice none 0 0, .int .u64 0, .int .u64 0, .bool false, .int .u64 0, .slice pp8 C8.length cc8, .slice pp19 C19.length cc19] r e19') (FfR Q wr #[.int .i64 5, .int .u64 (x2 : Int), .int .u32 (x4 : Int), .int .u64 0, .int .u32 0, .int .u16 0, .slice none 0 0, .slice none 0 0, .slice none 0 0, .int .u64 0, .int .u64 0, .bool false, .int .u64 0, .slice pp8 C8.length cc8, .slice pp19 C19.length cc19]) (fun _ _ => True)
                        (by kernel_rfl) (by kernel_rfl) ?frw6 ?hfrw6 (fun _ _ _ _ _ h => h) (fun xs => FfR.first HS.out.qrow) ?hew6 ?hendw6
                      case hfrw6 =>
                        intro xs
                        simp only [Ord.fill, Act.put, List.setIfInBounds_toArray, List.set_cons_zero, List.set_cons_succ]
                        rfl
                      case hew6 =>
                        refine Ord.each_cons (fun D xs w2 hD hC hP hR hA K hK => ?_) ?_
                        · -- 0
                          clear hA
                          as_aux_lemma =>
                            refine wp_load_rec (.tmp 5) rfl y rfl _ (hR.row HS.out.yrow HYQ.out) rfl ?_
                            exact hK _ _ ⟨_, rfl, trivial, hR.skip 0 (by decide) _, rfl⟩
                        refine Ord.each_cons (fun D xs w2 hD hC hP hR hA K hK => ?_) ?_
                        · -- 1
                          clear hA
                          as_aux_lemma =>
                            go_simp
                            exact hK _ _ ⟨_, rfl, trivial, hR.skip 1 (by decide) _, rfl⟩
                        refine Ord.each_cons (fun D xs w2 hD hC hP hR hA K hK => ?_) ?_
                        · -- 2
                          have q1 := Ord.ahead_get _ hA 1 (by decide)
                          simp only [FfF] at q1
                          simp only [q1] at hK
                          clear hA
                          as_aux_lemma =>
                            have cc := hR.cell HS.out.err HRQ.out
                            go_simp
                            exact hK _ _ ⟨_, rfl, trivial, hR.skip 2 (by decide) _, rfl⟩
                        refine Ord.each_cons (fun D xs w2 hD hC hP hR hA K hK => ?_) ?_
                        · -- 3
                          have q2 := Ord.ahead_get _ hA 2 (by decide)
                          simp only [FfF] at q2
                          simp only [q2] at hK
                          clear hA
                          as_aux_lemma =>
                            have he : ((e19' : Int) == 0) = decide (e19' = 0) := eqI (b := 0)
                            go_simp
                            exact hK _ _ ⟨_, rfl, trivial, hR.skip 3 (by decide) _, rfl⟩
                        refine Ord.each_cons (fun D xs w2 hD hC hP hR hA K hK => ?_) ?_
                        · -- 4
                          have q0 := Ord.ahead_get _ hA 0 (by decide)
                          simp only [FfF] at q0
                          clear hA
                          as_aux_lemma =>
                            have hrow := hR.2
                            rw [hD] at hrow
                            refine wp_store_rec (.tmp 2) (.tmp 105) rfl Q rfl _ q0 _ hrow rfl rfl (by simp [Value.oneCell']) ?_
                            intro w' hr hg
                            exact hK _ _ ⟨undef, rfl, trivial, hR.store hr hg _, trivial⟩
                        refine Ord.each_cons (fun D xs w2 hD hC hP hR hA K hK => ?_) ?_
                        · -- 5
                          have q3 := Ord.ahead_get _ hA 3 (by decide)
                          simp only [FfF] at q3
                          simp only [q3] at hK
                          clear hA
                          as_aux_lemma =>
                            go_simp
                            exact hK _ _ ⟨_, rfl, trivial, hR.skip 5 (by decide) _, rfl⟩
                        exact Ord.each_nil
                      case hendw6 =>
                        intro D xs w9 hR hall
                        have r5 := (hall 5 (by decide)).2
                        have d4 := (hall 4 (by decide)).1
                        simp only [FfF] at r5
                        have hrow := hR.2
                        rw [d4] at hrow
                        have HROW := Lib.hid (show w9.heap[Q]? = some (.cells #[.int .i64 5, .int .u64 (x2 : Int), .int .u32 (x4 : Int), .int .u64 0, .int .u32 0, .int .u16 0, .slice none 0 0, .slice none 0 0, .slice none 0 0, .int .u64 0, .int .u64 0, .bool false, .int .u64 0, .slice pp8 C8.length cc8, .slice pp19 C19.length cc19] 30 (0, 0)) from hrow)
                        have HGR := Lib.hid hR.1
                        clear hR hall d4 hrow
                        simp only [r5]
                        clear r5
                        generalize xs 0 = z0
                        generalize xs 1 = z1
                        generalize xs 2 = z2
                        generalize xs 3 = z3
                        go_wp2_with fail
                        obtain ⟨u0, u1, u2, u3, u4, u5, u6, u7, u8, u9, u10, u11, u12, u13, u14⟩ := rec_cell HROW.out
                        have hg := HGR.out
                        refine bodyPost_ret (v := .tuple #[.agg #[.int .i64 5, .int .u64 (x2 : Int), .int .u32 (x4 : Int), .int .u64 0, .int .u32 0, .int .u16 0, .slice none 0 0, .slice none 0 0, .slice none 0 0, .int .u64 0, .int .u64 0, .bool false, .int .u64 0, .slice pp8 C8.length cc8, .slice pp19 C19.length cc19], .bool (decide (e19' = 0))]) (by simp [results, Try.results35, go_sem, u0, u1, u2, u3, u4, u5, u6, u7, u8, u9, u10, u11, u12, u13, u14]) rfl ?_
                        refine ⟨⟨⟨5, x2, x4, 0, 0, 0, [], [], [], 0, 0, false, 0, C8, C19⟩, (.slice none 0 0), (.slice none 0 0), (.slice none 0 0), (.slice pp8 C8.length cc8), (.slice pp19 C19.length cc19), _, rfl, ⟨own_nil _ _, own_nil _ _, own_nil _ _, ((HO8.out.grown hg (Chr.own_neB HO8.out HQM.out)).from HWM.out), ((HO19.out.grown hg (Dir.own_neB HO19.out HQM.out)).from HWM.out), ?_⟩, Lr.took_point HH.out HX8.out HRD8.out HN8.out HX19.out HRD19.out HN19.out, ?_⟩, HS.out.below.grown hg (Nat.le_trans (Nat.le_of_lt HQM.out) HS.out.lt.2.2.2) (fun k hk => by rw [← Option.some.inj hk]; exact Nat.le_refl _)⟩
                        · exact ⟨by dsimp only; omega, Nat.lt_of_lt_of_le HB2.out (by decide), Nat.lt_of_lt_of_le HB4.out (by decide), (show 0 < 18446744073709551616 by decide), (show 0 < 4294967296 by decide), (show 0 < 65536 by decide), (by simp), (by simp), (by simp), (show 0 < 18446744073709551616 by decide), (show 0 < 18446744073709551616 by decide), (show 0 < 18446744073709551616 by decide), (fun c hc => by have h := HCB8.out c hc; exact ⟨Nat.lt_of_lt_of_le h.1 (by decide), Nat.lt_of_lt_of_le h.2.1 (by decide), Nat.lt_of_lt_of_le h.2.2 (by decide)⟩), (fun c hc => by have h := HCB19.out c hc; exact ⟨Nat.lt_of_lt_of_le h.1 (by decide), Nat.lt_of_lt_of_le h.2 (by decide)⟩)⟩
                        · exact ⟨(by simp), (by simp), (by simp), (by have h1 := HCL8.out; have h2 := HK8.out; dsimp only; omega), (by have h1 := HCL19.out; have h2 := HK19.out; dsimp only; omega)⟩
          · as_aux_lemma =>
              have hc := HS.out.uv
              go_wp2_with fail
              refine hc.mono ?_
              rintro en v19 ⟨x19, m19, f19, hx, rfl, hS, hg⟩
              have HX19 := Lib.hid hx
              replace HO8 := Lib.hid (HO8.out.grown hg (Chr.own_neB HO8.out HRM.out))
              replace HS := Lib.hid hS
              clear hc hx hS hg
              go_wp2_with fail
              go_loopw [9] (fun i wr => ∃ k : Nat, k ≤ 65 ∧ k ≤ x19 ∧ i = .int .u64 (k : Int) ∧ ∃ C19 l' e' pp19 cc19, Lr.rdDis k m19 f19 = (C19, l', e') ∧ (∀ c ∈ C19, c.1 < 256 ^ 4 ∧ c.2 < 256 ^ 8) ∧ Dir.Own M wr (.slice pp19 C19.length cc19) C19 ∧ Fs Q r y M w #[.int .i64 5, .int .u64 (x2 : Int), .int .u32 (x4 : Int), .int .u64 0, .int .u32 0, .int .u16 0, .slice none 0 0, .slice none 0 0, .slice none 0 0, .int .u64 0, .int .u64 0, .bool false, .int .u64 0, .slice pp8 C8.length cc8, .slice pp19 C19.length cc19] l' e' wr ∧ Chr.Own M wr (.slice pp8 C8.length cc8) C8) (fun i _ => 65 - (intOf i).toNat)
              case atStart => exact ⟨0, by decide, Nat.zero_le _, rfl, [], m19, f19, none, 0, rfl, by simp, Dir.own_nil _ _, HS.out, HO8.out⟩
              case round =>
                obtain ⟨k19, hk, hkn, rfl, C19, l19', e19', pp19, cc19, hrd, hCb, hO, hS, hHO8⟩ := hrel
                have hCl : C19.length = k19 := by have := Lr.rdDis_length k19 m19 f19; rw [hrd] at this; exact this
                have HRD19 := Lib.hid hrd
                have HCB19 := Lib.hid hCb
                have HCL19 := Lib.hid hCl
                have HO19 := Lib.hid hO
                replace HS := Lib.hid hS
                clear hrd hCb hCl hO hS
                replace HO8 := Lib.hid hHO8
                clear hHO8
                by_cases hgo : k19 < x19 ∧ k19 ≤ 64
                · as_aux_lemma =>
                    have h1 : (k19 : Int) < (x19 : Int) := by omega
                    have h2 : (k19 : Int) ≤ 64 := by omega
                    have HGO := Lib.hid hgo
                    clear hgo hkn hk
                    go_upto_region 40 with (fail)
                    clear h1 h2
                    obtain ⟨g, hgz⟩ : ∃ g, g = wr.heap.size := ⟨_, rfl⟩
                    have HNE_HO8 := Lib.hid (by rw [hgz]; exact not_here HO8.out.2 : (Value.slice pp8 C8.length cc8).ownBlock ≠ some g)
                    have HNE_HO19 := Lib.hid (by rw [hgz]; exact not_here HO19.out.2 : (Value.slice pp19 C19.length cc19).ownBlock ≠ some g)
                    have hrow : (wr.alloc (.cells #[.int .u32 0, .int .u64 0] 52)).heap[wr.heap.size]? = some (.cells #[.int .u32 0, .int .u64 0] 52 (0, 0)) := heap_alloc_last _ _
                    have hgM : M ≤ g := by rw [hgz]; exact HS.out.lt.2.2.2
                    have hb := below_new1 wr (.cells #[.int .u32 0, .int .u64 0] 52)
                    have hS := HS.out.beyond (hb.mono HS.out.lt.2.2.2)
                    replace HO8 := Lib.hid (HO8.out.below hb)
                    replace HO19 := Lib.hid (HO19.out.below hb)
                    rw [← hgz] at hrow ⊢
                    generalize wr.alloc (.cells #[.int .u32 0, .int .u64 0] 52) = z0 at hrow hS HO8 HO19 ⊢
                    replace HS := Lib.hid hS
                    have HROW := Lib.hid hrow
                    have HGM := Lib.hid hgM
                    clear hS hrow hgM hb hgz
                    have hc := HS.out.num 4 4 rfl (by decide) (by decide)
                    go_wp2_with fail
                    refine hc.mono ?_
                    rintro en v20 ⟨x20, m20, f20, hx, hs, rfl, hS, hg⟩
                    have HX20 := Lib.hid hx
                    have HB20 := Lib.hid hs
                    replace HO8 := Lib.hid (HO8.out.grown hg (Chr.own_neB HO8.out HRM.out))
                    replace HO19 := Lib.hid (HO19.out.grown hg (Dir.own_neB HO19.out HRM.out))
                    have hrow := (hg.block _ (lt_of_block HROW.out) (fun e => by have := Option.some.inj e; have := HGM.out; have := HRM.out; omega)).trans HROW.out
                    replace HROW := Lib.hid hrow
                    replace HS := Lib.hid hS
                    clear hc hx hs hS hg hrow
                    have hcv := u32_of HB20.out
                    obtain ⟨cu, hcu⟩ : ∃ u, v20.cell? ⟨g, 0, none⟩ = some u := ⟨_, cell_of_row _ g 0 _ _ (0, 0) HROW.out⟩
                    have hfr : v20.frozen? ⟨g, 0, none⟩ = false := rec_free HROW.out 0
                    go_upto_region 41 with (fail)
                    clear hcu hfr hcv
                    have hrow := rec_set (i := 0) (.int .u32 (x20 : Int)) HROW.out
                    simp only [List.setIfInBounds_toArray, List.set_cons_zero] at hrow
                    have hg := grownBy_setCell v20 g 0 (.int .u32 (x20 : Int))
                    have hS := HS.out.other hg (fun k hk => by rw [← Option.some.inj hk]; exact HGM.out)
                    generalize v20.setCell ⟨g, 0, none⟩ (.int .u32 (x20 : Int)) = z1 at hS hg hrow ⊢
                    replace HO8 := Lib.hid (HO8.out.grown hg (Or.inr HNE_HO8.out))
                    replace HO19 := Lib.hid (HO19.out.grown hg (Or.inr HNE_HO19.out))
                    replace HROW := Lib.hid hrow
                    replace HS := Lib.hid hS
                    clear hS hg hrow
                    have hc := HS.out.num 8 8 rfl (by decide) (by decide)
                    go_wp2_with fail
                    refine hc.mono ?_
                    rintro en v21 ⟨x21, m21, f21, hx, hs, rfl, hS, hg⟩
                    have HX21 := Lib.hid hx
                    have HB21 := Lib.hid hs
                    replace HO8 := Lib.hid (HO8.out.grown hg (Chr.own_neB HO8.out HRM.out))
                    replace HO19 := Lib.hid (HO19.out.grown hg (Dir.own_neB HO19.out HRM.out))
                    have hrow := (hg.block _ (lt_of_block HROW.out) (fun e => by have := Option.some.inj e; have := HGM.out; have := HRM.out; omega)).trans HROW.out
                    replace HROW := Lib.hid hrow
                    replace HS := Lib.hid hS
                    clear hc hx hs hS hg hrow
                    obtain ⟨cu, hcu⟩ : ∃ u, v21.cell? ⟨g, 1, none⟩ = some u := ⟨_, cell_of_row _ g 1 _ _ (0, 0) HROW.out⟩
                    have hfr : v21.frozen? ⟨g, 1, none⟩ = false := rec_free HROW.out 1
                    go_upto_region 42 with (fail)
                    clear hcu hfr
                    have hrow := rec_set (i := 1) (.int .u64 (x21 : Int)) HROW.out
                    simp only [List.setIfInBounds_toArray, List.set_cons_zero, List.set_cons_succ] at hrow
                    have hg := grownBy_setCell v21 g 1 (.int .u64 (x21 : Int))
                    have hS := HS.out.other hg (fun k hk => by rw [← Option.some.inj hk]; exact HGM.out)
                    generalize v21.setCell ⟨g, 1, none⟩ (.int .u64 (x21 : Int)) = z2 at hS hg hrow ⊢
                    replace HO8 := Lib.hid (HO8.out.grown hg (Or.inr HNE_HO8.out))
                    replace HO19 := Lib.hid (HO19.out.grown hg (Or.inr HNE_HO19.out))
                    replace HROW := Lib.hid hrow
                    replace HS := Lib.hid hS
                    clear hS hg hrow
                    obtain ⟨-, -, -, -, -, -, -, -, -, -, -, -, -, -, yv⟩ := rec_cell HS.out.yrow
                    have gc0 : z2.cell? ⟨g, 0, none⟩ = some (.int .u32 (x20 : Int)) := by simp [World.cell?, HROW.out]
                    have gc1 : z2.cell? ⟨g, 1, none⟩ = some (.int .u64 (x21 : Int)) := by simp [World.cell?, HROW.out]
                    iterate 13 go_step
                    clear yv gc0 gc1
                    have hb := below_new1 z2 (.cells #[.int .u32 (x20 : Int), .int .u64 (x21 : Int)] 52)
                    have hbt := Dir.bts_one z2 (x20, x21) 52
                    have hS := HS.out.beyond (hb.mono HS.out.lt.2.2.2)
                    replace HO8 := Lib.hid (HO8.out.below hb)
                    replace HO19 := Lib.hid (HO19.out.below hb)
                    refine Dir.wpList_append_Own rfl (.tmp 100) (.tmp 102) rfl M _ C19 rfl HO19.out _ [(x20, x21)] rfl hbt (by have := HCL19.out; have := HGO.out; simp; omega) hS.lt.2.2.2 ?_
                    intro v9 w9 hO9 hb9 hg9
                    obtain ⟨p9, c9, rfl⟩ := hO9.bts.slice
                    replace hS := hS.beyond hb9
                    replace HO8 := Lib.hid (HO8.out.grown hg9 (chr_dir_apart HO8.out HO19.out))
                    replace HS := Lib.hid hS
                    replace HO19 := Lib.hid hO9
                    clear hS hO9 hb9 hbt hb hg9
                    obtain ⟨cu, hcu⟩ := HS.out.cell 14 (show 14 < 15 by decide)
                    have hfr := HS.out.free 14
                    generalize hCx : C19 ++ [(x20, x21)] = Cx at *
                    have HCX := Lib.hid hCx
                    clear hCx
                    go_upto_region 38 with (fail)
                    clear hcu hfr
                    have hS := HS.out.set 14 (.slice p9 Cx.length c9)
                    simp only [List.setIfInBounds_toArray, List.set_cons_zero, List.set_cons_succ] at hS
                    have hg := grownBy_setCell w9 y 14 (.slice p9 Cx.length c9)
                    generalize w9.setCell ⟨y, 14, none⟩ (.slice p9 Cx.length c9) = v22 at hS hg ⊢
                    replace HO8 := Lib.hid (HO8.out.grown hg (Chr.own_neB HO8.out HYM.out))
                    replace HO19 := Lib.hid (HO19.out.grown hg (Dir.own_neB HO19.out HYM.out))
                    replace HS := Lib.hid hS
                    clear hS hg
                    have hw1 : IntKind.u64.wrap ((k19 : Int) + 1) = (k19 : Int) + 1 := by have := HGO.out; rw [IntKind.wrap_u64]; omega
                    go_wp2_with fail
                    go_roundw
                    case rel =>
                      refine ⟨k19 + 1, by have := HGO.out; omega, by have := HGO.out; omega, by go_num, Cx, m21, f21, p9, c9, ?_, ?_, HO19.out, HS.out, HO8.out⟩
                      · rw [← HCX.out]; exact Lr.rdDis_succ HRD19.out HX20.out HX21.out
                      · intro c hc
                        rw [← HCX.out] at hc
                        rcases List.mem_append.1 hc with hc | hc
                        · exact HCB19.out c hc
                        · rw [List.mem_singleton.1 hc]
                          exact ⟨HB20.out, HB21.out⟩
                    case measure => have := HGO.out; simp [intOf]; omega
                · have hway : ¬ ((k19 : Int) < (x19 : Int)) ∨ ((k19 : Int) < (x19 : Int) ∧ ¬ (k19 : Int) ≤ 64) := by omega
                  have HN19 : Hid (x19 ≤ 64 → k19 = x19) := fun h => by omega
                  have HK19 : Hid (k19 ≤ 65) := hk
                  clear hgo hk hkn
                  rcases hway with h1 | ⟨h1, h2⟩
                  · as_aux_lemma =>
                      go_upto_region 43 with (fail)
                      clear h1
                      refine Ord.walk (FfF #[.int .i64 5, .int .u64 (x2 : Int), .int .u32 (x4 : Int), .int .u64 0, .int .u32 0, .int .u16 0, .slice none 0 0, .slice none 0 0, .slice none 0 0, .int .u64 0, .int .u64 0, .bool false, .int .u64 0, .slice pp8 C8.length cc8, .slice pp19 C19.length cc19] r e19') (FfR Q wr #[.int .i64 5, .int .u64 (x2 : Int), .int .u32 (x4 : Int), .int .u64 0, .int .u32 0, .int .u16 0, .slice none 0 0, .slice none 0 0, .slice none 0 0, .int .u64 0, .int .u64 0, .bool false, .int .u64 0, .slice pp8 C8.length cc8, .slice pp19 C19.length cc19]) (fun _ _ => True)
                        (by kernel_rfl) (by kernel_rfl) ?frw7 ?hfrw7 (fun _ _ _ _ _ h => h) (fun xs => FfR.first HS.out.qrow) ?hew7 ?hendw7
                      case hfrw7 =>
                        intro xs
                        simp only [Ord.fill, Act.put, List.setIfInBounds_toArray, List.set_cons_zero, List.set_cons_succ]
                        rfl
                      case hew7 =>
                        refine Ord.each_cons (fun D xs w2 hD hC hP hR hA K hK => ?_) ?_
                        · -- 0
                          clear hA
                          as_aux_lemma =>
                            refine wp_load_rec (.tmp 5) rfl y rfl _ (hR.row HS.out.yrow HYQ.out) rfl ?_
                            exact hK _ _ ⟨_, rfl, trivial, hR.skip 0 (by decide) _, rfl⟩
                        refine Ord.each_cons (fun D xs w2 hD hC hP hR hA K hK => ?_) ?_
                        · -- 1
                          clear hA
                          as_aux_lemma =>
                            go_simp
                            exact hK _ _ ⟨_, rfl, trivial, hR.skip 1 (by decide) _, rfl⟩
                        refine Ord.each_cons (fun D xs w2 hD hC hP hR hA K hK => ?_) ?_
                        · -- 2
                          have q1 := Ord.ahead_get _ hA 1 (by decide)
                          simp only [FfF] at q1
                          simp only [q1] at hK
                          clear hA
                          as_aux_lemma =>
                            have cc := hR.cell HS.out.err HRQ.out
                            go_simp
                            exact hK _ _ ⟨_, rfl, trivial, hR.skip 2 (by decide) _, rfl⟩
                        refine Ord.each_cons (fun D xs w2 hD hC hP hR hA K hK => ?_) ?_
                        · -- 3
                          have q2 := Ord.ahead_get _ hA 2 (by decide)
                          simp only [FfF] at q2
                          simp only [q2] at hK
                          clear hA
                          as_aux_lemma =>
                            have he : ((e19' : Int) == 0) = decide (e19' = 0) := eqI (b := 0)
                            go_simp
                            exact hK _ _ ⟨_, rfl, trivial, hR.skip 3 (by decide) _, rfl⟩
                        refine Ord.each_cons (fun D xs w2 hD hC hP hR hA K hK => ?_) ?_
                        · -- 4
                          have q0 := Ord.ahead_get _ hA 0 (by decide)
                          simp only [FfF] at q0
                          clear hA
                          as_aux_lemma =>
                            have hrow := hR.2
                            rw [hD] at hrow
                            refine wp_store_rec (.tmp 2) (.tmp 105) rfl Q rfl _ q0 _ hrow rfl rfl (by simp [Value.oneCell']) ?_
                            intro w' hr hg
                            exact hK _ _ ⟨undef, rfl, trivial, hR.store hr hg _, trivial⟩
                        refine Ord.each_cons (fun D xs w2 hD hC hP hR hA K hK => ?_) ?_
                        · -- 5
                          have q3 := Ord.ahead_get _ hA 3 (by decide)
                          simp only [FfF] at q3
                          simp only [q3] at hK
                          clear hA
                          as_aux_lemma =>
                            go_simp
                            exact hK _ _ ⟨_, rfl, trivial, hR.skip 5 (by decide) _, rfl⟩
                        exact Ord.each_nil
                      case hendw7 =>
                        intro D xs w9 hR hall
                        have r5 := (hall 5 (by decide)).2
                        have d4 := (hall 4 (by decide)).1
                        simp only [FfF] at r5
                        have hrow := hR.2
                        rw [d4] at hrow
                        have HROW := Lib.hid (show w9.heap[Q]? = some (.cells #[.int .i64 5, .int .u64 (x2 : Int), .int .u32 (x4 : Int), .int .u64 0, .int .u32 0, .int .u16 0, .slice none 0 0, .slice none 0 0, .slice none 0 0, .int .u64 0, .int .u64 0, .bool false, .int .u64 0, .slice pp8 C8.length cc8, .slice pp19 C19.length cc19] 30 (0, 0)) from hrow)
                        have HGR := Lib.hid hR.1
                        clear hR hall d4 hrow
                        simp only [r5]
                        clear r5
                        generalize xs 0 = z0
                        generalize xs 1 = z1
                        generalize xs 2 = z2
                        generalize xs 3 = z3
                        go_wp2_with fail
                        obtain ⟨u0, u1, u2, u3, u4, u5, u6, u7, u8, u9, u10, u11, u12, u13, u14⟩ := rec_cell HROW.out
                        have hg := HGR.out
                        refine bodyPost_ret (v := .tuple #[.agg #[.int .i64 5, .int .u64 (x2 : Int), .int .u32 (x4 : Int), .int .u64 0, .int .u32 0, .int .u16 0, .slice none 0 0, .slice none 0 0, .slice none 0 0, .int .u64 0, .int .u64 0, .bool false, .int .u64 0, .slice pp8 C8.length cc8, .slice pp19 C19.length cc19], .bool (decide (e19' = 0))]) (by simp [results, Try.results35, go_sem, u0, u1, u2, u3, u4, u5, u6, u7, u8, u9, u10, u11, u12, u13, u14]) rfl ?_
                        refine ⟨⟨⟨5, x2, x4, 0, 0, 0, [], [], [], 0, 0, false, 0, C8, C19⟩, (.slice none 0 0), (.slice none 0 0), (.slice none 0 0), (.slice pp8 C8.length cc8), (.slice pp19 C19.length cc19), _, rfl, ⟨own_nil _ _, own_nil _ _, own_nil _ _, ((HO8.out.grown hg (Chr.own_neB HO8.out HQM.out)).from HWM.out), ((HO19.out.grown hg (Dir.own_neB HO19.out HQM.out)).from HWM.out), ?_⟩, Lr.took_point HH.out HX8.out HRD8.out HN8.out HX19.out HRD19.out HN19.out, ?_⟩, HS.out.below.grown hg (Nat.le_trans (Nat.le_of_lt HQM.out) HS.out.lt.2.2.2) (fun k hk => by rw [← Option.some.inj hk]; exact Nat.le_refl _)⟩
                        · exact ⟨by dsimp only; omega, Nat.lt_of_lt_of_le HB2.out (by decide), Nat.lt_of_lt_of_le HB4.out (by decide), (show 0 < 18446744073709551616 by decide), (show 0 < 4294967296 by decide), (show 0 < 65536 by decide), (by simp), (by simp), (by simp), (show 0 < 18446744073709551616 by decide), (show 0 < 18446744073709551616 by decide), (show 0 < 18446744073709551616 by decide), (fun c hc => by have h := HCB8.out c hc; exact ⟨Nat.lt_of_lt_of_le h.1 (by decide), Nat.lt_of_lt_of_le h.2.1 (by decide), Nat.lt_of_lt_of_le h.2.2 (by decide)⟩), (fun c hc => by have h := HCB19.out c hc; exact ⟨Nat.lt_of_lt_of_le h.1 (by decide), Nat.lt_of_lt_of_le h.2 (by decide)⟩)⟩
                        · exact ⟨(by simp), (by simp), (by simp), (by have h1 := HCL8.out; have h2 := HK8.out; dsimp only; omega), (by have h1 := HCL19.out; have h2 := HK19.out; dsimp only; omega)⟩
                  · as_aux_lemma =>
                      go_upto_region 43 with (fail)
                      clear h1
                      refine Ord.walk (FfF #[.int .i64 5, .int .u64 (x2 : Int), .int .u32 (x4 : Int), .int .u64 0, .int .u32 0, .int .u16 0, .slice none 0 0, .slice none 0 0, .slice none 0 0, .int .u64 0, .int .u64 0, .bool false, .int .u64 0, .slice pp8 C8.length cc8, .slice pp19 C19.length cc19] r e19') (FfR Q wr #[.int .i64 5, .int .u64 (x2 : Int), .int .u32 (x4 : Int), .int .u64 0, .int .u32 0, .int .u16 0, .slice none 0 0, .slice none 0 0, .slice none 0 0, .int .u64 0, .int .u64 0, .bool false, .int .u64 0, .slice pp8 C8.length cc8, .slice pp19 C19.length cc19]) (fun _ _ => True)
                        (by kernel_rfl) (by kernel_rfl) ?frw8 ?hfrw8 (fun _ _ _ _ _ h => h) (fun xs => FfR.first HS.out.qrow) ?hew8 ?hendw8
                      case hfrw8 =>
                        intro xs
                        simp only [Ord.fill, Act.put, List.setIfInBounds_toArray, List.set_cons_zero, List.set_cons_succ]
                        rfl
                      case hew8 =>
                        refine Ord.each_cons (fun D xs w2 hD hC hP hR hA K hK => ?_) ?_
                        · -- 0
                          clear hA
                          as_aux_lemma =>
                            refine wp_load_rec (.tmp 5) rfl y rfl _ (hR.row HS.out.yrow HYQ.out) rfl ?_
                            exact hK _ _ ⟨_, rfl, trivial, hR.skip 0 (by decide) _, rfl⟩
                        refine Ord.each_cons (fun D xs w2 hD hC hP hR hA K hK => ?_) ?_
                        · -- 1
                          clear hA
                          as_aux_lemma =>
                            go_simp
                            exact hK _ _ ⟨_, rfl, trivial, hR.skip 1 (by decide) _, rfl⟩
                        refine Ord.each_cons (fun D xs w2 hD hC hP hR hA K hK => ?_) ?_
                        · -- 2
                          have q1 := Ord.ahead_get _ hA 1 (by decide)
                          simp only [FfF] at q1
                          simp only [q1] at hK
                          clear hA
                          as_aux_lemma =>
                            have cc := hR.cell HS.out.err HRQ.out
                            go_simp
                            exact hK _ _ ⟨_, rfl, trivial, hR.skip 2 (by decide) _, rfl⟩
                        refine Ord.each_cons (fun D xs w2 hD hC hP hR hA K hK => ?_) ?_
                        · -- 3
                          have q2 := Ord.ahead_get _ hA 2 (by decide)
                          simp only [FfF] at q2
                          simp only [q2] at hK
                          clear hA
                          as_aux_lemma =>
                            have he : ((e19' : Int) == 0) = decide (e19' = 0) := eqI (b := 0)
                            go_simp
                            exact hK _ _ ⟨_, rfl, trivial, hR.skip 3 (by decide) _, rfl⟩
                        refine Ord.each_cons (fun D xs w2 hD hC hP hR hA K hK => ?_) ?_
                        · -- 4
                          have q0 := Ord.ahead_get _ hA 0 (by decide)
                          simp only [FfF] at q0
                          clear hA
                          as_aux_lemma =>
                            have hrow := hR.2
                            rw [hD] at hrow
                            refine wp_store_rec (.tmp 2) (.tmp 105) rfl Q rfl _ q0 _ hrow rfl rfl (by simp [Value.oneCell']) ?_
                            intro w' hr hg
                            exact hK _ _ ⟨undef, rfl, trivial, hR.store hr hg _, trivial⟩
                        refine Ord.each_cons (fun D xs w2 hD hC hP hR hA K hK => ?_) ?_
                        · -- 5
                          have q3 := Ord.ahead_get _ hA 3 (by decide)
                          simp only [FfF] at q3
                          simp only [q3] at hK
                          clear hA
                          as_aux_lemma =>
                            go_simp
                            exact hK _ _ ⟨_, rfl, trivial, hR.skip 5 (by decide) _, rfl⟩
                        exact Ord.each_nil
                      case hendw8 =>
                        intro D xs w9 hR hall
                        have r5 := (hall 5 (by decide)).2
                        have d4 := (hall 4 (by decide)).1
                        simp only [FfF] at r5
                        have hrow := hR.2
                        rw [d4] at hrow
                        have HROW := Lib.hid (show w9.heap[Q]? = some (.cells #[.int .i64 5, .int .u64 (x2 : Int), .int .u32 (x4 : Int), .int .u64 0, .int .u32 0, .int .u16 0, .slice none 0 0, .slice none 0 0, .slice none 0 0, .int .u64 0, .int .u64 0, .bool false, .int .u64 0, .slice pp8 C8.length cc8, .slice pp19 C19.length cc19] 30 (0, 0)) from hrow)
                        have HGR := Lib.hid hR.1
                        clear hR hall d4 hrow
                        simp only [r5]
                        clear r5
                        generalize xs 0 = z0
                        generalize xs 1 = z1
                        generalize xs 2 = z2
                        generalize xs 3 = z3
                        go_wp2_with fail
                        obtain ⟨u0, u1, u2, u3, u4, u5, u6, u7, u8, u9, u10, u11, u12, u13, u14⟩ := rec_cell HROW.out
                        have hg := HGR.out
                        refine bodyPost_ret (v := .tuple #[.agg #[.int .i64 5, .int .u64 (x2 : Int), .int .u32 (x4 : Int), .int .u64 0, .int .u32 0, .int .u16 0, .slice none 0 0, .slice none 0 0, .slice none 0 0, .int .u64 0, .int .u64 0, .bool false, .int .u64 0, .slice pp8 C8.length cc8, .slice pp19 C19.length cc19], .bool (decide (e19' = 0))]) (by simp [results, Try.results35, go_sem, u0, u1, u2, u3, u4, u5, u6, u7, u8, u9, u10, u11, u12, u13, u14]) rfl ?_
                        refine ⟨⟨⟨5, x2, x4, 0, 0, 0, [], [], [], 0, 0, false, 0, C8, C19⟩, (.slice none 0 0), (.slice none 0 0), (.slice none 0 0), (.slice pp8 C8.length cc8), (.slice pp19 C19.length cc19), _, rfl, ⟨own_nil _ _, own_nil _ _, own_nil _ _, ((HO8.out.grown hg (Chr.own_neB HO8.out HQM.out)).from HWM.out), ((HO19.out.grown hg (Dir.own_neB HO19.out HQM.out)).from HWM.out), ?_⟩, Lr.took_point HH.out HX8.out HRD8.out HN8.out HX19.out HRD19.out HN19.out, ?_⟩, HS.out.below.grown hg (Nat.le_trans (Nat.le_of_lt HQM.out) HS.out.lt.2.2.2) (fun k hk => by rw [← Option.some.inj hk]; exact Nat.le_refl _)⟩
                        · exact ⟨by dsimp only; omega, Nat.lt_of_lt_of_le HB2.out (by decide), Nat.lt_of_lt_of_le HB4.out (by decide), (show 0 < 18446744073709551616 by decide), (show 0 < 4294967296 by decide), (show 0 < 65536 by decide), (by simp), (by simp), (by simp), (show 0 < 18446744073709551616 by decide), (show 0 < 18446744073709551616 by decide), (show 0 < 18446744073709551616 by decide), (fun c hc => by have h := HCB8.out c hc; exact ⟨Nat.lt_of_lt_of_le h.1 (by decide), Nat.lt_of_lt_of_le h.2.1 (by decide), Nat.lt_of_lt_of_le h.2.2 (by decide)⟩), (fun c hc => by have h := HCB19.out c hc; exact ⟨Nat.lt_of_lt_of_le h.1 (by decide), Nat.lt_of_lt_of_le h.2 (by decide)⟩)⟩
                        · exact ⟨(by simp), (by simp), (by simp), (by have h1 := HCL8.out; have h2 := HK8.out; dsimp only; omega), (by have h1 := HCL19.out; have h2 := HK19.out; dsimp only; omega)⟩
  have k5 : ((x6 : Int) == 5) = false := by rw [beq_eq_false_iff_ne]; omega
  obtain ⟨y0, -, -, -, -, -, -, -, -, -, -, -, -, -, -⟩ := rec_cell HS.out.yrow
  go_upto_region 43 with (fail)
  clear y0
  refine Ord.walk (FfF #[.int .i64 (x6 : Int), .int .u64 (x2 : Int), .int .u32 (x4 : Int), .int .u64 0, .int .u32 0, .int .u16 0, .slice none 0 0, .slice none 0 0, .slice none 0 0, .int .u64 0, .int .u64 0, .bool false, .int .u64 0, .slice none 0 0, .slice none 0 0] r f6) (FfR Q v7 #[.int .i64 (x6 : Int), .int .u64 (x2 : Int), .int .u32 (x4 : Int), .int .u64 0, .int .u32 0, .int .u16 0, .slice none 0 0, .slice none 0 0, .slice none 0 0, .int .u64 0, .int .u64 0, .bool false, .int .u64 0, .slice none 0 0, .slice none 0 0]) (fun _ _ => True)
    (by kernel_rfl) (by kernel_rfl) ?frw9 ?hfrw9 (fun _ _ _ _ _ h => h) (fun xs => FfR.first HS.out.qrow) ?hew9 ?hendw9
  case hfrw9 =>
    intro xs
    simp only [Ord.fill, Act.put, List.setIfInBounds_toArray, List.set_cons_zero, List.set_cons_succ]
    rfl
  case hew9 =>
    refine Ord.each_cons (fun D xs w2 hD hC hP hR hA K hK => ?_) ?_
    · -- 0
      clear hA
      as_aux_lemma =>
        refine wp_load_rec (.tmp 5) rfl y rfl _ (hR.row HS.out.yrow HYQ.out) rfl ?_
        exact hK _ _ ⟨_, rfl, trivial, hR.skip 0 (by decide) _, rfl⟩
    refine Ord.each_cons (fun D xs w2 hD hC hP hR hA K hK => ?_) ?_
    · -- 1
      clear hA
      as_aux_lemma =>
        go_simp
        exact hK _ _ ⟨_, rfl, trivial, hR.skip 1 (by decide) _, rfl⟩
    refine Ord.each_cons (fun D xs w2 hD hC hP hR hA K hK => ?_) ?_
    · -- 2
      have q1 := Ord.ahead_get _ hA 1 (by decide)
      simp only [FfF] at q1
      simp only [q1] at hK
      clear hA
      as_aux_lemma =>
        have cc := hR.cell HS.out.err HRQ.out
        go_simp
        exact hK _ _ ⟨_, rfl, trivial, hR.skip 2 (by decide) _, rfl⟩
    refine Ord.each_cons (fun D xs w2 hD hC hP hR hA K hK => ?_) ?_
    · -- 3
      have q2 := Ord.ahead_get _ hA 2 (by decide)
      simp only [FfF] at q2
      simp only [q2] at hK
      clear hA
      as_aux_lemma =>
        have he : ((f6 : Int) == 0) = decide (f6 = 0) := eqI (b := 0)
        go_simp
        exact hK _ _ ⟨_, rfl, trivial, hR.skip 3 (by decide) _, rfl⟩
    refine Ord.each_cons (fun D xs w2 hD hC hP hR hA K hK => ?_) ?_
    · -- 4
      have q0 := Ord.ahead_get _ hA 0 (by decide)
      simp only [FfF] at q0
      clear hA
      as_aux_lemma =>
        have hrow := hR.2
        rw [hD] at hrow
        refine wp_store_rec (.tmp 2) (.tmp 105) rfl Q rfl _ q0 _ hrow rfl rfl (by simp [Value.oneCell']) ?_
        intro w' hr hg
        exact hK _ _ ⟨undef, rfl, trivial, hR.store hr hg _, trivial⟩
    refine Ord.each_cons (fun D xs w2 hD hC hP hR hA K hK => ?_) ?_
    · -- 5
      have q3 := Ord.ahead_get _ hA 3 (by decide)
      simp only [FfF] at q3
      simp only [q3] at hK
      clear hA
      as_aux_lemma =>
        go_simp
        exact hK _ _ ⟨_, rfl, trivial, hR.skip 5 (by decide) _, rfl⟩
    exact Ord.each_nil
  case hendw9 =>
    intro D xs w9 hR hall
    have r5 := (hall 5 (by decide)).2
    have d4 := (hall 4 (by decide)).1
    simp only [FfF] at r5
    have hrow := hR.2
    rw [d4] at hrow
    have HROW := Lib.hid (show w9.heap[Q]? = some (.cells #[.int .i64 (x6 : Int), .int .u64 (x2 : Int), .int .u32 (x4 : Int), .int .u64 0, .int .u32 0, .int .u16 0, .slice none 0 0, .slice none 0 0, .slice none 0 0, .int .u64 0, .int .u64 0, .bool false, .int .u64 0, .slice none 0 0, .slice none 0 0] 30 (0, 0)) from hrow)
    have HGR := Lib.hid hR.1
    clear hR hall d4 hrow
    simp only [r5]
    clear r5
    generalize xs 0 = z0
    generalize xs 1 = z1
    generalize xs 2 = z2
    generalize xs 3 = z3
    go_wp2_with fail
    obtain ⟨u0, u1, u2, u3, u4, u5, u6, u7, u8, u9, u10, u11, u12, u13, u14⟩ := rec_cell HROW.out
    have hg := HGR.out
    refine bodyPost_ret (v := .tuple #[.agg #[.int .i64 (x6 : Int), .int .u64 (x2 : Int), .int .u32 (x4 : Int), .int .u64 0, .int .u32 0, .int .u16 0, .slice none 0 0, .slice none 0 0, .slice none 0 0, .int .u64 0, .int .u64 0, .bool false, .int .u64 0, .slice none 0 0, .slice none 0 0], .bool (decide (f6 = 0))]) (by simp [results, Try.results35, go_sem, u0, u1, u2, u3, u4, u5, u6, u7, u8, u9, u10, u11, u12, u13, u14]) rfl ?_
    refine ⟨⟨⟨(x6 : Int), x2, x4, 0, 0, 0, [], [], [], 0, 0, false, 0, [], []⟩, (.slice none 0 0), (.slice none 0 0), (.slice none 0 0), (.slice none 0 0), (.slice none 0 0), _, rfl, ⟨own_nil _ _, own_nil _ _, own_nil _ _, Chr.own_nil _ _, Dir.own_nil _ _, ?_⟩, Lr.took_none HH.out (by omega), ?_⟩, HS.out.below.grown hg (Nat.le_trans (Nat.le_of_lt HQM.out) HS.out.lt.2.2.2) (fun k hk => by rw [← Option.some.inj hk]; exact Nat.le_refl _)⟩
    · exact ⟨by have := HB6.out; dsimp only; omega, Nat.lt_of_lt_of_le HB2.out (by decide), Nat.lt_of_lt_of_le HB4.out (by decide), (show 0 < 18446744073709551616 by decide), (show 0 < 4294967296 by decide), (show 0 < 65536 by decide), (by simp), (by simp), (by simp), (show 0 < 18446744073709551616 by decide), (show 0 < 18446744073709551616 by decide), (show 0 < 18446744073709551616 by decide), (by simp), (by simp)⟩
    · exact ⟨(by simp), (by simp), (by simp), (by simp), (by simp)⟩
end Go.Proofs.Ytkchoelegdknoaa
