/- What slices.Grow of nothing, slices.Concat of two slices of hits, and the program's Merge answer. Conditions: the slices' cells hold the hits; at most half a million each. -/
import Derived.Test.YtljichhmfbefaaaHitFirst
import Derived.Lib.AppendZeros
namespace Go.Proofs.Ytljichhmfbefaaa
open Go.RowKit Go.Sort

set_option maxHeartbeats 800000 in
theorem grow_any (n : Nat) (w : World) (hn : n ≤ 2000000) :
    Calls Try.prog 35 #[.slice none 0 0, .int .i64 (n : Int)] w (HNew [] w) := by
  rcases Nat.eq_zero_or_pos n with rfl | h0
  · go_enter Try.func35, Try.ntmps35
    go_wp2
    go_ret
    exact ⟨_, rfl, hown_nil _ _, Below.refl _ _⟩
  · obtain ⟨i0, hi, hz0, hz1, hz2⟩ := info_parts infoH
    have hc1 := grownCap_ge w n 0 35
    have hc2 := grownCap_le_maxLen w n 0 35 (by unfold maxLen; omega)
    have hr : ∀ ty, (Builtin.append_ #[32, 3] ty #[.slice none 0 0, .int .i64 n]).run Try.prog w = _ := fun ty =>
      Lib.run_append_nil_zeros w 32 3 ty 35 i0 (.agg #[.int .u64 0, .int .i64 0]) .i64 .i64 Try.underlying32 Try.underlying3 hi hz0 n h0 (by omega) (by omega) (by rw [hz2]; omega)
    have HR := Lib.hid hr
    have hown : HOwn w.heap.size (w.drew.alloc (.cells (Builtin.zeroCells (Value.agg #[.int .u64 0, .int .i64 0]).cells n ++ Builtin.zeroCells (Value.agg #[.int .u64 0, .int .i64 0]).cells (grownCap w n 0 35 - n)) 35)) (.slice (some ⟨w.heap.size, 0, none⟩) 0 (grownCap w n 0 35)) [] := by
      refine ⟨rfl, .inr ⟨w.heap.size, _, _, rfl, Nat.le_refl _, heap_alloc_last w.drew _, Nat.zero_le _, hc2, ?_, rfl⟩⟩
      rw [Array.size_append, size_zeroCells, size_zeroCells]
      show n * 2 + (grownCap w n 0 35 - n) * 2 = _
      omega
    have HO := Lib.hid hown
    have hB : Below w.heap.size w (w.drew.alloc (.cells (Builtin.zeroCells (Value.agg #[.int .u64 0, .int .i64 0]).cells n ++ Builtin.zeroCells (Value.agg #[.int .u64 0, .int .i64 0]).cells (grownCap w n 0 35 - n)) 35)) := (below_drewN (Below.refl _ w) 1).alloc (Nat.le_refl _) _
    have HB := Lib.hid hB
    unfold maxLen at hc2
    clear hr hown hB hi hz0 hz1 hz2
    have hnn : (0 : Int) < (n : Int) := by omega
    have hwn : IntKind.i64.wrap (n : Int) = n := IntWalk.i64_in _ (by omega)
    go_enter Try.func35, Try.ntmps35
    go_upto_region 5 with (fail)
    go_step
    go_step
    go_step
    go_step
    go_step
    go_step
    go_step
    go_step
    go_step
    go_step
    go_step
    go_step
    go_step
    go_step
    go_step
    go_step
    refine Lib.wpList_append_run w rfl (.tmp 20) (.tmp 21) 32 3 rfl _ _ rfl rfl _ _ (HR.out _) ?_
    generalize grownCap w n 0 35 = c at *
    have HO2 := HO
    clear HO HR
    go_wp2
    go_ret
    exact ⟨_, rfl, HO2.out, HB.out⟩
set_option maxHeartbeats 1600000 in
set_option maxRecDepth 20000 in
theorem concat_any (B : Nat) (va vb : Value) (a b : List Hit) (w : World) (h0 : w.cell? ⟨B, 0, none⟩ = some va) (h1 : w.cell? ⟨B, 1, none⟩ = some vb) (hA : HBts w va a) (hB : HBts w vb b) (la : a.length ≤ 500000) (lb : b.length ≤ 500000) :
    Calls Try.prog 31 #[.slice (some ⟨B, 0, none⟩) 2 2] w (HNew (a ++ b) w) := by
  have HA := Lib.hid hA
  have HB := Lib.hid hB
  obtain ⟨pa, ca, rfl, hra, -, -⟩ := hA.form
  obtain ⟨pb, cb, rfl, hrb, -, -⟩ := hB.form
  have HG := Lib.hid (grow_any (a.length + b.length) w (by omega))
  have w1 : IntKind.i64.wrap (a.length : Int) = a.length := IntWalk.i64_in _ (by omega)
  have w2 : IntKind.i64.wrap ((a.length : Int) + b.length) = ((a.length + b.length : Nat) : Int) := by rw [Int.natCast_add]; exact IntWalk.i64_in _ (by omega)
  have hnn : ¬ (((a.length + b.length : Nat) : Int) < 0) := by omega
  clear hA hB
  go_enter Try.func31, Try.ntmps31
  go_wp2
  refine wp_loop_rounds 3 ?_
  rw [rounds_succ]
  go_wp2
  rw [rounds_succ]
  go_wp2
  rw [rounds_succ]
  rw [Int.natCast_add] at HG
  go_wp2_with fail
  refine HG.out.mono ?_
  rintro e w3 ⟨v3, rfl, h3, hb3⟩
  have H3 := Lib.hid h3
  have HB3 := Lib.hid hb3
  have HA3 := Lib.hid (HA.out.below hb3)
  have c0 := hb3.cell (p := ⟨B, 0, none⟩) (block_lt_of_cell h0)
  have c1 := hb3.cell (p := ⟨B, 1, none⟩) (block_lt_of_cell h1)
  rw [h0] at c0
  rw [h1] at c1
  have HC1 := Lib.hid h1
  clear h3 hb3 h0 h1 HG HA
  go_wp2_with fail
  refine wp_loop_rounds 3 ?_
  rw [rounds_succ]
  go_upto_region 13 with (fail)
  go_step
  go_step
  go_step
  go_step
  go_step
  go_step
  go_step
  refine wpList_append_HOwn rfl (.tmp 31) (.tmp 32) rfl w.heap.size _ [] rfl H3.out _ a rfl HA3.out (by simp; omega) HB3.out.size ?_
  intro v4 w4 hown4 hb4 hgr4
  rw [List.nil_append] at hown4
  have H4 := Lib.hid hown4
  have HB4 := Lib.hid (HB3.out.trans hb4)
  have HB5 := Lib.hid (HB.out.below HB4.out)
  have c2 := HB4.out.cell (p := ⟨B, 1, none⟩) (block_lt_of_cell HC1.out)
  rw [HC1.out] at c2
  clear hown4 hb4 hgr4 c0 c1 H3 HB3 HA3
  go_wp2_with fail
  rw [rounds_succ]
  go_upto_region 13 with (fail)
  go_step
  go_step
  go_step
  go_step
  go_step
  go_step
  go_step
  refine wpList_append_HOwn rfl (.tmp 31) (.tmp 32) rfl w.heap.size _ a rfl H4.out _ b rfl HB5.out (by omega) HB4.out.size ?_
  intro v5 w5 hown5 hb5 _
  have H5 := Lib.hid hown5
  have HB6 := Lib.hid (HB4.out.trans hb5)
  clear hown5 hb5 H4 HB4 HB5 c2
  go_wp2_with fail
  rw [rounds_succ]
  go_wp2_with fail
  go_ret
  exact ⟨_, rfl, H5.out, HB6.out⟩

theorem cell_fresh (w : World) (cs : Array Value) (t : TypeId) (i : Nat) (v : Value) (h : cs[i]? = some v) : (w.alloc (.cells cs t)).cell? ⟨w.heap.size, i, none⟩ = some v := by
  rw [cell_of_row _ _ i cs t (0, 0) (heap_alloc_last _ _)]; exact h

set_option maxHeartbeats 800000 in
theorem merge_any (va vb : Value) (a b : List Hit) (k : Int) (w : World) (hA : HBts w va a) (hB : HBts w vb b) (la : a.length ≤ 500000) (lb : b.length ≤ 500000) :
    Calls Try.prog 22 #[va, vb, .int .i64 k] w (HNew ((Hp.srt (a ++ b)).take k.toNat) w) := by
  obtain ⟨pa, ca, rfl, -, -, -⟩ := hA.form
  obtain ⟨pb, cb, rfl, -, -, -⟩ := hB.form
  have hal : Below w.heap.size w (w.alloc (.cells #[.slice pa a.length ca, .slice pb b.length cb] 32)) := (Below.refl _ _).alloc (Nat.le_refl _) _
  have HC := Lib.hid (concat_any w.heap.size _ _ a b (w.alloc (.cells #[.slice pa a.length ca, .slice pb b.length cb] 32)) (cell_fresh w _ _ 0 _ rfl) (cell_fresh w _ _ 1 _ rfl) (hA.below hal) (hB.below hal) la lb)
  have HB := Lib.hid hal
  clear hA hB hal
  go_enter Try.func22, Try.ntmps22
  go_wp2_with fail
  refine HC.out.mono ?_
  rintro e w1 ⟨v1, rfl, h1, h2⟩
  have h3 := HB.out.trans (h2.mono HB.out.size)
  have HS := Lib.hid (sorted_any w.heap.size v1 (a ++ b) k w1 (h1.from HB.out.size) (by simp; omega) h3.size)
  have HB1 := Lib.hid h3
  clear h1 h2 h3
  go_wp2_with fail
  refine HS.out.mono ?_
  rintro e w2 ⟨v2, rfl, h1, h2⟩
  have H1 := Lib.hid h1
  have H2 := Lib.hid (HB1.out.trans h2)
  clear h1 h2
  go_wp2_with fail
  go_ret
  exact ⟨_, rfl, H1.out, H2.out⟩
end Go.Proofs.Ytljichhmfbefaaa
