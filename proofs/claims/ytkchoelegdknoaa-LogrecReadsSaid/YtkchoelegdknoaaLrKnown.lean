/- What the laws look at first: lists that are longer than is looked at, and what is known of one record. Conditions: none. -/
import Derived.Test.YtkchoelegdknoaaLrReadM
import Derived.Test.YtkchoelegdknoaaLrBytesM
import Derived.Test.YtkchoelegdknoaaLrSameRb
namespace Go.Proofs.Ytkchoelegdknoaa
open Go.RowKit

namespace Lr
def large (x : R) : Bool := decide (2000 < x.old.length) || decide (2000 < x.new.length) || decide (2000 < x.undo.length) || decide (2000 < x.opn.length) || decide (2000 < x.dirt.length)
theorem not_large {x : R} (h : large x = false) : x.old.length ≤ 2000 ∧ x.new.length ≤ 2000 ∧ x.undo.length ≤ 2000 ∧ x.opn.length ≤ 2000 ∧ x.dirt.length ≤ 2000 := by
  unfold large at h
  simp only [Bool.or_eq_false_iff, decide_eq_false_iff_not] at h
  omega
theorem few_of {x : R} (h : large x = false) : Few x := by
  have := not_large h
  exact ⟨by omega, by omega, by omega, by omega, by omega⟩
theorem bare_lists {x : R} (h : May x) : Few x ∧ large x = false := by
  have hb := h.2
  have key : x.old.length ≤ 500 ∧ x.new.length ≤ 500 ∧ x.undo.length ≤ 64 ∧ x.opn.length ≤ 16 ∧ x.dirt.length ≤ 64 := by
    unfold bare at hb
    rcases h.1 with ⟨hk, h1, h2, h3⟩ | ⟨hk, h1, h2⟩ | ⟨hk, h1⟩ | ⟨hk, h1⟩ | ⟨hk, h1, h2⟩
    · rw [if_pos hk] at hb
      have e3 : x.undo = [] := by rw [hb]
      have e4 : x.opn = [] := by rw [hb]
      have e5 : x.dirt = [] := by rw [hb]
      rw [e3, e4, e5]; simp; omega
    · rw [if_neg (by omega), if_pos hk] at hb
      have e1 : x.old = [] := by rw [hb]
      have e2 : x.new = [] := by rw [hb]
      have e4 : x.opn = [] := by rw [hb]
      have e5 : x.dirt = [] := by rw [hb]
      have hu : x.undo.length ≤ 64 := by
        cases hc : x.clr
        · exact (h2 hc).1
        · have := h1 hc; omega
      rw [e1, e2, e4, e5]; simp; omega
    · rw [if_neg (by omega), if_neg (by omega), if_pos hk] at hb
      have e1 : x.old = [] := by rw [hb]
      have e2 : x.new = [] := by rw [hb]
      have e3 : x.undo = [] := by rw [hb]
      have e4 : x.opn = [] := by rw [hb]
      have e5 : x.dirt = [] := by rw [hb]
      rw [e1, e2, e3, e4, e5]; simp
    · rw [if_neg (by omega), if_neg (by omega), if_neg (by omega), if_pos hk] at hb
      have e1 : x.old = [] := by rw [hb]
      have e2 : x.new = [] := by rw [hb]
      have e3 : x.undo = [] := by rw [hb]
      have e4 : x.opn = [] := by rw [hb]
      have e5 : x.dirt = [] := by rw [hb]
      rw [e1, e2, e3, e4, e5]; simp
    · rw [if_neg (by omega), if_neg (by omega), if_neg (by omega), if_neg (by omega), if_pos hk] at hb
      have e1 : x.old = [] := by rw [hb]
      have e2 : x.new = [] := by rw [hb]
      have e3 : x.undo = [] := by rw [hb]
      rw [e1, e2, e3]; simp; omega
  refine ⟨⟨by omega, by omega, by omega, by omega, by omega⟩, ?_⟩
  unfold large
  simp only [Bool.or_eq_false_iff, decide_eq_false_iff_not]
  omega
theorem few_zero : Few zero := ⟨by decide, by decide, by decide, by decide, by decide⟩
theorem readR_few (b : List Nat) : Few (readR b).1 := by
  by_cases h : ∃ y, Is b y
  · obtain ⟨y, hy⟩ := h
    rw [readR_of hy]
    exact (bare_lists hy.1).1
  · rw [readR_none fun y hy => h ⟨y, hy⟩]
    exact few_zero
def kx : R := ⟨4, 128, 0, 7, 0, 0, [], [], [], 0, 0, false, 0, [], []⟩
theorem may_kx : May kx := ⟨Or.inr (Or.inr (Or.inr (Or.inl ⟨rfl, by decide⟩))), rfl⟩
theorem ok_kx : Ok kx := by
  refine ⟨by decide, by decide, by decide, by decide, by decide, by decide, ?_, ?_, ?_, by decide, by decide, by decide, ?_, ?_⟩ <;> intro b hb <;> cases hb
theorem form_kx : (form kx).length = 27 := by rw [form_length]; rfl
end Lr
theorem gtI {a b : Nat} : decide ((a : Int) > (b : Int)) = decide (b < a) := by rw [Bool.eq_iff_iff]; simp
theorem ltI {a b : Nat} : decide ((a : Int) < (b : Int)) = decide (a < b) := by rw [Bool.eq_iff_iff]; simp

set_option maxHeartbeats 3200000 in
set_option maxRecDepth 20000 in
theorem large_any (x : Lr.R) (o n u c d : Value) (w : World) (h : RecAt w x o n u c d) :
    Calls Try.prog 8 #[RecV x o n u c d] w fun e w' => e = .returned (.bool (Lr.large x)) ∧ Below w.heap.size w w' := by
  obtain ⟨W, hW⟩ : ∃ W, W = w.alloc (robj x o n u c d) := ⟨_, rfl⟩
  have hb := below_new1 w (robj x o n u c d)
  have hr := rblk w x o n u c d
  rw [← hW] at hb hr
  have HB := Lib.hid hb
  obtain ⟨-, -, -, -, -, -, q6, q7, q8, -, -, -, -, q13, q14⟩ := rec_cell hr
  obtain ⟨p1, c1, p2, c2, p3, c3, p4, c4, p5, c5, rfl, rfl, rfl, rfl, rfl⟩ := rec_slices h
  clear h hb hr
  unfold robj at hW
  have f1 : decide ((2000 : Int) < (x.old.length : Int)) = decide (2000 < x.old.length) := ltI (a := 2000)
  have f2 : decide ((2000 : Int) < (x.new.length : Int)) = decide (2000 < x.new.length) := ltI (a := 2000)
  have f3 : decide ((2000 : Int) < (x.undo.length : Int)) = decide (2000 < x.undo.length) := ltI (a := 2000)
  have f4 : decide ((2000 : Int) < (x.opn.length : Int)) = decide (2000 < x.opn.length) := ltI (a := 2000)
  have f5 : decide ((2000 : Int) < (x.dirt.length : Int)) = decide (2000 < x.dirt.length) := ltI (a := 2000)
  unfold Lr.large
  generalize decide (2000 < x.old.length) = b1 at *
  generalize decide (2000 < x.new.length) = b2 at *
  generalize decide (2000 < x.undo.length) = b3 at *
  generalize decide (2000 < x.opn.length) = b4 at *
  generalize decide (2000 < x.dirt.length) = b5 at *
  cases b1
  · cases b2
    · cases b3
      · cases b4
        · cases b5
          all_goals
            go_enter Try.func8, Try.ntmps8
            go_upto_region 1 with (fail)
            rw [← hW]
            clear hW
            go_wp2_with fail
            go_ret
            exact ⟨rfl, HB.out⟩
        · all_goals
            go_enter Try.func8, Try.ntmps8
            go_upto_region 1 with (fail)
            rw [← hW]
            clear hW
            go_wp2_with fail
            go_ret
            exact ⟨rfl, HB.out⟩
      · all_goals
          go_enter Try.func8, Try.ntmps8
          go_upto_region 1 with (fail)
          rw [← hW]
          clear hW
          go_wp2_with fail
          go_ret
          exact ⟨rfl, HB.out⟩
    · all_goals
        go_enter Try.func8, Try.ntmps8
        go_upto_region 1 with (fail)
        rw [← hW]
        clear hW
        go_wp2_with fail
        go_ret
        exact ⟨rfl, HB.out⟩
  · all_goals
      go_enter Try.func8, Try.ntmps8
      go_upto_region 1 with (fail)
      rw [← hW]
      clear hW
      go_wp2_with fail
      go_ret
      exact ⟨rfl, HB.out⟩

set_option maxHeartbeats 3200000 in
set_option maxRecDepth 20000 in
theorem known_any (w : World) : Calls Try.prog 9 #[] w fun e w' => e = .returned (.bool true) ∧ Below w.heap.size w w' := by
  go_enter Try.func9, Try.ntmps9
  go_upto_region 2 with (fail)
  obtain ⟨W, hW⟩ : ∃ W, W = w.alloc (.cells #[.int .i64 4, .int .u64 128, .int .u32 0, .int .u64 7, .int .u32 0, .int .u16 0, .slice none 0 0, .slice none 0 0, .slice none 0 0, .int .u64 0, .int .u64 0, .bool false, .int .u64 0, .slice none 0 0, .slice none 0 0] 30) := ⟨_, rfl⟩
  have hb : Below w.heap.size w W := by rw [hW]; exact below_new1 _ _
  have hr : W.heap[w.heap.size]? = some (.cells #[.int .i64 4, .int .u64 128, .int .u32 0, .int .u64 7, .int .u32 0, .int .u16 0, .slice none 0 0, .slice none 0 0, .slice none 0 0, .int .u64 0, .int .u64 0, .bool false, .int .u64 0, .slice none 0 0, .slice none 0 0] 30 (0, 0)) := by rw [hW]; exact heap_alloc_last _ _
  rw [← hW]
  clear hW
  have HB := Lib.hid hb
  have HRW := Lib.hid hr
  clear hb hr
  go_step
  refine wpList_load_rec rfl (.tmp 1) rfl w.heap.size rfl _ HRW.out rfl ?_
  go_wp2_with fail
  have hz : ∀ W' : World, RecAt W' Lr.kx (.slice none 0 0) (.slice none 0 0) (.slice none 0 0) (.slice none 0 0) (.slice none 0 0) := fun W' => ⟨bts_none _, bts_none _, bts_none _, Chr.bts_nil _, Dir.bts_nil _, Lr.ok_kx⟩
  have HKZ := Lib.hid hz
  have hc := bytes_any Lr.kx _ _ _ _ _ W (hz W) (Lr.bare_lists Lr.may_kx).1
  rw [Lr.ifP_pos Lr.may_kx, Lr.ifP_pos Lr.may_kx, show ((0 : Nat) : Int) = 0 from rfl] at hc
  clear hz
  refine hc.mono ?_
  rintro e w1 ⟨v1, rfl, hO1, hb1⟩
  clear hc
  obtain ⟨q1, k1, rfl⟩ := hO1.bts.slice
  rw [Lr.form_kx]
  have HO1 := Lib.hid hO1
  have HB1 := Lib.hid (HB.out.trans (hb1.mono HB.out.size))
  have HRW1 := Lib.hid ((hb1.block _ (lt_of_block HRW.out)).trans HRW.out)
  clear hO1 hb1
  go_wp2_with fail
  have hc := read_any _ _ w1 HO1.out.bts (by rw [Lr.form_kx]; decide)
  rw [Lr.readR_of (y := Lr.kx) ⟨Lr.may_kx, Lr.ok_kx, [], (List.append_nil _).symm⟩, Lr.form_kx] at hc
  refine hc.mono ?_
  rintro e w2 ⟨o, n, u, c, d, rfl, hO2, hb2⟩
  clear hc
  obtain ⟨p1, c1, p2, c2, p3, c3, p4, c4, p5, c5, rfl, rfl, rfl, rfl, rfl⟩ := rec_slices hO2.at
  have HO2 := Lib.hid hO2
  have HB2 := Lib.hid (HB1.out.trans (hb2.mono HB1.out.size))
  have HRW2 := Lib.hid ((hb2.block _ (lt_of_block HRW1.out)).trans HRW1.out)
  clear hO2 hb2
  dsimp only [Lr.kx, List.length_nil]
  go_upto_region 4 with (fail)
  obtain ⟨Y, hY⟩ : ∃ Y, Y = w2.alloc (.cells #[.int .i64 4, .int .u64 128, .int .u32 0, .int .u64 7, .int .u32 0, .int .u16 0, .slice p1 0 c1, .slice p2 0 c2, .slice p3 0 c3, .int .u64 0, .int .u64 0, .bool false, .int .u64 0, .slice p4 0 c4, .slice p5 0 c5] 30) := ⟨_, rfl⟩
  have hbY : Below w2.heap.size w2 Y := by rw [hY]; exact below_new1 _ _
  have hrY : Y.heap[w2.heap.size]? = some (.cells #[.int .i64 4, .int .u64 128, .int .u32 0, .int .u64 7, .int .u32 0, .int .u16 0, .slice p1 0 c1, .slice p2 0 c2, .slice p3 0 c3, .int .u64 0, .int .u64 0, .bool false, .int .u64 0, .slice p4 0 c4, .slice p5 0 c5] 30 (0, 0)) := by rw [hY]; exact heap_alloc_last _ _
  rw [← hY]
  have HOY := Lib.hid (HO2.out.at.below hbY)
  have HBY := Lib.hid (HB2.out.trans (hbY.mono HB2.out.size))
  have hrw := (hbY.block _ (lt_of_block HRW2.out)).trans HRW2.out
  obtain ⟨a0, a1, a2, a3, a4, a5, a6, a7, a8, a9, a10, a11, a12, a13, a14⟩ := rec_cell hrw
  obtain ⟨b0, b1, b2, b3, b4, b5, b6, b7, b8, b9, b10, b11, b12, b13, b14⟩ := rec_cell hrY
  clear hY hbY hrY hrw
  go_wp2_with fail
  have hc := refSame_any Lr.kx Lr.kx _ _ _ _ _ _ _ _ _ _ Y (HKZ.out Y) HOY.out ⟨by decide, by decide⟩
  rw [Lr.same_true rfl] at hc
  refine hc.mono ?_
  rintro e w3 ⟨rfl, hb3⟩
  clear hc
  go_wp2_with fail
  go_ret
  exact ⟨rfl, HBY.out.trans (hb3.mono HBY.out.size)⟩
end Go.Proofs.Ytkchoelegdknoaa
