/- What the law LogrecReads answers, for all bytes. Conditions: the slice's cells hold them. -/
import Derived.Test.YtkchoelegdknoaaLrRR
import Derived.Test.YtkchoelegdknoaaLrKnown
namespace Go.Proofs.Ytkchoelegdknoaa
open Go.RowKit

theorem Lr.may_pair {x : Lr.R} (h : Lr.May x) : x.old.length = x.new.length := by
  obtain ⟨hw, hb⟩ := h
  unfold Lr.bare at hb
  rcases hw with ⟨hk, h1, -⟩ | ⟨hk, -⟩ | ⟨hk, -⟩ | ⟨hk, -⟩ | ⟨hk, -⟩
  · exact h1
  all_goals
    simp only [hk] at hb
    rw [hb]
    simp
theorem Lr.readR_pair (b : List Nat) : Lr.Few (Lr.readR b).1 ∧ (Lr.readR b).1.old.length = (Lr.readR b).1.new.length := by
  by_cases h : ∃ y, Lr.Is b y
  · obtain ⟨y, hy⟩ := h
    rw [Lr.readR_of hy]
    exact ⟨(Lr.bare_lists hy.1).1, Lr.may_pair hy.1⟩
  · rw [Lr.readR_none fun y hy => h ⟨y, hy⟩]
    exact ⟨⟨by decide, by decide, by decide, by decide, by decide⟩, rfl⟩
theorem row_other {w : World} {g n X : Nat} {A : Array Value} (h : Row w g n) (hx : w.heap[X]? = some (.cells A 30 (0, 0))) : X ≠ g := by
  rintro rfl
  obtain ⟨cur, hh, -, -⟩ := h
  rw [hx] at hh
  simp only [Option.some.injEq, Obj.cells.injEq] at hh
  exact absurd hh.2.1 (by decide)
/-- The bytes of a record are written over: what stands. -/
structure RxW (base : Nat) (W0 : World) (X : Nat) (A : Array Value) (rs : List (Value × Nat)) (w : World) : Prop where
  bel : Below base W0 w
  big : base ≤ W0.heap.size
  blk : w.heap[X]? = some (.cells A 30 (0, 0))
  rows : ∀ s ∈ rs, 0 < s.2 → ∃ g c, s.1 = .slice (some ⟨g, 0, none⟩) s.2 c ∧ s.2 ≤ c ∧ c ≤ 9223372036854775807 ∧ base ≤ g ∧ Row w g s.2
theorem RxW.set {base X g n k x : Nat} {W0 w : World} {A : Array Value} {rs : List (Value × Nat)} (h : RxW base W0 X A rs w) (hb : base ≤ g) (hr : Row w g n) (hx : x < 256) : RxW base W0 X A rs (w.setCell ⟨g, k, none⟩ (.int .u8 (x : Int))) := by
  have hg := grownBy_setCell w g k (.int .u8 (x : Int))
  have hne := row_other hr h.blk
  refine ⟨below_grown h.bel hg (Nat.le_trans h.big h.bel.size) hb, h.big, ?_, fun s hs h0 => ?_⟩
  · rw [hg.block X (lt_of_block h.blk) (fun e => hne (Option.some.inj e))]
    exact h.blk
  · obtain ⟨g2, c2, e1, e2, e3, hb2, hr2⟩ := h.rows s hs h0
    refine ⟨g2, c2, e1, e2, e3, hb2, ?_⟩
    by_cases e : g2 = g
    · subst e
      exact hr2.set k x hx
    · exact hr2.grown hg (fun e2 => e (Option.some.inj e2))
theorem RxW.of_own {base X : Nat} {W0 w : World} {A : Array Value} (hb : Below base W0 w) (hg : base ≤ W0.heap.size) (hx : w.heap[X]? = some (.cells A 30 (0, 0))) {v1 v2 v3 : Value} {l1 l2 l3 : List Nat} (h1 : Own base w v1 l1) (h2 : Own base w v2 l2) (h3 : Own base w v3 l3) :
    RxW base W0 X A [(v1, l1.length), (v2, l2.length), (v3, l3.length)] w := by
  refine ⟨hb, hg, hx, fun s hs h0 => ?_⟩
  have one : ∀ {v : Value} {l : List Nat}, Own base w v l → 0 < l.length → ∃ g c, v = .slice (some ⟨g, 0, none⟩) l.length c ∧ l.length ≤ c ∧ c ≤ 9223372036854775807 ∧ base ≤ g ∧ Row w g l.length := fun h h0 => by
    obtain ⟨g, c, e1, e2, -, e4, e5, e6⟩ := own_some h h0
    exact ⟨g, c, e1, e4, e5, e2, e6⟩
  simp only [List.mem_cons, List.not_mem_nil, or_false] at hs
  rcases hs with rfl | rfl | rfl
  · exact one h1 h0
  · exact one h2 h0
  · exact one h3 h0
theorem bump_wrap (b : Nat) : IntKind.u8.wrap ((b : Int) + 1) = (((b + 1) % 256 : Nat) : Int) := by
  rw [show IntKind.u8.wrap ((b : Int) + 1) = ((b : Int) + 1) % 256 by simp [IntKind.wrap, IntKind.bits, IntKind.signed]]
  omega
theorem bump_mod (b : Nat) : ((b : Int) + 1) % 256 = (((b + 1) % 256 : Nat) : Int) := by omega

set_option maxHeartbeats 6400000 in
set_option maxRecDepth 20000 in
theorem logrecReads_any (s : Value) (l : List Nat) (w : World) (hB : Bts w s l) :
    Calls Try.prog 4 #[s] w fun e w' => e = .returned (.bool true) ∧ Below w.heap.size w w' := by
  have HB := Lib.hid hB
  obtain ⟨p, cap, rfl, -, -, -⟩ := hB.form
  have hlen := hB.len
  clear hB
  by_cases hlg : 5000 < l.length
  · have h1 : (5000 : Int) < (l.length : Int) := by omega
    go_enter Try.func4, Try.ntmps4
    go_wp2_with fail
    refine (known_any _).mono ?_
    rintro e w2 ⟨rfl, hb2⟩
    go_wp2_with fail
    go_ret
    exact ⟨rfl, hb2⟩
  have hdl : ¬ (5000 : Int) < (l.length : Int) := by omega
  have HL2 : Hid (l.length ≤ 5000) := Lib.hid (by omega)
  have HOE := Lib.hid (own_empty w w.heap.size 0 #[] (Nat.le_refl _) (Nat.zero_le _) rfl)
  have HWE : Hid (Below w.heap.size w (w.alloc (.cells #[] 5))) := (Below.refl _ _).alloc (Nat.le_refl _) _
  go_enter Try.func4, Try.ntmps4
  go_upto_region 3 with (fail)
  iterate 7 go_step
  refine wpList_append_Own rfl (.tmp 16) (.tmp 17) rfl w.heap.size _ [] rfl HOE.out _ l rfl (HB.out.below HWE.out) (by simp; omega) HWE.out.size ?_
  intro v1 w1 hO1 hb1 _
  rw [List.nil_append] at hO1
  have HO1 := Lib.hid hO1
  have HW1 := Lib.hid (HWE.out.trans hb1)
  clear hO1 hb1
  iterate 3 go_step
  refine wpList_append_byte rfl (.tmp 18) (.tmp 19) rfl w.heap.size _ l rfl HO1.out rfl 77 rfl (by decide) (by omega) HW1.out.size ?_
  intro v2 w2 hO2 hb2
  have HW2 := Lib.hid (HW1.out.trans hb2)
  have hl1 : (l ++ [77]).length = l.length + 1 := by simp
  obtain ⟨g, c, hv2, -, -, hc1, hc2, -⟩ := own_some hO2 (by rw [hl1]; omega)
  rw [hl1] at hv2 hc1
  subst hv2
  have hin : Bts w2 (.slice (some ⟨g, 0, none⟩) l.length c) l := by
    have hb := hO2.bts
    rw [← hl1] at hb
    have := hb.take l.length (by simp)
    rwa [List.take_left' rfl] at this
  have hmark : w2.cell? ⟨g, l.length, none⟩ = some (.int .u8 77) := by
    have ho := hO2.own
    rw [hl1] at ho
    obtain ⟨_, _, _, _, h5⟩ := owns_cells ho
    rw [h5 l.length (by simp)]
    simp
  have HIN := Lib.hid hin
  have HMARK := Lib.hid hmark
  have HB2 := Lib.hid (HB.out.below HW2.out)
  clear hO2 hb2 hl1 hin hmark HO1 HW1 HOE HWE hdl hlg
  have hnc : l.length ≤ c := by omega
  go_wp2_with fail
  have hr1 := read_any _ l w2 HIN.out (by have := HL2.out; omega)
  have hr2 := fun w (h : Bts w (.slice p l.length cap) l) => refRead_any (.slice p l.length cap) l w h
  have hfw := Lr.readR_pair l
  obtain ⟨rr, hrr⟩ : ∃ rr, rr = Lr.readR l := ⟨_, rfl⟩
  rw [← hrr] at hr1 hr2 hfw
  have HC2 := Lib.hid hr2
  have HFW := Lib.hid hfw
  clear hrr hr2 hfw
  obtain ⟨x, L, er⟩ := rr
  refine hr1.mono ?_
  clear hr1
  rintro en w3 ⟨o3, n3, u3, c3', d3, rfl, hO3, hb3⟩
  dsimp only at hO3 HC2 HFW
  obtain ⟨p1, c1, p2, c2, p3, c3, p4, c4, p5, c5, rfl, rfl, rfl, rfl, rfl⟩ := rec_slices hO3.at
  have HO3 := Lib.hid hO3
  have HB23 := Lib.hid hb3
  clear hO3 hb3
  go_upto_region 5 with (fail)
  obtain ⟨w4, hw4⟩ : ∃ w4, w4 = w3.alloc (.cells #[.int .i64 x.kind, .int .u64 (x.lsn : Int), .int .u32 (x.epoch : Int), .int .u64 (x.txn : Int), .int .u32 (x.page : Int), .int .u16 (x.off : Int), .slice p1 x.old.length c1, .slice p2 x.new.length c2, .slice p3 x.undo.length c3, .int .u64 (x.prev : Int), .int .u64 (x.next : Int), .bool x.clr, .int .u64 (x.stamp : Int), .slice p4 x.opn.length c4, .slice p5 x.dirt.length c5] 30) := ⟨_, rfl⟩
  have hb4 : Below w3.heap.size w3 w4 := by rw [hw4]; exact below_new1 _ _
  have hx4 : w4.heap[w3.heap.size]? = some (.cells #[.int .i64 x.kind, .int .u64 (x.lsn : Int), .int .u32 (x.epoch : Int), .int .u64 (x.txn : Int), .int .u32 (x.page : Int), .int .u16 (x.off : Int), .slice p1 x.old.length c1, .slice p2 x.new.length c2, .slice p3 x.undo.length c3, .int .u64 (x.prev : Int), .int .u64 (x.next : Int), .bool x.clr, .int .u64 (x.stamp : Int), .slice p4 x.opn.length c4, .slice p5 x.dirt.length c5] 30 (0, 0)) := by rw [hw4]; exact heap_alloc_last _ _
  rw [← hw4]
  obtain ⟨X, hX⟩ : ∃ X, X = w3.heap.size := ⟨_, rfl⟩
  rw [← hX] at hx4 ⊢
  have HX4 := Lib.hid hx4
  have HO4 := Lib.hid (HO3.out.below hb4)
  have HB24 := Lib.hid (HB23.out.trans (hb4.mono HB23.out.size))
  have HB4 := Lib.hid (HB2.out.below HB24.out)
  clear hw4 hX hb4 hx4 HO3 HB23
  go_wp2_with fail
  refine (HC2.out _ HB4.out).mono ?_
  rintro en w5 ⟨o5, n5, u5, c5', d5, rfl, hO5, hb5⟩
  obtain ⟨q1, k1, q2, k2, q3, k3, q4, k4, q5, k5, rfl, rfl, rfl, rfl, rfl⟩ := rec_slices hO5.at
  have HY5 := Lib.hid hO5.at
  have HB45 := Lib.hid hb5
  clear hO5 hb5 HC2
  go_upto_region 6 with (fail)
  obtain ⟨w6, hw6⟩ : ∃ w6, w6 = w5.alloc (.cells #[.int .i64 x.kind, .int .u64 (x.lsn : Int), .int .u32 (x.epoch : Int), .int .u64 (x.txn : Int), .int .u32 (x.page : Int), .int .u16 (x.off : Int), .slice q1 x.old.length k1, .slice q2 x.new.length k2, .slice q3 x.undo.length k3, .int .u64 (x.prev : Int), .int .u64 (x.next : Int), .bool x.clr, .int .u64 (x.stamp : Int), .slice q4 x.opn.length k4, .slice q5 x.dirt.length k5] 30) := ⟨_, rfl⟩
  have hb6 : Below w5.heap.size w5 w6 := by rw [hw6]; exact below_new1 _ _
  have hy6 : w6.heap[w5.heap.size]? = some (.cells #[.int .i64 x.kind, .int .u64 (x.lsn : Int), .int .u32 (x.epoch : Int), .int .u64 (x.txn : Int), .int .u32 (x.page : Int), .int .u16 (x.off : Int), .slice q1 x.old.length k1, .slice q2 x.new.length k2, .slice q3 x.undo.length k3, .int .u64 (x.prev : Int), .int .u64 (x.next : Int), .bool x.clr, .int .u64 (x.stamp : Int), .slice q4 x.opn.length k4, .slice q5 x.dirt.length k5] 30 (0, 0)) := by rw [hw6]; exact heap_alloc_last _ _
  rw [← hw6]
  obtain ⟨Y, hY⟩ : ∃ Y, Y = w5.heap.size := ⟨_, rfl⟩
  rw [← hY] at hy6 ⊢
  have hb46 := HB45.out.trans (hb6.mono HB45.out.size)
  have HX6 := Lib.hid ((hb46.block X (lt_of_block HX4.out)).trans HX4.out)
  have HY6 := Lib.hid (HY5.out.below hb6)
  have HO6 := Lib.hid (HO4.out.below hb46)
  have HB26 := Lib.hid (HB24.out.trans (hb46.mono HB24.out.size))
  obtain ⟨e0, e1, e2, e3, e4, e5, e6, e7, e8, e9, e10, e11, e12, e13, e14⟩ := rec_cell HX6.out
  obtain ⟨d0, d1, d2, d3, d4, d5, d6, d7, d8, d9, d10, d11, d12, d13, d14⟩ := rec_cell hy6
  clear hw6 hY hb6 hy6 hb46 HB45 HY5 HO4 HX4 HB24
  have hee : ((er : Int) != (er : Int)) = false := by simp
  have hll : ((L : Int) != (L : Int)) = false := by simp
  go_wp2_with fail
  have hc := refSame_any x x _ _ _ _ _ _ _ _ _ _ w6 HO6.out.at HY6.out ⟨Nat.le_trans HFW.out.1.opn (by decide), Nat.le_trans HFW.out.1.dirt (by decide)⟩
  rw [Lr.same_true rfl] at hc
  refine hc.mono ?_
  rintro en w7 ⟨rfl, hb7⟩
  clear hc e0 e1 e2 e3 e4 e5 e6 e7 e8 e9 e10 e11 e12 e13 e14 d0 d1 d2 d3 d4 d5 d6 d7 d8 d9 d10 d11 d12 d13 d14 hee hll
  have hO7 := HO6.out.below hb7
  have hT := RxW.of_own (HB26.out.trans (hb7.mono HB26.out.size)) (Nat.le_refl _) ((hb7.block X (lt_of_block HX6.out)).trans HX6.out) hO7.old hO7.new hO7.undo
  have hon := HFW.out.2
  have HF1 : Hid (x.old.length ≤ 6000) := HFW.out.1.old
  have HF3 : Hid (x.undo.length ≤ 6000) := HFW.out.1.undo
  clear hO7 hb7 HO6 HY6 HX6 HB26 HFW
  generalize x.old.length = N1 at *
  generalize x.new.length = N2 at *
  obtain rfl : N1 = N2 := hon
  generalize x.undo.length = N3 at *
  have HT7 := Lib.hid hT
  clear hT
  go_wp2_with fail
  go_loopw [10] (fun iv wr => ∃ k : Nat, k ≤ N1 ∧ iv = .int .i64 (k : Int) ∧ RxW w2.heap.size w2 X #[.int .i64 x.kind, .int .u64 (x.lsn : Int), .int .u32 (x.epoch : Int), .int .u64 (x.txn : Int), .int .u32 (x.page : Int), .int .u16 (x.off : Int), .slice p1 N1 c1, .slice p2 N1 c2, .slice p3 N3 c3, .int .u64 (x.prev : Int), .int .u64 (x.next : Int), .bool x.clr, .int .u64 (x.stamp : Int), .slice p4 x.opn.length c4, .slice p5 x.dirt.length c5] [(.slice p1 N1 c1, N1), (.slice p2 N1 c2, N1), (.slice p3 N3 c3, N3)] wr) (fun iv _ => N1 - (intOf iv).toNat)
  case atStart => exact ⟨0, Nat.zero_le _, rfl, HT7.out⟩
  case round =>
    obtain ⟨k, hk, rfl, ht⟩ := hrel
    have HT := Lib.hid ht
    clear ht
    by_cases hlt : k < N1
    · as_aux_lemma =>
        have HLT := Lib.hid hlt
        have HBD : Hid (N1 ≤ 6000) := HF1.out
        have hk1 : (0 : Int) ≤ (k : Int) := by omega
        have hk2 : (k : Int) < (N1 : Int) := by omega
        have hk3 : 0 + k = k := Nat.zero_add k
        obtain ⟨g1, cc1, e1, e1a, e1b, hb1, hr1⟩ := HT.out.rows (.slice p1 N1 c1, N1) (by simp) (Nat.lt_of_le_of_lt (Nat.zero_le _) hlt)
        simp only [Value.slice.injEq, true_and] at e1
        obtain ⟨rfl, rfl⟩ := e1
        obtain ⟨b1, hbb1, hcell⟩ := hr1.cell k hlt
        have hfree := hr1.free k
        have hwr := bump_wrap b1
        have HR1 := Lib.hid hr1
        have HBA := Lib.hid hb1
        have e1a2 : N1 ≤ c1 := e1a
        have e1b2 : c1 ≤ 9223372036854775807 := e1b
        obtain ⟨-, -, -, -, -, -, y6, -, -, -, -, -, -, -, -⟩ := rec_cell HT.out.blk
        clear hlt hr1 hb1 hbb1 e1a e1b
        go_upto_region 12 with (fail)
        clear hcell hfree hwr y6
        rw [bump_mod b1]
        have ht := HT.out.set (k := k) (x := (b1 + 1) % 256) HBA.out HR1.out (Nat.mod_lt _ (by decide))
        generalize wr.setCell ⟨g1, k, none⟩ (.int .u8 (((b1 + 1) % 256 : Nat) : Int)) = z1 at ht ⊢
        obtain ⟨g2, cc2, e2, e2a, e2b, hb2, hr2⟩ := ht.rows (.slice p2 N1 c2, N1) (by simp) (Nat.lt_of_le_of_lt (Nat.zero_le _) HLT.out)
        simp only [Value.slice.injEq, true_and] at e2
        obtain ⟨rfl, rfl⟩ := e2
        obtain ⟨b2, hbb2, hcell⟩ := hr2.cell k HLT.out
        have hfree := hr2.free k
        have hwr := bump_wrap b2
        have HT2 := Lib.hid ht
        have HR2 := Lib.hid hr2
        have HBB2 := Lib.hid hb2
        obtain ⟨-, -, -, -, -, -, -, y7, -, -, -, -, -, -, -⟩ := rec_cell ht.blk
        clear ht hr2 hb2 hbb2
        have hw1 := IntWalk.i64_in ((k : Int) + 1) (by have := HLT.out; have := HBD.out; omega)
        go_wp2_with fail
        rw [bump_mod b2]
        go_roundw
        case rel => exact ⟨k + 1, HLT.out, by go_num, HT2.out.set (k := k) (x := (b2 + 1) % 256) HBB2.out HR2.out (Nat.mod_lt _ (by decide))⟩
        case measure => have := HLT.out; simp [intOf]; omega
    · obtain rfl : k = N1 := by omega
      have hstop : ¬ ((k : Int) < (k : Int)) := by omega
      obtain ⟨-, -, -, -, -, -, y6, -, -, -, -, -, -, -, -⟩ := rec_cell HT.out.blk
      clear hk hlt
      go_wp2_with fail
      clear y6 hstop
      go_loopw [11] (fun iv wr => ∃ j : Nat, j ≤ N3 ∧ iv = .int .i64 (j : Int) ∧ RxW w2.heap.size w2 X #[.int .i64 x.kind, .int .u64 (x.lsn : Int), .int .u32 (x.epoch : Int), .int .u64 (x.txn : Int), .int .u32 (x.page : Int), .int .u16 (x.off : Int), .slice p1 k c1, .slice p2 k c2, .slice p3 N3 c3, .int .u64 (x.prev : Int), .int .u64 (x.next : Int), .bool x.clr, .int .u64 (x.stamp : Int), .slice p4 x.opn.length c4, .slice p5 x.dirt.length c5] [(.slice p1 k c1, k), (.slice p2 k c2, k), (.slice p3 N3 c3, N3)] wr) (fun iv _ => N3 - (intOf iv).toNat)
      case atStart => exact ⟨0, Nat.zero_le _, rfl, HT.out⟩
      case round =>
        clear HT
        obtain ⟨j, hj, rfl, ht⟩ := hrel
        have HT := Lib.hid ht
        clear ht
        by_cases hlt : j < N3
        · as_aux_lemma =>
            have HLT := Lib.hid hlt
            have HBD : Hid (N3 ≤ 6000) := HF3.out
            have hk1 : (0 : Int) ≤ (j : Int) := by omega
            have hk2 : (j : Int) < (N3 : Int) := by omega
            have hk3 : 0 + j = j := Nat.zero_add j
            obtain ⟨g1, cc1, e1, e1a, e1b, hb1, hr1⟩ := HT.out.rows (.slice p3 N3 c3, N3) (by simp) (Nat.lt_of_le_of_lt (Nat.zero_le _) hlt)
            simp only [Value.slice.injEq, true_and] at e1
            obtain ⟨rfl, rfl⟩ := e1
            obtain ⟨b1, hbb1, hcell⟩ := hr1.cell j hlt
            have hfree := hr1.free j
            have hwr := bump_wrap b1
            have HR1 := Lib.hid hr1
            have HBA := Lib.hid hb1
            have e1a2 : N3 ≤ c3 := e1a
            have e1b2 : c3 ≤ 9223372036854775807 := e1b
            obtain ⟨-, -, -, -, -, -, -, -, y8, -, -, -, -, -, -⟩ := rec_cell HT.out.blk
            have hw1 := IntWalk.i64_in ((j : Int) + 1) (by have := HBD.out; omega)
            clear hlt hr1 hb1 hbb1 e1a e1b
            go_wp2_with fail
            rw [bump_mod b1]
            go_roundw
            case rel => exact ⟨j + 1, HLT.out, by go_num, HT.out.set (k := j) (x := (b1 + 1) % 256) HBA.out HR1.out (Nat.mod_lt _ (by decide))⟩
            case measure => have := HLT.out; simp [intOf]; omega
        · obtain rfl : j = N3 := by omega
          have hstop : ¬ ((j : Int) < (j : Int)) := by omega
          obtain ⟨-, -, -, -, -, -, -, -, y8, -, -, -, -, -, -⟩ := rec_cell HT.out.blk
          have HIN8 := Lib.hid (HIN.out.below HT.out.bel)
          have HB8 := Lib.hid (HB2.out.below HT.out.bel)
          have cv1 := strOf_conv HIN8.out
          have cv2 := strOf_conv HB8.out
          have hmk := (HT.out.bel.cell (p := ⟨g, l.length, none⟩) (block_lt_of_cell HMARK.out)).trans HMARK.out
          generalize strOfNums (l.map fun x : Nat => (x : Int)) = S at *
          clear hj hlt
          go_wp2_with fail
          clear cv1 cv2 hmk
          refine (known_any _).mono ?_
          rintro en w11 ⟨rfl, hb11⟩
          have HW11 := Lib.hid (HW2.out.trans ((HT.out.bel.trans (hb11.mono HT.out.bel.size)).mono HW2.out.size))
          clear hb11
          go_wp2_with fail
          go_ret
          exact ⟨rfl, HW11.out⟩
end Go.Proofs.Ytkchoelegdknoaa
