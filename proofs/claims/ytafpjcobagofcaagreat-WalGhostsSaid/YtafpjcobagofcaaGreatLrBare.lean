/- A record with what its kind has alone. Conditions: the value reads as a record. -/
import Derived.Test.YtafpjcobagofcaaGreatRecM
import Derived.Test.YtafpjcobagofcaaGreatLrWithin
namespace Go.Proofs.YtafpjcobagofcaaGreat
open Go.RowKit

def BrF1 (P Y : Nat) (v0 v1 v2 v3 : Value) (i : Nat) (v : Value) (_ : World) : Prop :=
  match i with
  | 0 => v = .pointer (some ⟨P, 4, none⟩)
  | 1 => v = v0
  | 2 => v = .pointer (some ⟨P, 5, none⟩)
  | 3 => v = v1
  | 4 => v = .pointer (some ⟨P, 6, none⟩)
  | 5 => v = v2
  | 6 => v = .pointer (some ⟨P, 7, none⟩)
  | 7 => v = v3
  | 8 => v = .pointer (some ⟨Y, 4, none⟩)
  | 10 => v = .pointer (some ⟨Y, 5, none⟩)
  | 12 => v = .pointer (some ⟨Y, 6, none⟩)
  | 14 => v = .pointer (some ⟨Y, 7, none⟩)
  | _ => True
def BrF2 (P Y : Nat) (v0 v1 v2 v3 v4 : Value) (i : Nat) (v : Value) (_ : World) : Prop :=
  match i with
  | 0 => v = .pointer (some ⟨P, 3, none⟩)
  | 1 => v = v0
  | 2 => v = .pointer (some ⟨P, 9, none⟩)
  | 3 => v = v1
  | 4 => v = .pointer (some ⟨P, 10, none⟩)
  | 5 => v = v2
  | 6 => v = .pointer (some ⟨P, 11, none⟩)
  | 7 => v = v3
  | 8 => v = .pointer (some ⟨P, 8, none⟩)
  | 9 => v = v4
  | 10 => v = .pointer (some ⟨Y, 3, none⟩)
  | 12 => v = .pointer (some ⟨Y, 9, none⟩)
  | 14 => v = .pointer (some ⟨Y, 10, none⟩)
  | 16 => v = .pointer (some ⟨Y, 11, none⟩)
  | 18 => v = .pointer (some ⟨Y, 8, none⟩)
  | _ => True
def BrF3 (P Y : Nat) (v0 v1 : Value) (i : Nat) (v : Value) (_ : World) : Prop :=
  match i with
  | 0 => v = .pointer (some ⟨P, 3, none⟩)
  | 1 => v = v0
  | 2 => v = .pointer (some ⟨P, 12, none⟩)
  | 3 => v = v1
  | 4 => v = .pointer (some ⟨Y, 3, none⟩)
  | 6 => v = .pointer (some ⟨Y, 12, none⟩)
  | _ => True
def BrF5 (P Y : Nat) (v0 v1 : Value) (i : Nat) (v : Value) (_ : World) : Prop :=
  match i with
  | 0 => v = .pointer (some ⟨P, 13, none⟩)
  | 1 => v = v0
  | 2 => v = .pointer (some ⟨P, 14, none⟩)
  | 3 => v = v1
  | 4 => v = .pointer (some ⟨Y, 13, none⟩)
  | 6 => v = .pointer (some ⟨Y, 14, none⟩)
  | _ => True
set_option maxHeartbeats 6400000 in
set_option maxRecDepth 20000 in
theorem bare_any (x : Lr.R) (o n u c d : Value) (w : World) (h : RecAt w x o n u c d) :
    Calls Tryz.prog 72 #[RecV x o n u c d] w fun e w' => ∃ o' n' u' c' d', e = .returned (RecV (Lr.bare x) o' n' u' c' d') ∧ RecAt w' (Lr.bare x) o' n' u' c' d' ∧ Below w.heap.size w w' := by
  obtain ⟨W, hW⟩ : ∃ W, W = w.alloc (robj x o n u c d) := ⟨_, rfl⟩
  have hb := below_new1 w (robj x o n u c d)
  have hr0 := rblk w x o n u c d
  rw [← hW] at hb hr0
  obtain ⟨V, hV⟩ : ∃ V, V = W.alloc zobj := ⟨_, rfl⟩
  have hb1 := below_new1 W zobj
  have hz := zblk W
  rw [← hV] at hb1 hz
  have hs0 : W.heap.size = w.heap.size + 1 := by rw [hW]; simp
  rw [hs0] at hz
  have hr := (hb1.block _ (lt_of_block hr0)).trans hr0
  have HB := Lib.hid (hb.trans (hb1.mono hb.size))
  obtain ⟨q0, q1, q2, q3, q4, q5, q6, q7, q8, q9, q10, q11, q12, q13, q14⟩ := rec_cell hr
  obtain ⟨p1, c1, p2, c2, p3, c3, p4, c4, p5, c5, rfl, rfl, rfl, rfl, rfl⟩ := rec_slices h
  unfold robj at hW
  unfold zobj at hV
  obtain ⟨k, lsn, ep, txn, pg, off, ol, nw, un, pv, nx, cl, st, op, di⟩ := x
  dsimp only at *
  have HA0 := Lib.hid h
  have HR := Lib.hid hr
  have HZ := Lib.hid hz
  clear h hb hr hr0 hb1 hz hs0
  by_cases h1 : k = 1
  · as_aux_lemma =>
      subst h1
      rw [show Lr.bare ⟨1, lsn, ep, txn, pg, off, ol, nw, un, pv, nx, cl, st, op, di⟩ = ⟨1, lsn, ep, 0, pg, off, ol, nw, [], 0, 0, false, 0, [], []⟩ from rfl]
      go_enter Tryz.func72, Tryz.ntmps72
      go_upto_region 1 with (fail)
      rw [← hW, ← hV]
      clear hW hV
      go_upto_region 2 with (fail)
      obtain ⟨Y, hY⟩ : ∃ Y, Y = V.alloc (.cells #[.int .i64 1, .int .u64 (lsn : Int), .int .u32 (ep : Int), .int .u64 0, .int .u32 0, .int .u16 0, .slice none 0 0, .slice none 0 0, .slice none 0 0, .int .u64 0, .int .u64 0, .bool false, .int .u64 0, .slice none 0 0, .slice none 0 0] 40) := ⟨_, rfl⟩
      have hbY : Below V.heap.size V Y := by rw [hY]; exact below_new1 _ _
      have HRY : Hid (Y.heap[V.heap.size]? = some (.cells #[.int .i64 1, .int .u64 (lsn : Int), .int .u32 (ep : Int), .int .u64 0, .int .u32 0, .int .u16 0, .slice none 0 0, .slice none 0 0, .slice none 0 0, .int .u64 0, .int .u64 0, .bool false, .int .u64 0, .slice none 0 0, .slice none 0 0] 40 (0, 0))) := by rw [hY]; exact heap_alloc_last _ _
      have HZY := Lib.hid ((hbY.block _ (lt_of_block HZ.out)).trans HZ.out)
      have hpY := (hbY.block _ (lt_of_block HR.out)).trans HR.out
      have HBY := Lib.hid (HB.out.trans (hbY.mono HB.out.size))
      have HSZ : Hid (w.heap.size < V.heap.size) := lt_of_block HR.out
      have HSY : Hid (V.heap.size < Y.heap.size) := lt_of_block HRY.out
      have HNE : Hid (¬ w.heap.size = V.heap.size) := fun e => Nat.ne_of_lt HSZ.out e
      have HNE2 : Hid (¬ V.heap.size = w.heap.size + 1) := by have := lt_of_block HZ.out; intro e; omega
      rw [← hY]
      clear hY hbY q0 q1 q2 q3 q4 q5 q6 q7 q8 q9 q10 q11 q12 q13 q14
      obtain ⟨q0, q1, q2, q3, q4, q5, q6, q7, q8, q9, q10, q11, q12, q13, q14⟩ := rec_cell hpY
      clear hpY
      have HQ0 := Lib.hid q0
      have HQ1 := Lib.hid q1
      have HQ2 := Lib.hid q2
      have HQ3 := Lib.hid q3
      have HQ4 := Lib.hid q4
      have HQ5 := Lib.hid q5
      have HQ6 := Lib.hid q6
      have HQ7 := Lib.hid q7
      have HQ8 := Lib.hid q8
      have HQ9 := Lib.hid q9
      have HQ10 := Lib.hid q10
      have HQ11 := Lib.hid q11
      have HQ12 := Lib.hid q12
      have HQ13 := Lib.hid q13
      have HQ14 := Lib.hid q14
      go_upto_region 4 with (fail)
      clear q0 q1 q2 q3 q4 q5 q6 q7 q8 q9 q10 q11 q12 q13 q14
      refine Ord.walk (BrF1 w.heap.size V.heap.size (.int .u32 (pg : Int)) (.int .u16 (off : Int)) (.slice p1 ol.length c1) (.slice p2 nw.length c2)) (fun D _ w2 => LayR Y V.heap.size #[.int .i64 1, .int .u64 (lsn : Int), .int .u32 (ep : Int), .int .u64 0, .int .u32 0, .int .u16 0, .slice none 0 0, .slice none 0 0, .slice none 0 0, .int .u64 0, .int .u64 0, .bool false, .int .u64 0, .slice none 0 0, .slice none 0 0] 40 [(9, 4, (.int .u32 (pg : Int))), (11, 5, (.int .u16 (off : Int))), (13, 6, (.slice p1 ol.length c1)), (15, 7, (.slice p2 nw.length c2))] D w2) (fun _ _ => True)
        (by kernel_rfl) (by kernel_rfl) ?fr1 ?hfr1 (fun _ _ _ _ _ h => h) (fun xs => LayR.first HRY.out) ?he1 ?hend1
      case hfr1 =>
        intro xs
        simp only [Ord.fill, Act.put, List.setIfInBounds_toArray, List.set_cons_zero, List.set_cons_succ]
        rfl
      case he1 =>
        refine Ord.each_cons (fun D xs w2 hD hC hP hR hA K hK => ?_) ?_
        · -- 0
          clear hA
          go_simp
          exact hK _ _ ⟨_, rfl, trivial, hR.skip rfl, rfl⟩
        refine Ord.each_cons (fun D xs w2 hD hC hP hR hA K hK => ?_) ?_
        · -- 1
          have q := Ord.ahead_get _ hA 0 (by decide)
          simp only [BrF1] at q
          simp only [q] at hK
          clear hA
          have cc := hR.cell HQ4.out HNE.out
          go_simp
          exact hK _ _ ⟨_, rfl, trivial, hR.skip rfl, rfl⟩
        refine Ord.each_cons (fun D xs w2 hD hC hP hR hA K hK => ?_) ?_
        · -- 2
          clear hA
          go_simp
          exact hK _ _ ⟨_, rfl, trivial, hR.skip rfl, rfl⟩
        refine Ord.each_cons (fun D xs w2 hD hC hP hR hA K hK => ?_) ?_
        · -- 3
          have q := Ord.ahead_get _ hA 2 (by decide)
          simp only [BrF1] at q
          simp only [q] at hK
          clear hA
          have cc := hR.cell HQ5.out HNE.out
          go_simp
          exact hK _ _ ⟨_, rfl, trivial, hR.skip rfl, rfl⟩
        refine Ord.each_cons (fun D xs w2 hD hC hP hR hA K hK => ?_) ?_
        · -- 4
          clear hA
          go_simp
          exact hK _ _ ⟨_, rfl, trivial, hR.skip rfl, rfl⟩
        refine Ord.each_cons (fun D xs w2 hD hC hP hR hA K hK => ?_) ?_
        · -- 5
          have q := Ord.ahead_get _ hA 4 (by decide)
          simp only [BrF1] at q
          simp only [q] at hK
          clear hA
          have cc := hR.cell HQ6.out HNE.out
          go_simp
          exact hK _ _ ⟨_, rfl, trivial, hR.skip rfl, rfl⟩
        refine Ord.each_cons (fun D xs w2 hD hC hP hR hA K hK => ?_) ?_
        · -- 6
          clear hA
          go_simp
          exact hK _ _ ⟨_, rfl, trivial, hR.skip rfl, rfl⟩
        refine Ord.each_cons (fun D xs w2 hD hC hP hR hA K hK => ?_) ?_
        · -- 7
          have q := Ord.ahead_get _ hA 6 (by decide)
          simp only [BrF1] at q
          simp only [q] at hK
          clear hA
          have cc := hR.cell HQ7.out HNE.out
          go_simp
          exact hK _ _ ⟨_, rfl, trivial, hR.skip rfl, rfl⟩
        refine Ord.each_cons (fun D xs w2 hD hC hP hR hA K hK => ?_) ?_
        · -- 8
          clear hA
          go_simp
          exact hK _ _ ⟨_, rfl, trivial, hR.skip rfl, rfl⟩
        refine Ord.each_cons (fun D xs w2 hD hC hP hR hA K hK => ?_) ?_
        · -- 9
          have q := Ord.ahead_get _ hA 8 (by decide)
          have qv := Ord.ahead_get _ hA 1 (by decide)
          simp only [BrF1] at q qv
          simp only [q, qv] at hK
          clear hA
          obtain ⟨u, cu⟩ := hR.there 4 (show 4 < 15 by decide)
          have ff := hR.free 4
          go_simp
          exact hK _ _ ⟨undef, rfl, trivial, hR.put 9 4 _ (by rfl) (by simp) hD, trivial⟩
        refine Ord.each_cons (fun D xs w2 hD hC hP hR hA K hK => ?_) ?_
        · -- 10
          clear hA
          go_simp
          exact hK _ _ ⟨_, rfl, trivial, hR.skip rfl, rfl⟩
        refine Ord.each_cons (fun D xs w2 hD hC hP hR hA K hK => ?_) ?_
        · -- 11
          have q := Ord.ahead_get _ hA 10 (by decide)
          have qv := Ord.ahead_get _ hA 3 (by decide)
          simp only [BrF1] at q qv
          simp only [q, qv] at hK
          clear hA
          obtain ⟨u, cu⟩ := hR.there 5 (show 5 < 15 by decide)
          have ff := hR.free 5
          go_simp
          exact hK _ _ ⟨undef, rfl, trivial, hR.put 11 5 _ (by rfl) (by simp) hD, trivial⟩
        refine Ord.each_cons (fun D xs w2 hD hC hP hR hA K hK => ?_) ?_
        · -- 12
          clear hA
          go_simp
          exact hK _ _ ⟨_, rfl, trivial, hR.skip rfl, rfl⟩
        refine Ord.each_cons (fun D xs w2 hD hC hP hR hA K hK => ?_) ?_
        · -- 13
          have q := Ord.ahead_get _ hA 12 (by decide)
          have qv := Ord.ahead_get _ hA 5 (by decide)
          simp only [BrF1] at q qv
          simp only [q, qv] at hK
          clear hA
          obtain ⟨u, cu⟩ := hR.there 6 (show 6 < 15 by decide)
          have ff := hR.free 6
          go_simp
          exact hK _ _ ⟨undef, rfl, trivial, hR.put 13 6 _ (by rfl) (by simp) hD, trivial⟩
        refine Ord.each_cons (fun D xs w2 hD hC hP hR hA K hK => ?_) ?_
        · -- 14
          clear hA
          go_simp
          exact hK _ _ ⟨_, rfl, trivial, hR.skip rfl, rfl⟩
        refine Ord.each_cons (fun D xs w2 hD hC hP hR hA K hK => ?_) ?_
        · -- 15
          have q := Ord.ahead_get _ hA 14 (by decide)
          have qv := Ord.ahead_get _ hA 7 (by decide)
          simp only [BrF1] at q qv
          simp only [q, qv] at hK
          clear hA
          obtain ⟨u, cu⟩ := hR.there 7 (show 7 < 15 by decide)
          have ff := hR.free 7
          go_simp
          exact hK _ _ ⟨undef, rfl, trivial, hR.put 15 7 _ (by rfl) (by simp) hD, trivial⟩
        exact Ord.each_nil
      case hend1 =>
        intro D xs Z hR hall
        have r0 := (hall 0 (by decide)).2
        simp only [BrF1] at r0
        have r1 := (hall 1 (by decide)).2
        simp only [BrF1] at r1
        have r2 := (hall 2 (by decide)).2
        simp only [BrF1] at r2
        have r3 := (hall 3 (by decide)).2
        simp only [BrF1] at r3
        have r4 := (hall 4 (by decide)).2
        simp only [BrF1] at r4
        have r5 := (hall 5 (by decide)).2
        simp only [BrF1] at r5
        have r6 := (hall 6 (by decide)).2
        simp only [BrF1] at r6
        have r7 := (hall 7 (by decide)).2
        simp only [BrF1] at r7
        have r8 := (hall 8 (by decide)).2
        simp only [BrF1] at r8
        have r10 := (hall 10 (by decide)).2
        simp only [BrF1] at r10
        have r12 := (hall 12 (by decide)).2
        simp only [BrF1] at r12
        have r14 := (hall 14 (by decide)).2
        simp only [BrF1] at r14
        have hrY2 := hR.row
        rw [lay_all _ (by intro s hs; simp only [List.mem_cons, List.not_mem_nil, or_false] at hs; rcases hs with rfl | rfl | rfl | rfl; exact (hall 9 (by decide)).1; exact (hall 11 (by decide)).1; exact (hall 13 (by decide)).1; exact (hall 15 (by decide)).1)] at hrY2
        simp only [Lay, if_true, List.setIfInBounds_toArray, List.set_cons_zero, List.set_cons_succ] at hrY2
        have hgZ := hR.grown
        simp only [r0, r1, r2, r3, r4, r5, r6, r7, r8, r10, r12, r14]
        clear hR hall r0 r1 r2 r3 r4 r5 r6 r7 r8 r10 r12 r14
        have hzZ := (hgZ.block _ (lt_of_block HZY.out) (fun e => HNE2.out (Option.some.inj e).symm)).trans HZY.out
        have HRZ := Lib.hid hrY2
        have HZZ := Lib.hid hzZ
        have HG := Lib.hid hgZ
        clear hgZ hzZ hrY2
        go_upto_region 13 with (fail)
        go_step
        refine wpList_load_rec rfl (.tmp 3) rfl V.heap.size rfl _ HRZ.out rfl ?_
        refine wpList_store_rec rfl (.tmp 2) (.tmp 65) rfl (w.heap.size + 1) rfl _ rfl _ HZZ.out rfl rfl (by simp [Value.oneCell']) ?_
        intro U hrU hgU
        have HST : Hid (_ ∧ _) := ⟨hrU, hgU⟩
        clear hrU hgU
        go_wp2_with fail
        refine bodyPost_ret (v := .agg #[.int .i64 1, .int .u64 (lsn : Int), .int .u32 (ep : Int), .int .u64 0, .int .u32 (pg : Int), .int .u16 (off : Int), .slice p1 ol.length c1, .slice p2 nw.length c2, .slice none 0 0, .int .u64 0, .int .u64 0, .bool false, .int .u64 0, .slice none 0 0, .slice none 0 0]) (results_cell_row Tryz.results72 _ _ (w.heap.size + 1) _ _ _ _ rfl HST.out.1 Tryz.underlying40 rfl (rec_info rfl)) rfl ?_
        have hbU : Below w.heap.size w U := below_grown (below_grown HBY.out HG.out (Nat.le_of_lt (Nat.lt_trans HSZ.out HSY.out)) (Nat.le_of_lt HSZ.out)) HST.out.2 (Nat.le_trans (Nat.le_of_lt (Nat.lt_trans HSZ.out HSY.out)) HG.out.size) (Nat.le_succ _)
        have hAU := HA0.out.below hbU
        refine ⟨(.slice p1 ol.length c1), (.slice p2 nw.length c2), (.slice none 0 0), (.slice none 0 0), (.slice none 0 0), rfl, ?_, hbU⟩
        have hok := hAU.ok
        exact ⟨hAU.old, hAU.new, bts_none _, Chr.bts_nil _, Dir.bts_nil _, ok_bare hok⟩
  have k1 : (k == 1) = false := by rw [beq_eq_false_iff_ne]; exact h1
  by_cases h2 : k = 2
  · as_aux_lemma =>
      subst h2
      rw [show Lr.bare ⟨2, lsn, ep, txn, pg, off, ol, nw, un, pv, nx, cl, st, op, di⟩ = ⟨2, lsn, ep, txn, 0, 0, [], [], un, pv, nx, cl, 0, [], []⟩ from rfl]
      go_enter Tryz.func72, Tryz.ntmps72
      go_upto_region 1 with (fail)
      rw [← hW, ← hV]
      clear hW hV
      go_upto_region 2 with (fail)
      obtain ⟨Y, hY⟩ : ∃ Y, Y = V.alloc (.cells #[.int .i64 2, .int .u64 (lsn : Int), .int .u32 (ep : Int), .int .u64 0, .int .u32 0, .int .u16 0, .slice none 0 0, .slice none 0 0, .slice none 0 0, .int .u64 0, .int .u64 0, .bool false, .int .u64 0, .slice none 0 0, .slice none 0 0] 40) := ⟨_, rfl⟩
      have hbY : Below V.heap.size V Y := by rw [hY]; exact below_new1 _ _
      have HRY : Hid (Y.heap[V.heap.size]? = some (.cells #[.int .i64 2, .int .u64 (lsn : Int), .int .u32 (ep : Int), .int .u64 0, .int .u32 0, .int .u16 0, .slice none 0 0, .slice none 0 0, .slice none 0 0, .int .u64 0, .int .u64 0, .bool false, .int .u64 0, .slice none 0 0, .slice none 0 0] 40 (0, 0))) := by rw [hY]; exact heap_alloc_last _ _
      have HZY := Lib.hid ((hbY.block _ (lt_of_block HZ.out)).trans HZ.out)
      have hpY := (hbY.block _ (lt_of_block HR.out)).trans HR.out
      have HBY := Lib.hid (HB.out.trans (hbY.mono HB.out.size))
      have HSZ : Hid (w.heap.size < V.heap.size) := lt_of_block HR.out
      have HSY : Hid (V.heap.size < Y.heap.size) := lt_of_block HRY.out
      have HNE : Hid (¬ w.heap.size = V.heap.size) := fun e => Nat.ne_of_lt HSZ.out e
      have HNE2 : Hid (¬ V.heap.size = w.heap.size + 1) := by have := lt_of_block HZ.out; intro e; omega
      rw [← hY]
      clear hY hbY q0 q1 q2 q3 q4 q5 q6 q7 q8 q9 q10 q11 q12 q13 q14
      obtain ⟨q0, q1, q2, q3, q4, q5, q6, q7, q8, q9, q10, q11, q12, q13, q14⟩ := rec_cell hpY
      clear hpY
      have HQ0 := Lib.hid q0
      have HQ1 := Lib.hid q1
      have HQ2 := Lib.hid q2
      have HQ3 := Lib.hid q3
      have HQ4 := Lib.hid q4
      have HQ5 := Lib.hid q5
      have HQ6 := Lib.hid q6
      have HQ7 := Lib.hid q7
      have HQ8 := Lib.hid q8
      have HQ9 := Lib.hid q9
      have HQ10 := Lib.hid q10
      have HQ11 := Lib.hid q11
      have HQ12 := Lib.hid q12
      have HQ13 := Lib.hid q13
      have HQ14 := Lib.hid q14
      go_upto_region 6 with (fail)
      clear q0 q1 q2 q3 q4 q5 q6 q7 q8 q9 q10 q11 q12 q13 q14
      refine Ord.walk (BrF2 w.heap.size V.heap.size (.int .u64 (txn : Int)) (.int .u64 (pv : Int)) (.int .u64 (nx : Int)) (.bool cl) (.slice p3 un.length c3)) (fun D _ w2 => LayR Y V.heap.size #[.int .i64 2, .int .u64 (lsn : Int), .int .u32 (ep : Int), .int .u64 0, .int .u32 0, .int .u16 0, .slice none 0 0, .slice none 0 0, .slice none 0 0, .int .u64 0, .int .u64 0, .bool false, .int .u64 0, .slice none 0 0, .slice none 0 0] 40 [(11, 3, (.int .u64 (txn : Int))), (13, 9, (.int .u64 (pv : Int))), (15, 10, (.int .u64 (nx : Int))), (17, 11, (.bool cl)), (19, 8, (.slice p3 un.length c3))] D w2) (fun _ _ => True)
        (by kernel_rfl) (by kernel_rfl) ?fr2 ?hfr2 (fun _ _ _ _ _ h => h) (fun xs => LayR.first HRY.out) ?he2 ?hend2
      case hfr2 =>
        intro xs
        simp only [Ord.fill, Act.put, List.setIfInBounds_toArray, List.set_cons_zero, List.set_cons_succ]
        rfl
      case he2 =>
        refine Ord.each_cons (fun D xs w2 hD hC hP hR hA K hK => ?_) ?_
        · -- 0
          clear hA
          go_simp
          exact hK _ _ ⟨_, rfl, trivial, hR.skip rfl, rfl⟩
        refine Ord.each_cons (fun D xs w2 hD hC hP hR hA K hK => ?_) ?_
        · -- 1
          have q := Ord.ahead_get _ hA 0 (by decide)
          simp only [BrF2] at q
          simp only [q] at hK
          clear hA
          have cc := hR.cell HQ3.out HNE.out
          go_simp
          exact hK _ _ ⟨_, rfl, trivial, hR.skip rfl, rfl⟩
        refine Ord.each_cons (fun D xs w2 hD hC hP hR hA K hK => ?_) ?_
        · -- 2
          clear hA
          go_simp
          exact hK _ _ ⟨_, rfl, trivial, hR.skip rfl, rfl⟩
        refine Ord.each_cons (fun D xs w2 hD hC hP hR hA K hK => ?_) ?_
        · -- 3
          have q := Ord.ahead_get _ hA 2 (by decide)
          simp only [BrF2] at q
          simp only [q] at hK
          clear hA
          have cc := hR.cell HQ9.out HNE.out
          go_simp
          exact hK _ _ ⟨_, rfl, trivial, hR.skip rfl, rfl⟩
        refine Ord.each_cons (fun D xs w2 hD hC hP hR hA K hK => ?_) ?_
        · -- 4
          clear hA
          go_simp
          exact hK _ _ ⟨_, rfl, trivial, hR.skip rfl, rfl⟩
        refine Ord.each_cons (fun D xs w2 hD hC hP hR hA K hK => ?_) ?_
        · -- 5
          have q := Ord.ahead_get _ hA 4 (by decide)
          simp only [BrF2] at q
          simp only [q] at hK
          clear hA
          have cc := hR.cell HQ10.out HNE.out
          go_simp
          exact hK _ _ ⟨_, rfl, trivial, hR.skip rfl, rfl⟩
        refine Ord.each_cons (fun D xs w2 hD hC hP hR hA K hK => ?_) ?_
        · -- 6
          clear hA
          go_simp
          exact hK _ _ ⟨_, rfl, trivial, hR.skip rfl, rfl⟩
        refine Ord.each_cons (fun D xs w2 hD hC hP hR hA K hK => ?_) ?_
        · -- 7
          have q := Ord.ahead_get _ hA 6 (by decide)
          simp only [BrF2] at q
          simp only [q] at hK
          clear hA
          have cc := hR.cell HQ11.out HNE.out
          go_simp
          exact hK _ _ ⟨_, rfl, trivial, hR.skip rfl, rfl⟩
        refine Ord.each_cons (fun D xs w2 hD hC hP hR hA K hK => ?_) ?_
        · -- 8
          clear hA
          go_simp
          exact hK _ _ ⟨_, rfl, trivial, hR.skip rfl, rfl⟩
        refine Ord.each_cons (fun D xs w2 hD hC hP hR hA K hK => ?_) ?_
        · -- 9
          have q := Ord.ahead_get _ hA 8 (by decide)
          simp only [BrF2] at q
          simp only [q] at hK
          clear hA
          have cc := hR.cell HQ8.out HNE.out
          go_simp
          exact hK _ _ ⟨_, rfl, trivial, hR.skip rfl, rfl⟩
        refine Ord.each_cons (fun D xs w2 hD hC hP hR hA K hK => ?_) ?_
        · -- 10
          clear hA
          go_simp
          exact hK _ _ ⟨_, rfl, trivial, hR.skip rfl, rfl⟩
        refine Ord.each_cons (fun D xs w2 hD hC hP hR hA K hK => ?_) ?_
        · -- 11
          have q := Ord.ahead_get _ hA 10 (by decide)
          have qv := Ord.ahead_get _ hA 1 (by decide)
          simp only [BrF2] at q qv
          simp only [q, qv] at hK
          clear hA
          obtain ⟨u, cu⟩ := hR.there 3 (show 3 < 15 by decide)
          have ff := hR.free 3
          go_simp
          exact hK _ _ ⟨undef, rfl, trivial, hR.put 11 3 _ (by rfl) (by simp) hD, trivial⟩
        refine Ord.each_cons (fun D xs w2 hD hC hP hR hA K hK => ?_) ?_
        · -- 12
          clear hA
          go_simp
          exact hK _ _ ⟨_, rfl, trivial, hR.skip rfl, rfl⟩
        refine Ord.each_cons (fun D xs w2 hD hC hP hR hA K hK => ?_) ?_
        · -- 13
          have q := Ord.ahead_get _ hA 12 (by decide)
          have qv := Ord.ahead_get _ hA 3 (by decide)
          simp only [BrF2] at q qv
          simp only [q, qv] at hK
          clear hA
          obtain ⟨u, cu⟩ := hR.there 9 (show 9 < 15 by decide)
          have ff := hR.free 9
          go_simp
          exact hK _ _ ⟨undef, rfl, trivial, hR.put 13 9 _ (by rfl) (by simp) hD, trivial⟩
        refine Ord.each_cons (fun D xs w2 hD hC hP hR hA K hK => ?_) ?_
        · -- 14
          clear hA
          go_simp
          exact hK _ _ ⟨_, rfl, trivial, hR.skip rfl, rfl⟩
        refine Ord.each_cons (fun D xs w2 hD hC hP hR hA K hK => ?_) ?_
        · -- 15
          have q := Ord.ahead_get _ hA 14 (by decide)
          have qv := Ord.ahead_get _ hA 5 (by decide)
          simp only [BrF2] at q qv
          simp only [q, qv] at hK
          clear hA
          obtain ⟨u, cu⟩ := hR.there 10 (show 10 < 15 by decide)
          have ff := hR.free 10
          go_simp
          exact hK _ _ ⟨undef, rfl, trivial, hR.put 15 10 _ (by rfl) (by simp) hD, trivial⟩
        refine Ord.each_cons (fun D xs w2 hD hC hP hR hA K hK => ?_) ?_
        · -- 16
          clear hA
          go_simp
          exact hK _ _ ⟨_, rfl, trivial, hR.skip rfl, rfl⟩
        refine Ord.each_cons (fun D xs w2 hD hC hP hR hA K hK => ?_) ?_
        · -- 17
          have q := Ord.ahead_get _ hA 16 (by decide)
          have qv := Ord.ahead_get _ hA 7 (by decide)
          simp only [BrF2] at q qv
          simp only [q, qv] at hK
          clear hA
          obtain ⟨u, cu⟩ := hR.there 11 (show 11 < 15 by decide)
          have ff := hR.free 11
          go_simp
          exact hK _ _ ⟨undef, rfl, trivial, hR.put 17 11 _ (by rfl) (by simp) hD, trivial⟩
        refine Ord.each_cons (fun D xs w2 hD hC hP hR hA K hK => ?_) ?_
        · -- 18
          clear hA
          go_simp
          exact hK _ _ ⟨_, rfl, trivial, hR.skip rfl, rfl⟩
        refine Ord.each_cons (fun D xs w2 hD hC hP hR hA K hK => ?_) ?_
        · -- 19
          have q := Ord.ahead_get _ hA 18 (by decide)
          have qv := Ord.ahead_get _ hA 9 (by decide)
          simp only [BrF2] at q qv
          simp only [q, qv] at hK
          clear hA
          obtain ⟨u, cu⟩ := hR.there 8 (show 8 < 15 by decide)
          have ff := hR.free 8
          go_simp
          exact hK _ _ ⟨undef, rfl, trivial, hR.put 19 8 _ (by rfl) (by simp) hD, trivial⟩
        exact Ord.each_nil
      case hend2 =>
        intro D xs Z hR hall
        have r0 := (hall 0 (by decide)).2
        simp only [BrF2] at r0
        have r1 := (hall 1 (by decide)).2
        simp only [BrF2] at r1
        have r2 := (hall 2 (by decide)).2
        simp only [BrF2] at r2
        have r3 := (hall 3 (by decide)).2
        simp only [BrF2] at r3
        have r4 := (hall 4 (by decide)).2
        simp only [BrF2] at r4
        have r5 := (hall 5 (by decide)).2
        simp only [BrF2] at r5
        have r6 := (hall 6 (by decide)).2
        simp only [BrF2] at r6
        have r7 := (hall 7 (by decide)).2
        simp only [BrF2] at r7
        have r8 := (hall 8 (by decide)).2
        simp only [BrF2] at r8
        have r9 := (hall 9 (by decide)).2
        simp only [BrF2] at r9
        have r10 := (hall 10 (by decide)).2
        simp only [BrF2] at r10
        have r12 := (hall 12 (by decide)).2
        simp only [BrF2] at r12
        have r14 := (hall 14 (by decide)).2
        simp only [BrF2] at r14
        have r16 := (hall 16 (by decide)).2
        simp only [BrF2] at r16
        have r18 := (hall 18 (by decide)).2
        simp only [BrF2] at r18
        have hrY2 := hR.row
        rw [lay_all _ (by intro s hs; simp only [List.mem_cons, List.not_mem_nil, or_false] at hs; rcases hs with rfl | rfl | rfl | rfl | rfl; exact (hall 11 (by decide)).1; exact (hall 13 (by decide)).1; exact (hall 15 (by decide)).1; exact (hall 17 (by decide)).1; exact (hall 19 (by decide)).1)] at hrY2
        simp only [Lay, if_true, List.setIfInBounds_toArray, List.set_cons_zero, List.set_cons_succ] at hrY2
        have hgZ := hR.grown
        simp only [r0, r1, r2, r3, r4, r5, r6, r7, r8, r9, r10, r12, r14, r16, r18]
        clear hR hall r0 r1 r2 r3 r4 r5 r6 r7 r8 r9 r10 r12 r14 r16 r18
        have hzZ := (hgZ.block _ (lt_of_block HZY.out) (fun e => HNE2.out (Option.some.inj e).symm)).trans HZY.out
        have HRZ := Lib.hid hrY2
        have HZZ := Lib.hid hzZ
        have HG := Lib.hid hgZ
        clear hgZ hzZ hrY2
        go_upto_region 13 with (fail)
        go_step
        refine wpList_load_rec rfl (.tmp 3) rfl V.heap.size rfl _ HRZ.out rfl ?_
        refine wpList_store_rec rfl (.tmp 2) (.tmp 65) rfl (w.heap.size + 1) rfl _ rfl _ HZZ.out rfl rfl (by simp [Value.oneCell']) ?_
        intro U hrU hgU
        have HST : Hid (_ ∧ _) := ⟨hrU, hgU⟩
        clear hrU hgU
        go_wp2_with fail
        refine bodyPost_ret (v := .agg #[.int .i64 2, .int .u64 (lsn : Int), .int .u32 (ep : Int), .int .u64 (txn : Int), .int .u32 0, .int .u16 0, .slice none 0 0, .slice none 0 0, .slice p3 un.length c3, .int .u64 (pv : Int), .int .u64 (nx : Int), .bool cl, .int .u64 0, .slice none 0 0, .slice none 0 0]) (results_cell_row Tryz.results72 _ _ (w.heap.size + 1) _ _ _ _ rfl HST.out.1 Tryz.underlying40 rfl (rec_info rfl)) rfl ?_
        have hbU : Below w.heap.size w U := below_grown (below_grown HBY.out HG.out (Nat.le_of_lt (Nat.lt_trans HSZ.out HSY.out)) (Nat.le_of_lt HSZ.out)) HST.out.2 (Nat.le_trans (Nat.le_of_lt (Nat.lt_trans HSZ.out HSY.out)) HG.out.size) (Nat.le_succ _)
        have hAU := HA0.out.below hbU
        refine ⟨(.slice none 0 0), (.slice none 0 0), (.slice p3 un.length c3), (.slice none 0 0), (.slice none 0 0), rfl, ?_, hbU⟩
        have hok := hAU.ok
        exact ⟨bts_none _, bts_none _, hAU.undo, Chr.bts_nil _, Dir.bts_nil _, ok_bare hok⟩
  have k2 : (k == 2) = false := by rw [beq_eq_false_iff_ne]; exact h2
  by_cases h3 : k = 3
  · as_aux_lemma =>
      subst h3
      rw [show Lr.bare ⟨3, lsn, ep, txn, pg, off, ol, nw, un, pv, nx, cl, st, op, di⟩ = ⟨3, lsn, ep, txn, 0, 0, [], [], [], 0, 0, false, st, [], []⟩ from rfl]
      go_enter Tryz.func72, Tryz.ntmps72
      go_upto_region 1 with (fail)
      rw [← hW, ← hV]
      clear hW hV
      go_upto_region 2 with (fail)
      obtain ⟨Y, hY⟩ : ∃ Y, Y = V.alloc (.cells #[.int .i64 3, .int .u64 (lsn : Int), .int .u32 (ep : Int), .int .u64 0, .int .u32 0, .int .u16 0, .slice none 0 0, .slice none 0 0, .slice none 0 0, .int .u64 0, .int .u64 0, .bool false, .int .u64 0, .slice none 0 0, .slice none 0 0] 40) := ⟨_, rfl⟩
      have hbY : Below V.heap.size V Y := by rw [hY]; exact below_new1 _ _
      have HRY : Hid (Y.heap[V.heap.size]? = some (.cells #[.int .i64 3, .int .u64 (lsn : Int), .int .u32 (ep : Int), .int .u64 0, .int .u32 0, .int .u16 0, .slice none 0 0, .slice none 0 0, .slice none 0 0, .int .u64 0, .int .u64 0, .bool false, .int .u64 0, .slice none 0 0, .slice none 0 0] 40 (0, 0))) := by rw [hY]; exact heap_alloc_last _ _
      have HZY := Lib.hid ((hbY.block _ (lt_of_block HZ.out)).trans HZ.out)
      have hpY := (hbY.block _ (lt_of_block HR.out)).trans HR.out
      have HBY := Lib.hid (HB.out.trans (hbY.mono HB.out.size))
      have HSZ : Hid (w.heap.size < V.heap.size) := lt_of_block HR.out
      have HSY : Hid (V.heap.size < Y.heap.size) := lt_of_block HRY.out
      have HNE : Hid (¬ w.heap.size = V.heap.size) := fun e => Nat.ne_of_lt HSZ.out e
      have HNE2 : Hid (¬ V.heap.size = w.heap.size + 1) := by have := lt_of_block HZ.out; intro e; omega
      rw [← hY]
      clear hY hbY q0 q1 q2 q3 q4 q5 q6 q7 q8 q9 q10 q11 q12 q13 q14
      obtain ⟨q0, q1, q2, q3, q4, q5, q6, q7, q8, q9, q10, q11, q12, q13, q14⟩ := rec_cell hpY
      clear hpY
      have HQ0 := Lib.hid q0
      have HQ1 := Lib.hid q1
      have HQ2 := Lib.hid q2
      have HQ3 := Lib.hid q3
      have HQ4 := Lib.hid q4
      have HQ5 := Lib.hid q5
      have HQ6 := Lib.hid q6
      have HQ7 := Lib.hid q7
      have HQ8 := Lib.hid q8
      have HQ9 := Lib.hid q9
      have HQ10 := Lib.hid q10
      have HQ11 := Lib.hid q11
      have HQ12 := Lib.hid q12
      have HQ13 := Lib.hid q13
      have HQ14 := Lib.hid q14
      go_upto_region 8 with (fail)
      clear q0 q1 q2 q3 q4 q5 q6 q7 q8 q9 q10 q11 q12 q13 q14
      refine Ord.walk (BrF3 w.heap.size V.heap.size (.int .u64 (txn : Int)) (.int .u64 (st : Int))) (fun D _ w2 => LayR Y V.heap.size #[.int .i64 3, .int .u64 (lsn : Int), .int .u32 (ep : Int), .int .u64 0, .int .u32 0, .int .u16 0, .slice none 0 0, .slice none 0 0, .slice none 0 0, .int .u64 0, .int .u64 0, .bool false, .int .u64 0, .slice none 0 0, .slice none 0 0] 40 [(5, 3, (.int .u64 (txn : Int))), (7, 12, (.int .u64 (st : Int)))] D w2) (fun _ _ => True)
        (by kernel_rfl) (by kernel_rfl) ?fr3 ?hfr3 (fun _ _ _ _ _ h => h) (fun xs => LayR.first HRY.out) ?he3 ?hend3
      case hfr3 =>
        intro xs
        simp only [Ord.fill, Act.put, List.setIfInBounds_toArray, List.set_cons_zero, List.set_cons_succ]
        rfl
      case he3 =>
        refine Ord.each_cons (fun D xs w2 hD hC hP hR hA K hK => ?_) ?_
        · -- 0
          clear hA
          go_simp
          exact hK _ _ ⟨_, rfl, trivial, hR.skip rfl, rfl⟩
        refine Ord.each_cons (fun D xs w2 hD hC hP hR hA K hK => ?_) ?_
        · -- 1
          have q := Ord.ahead_get _ hA 0 (by decide)
          simp only [BrF3] at q
          simp only [q] at hK
          clear hA
          have cc := hR.cell HQ3.out HNE.out
          go_simp
          exact hK _ _ ⟨_, rfl, trivial, hR.skip rfl, rfl⟩
        refine Ord.each_cons (fun D xs w2 hD hC hP hR hA K hK => ?_) ?_
        · -- 2
          clear hA
          go_simp
          exact hK _ _ ⟨_, rfl, trivial, hR.skip rfl, rfl⟩
        refine Ord.each_cons (fun D xs w2 hD hC hP hR hA K hK => ?_) ?_
        · -- 3
          have q := Ord.ahead_get _ hA 2 (by decide)
          simp only [BrF3] at q
          simp only [q] at hK
          clear hA
          have cc := hR.cell HQ12.out HNE.out
          go_simp
          exact hK _ _ ⟨_, rfl, trivial, hR.skip rfl, rfl⟩
        refine Ord.each_cons (fun D xs w2 hD hC hP hR hA K hK => ?_) ?_
        · -- 4
          clear hA
          go_simp
          exact hK _ _ ⟨_, rfl, trivial, hR.skip rfl, rfl⟩
        refine Ord.each_cons (fun D xs w2 hD hC hP hR hA K hK => ?_) ?_
        · -- 5
          have q := Ord.ahead_get _ hA 4 (by decide)
          have qv := Ord.ahead_get _ hA 1 (by decide)
          simp only [BrF3] at q qv
          simp only [q, qv] at hK
          clear hA
          obtain ⟨u, cu⟩ := hR.there 3 (show 3 < 15 by decide)
          have ff := hR.free 3
          go_simp
          exact hK _ _ ⟨undef, rfl, trivial, hR.put 5 3 _ (by rfl) (by simp) hD, trivial⟩
        refine Ord.each_cons (fun D xs w2 hD hC hP hR hA K hK => ?_) ?_
        · -- 6
          clear hA
          go_simp
          exact hK _ _ ⟨_, rfl, trivial, hR.skip rfl, rfl⟩
        refine Ord.each_cons (fun D xs w2 hD hC hP hR hA K hK => ?_) ?_
        · -- 7
          have q := Ord.ahead_get _ hA 6 (by decide)
          have qv := Ord.ahead_get _ hA 3 (by decide)
          simp only [BrF3] at q qv
          simp only [q, qv] at hK
          clear hA
          obtain ⟨u, cu⟩ := hR.there 12 (show 12 < 15 by decide)
          have ff := hR.free 12
          go_simp
          exact hK _ _ ⟨undef, rfl, trivial, hR.put 7 12 _ (by rfl) (by simp) hD, trivial⟩
        exact Ord.each_nil
      case hend3 =>
        intro D xs Z hR hall
        have r0 := (hall 0 (by decide)).2
        simp only [BrF3] at r0
        have r1 := (hall 1 (by decide)).2
        simp only [BrF3] at r1
        have r2 := (hall 2 (by decide)).2
        simp only [BrF3] at r2
        have r3 := (hall 3 (by decide)).2
        simp only [BrF3] at r3
        have r4 := (hall 4 (by decide)).2
        simp only [BrF3] at r4
        have r6 := (hall 6 (by decide)).2
        simp only [BrF3] at r6
        have hrY2 := hR.row
        rw [lay_all _ (by intro s hs; simp only [List.mem_cons, List.not_mem_nil, or_false] at hs; rcases hs with rfl | rfl; exact (hall 5 (by decide)).1; exact (hall 7 (by decide)).1)] at hrY2
        simp only [Lay, if_true, List.setIfInBounds_toArray, List.set_cons_zero, List.set_cons_succ] at hrY2
        have hgZ := hR.grown
        simp only [r0, r1, r2, r3, r4, r6]
        clear hR hall r0 r1 r2 r3 r4 r6
        have hzZ := (hgZ.block _ (lt_of_block HZY.out) (fun e => HNE2.out (Option.some.inj e).symm)).trans HZY.out
        have HRZ := Lib.hid hrY2
        have HZZ := Lib.hid hzZ
        have HG := Lib.hid hgZ
        clear hgZ hzZ hrY2
        go_upto_region 13 with (fail)
        go_step
        refine wpList_load_rec rfl (.tmp 3) rfl V.heap.size rfl _ HRZ.out rfl ?_
        refine wpList_store_rec rfl (.tmp 2) (.tmp 65) rfl (w.heap.size + 1) rfl _ rfl _ HZZ.out rfl rfl (by simp [Value.oneCell']) ?_
        intro U hrU hgU
        have HST : Hid (_ ∧ _) := ⟨hrU, hgU⟩
        clear hrU hgU
        go_wp2_with fail
        refine bodyPost_ret (v := .agg #[.int .i64 3, .int .u64 (lsn : Int), .int .u32 (ep : Int), .int .u64 (txn : Int), .int .u32 0, .int .u16 0, .slice none 0 0, .slice none 0 0, .slice none 0 0, .int .u64 0, .int .u64 0, .bool false, .int .u64 (st : Int), .slice none 0 0, .slice none 0 0]) (results_cell_row Tryz.results72 _ _ (w.heap.size + 1) _ _ _ _ rfl HST.out.1 Tryz.underlying40 rfl (rec_info rfl)) rfl ?_
        have hbU : Below w.heap.size w U := below_grown (below_grown HBY.out HG.out (Nat.le_of_lt (Nat.lt_trans HSZ.out HSY.out)) (Nat.le_of_lt HSZ.out)) HST.out.2 (Nat.le_trans (Nat.le_of_lt (Nat.lt_trans HSZ.out HSY.out)) HG.out.size) (Nat.le_succ _)
        have hAU := HA0.out.below hbU
        refine ⟨(.slice none 0 0), (.slice none 0 0), (.slice none 0 0), (.slice none 0 0), (.slice none 0 0), rfl, ?_, hbU⟩
        have hok := hAU.ok
        exact ⟨bts_none _, bts_none _, bts_none _, Chr.bts_nil _, Dir.bts_nil _, ok_bare hok⟩
  have k3 : (k == 3) = false := by rw [beq_eq_false_iff_ne]; exact h3
  by_cases h4 : k = 4
  · as_aux_lemma =>
      subst h4
      rw [show Lr.bare ⟨4, lsn, ep, txn, pg, off, ol, nw, un, pv, nx, cl, st, op, di⟩ = ⟨4, lsn, ep, txn, 0, 0, [], [], [], 0, 0, false, 0, [], []⟩ from rfl]
      go_enter Tryz.func72, Tryz.ntmps72
      go_upto_region 1 with (fail)
      rw [← hW, ← hV]
      clear hW hV
      go_upto_region 2 with (fail)
      obtain ⟨Y, hY⟩ : ∃ Y, Y = V.alloc (.cells #[.int .i64 4, .int .u64 (lsn : Int), .int .u32 (ep : Int), .int .u64 0, .int .u32 0, .int .u16 0, .slice none 0 0, .slice none 0 0, .slice none 0 0, .int .u64 0, .int .u64 0, .bool false, .int .u64 0, .slice none 0 0, .slice none 0 0] 40) := ⟨_, rfl⟩
      have hbY : Below V.heap.size V Y := by rw [hY]; exact below_new1 _ _
      have HRY : Hid (Y.heap[V.heap.size]? = some (.cells #[.int .i64 4, .int .u64 (lsn : Int), .int .u32 (ep : Int), .int .u64 0, .int .u32 0, .int .u16 0, .slice none 0 0, .slice none 0 0, .slice none 0 0, .int .u64 0, .int .u64 0, .bool false, .int .u64 0, .slice none 0 0, .slice none 0 0] 40 (0, 0))) := by rw [hY]; exact heap_alloc_last _ _
      have HZY := Lib.hid ((hbY.block _ (lt_of_block HZ.out)).trans HZ.out)
      have hpY := (hbY.block _ (lt_of_block HR.out)).trans HR.out
      have HBY := Lib.hid (HB.out.trans (hbY.mono HB.out.size))
      have HSZ : Hid (w.heap.size < V.heap.size) := lt_of_block HR.out
      have HSY : Hid (V.heap.size < Y.heap.size) := lt_of_block HRY.out
      have HNE : Hid (¬ w.heap.size = V.heap.size) := fun e => Nat.ne_of_lt HSZ.out e
      have HNE2 : Hid (¬ V.heap.size = w.heap.size + 1) := by have := lt_of_block HZ.out; intro e; omega
      rw [← hY]
      clear hY hbY q0 q1 q2 q3 q4 q5 q6 q7 q8 q9 q10 q11 q12 q13 q14
      obtain ⟨q0, q1, q2, q3, q4, q5, q6, q7, q8, q9, q10, q11, q12, q13, q14⟩ := rec_cell hpY
      clear hpY
      have y := rec_cell HRY.out
      obtain ⟨y0, y1, y2, y3, y4, y5, y6, y7, y8, y9, y10, y11, y12, y13, y14⟩ := y
      have fy := rec_free HRY.out
      have hne := HNE.out
      go_upto_region 13 with (fail)
      have hrY2 := HRY.out
      have hrY2 := rec_set (i := 3) (.int .u64 (txn : Int)) hrY2
      simp only [List.setIfInBounds_toArray, List.set_cons_zero, List.set_cons_succ] at hrY2
      have hgZ : Y.grownBy (Y.setCell ⟨V.heap.size, 3, none⟩ (.int .u64 (txn : Int))) (some V.heap.size) := grownBy_setCell _ _ _ _
      obtain ⟨Z, hZ⟩ : ∃ Z, Z = (Y.setCell ⟨V.heap.size, 3, none⟩ (.int .u64 (txn : Int))) := ⟨_, rfl⟩
      rw [← hZ] at hgZ hrY2 ⊢
      clear hZ
      clear fy hne y0 q0 y1 q1 y2 q2 y3 q3 y4 q4 y5 q5 y6 q6 y7 q7 y8 q8 y9 q9 y10 q10 y11 q11 y12 q12 y13 q13 y14 q14
      have hzZ := (hgZ.block _ (lt_of_block HZY.out) (fun e => HNE2.out (Option.some.inj e).symm)).trans HZY.out
      have HRZ := Lib.hid hrY2
      have HZZ := Lib.hid hzZ
      have HG := Lib.hid hgZ
      clear hgZ hzZ hrY2
      go_upto_region 13 with (fail)
      go_step
      refine wpList_load_rec rfl (.tmp 3) rfl V.heap.size rfl _ HRZ.out rfl ?_
      refine wpList_store_rec rfl (.tmp 2) (.tmp 65) rfl (w.heap.size + 1) rfl _ rfl _ HZZ.out rfl rfl (by simp [Value.oneCell']) ?_
      intro U hrU hgU
      have HST : Hid (_ ∧ _) := ⟨hrU, hgU⟩
      clear hrU hgU
      go_wp2_with fail
      refine bodyPost_ret (v := .agg #[.int .i64 4, .int .u64 (lsn : Int), .int .u32 (ep : Int), .int .u64 (txn : Int), .int .u32 0, .int .u16 0, .slice none 0 0, .slice none 0 0, .slice none 0 0, .int .u64 0, .int .u64 0, .bool false, .int .u64 0, .slice none 0 0, .slice none 0 0]) (results_cell_row Tryz.results72 _ _ (w.heap.size + 1) _ _ _ _ rfl HST.out.1 Tryz.underlying40 rfl (rec_info rfl)) rfl ?_
      have hbU : Below w.heap.size w U := below_grown (below_grown HBY.out HG.out (Nat.le_of_lt (Nat.lt_trans HSZ.out HSY.out)) (Nat.le_of_lt HSZ.out)) HST.out.2 (Nat.le_trans (Nat.le_of_lt (Nat.lt_trans HSZ.out HSY.out)) HG.out.size) (Nat.le_succ _)
      have hAU := HA0.out.below hbU
      refine ⟨(.slice none 0 0), (.slice none 0 0), (.slice none 0 0), (.slice none 0 0), (.slice none 0 0), rfl, ?_, hbU⟩
      have hok := hAU.ok
      exact ⟨bts_none _, bts_none _, bts_none _, Chr.bts_nil _, Dir.bts_nil _, ok_bare hok⟩
  have k4 : (k == 4) = false := by rw [beq_eq_false_iff_ne]; exact h4
  by_cases h5 : k = 5
  · as_aux_lemma =>
      subst h5
      rw [show Lr.bare ⟨5, lsn, ep, txn, pg, off, ol, nw, un, pv, nx, cl, st, op, di⟩ = ⟨5, lsn, ep, 0, 0, 0, [], [], [], 0, 0, false, 0, op, di⟩ from rfl]
      go_enter Tryz.func72, Tryz.ntmps72
      go_upto_region 1 with (fail)
      rw [← hW, ← hV]
      clear hW hV
      go_upto_region 2 with (fail)
      obtain ⟨Y, hY⟩ : ∃ Y, Y = V.alloc (.cells #[.int .i64 5, .int .u64 (lsn : Int), .int .u32 (ep : Int), .int .u64 0, .int .u32 0, .int .u16 0, .slice none 0 0, .slice none 0 0, .slice none 0 0, .int .u64 0, .int .u64 0, .bool false, .int .u64 0, .slice none 0 0, .slice none 0 0] 40) := ⟨_, rfl⟩
      have hbY : Below V.heap.size V Y := by rw [hY]; exact below_new1 _ _
      have HRY : Hid (Y.heap[V.heap.size]? = some (.cells #[.int .i64 5, .int .u64 (lsn : Int), .int .u32 (ep : Int), .int .u64 0, .int .u32 0, .int .u16 0, .slice none 0 0, .slice none 0 0, .slice none 0 0, .int .u64 0, .int .u64 0, .bool false, .int .u64 0, .slice none 0 0, .slice none 0 0] 40 (0, 0))) := by rw [hY]; exact heap_alloc_last _ _
      have HZY := Lib.hid ((hbY.block _ (lt_of_block HZ.out)).trans HZ.out)
      have hpY := (hbY.block _ (lt_of_block HR.out)).trans HR.out
      have HBY := Lib.hid (HB.out.trans (hbY.mono HB.out.size))
      have HSZ : Hid (w.heap.size < V.heap.size) := lt_of_block HR.out
      have HSY : Hid (V.heap.size < Y.heap.size) := lt_of_block HRY.out
      have HNE : Hid (¬ w.heap.size = V.heap.size) := fun e => Nat.ne_of_lt HSZ.out e
      have HNE2 : Hid (¬ V.heap.size = w.heap.size + 1) := by have := lt_of_block HZ.out; intro e; omega
      rw [← hY]
      clear hY hbY q0 q1 q2 q3 q4 q5 q6 q7 q8 q9 q10 q11 q12 q13 q14
      obtain ⟨q0, q1, q2, q3, q4, q5, q6, q7, q8, q9, q10, q11, q12, q13, q14⟩ := rec_cell hpY
      clear hpY
      have HQ0 := Lib.hid q0
      have HQ1 := Lib.hid q1
      have HQ2 := Lib.hid q2
      have HQ3 := Lib.hid q3
      have HQ4 := Lib.hid q4
      have HQ5 := Lib.hid q5
      have HQ6 := Lib.hid q6
      have HQ7 := Lib.hid q7
      have HQ8 := Lib.hid q8
      have HQ9 := Lib.hid q9
      have HQ10 := Lib.hid q10
      have HQ11 := Lib.hid q11
      have HQ12 := Lib.hid q12
      have HQ13 := Lib.hid q13
      have HQ14 := Lib.hid q14
      go_upto_region 12 with (fail)
      clear q0 q1 q2 q3 q4 q5 q6 q7 q8 q9 q10 q11 q12 q13 q14
      refine Ord.walk (BrF5 w.heap.size V.heap.size (.slice p4 op.length c4) (.slice p5 di.length c5)) (fun D _ w2 => LayR Y V.heap.size #[.int .i64 5, .int .u64 (lsn : Int), .int .u32 (ep : Int), .int .u64 0, .int .u32 0, .int .u16 0, .slice none 0 0, .slice none 0 0, .slice none 0 0, .int .u64 0, .int .u64 0, .bool false, .int .u64 0, .slice none 0 0, .slice none 0 0] 40 [(5, 13, (.slice p4 op.length c4)), (7, 14, (.slice p5 di.length c5))] D w2) (fun _ _ => True)
        (by kernel_rfl) (by kernel_rfl) ?fr5 ?hfr5 (fun _ _ _ _ _ h => h) (fun xs => LayR.first HRY.out) ?he5 ?hend5
      case hfr5 =>
        intro xs
        simp only [Ord.fill, Act.put, List.setIfInBounds_toArray, List.set_cons_zero, List.set_cons_succ]
        rfl
      case he5 =>
        refine Ord.each_cons (fun D xs w2 hD hC hP hR hA K hK => ?_) ?_
        · -- 0
          clear hA
          go_simp
          exact hK _ _ ⟨_, rfl, trivial, hR.skip rfl, rfl⟩
        refine Ord.each_cons (fun D xs w2 hD hC hP hR hA K hK => ?_) ?_
        · -- 1
          have q := Ord.ahead_get _ hA 0 (by decide)
          simp only [BrF5] at q
          simp only [q] at hK
          clear hA
          have cc := hR.cell HQ13.out HNE.out
          go_simp
          exact hK _ _ ⟨_, rfl, trivial, hR.skip rfl, rfl⟩
        refine Ord.each_cons (fun D xs w2 hD hC hP hR hA K hK => ?_) ?_
        · -- 2
          clear hA
          go_simp
          exact hK _ _ ⟨_, rfl, trivial, hR.skip rfl, rfl⟩
        refine Ord.each_cons (fun D xs w2 hD hC hP hR hA K hK => ?_) ?_
        · -- 3
          have q := Ord.ahead_get _ hA 2 (by decide)
          simp only [BrF5] at q
          simp only [q] at hK
          clear hA
          have cc := hR.cell HQ14.out HNE.out
          go_simp
          exact hK _ _ ⟨_, rfl, trivial, hR.skip rfl, rfl⟩
        refine Ord.each_cons (fun D xs w2 hD hC hP hR hA K hK => ?_) ?_
        · -- 4
          clear hA
          go_simp
          exact hK _ _ ⟨_, rfl, trivial, hR.skip rfl, rfl⟩
        refine Ord.each_cons (fun D xs w2 hD hC hP hR hA K hK => ?_) ?_
        · -- 5
          have q := Ord.ahead_get _ hA 4 (by decide)
          have qv := Ord.ahead_get _ hA 1 (by decide)
          simp only [BrF5] at q qv
          simp only [q, qv] at hK
          clear hA
          obtain ⟨u, cu⟩ := hR.there 13 (show 13 < 15 by decide)
          have ff := hR.free 13
          go_simp
          exact hK _ _ ⟨undef, rfl, trivial, hR.put 5 13 _ (by rfl) (by simp) hD, trivial⟩
        refine Ord.each_cons (fun D xs w2 hD hC hP hR hA K hK => ?_) ?_
        · -- 6
          clear hA
          go_simp
          exact hK _ _ ⟨_, rfl, trivial, hR.skip rfl, rfl⟩
        refine Ord.each_cons (fun D xs w2 hD hC hP hR hA K hK => ?_) ?_
        · -- 7
          have q := Ord.ahead_get _ hA 6 (by decide)
          have qv := Ord.ahead_get _ hA 3 (by decide)
          simp only [BrF5] at q qv
          simp only [q, qv] at hK
          clear hA
          obtain ⟨u, cu⟩ := hR.there 14 (show 14 < 15 by decide)
          have ff := hR.free 14
          go_simp
          exact hK _ _ ⟨undef, rfl, trivial, hR.put 7 14 _ (by rfl) (by simp) hD, trivial⟩
        exact Ord.each_nil
      case hend5 =>
        intro D xs Z hR hall
        have r0 := (hall 0 (by decide)).2
        simp only [BrF5] at r0
        have r1 := (hall 1 (by decide)).2
        simp only [BrF5] at r1
        have r2 := (hall 2 (by decide)).2
        simp only [BrF5] at r2
        have r3 := (hall 3 (by decide)).2
        simp only [BrF5] at r3
        have r4 := (hall 4 (by decide)).2
        simp only [BrF5] at r4
        have r6 := (hall 6 (by decide)).2
        simp only [BrF5] at r6
        have hrY2 := hR.row
        rw [lay_all _ (by intro s hs; simp only [List.mem_cons, List.not_mem_nil, or_false] at hs; rcases hs with rfl | rfl; exact (hall 5 (by decide)).1; exact (hall 7 (by decide)).1)] at hrY2
        simp only [Lay, if_true, List.setIfInBounds_toArray, List.set_cons_zero, List.set_cons_succ] at hrY2
        have hgZ := hR.grown
        simp only [r0, r1, r2, r3, r4, r6]
        clear hR hall r0 r1 r2 r3 r4 r6
        have hzZ := (hgZ.block _ (lt_of_block HZY.out) (fun e => HNE2.out (Option.some.inj e).symm)).trans HZY.out
        have HRZ := Lib.hid hrY2
        have HZZ := Lib.hid hzZ
        have HG := Lib.hid hgZ
        clear hgZ hzZ hrY2
        go_upto_region 13 with (fail)
        go_step
        refine wpList_load_rec rfl (.tmp 3) rfl V.heap.size rfl _ HRZ.out rfl ?_
        refine wpList_store_rec rfl (.tmp 2) (.tmp 65) rfl (w.heap.size + 1) rfl _ rfl _ HZZ.out rfl rfl (by simp [Value.oneCell']) ?_
        intro U hrU hgU
        have HST : Hid (_ ∧ _) := ⟨hrU, hgU⟩
        clear hrU hgU
        go_wp2_with fail
        refine bodyPost_ret (v := .agg #[.int .i64 5, .int .u64 (lsn : Int), .int .u32 (ep : Int), .int .u64 0, .int .u32 0, .int .u16 0, .slice none 0 0, .slice none 0 0, .slice none 0 0, .int .u64 0, .int .u64 0, .bool false, .int .u64 0, .slice p4 op.length c4, .slice p5 di.length c5]) (results_cell_row Tryz.results72 _ _ (w.heap.size + 1) _ _ _ _ rfl HST.out.1 Tryz.underlying40 rfl (rec_info rfl)) rfl ?_
        have hbU : Below w.heap.size w U := below_grown (below_grown HBY.out HG.out (Nat.le_of_lt (Nat.lt_trans HSZ.out HSY.out)) (Nat.le_of_lt HSZ.out)) HST.out.2 (Nat.le_trans (Nat.le_of_lt (Nat.lt_trans HSZ.out HSY.out)) HG.out.size) (Nat.le_succ _)
        have hAU := HA0.out.below hbU
        refine ⟨(.slice none 0 0), (.slice none 0 0), (.slice none 0 0), (.slice p4 op.length c4), (.slice p5 di.length c5), rfl, ?_, hbU⟩
        have hok := hAU.ok
        exact ⟨bts_none _, bts_none _, bts_none _, hAU.opn, hAU.dirt, ok_bare hok⟩
  have k5 : (k == 5) = false := by rw [beq_eq_false_iff_ne]; exact h5
  rw [show Lr.bare ⟨k, lsn, ep, txn, pg, off, ol, nw, un, pv, nx, cl, st, op, di⟩ = ⟨k, lsn, ep, 0, 0, 0, [], [], [], 0, 0, false, 0, [], []⟩ by unfold Lr.bare; simp only [if_neg h1, if_neg h2, if_neg h3, if_neg h4, if_neg h5]]
  go_enter Tryz.func72, Tryz.ntmps72
  go_upto_region 1 with (fail)
  rw [← hW, ← hV]
  clear hW hV
  go_upto_region 2 with (fail)
  obtain ⟨Y, hY⟩ : ∃ Y, Y = V.alloc (.cells #[.int .i64 k, .int .u64 (lsn : Int), .int .u32 (ep : Int), .int .u64 0, .int .u32 0, .int .u16 0, .slice none 0 0, .slice none 0 0, .slice none 0 0, .int .u64 0, .int .u64 0, .bool false, .int .u64 0, .slice none 0 0, .slice none 0 0] 40) := ⟨_, rfl⟩
  have hbY : Below V.heap.size V Y := by rw [hY]; exact below_new1 _ _
  have HRY : Hid (Y.heap[V.heap.size]? = some (.cells #[.int .i64 k, .int .u64 (lsn : Int), .int .u32 (ep : Int), .int .u64 0, .int .u32 0, .int .u16 0, .slice none 0 0, .slice none 0 0, .slice none 0 0, .int .u64 0, .int .u64 0, .bool false, .int .u64 0, .slice none 0 0, .slice none 0 0] 40 (0, 0))) := by rw [hY]; exact heap_alloc_last _ _
  have HZY := Lib.hid ((hbY.block _ (lt_of_block HZ.out)).trans HZ.out)
  have hpY := (hbY.block _ (lt_of_block HR.out)).trans HR.out
  have HBY := Lib.hid (HB.out.trans (hbY.mono HB.out.size))
  have HSZ : Hid (w.heap.size < V.heap.size) := lt_of_block HR.out
  have HSY : Hid (V.heap.size < Y.heap.size) := lt_of_block HRY.out
  have HNE : Hid (¬ w.heap.size = V.heap.size) := fun e => Nat.ne_of_lt HSZ.out e
  have HNE2 : Hid (¬ V.heap.size = w.heap.size + 1) := by have := lt_of_block HZ.out; intro e; omega
  rw [← hY]
  clear hY hbY q0 q1 q2 q3 q4 q5 q6 q7 q8 q9 q10 q11 q12 q13 q14
  obtain ⟨q0, q1, q2, q3, q4, q5, q6, q7, q8, q9, q10, q11, q12, q13, q14⟩ := rec_cell hpY
  clear hpY
  have y := rec_cell HRY.out
  obtain ⟨y0, y1, y2, y3, y4, y5, y6, y7, y8, y9, y10, y11, y12, y13, y14⟩ := y
  have fy := rec_free HRY.out
  have hne := HNE.out
  go_upto_region 13 with (fail)
  have hrY2 := HRY.out
  have hgZ : Y.grownBy Y (some V.heap.size) := grownBy_refl _ _
  obtain ⟨Z, hZ⟩ : ∃ Z, Z = Y := ⟨_, rfl⟩
  subst hZ
  clear fy hne y0 q0 y1 q1 y2 q2 y3 q3 y4 q4 y5 q5 y6 q6 y7 q7 y8 q8 y9 q9 y10 q10 y11 q11 y12 q12 y13 q13 y14 q14
  have hzZ := (hgZ.block _ (lt_of_block HZY.out) (fun e => HNE2.out (Option.some.inj e).symm)).trans HZY.out
  have HRZ := Lib.hid hrY2
  have HZZ := Lib.hid hzZ
  have HG := Lib.hid hgZ
  clear hgZ hzZ hrY2
  go_upto_region 13 with (fail)
  go_step
  refine wpList_load_rec rfl (.tmp 3) rfl V.heap.size rfl _ HRZ.out rfl ?_
  refine wpList_store_rec rfl (.tmp 2) (.tmp 65) rfl (w.heap.size + 1) rfl _ rfl _ HZZ.out rfl rfl (by simp [Value.oneCell']) ?_
  intro U hrU hgU
  have HST : Hid (_ ∧ _) := ⟨hrU, hgU⟩
  clear hrU hgU
  go_wp2_with fail
  refine bodyPost_ret (v := .agg #[.int .i64 k, .int .u64 (lsn : Int), .int .u32 (ep : Int), .int .u64 0, .int .u32 0, .int .u16 0, .slice none 0 0, .slice none 0 0, .slice none 0 0, .int .u64 0, .int .u64 0, .bool false, .int .u64 0, .slice none 0 0, .slice none 0 0]) (results_cell_row Tryz.results72 _ _ (w.heap.size + 1) _ _ _ _ rfl HST.out.1 Tryz.underlying40 rfl (rec_info rfl)) rfl ?_
  have hbU : Below w.heap.size w U := below_grown (below_grown HBY.out HG.out (Nat.le_of_lt (Nat.lt_trans HSZ.out HSY.out)) (Nat.le_of_lt HSZ.out)) HST.out.2 (Nat.le_trans (Nat.le_of_lt (Nat.lt_trans HSZ.out HSY.out)) HG.out.size) (Nat.le_succ _)
  have hAU := HA0.out.below hbU
  refine ⟨(.slice none 0 0), (.slice none 0 0), (.slice none 0 0), (.slice none 0 0), (.slice none 0 0), rfl, ?_, hbU⟩
  have hok := hAU.ok
  exact ⟨bts_none _, bts_none _, bts_none _, Chr.bts_nil _, Dir.bts_nil _, ok_bare hok⟩

end Go.Proofs.YtafpjcobagofcaaGreat
