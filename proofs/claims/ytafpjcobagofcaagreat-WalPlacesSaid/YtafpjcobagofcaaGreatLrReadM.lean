/- What bytes are read as, plainly: at most one record. Conditions: none. What the program's Read answers. Conditions: the slice's cells hold the bytes; at most 6000. -/
import Derived.Test.YtafpjcobagofcaaGreatRecM
import Derived.Test.YtafpjcobagofcaaGreatLrTakeM
import Derived.Test.YtafpjcobagofcaaGreatLrBytesM
import Derived.Test.YtafpjcobagofcaaGreatLrEq
namespace Go.Proofs.YtafpjcobagofcaaGreat.Lr
open Go.Proofs.YtafpjcobagofcaaGreat.Cod

theorem took_exists (b : List Nat) : ∃ x e, Took b x e := by
  obtain ⟨n0, l0, e0, h0⟩ : ∃ n l e, rdNum 4 b 0 = (n, l, e) := ⟨_, _, _, rfl⟩
  obtain ⟨n1, l1, e1, h1⟩ : ∃ n l e, rdNum 2 l0 e0 = (n, l, e) := ⟨_, _, _, rfl⟩
  obtain ⟨n2, l2, e2, h2⟩ : ∃ n l e, rdNum 8 l1 e1 = (n, l, e) := ⟨_, _, _, rfl⟩
  obtain ⟨n3, l3, e3, h3⟩ : ∃ n l e, rdNum 4 l2 e2 = (n, l, e) := ⟨_, _, _, rfl⟩
  obtain ⟨n4, l4, e4, h4⟩ : ∃ n l e, rdNum 1 l3 e3 = (n, l, e) := ⟨_, _, _, rfl⟩
  have hH := head_of h0 h1 h2 h3 h4
  by_cases k1 : n4 = 1
  · subst k1
    obtain ⟨a0, b0, c0, g0⟩ : ∃ n l e, rdNum 4 l4 e4 = (n, l, e) := ⟨_, _, _, rfl⟩
    obtain ⟨a1, b1, c1, g1⟩ : ∃ n l e, rdNum 2 b0 c0 = (n, l, e) := ⟨_, _, _, rfl⟩
    obtain ⟨a2, b2, c2, g2⟩ : ∃ n l e, rdText 500 b1 c1 = (n, l, e) := ⟨_, _, _, rfl⟩
    obtain ⟨a3, b3, c3, g3⟩ : ∃ n l e, rdText 500 b2 c2 = (n, l, e) := ⟨_, _, _, rfl⟩
    exact ⟨_, _, took_write hH g0 g1 g2 g3⟩
  by_cases k2 : n4 = 2
  · subst k2
    obtain ⟨a0, b0, c0, g0⟩ : ∃ n l e, rdNum 8 l4 e4 = (n, l, e) := ⟨_, _, _, rfl⟩
    obtain ⟨a1, b1, c1, g1⟩ : ∃ n l e, rdNum 8 b0 c0 = (n, l, e) := ⟨_, _, _, rfl⟩
    obtain ⟨a2, b2, c2, g2⟩ : ∃ n l e, rdNum 8 b1 c1 = (n, l, e) := ⟨_, _, _, rfl⟩
    obtain ⟨a3, b3, c3, g3⟩ : ∃ n l e, rdNum 1 b2 c2 = (n, l, e) := ⟨_, _, _, rfl⟩
    obtain ⟨a4, b4, c4, g4⟩ : ∃ n l e, rdText 64 b3 c3 = (n, l, e) := ⟨_, _, _, rfl⟩
    exact ⟨_, _, took_end hH g0 g1 g2 g3 g4⟩
  by_cases k3 : n4 = 3
  · subst k3
    obtain ⟨a0, b0, c0, g0⟩ : ∃ n l e, rdNum 8 l4 e4 = (n, l, e) := ⟨_, _, _, rfl⟩
    obtain ⟨a1, b1, c1, g1⟩ : ∃ n l e, rdNum 8 b0 c0 = (n, l, e) := ⟨_, _, _, rfl⟩
    exact ⟨_, _, took_commit hH g0 g1⟩
  by_cases k4 : n4 = 4
  · subst k4
    obtain ⟨a0, b0, c0, g0⟩ : ∃ n l e, rdNum 8 l4 e4 = (n, l, e) := ⟨_, _, _, rfl⟩
    exact ⟨_, _, took_done hH g0⟩
  by_cases k5 : n4 = 5
  · subst k5
    obtain ⟨a0, b0, c0, g0⟩ : ∃ n l e, rdUv l4 e4 = (n, l, e) := ⟨_, _, _, rfl⟩
    obtain ⟨a1, b1, c1, g1⟩ : ∃ n l e, rdChs a0 b0 c0 = (n, l, e) := ⟨_, _, _, rfl⟩
    obtain ⟨a2, b2, c2, g2⟩ : ∃ n l e, rdUv b1 c1 = (n, l, e) := ⟨_, _, _, rfl⟩
    obtain ⟨a3, b3, c3, g3⟩ : ∃ n l e, rdDis a2 b2 c2 = (n, l, e) := ⟨_, _, _, rfl⟩
    exact ⟨_, _, took_point hH g0 g1 (fun _ => rfl) g2 g3 (fun _ => rfl)⟩
  exact ⟨zero, e4, took_none (k := n4) hH (by omega)⟩
theorem is_one {b : List Nat} {y z : R} (hy : Is b y) (hz : Is b z) : y = z := by
  obtain ⟨x, e, h⟩ := took_exists b
  rw [← (h y hy).1, ← (h z hz).1]
/-- What is read, how many bytes it has, and the error. -/
noncomputable def readR (b : List Nat) : R × Nat × Nat := ifP (∃ y, Is b y) (@Classical.epsilon R ⟨zero⟩ (Is b), (form (@Classical.epsilon R ⟨zero⟩ (Is b))).length, 0) (zero, 0, 4)
theorem readR_of {b : List Nat} {y : R} (h : Is b y) : readR b = (y, (form y).length, 0) := by
  have h2 : Is b (@Classical.epsilon R ⟨zero⟩ (Is b)) := @Classical.epsilon_spec R (Is b) ⟨y, h⟩
  unfold readR
  rw [ifP_pos ⟨y, h⟩, is_one h2 h]
theorem readR_none {b : List Nat} (h : ∀ y, ¬ Is b y) : readR b = (zero, 0, 4) := by
  unfold readR
  rw [ifP_neg (fun ⟨y, hy⟩ => h y hy)]
theorem is_prefix {b : List Nat} {y : R} (hM : May y) (hO : Ok y) (h : (form y).length ≤ b.length ∧ b.take (form y).length = form y) : Is b y :=
  ⟨hM, hO, b.drop (form y).length, by rw [← h.2, List.length_take, Nat.min_eq_left h.1, List.take_append_drop]⟩
theorem prefix_of {b : List Nat} {y : R} (h : Is b y) : (form y).length ≤ b.length ∧ b.take (form y).length = form y := by
  obtain ⟨-, -, t, rfl⟩ := h
  exact ⟨by rw [List.length_append]; omega, List.take_left' rfl⟩
end Go.Proofs.YtafpjcobagofcaaGreat.Lr

namespace Go.Proofs.YtafpjcobagofcaaGreat
open Go.RowKit

set_option maxHeartbeats 6400000 in
set_option maxRecDepth 20000 in
theorem recRead_any (m : Value) (b : List Nat) (w : World) (hB : Bts w m b) (hb : b.length ≤ 4000000) :
    Calls Tryz.prog 30 #[m] w fun e w' => ∃ o n u c d, e = .returned (.tuple #[RecV (Lr.readR b).1 o n u c d, .int .i64 ((Lr.readR b).2.1 : Int), .int .i64 ((Lr.readR b).2.2 : Int)]) ∧ RecOwn w.heap.size w' (Lr.readR b).1 o n u c d ∧ Below w.heap.size w w' := by
  obtain ⟨W, hW⟩ : ∃ W, W = w.alloc zobj := ⟨_, rfl⟩
  have hb0 := below_new1 w zobj
  have hz := zblk w
  rw [← hW] at hb0 hz
  obtain ⟨p, cap, rfl⟩ := hB.slice
  obtain ⟨N, hN⟩ : ∃ N, N = min b.length 1600 := ⟨_, rfl⟩
  have hT := (hB.below hb0).take N (by omega)
  have hTl : (b.take N).length = N := by rw [List.length_take]; omega
  have hIs : ∀ y, Lr.Is (b.take N) y ↔ Lr.Is b y := by
    intro y
    by_cases h : 1600 ≤ b.length
    · rw [show N = 1600 by omega]; exact Lr.is_take 1600 (Nat.le_refl _)
    · rw [show N = b.length by omega, List.take_length]
  have hmin : min (b.length : Int) 1600 = (N : Int) := by omega
  have hN1 : N ≤ b.length := by omega
  obtain ⟨hcap1, hcap2⟩ : b.length ≤ cap ∧ cap ≤ 9223372036854775807 := by
    obtain ⟨p', cap', e, h, -⟩ := hB.form
    simp only [Value.slice.injEq] at e
    obtain ⟨-, -, rfl⟩ := e
    exact h
  have HT := Lib.hid hT
  have HTL := Lib.hid hTl
  have HIS := Lib.hid hIs
  have HB0 := Lib.hid hb0
  have HSZ0 : Hid (w.heap.size < W.heap.size) := lt_of_block hz
  clear hB hb0 hT hTl hIs hN
  generalize hrr : Lr.readR b = rr
  have HRR := Lib.hid hrr
  clear hrr
  generalize b.take N = bt at *
  unfold zobj at hW
  go_enter Tryz.func30, Tryz.ntmps30
  go_upto_region 1 with (fail)
  rw [← hW]
  obtain ⟨Q, hQ⟩ : ∃ Q, Q = w.heap.size := ⟨_, rfl⟩
  rw [← hQ] at hz ⊢
  have HQ := Lib.hid hQ
  have HZ := Lib.hid hz
  clear hW hQ hz
  go_wp2_with fail
  refine (newReader_any _ bt W HT.out).mono ?_
  rintro e w1 ⟨B, rfl, hR, hWB, hb1⟩
  have HB1 := Lib.hid (HB0.out.trans (hb1.mono HB0.out.size))
  have HT1 := Lib.hid (HT.out.below hb1)
  have HZ1 := Lib.hid ((hb1.block _ (lt_of_block HZ.out)).trans HZ.out)
  have HSZ : Hid (w.heap.size ≤ W.heap.size) := Nat.le_of_lt HSZ0.out
  have HWB := Lib.hid hWB
  have HR := Lib.hid hR
  have HBW1 := Lib.hid hR.lt
  clear hR hb1 hWB
  go_wp2_with fail
  refine (takeRec_any _ B bt w1 HR.out (fun b h => h.2)).mono ?_
  rintro e w2 ⟨⟨x, o, n, u, c, d, e2, rfl, hO0, htk, hf⟩, hg⟩
  have hO := hO0
  have HO := Lib.hid hO0
  have HTK : Hid (∃ e, Lr.Took bt x e) := ⟨e2, htk⟩
  have HF := Lib.hid hf
  have HB2 := Lib.hid (below_grown HB1.out hg HB1.out.size (Nat.le_trans HSZ.out HWB.out))
  have HT2 := Lib.hid (HT1.out.grown hg (fun h0 e => by have h1 := HT.out.block_lt h0 B e; have h2 := HWB.out; omega))
  have HZ2 := Lib.hid ((hg.block _ (lt_of_block HZ1.out) (fun e => by have h1 := Option.some.inj e; have h2 := HWB.out; have h3 := HSZ0.out; have h4 := HQ.out; omega)).trans HZ1.out)
  obtain ⟨p1, c1, p2, c2, p3, c3, p4, c4, p5, c5, rfl, rfl, rfl, rfl, rfl⟩ := rec_slices hO.at
  clear hO hO0 hg htk hf
  go_upto_region 3 with (fail)
  obtain ⟨Y, hY⟩ : ∃ Y, Y = w2.alloc (.cells #[.int .i64 x.kind, .int .u64 (x.lsn : Int), .int .u32 (x.epoch : Int), .int .u64 (x.txn : Int), .int .u32 (x.page : Int), .int .u16 (x.off : Int), .slice p1 x.old.length c1, .slice p2 x.new.length c2, .slice p3 x.undo.length c3, .int .u64 (x.prev : Int), .int .u64 (x.next : Int), .bool x.clr, .int .u64 (x.stamp : Int), .slice p4 x.opn.length c4, .slice p5 x.dirt.length c5] 40) := ⟨_, rfl⟩
  have hbY : Below w2.heap.size w2 Y := by rw [hY]; exact below_new1 _ _
  have hrY : Y.heap[w2.heap.size]? = some (.cells #[.int .i64 x.kind, .int .u64 (x.lsn : Int), .int .u32 (x.epoch : Int), .int .u64 (x.txn : Int), .int .u32 (x.page : Int), .int .u16 (x.off : Int), .slice p1 x.old.length c1, .slice p2 x.new.length c2, .slice p3 x.undo.length c3, .int .u64 (x.prev : Int), .int .u64 (x.next : Int), .bool x.clr, .int .u64 (x.stamp : Int), .slice p4 x.opn.length c4, .slice p5 x.dirt.length c5] 40 (0, 0)) := by rw [hY]; exact heap_alloc_last _ _
  rw [← hY]
  obtain ⟨y, hy⟩ : ∃ y, y = w2.heap.size := ⟨_, rfl⟩
  rw [← hy] at hrY ⊢
  have HRY := Lib.hid hrY
  have HOY := Lib.hid (HO.out.below hbY)
  have HTY := Lib.hid (HT2.out.below hbY)
  have HZY := Lib.hid ((hbY.block _ (lt_of_block HZ2.out)).trans HZ2.out)
  have HBY := Lib.hid (HB2.out.trans (hbY.mono HB2.out.size))
  clear hY hbY hrY hy
  go_step
  refine wpList_load_rec rfl (.tmp 5) rfl y rfl _ HRY.out rfl ?_
  go_wp2_with fail
  have hby := recBytes_any x _ _ _ _ _ Y HOY.out.at HF.out
  by_cases hM : Lr.May x
  · rw [Lr.ifP_pos hM, Lr.ifP_pos hM, show ((0 : Nat) : Int) = 0 from rfl] at hby
    refine hby.mono ?_
    clear hby
    rintro e w3 ⟨v3, rfl, hO3, hb3⟩
    obtain ⟨q3, k3, rfl⟩ := hO3.bts.slice
    have HO3 := Lib.hid hO3
    have HB3 := Lib.hid (HBY.out.trans (hb3.mono HBY.out.size))
    have HT3 := Lib.hid (HTY.out.below hb3)
    have HOx := Lib.hid (HOY.out.below hb3)
    have HZ3 := Lib.hid ((hb3.block _ (lt_of_block HZY.out)).trans HZY.out)
    have HRY3 := Lib.hid ((hb3.block _ (lt_of_block HRY.out)).trans HRY.out)
    have HM := Lib.hid hM
    clear hO3 hb3 hM
    have hpf := hasPrefix_any _ _ bt (Lr.form x) w3 HT3.out HO3.out.bts
    by_cases hP : (Lr.form x).length ≤ bt.length ∧ bt.take (Lr.form x).length = Lr.form x
    · rw [decide_eq_true hP] at hpf
      obtain rfl : rr = (x, (Lr.form x).length, 0) := HRR.out.symm.trans (Lr.readR_of ((HIS.out x).1 (Lr.is_prefix HM.out HOx.out.ok hP)))
      clear hP
      go_wp2_with fail
      refine hpf.mono ?_
      rintro e w4 ⟨rfl, rfl⟩
      clear hpf
      go_upto_region 6 with (fail)
      go_step
      refine wpList_load_rec rfl (.tmp 5) rfl y rfl _ HRY3.out rfl ?_
      iterate 6 go_step
      refine wpList_store_rec rfl (.tmp 2) (.tmp 30) rfl Q rfl _ rfl _ HZ3.out rfl rfl (by simp [Value.oneCell']) ?_
      intro U hrU hgU
      have HST : Hid (_ ∧ _) := ⟨hrU, hgU⟩
      clear hrU hgU
      go_wp2_with fail
      obtain ⟨u0, u1, u2, u3, u4, u5, u6, u7, u8, u9, u10, u11, u12, u13, u14⟩ := rec_cell HST.out.1
      refine bodyPost_ret (v := .tuple #[.agg #[.int .i64 x.kind, .int .u64 (x.lsn : Int), .int .u32 (x.epoch : Int), .int .u64 (x.txn : Int), .int .u32 (x.page : Int), .int .u16 (x.off : Int), .slice p1 x.old.length c1, .slice p2 x.new.length c2, .slice p3 x.undo.length c3, .int .u64 (x.prev : Int), .int .u64 (x.next : Int), .bool x.clr, .int .u64 (x.stamp : Int), .slice p4 x.opn.length c4, .slice p5 x.dirt.length c5], .int .i64 ((Lr.form x).length : Int), .int .i64 0]) (by simp [results, Tryz.results30, go_sem, u0, u1, u2, u3, u4, u5, u6, u7, u8, u9, u10, u11, u12, u13, u14]) rfl ?_
      refine ⟨_, _, _, _, _, rfl, ?_, below_grown HB3.out HST.out.2 HB3.out.size (Nat.le_of_eq HQ.out.symm)⟩
      have h := HOx.out
      have hlt : Q < w1.heap.size := by have h2 := HBW1.out; have h3 := HWB.out; have h4 := HSZ0.out; have h5 := HQ.out; omega
      exact ⟨(h.old.grown HST.out.2 (own_neB h.old hlt)).from HB1.out.size, (h.new.grown HST.out.2 (own_neB h.new hlt)).from HB1.out.size, (h.undo.grown HST.out.2 (own_neB h.undo hlt)).from HB1.out.size, (h.opn.grown HST.out.2 (Chr.own_neB h.opn hlt)).from HB1.out.size, (h.dirt.grown HST.out.2 (Dir.own_neB h.dirt hlt)).from HB1.out.size, h.ok⟩
    · rw [decide_eq_false hP] at hpf
      obtain rfl : rr = (Lr.zero, 0, 4) := HRR.out.symm.trans (Lr.readR_none (fun z hz => hP (by
        have h1 := (HIS.out z).2 hz
        obtain ⟨e3, h2⟩ := HTK.out
        have h3 := (h2 z h1).1
        rw [h3]
        exact Lr.prefix_of h1)))
      clear hP
      have HZ5 := HZ3
      have HB5 := HB3
      go_wp2_with fail
      refine hpf.mono ?_
      rintro e w4 ⟨rfl, rfl⟩
      clear hpf
      go_upto_region 5 with (fail)
      iterate 4 go_step
      refine wpList_store_rec rfl (.tmp 2) (.tmp 29) rfl Q rfl #[.int .i64 0, .int .u64 0, .int .u32 0, .int .u64 0, .int .u32 0, .int .u16 0, .slice none 0 0, .slice none 0 0, .slice none 0 0, .int .u64 0, .int .u64 0, .bool false, .int .u64 0, .slice none 0 0, .slice none 0 0] rfl _ HZ5.out rfl rfl (by simp [Value.oneCell']) ?_
      intro U hrU hgU
      have HST : Hid (_ ∧ _) := ⟨hrU, hgU⟩
      clear hrU hgU
      go_wp2_with fail
      obtain ⟨u0, u1, u2, u3, u4, u5, u6, u7, u8, u9, u10, u11, u12, u13, u14⟩ := rec_cell HST.out.1
      refine bodyPost_ret (v := .tuple #[.agg #[.int .i64 0, .int .u64 0, .int .u32 0, .int .u64 0, .int .u32 0, .int .u16 0, .slice none 0 0, .slice none 0 0, .slice none 0 0, .int .u64 0, .int .u64 0, .bool false, .int .u64 0, .slice none 0 0, .slice none 0 0], .int .i64 0, .int .i64 4]) (by simp [results, Tryz.results30, go_sem, u0, u1, u2, u3, u4, u5, u6, u7, u8, u9, u10, u11, u12, u13, u14]) rfl ?_
      exact ⟨_, _, _, _, _, rfl, zero_own _ _, below_grown HB5.out HST.out.2 HB5.out.size (Nat.le_of_eq HQ.out.symm)⟩
  · rw [Lr.ifP_neg hM, Lr.ifP_neg hM, show ((2 : Nat) : Int) = 2 from rfl] at hby
    obtain rfl : rr = (Lr.zero, 0, 4) := HRR.out.symm.trans (Lr.readR_none (fun z hz => hM (by
      have h1 := (HIS.out z).2 hz
      obtain ⟨e3, h2⟩ := HTK.out
      have h3 := (h2 z h1).1
      rw [h3]
      exact h1.1)))
    refine hby.mono ?_
    clear hby
    rintro e w3 ⟨v3, rfl, hO3, hb3⟩
    have HB5 := Lib.hid (HBY.out.trans (hb3.mono HBY.out.size))
    have HZ5 := Lib.hid ((hb3.block _ (lt_of_block HZY.out)).trans HZY.out)
    clear hO3 hb3 hM
    go_upto_region 5 with (fail)
    iterate 4 go_step
    refine wpList_store_rec rfl (.tmp 2) (.tmp 29) rfl Q rfl #[.int .i64 0, .int .u64 0, .int .u32 0, .int .u64 0, .int .u32 0, .int .u16 0, .slice none 0 0, .slice none 0 0, .slice none 0 0, .int .u64 0, .int .u64 0, .bool false, .int .u64 0, .slice none 0 0, .slice none 0 0] rfl _ HZ5.out rfl rfl (by simp [Value.oneCell']) ?_
    intro U hrU hgU
    have HST : Hid (_ ∧ _) := ⟨hrU, hgU⟩
    clear hrU hgU
    go_wp2_with fail
    obtain ⟨u0, u1, u2, u3, u4, u5, u6, u7, u8, u9, u10, u11, u12, u13, u14⟩ := rec_cell HST.out.1
    refine bodyPost_ret (v := .tuple #[.agg #[.int .i64 0, .int .u64 0, .int .u32 0, .int .u64 0, .int .u32 0, .int .u16 0, .slice none 0 0, .slice none 0 0, .slice none 0 0, .int .u64 0, .int .u64 0, .bool false, .int .u64 0, .slice none 0 0, .slice none 0 0], .int .i64 0, .int .i64 4]) (by simp [results, Tryz.results30, go_sem, u0, u1, u2, u3, u4, u5, u6, u7, u8, u9, u10, u11, u12, u13, u14]) rfl ?_
    exact ⟨_, _, _, _, _, rfl, zero_own _ _, below_grown HB5.out HST.out.2 HB5.out.size (Nat.le_of_eq HQ.out.symm)⟩
end Go.Proofs.YtafpjcobagofcaaGreat
