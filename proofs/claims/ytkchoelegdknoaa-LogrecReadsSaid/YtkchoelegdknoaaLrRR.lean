/- What the document's Read answers. Conditions: the slice's cells hold the bytes; at most 10000. -/
import Derived.Test.YtkchoelegdknoaaLrRF
import Derived.Test.YtkchoelegdknoaaLrForm9
import Derived.Test.YtkchoelegdknoaaLrMayR
import Derived.Test.YtkchoelegdknoaaLrReadM
import Derived.Test.YtkchoelegdknoaaKept
namespace Go.Proofs.Ytkchoelegdknoaa
open Go.RowKit

def RsF (fv : Value) (mv : Value) (L : Nat) (N : Nat) (i : Nat) (v : Value) (_ : World) : Prop :=
  match i with
  | 0 => v = fv
  | 1 => v = .int .i64 (L : Int)
  | 2 => v = mv
  | 3 => v = .int .i64 (N : Int)
  | 4 => v = .bool true
  | 5 => v = .bool true
  | 6 => v = undef
  | 7 => v = undef
  | 8 => v = undef
  | 9 => v = undef
  | 10 => v = undef
  | 11 => v = undef
  | 12 => v = undef
  | 13 => v = undef
  | 14 => v = .bool true
  | _ => True
def RsP  (i : Nat) (_w : World) (_v : Value) : Prop :=
  match i with
  | _ => True
def RsT (i : Nat) : Option Nat :=
  match i with
  | _ => none
theorem RsS  : ∀ k w w' v, RsP  k w v → Below w.heap.size w w' → RsP  k w' v := by
  intro k w w' v _ _
  unfold RsP
  split
  · trivial
def RlF (fv : Value) (mv : Value) (mt : Value) (L : Nat) (N : Nat) (S : ByteArray) (T : ByteArray) (dd : Bool) (i : Nat) (v : Value) (_ : World) : Prop :=
  match i with
  | 0 => v = fv
  | 1 => v = .int .i64 (L : Int)
  | 2 => v = mv
  | 3 => v = .int .i64 (N : Int)
  | 4 => v = .bool false
  | 5 => v = .bool false
  | 6 => v = fv
  | 7 => v = .string S
  | 8 => v = mv
  | 9 => v = fv
  | 10 => v = .int .i64 (L : Int)
  | 11 => v = mt
  | 12 => v = .string T
  | 13 => v = .bool (!dd)
  | 14 => v = .bool (!dd)
  | _ => True
def RlP  (i : Nat) (_w : World) (_v : Value) : Prop :=
  match i with
  | _ => True
def RlT (i : Nat) : Option Nat :=
  match i with
  | _ => none
theorem RlS  : ∀ k w w' v, RlP  k w v → Below w.heap.size w w' → RlP  k w' v := by
  intro k w w' v _ _
  unfold RlP
  split
  · trivial

theorem list_inj {a b : ByteArray} (h : a.toList = b.toList) : a = b := by
  rw [ByteArray.toList_eq, ByteArray.toList_eq] at h
  exact Go.WideShapes.bytes_inj h
theorem str_eq_iff {a b : List Nat} (ha : ∀ x ∈ a, x < 256) (hb : ∀ x ∈ b, x < 256) : ((strOfNums (a.map fun x : Nat => (x : Int))).toList == (strOfNums (b.map fun x : Nat => (x : Int))).toList) = true ↔ b = a := by
  rw [beq_iff_eq]
  constructor
  · intro h
    exact (str_inj ha hb (list_inj h)).symm
  · intro h; rw [h]
set_option maxHeartbeats 6400000 in
set_option maxRecDepth 20000 in
theorem refRead_any (m : Value) (b : List Nat) (w : World) (hB : Bts w m b) :
    Calls Try.prog 18 #[m] w fun e w' => ∃ o n u c d, e = .returned (.tuple #[RecV (Lr.readR b).1 o n u c d, .int .i64 ((Lr.readR b).2.1 : Int), .int .i64 ((Lr.readR b).2.2 : Int)]) ∧ RecOwn w.heap.size w' (Lr.readR b).1 o n u c d ∧ Below w.heap.size w w' := by
  obtain ⟨V, hV⟩ : ∃ V, V = w.alloc zobj := ⟨_, rfl⟩
  have hb0 := below_new1 w zobj
  have hz := zblk w
  rw [← hV] at hb0 hz
  obtain ⟨p, cap, rfl⟩ := hB.slice
  have HCAP : Hid (b.length ≤ cap ∧ cap ≤ 9223372036854775807) := by
    obtain ⟨p', cap', e, h, -⟩ := hB.form
    simp only [Value.slice.injEq] at e
    obtain ⟨-, -, rfl⟩ := e
    exact h
  have HB0 := Lib.hid hb0
  have HBB := Lib.hid (hB.below hb0)
  generalize hrr : Lr.readR b = rr
  have HRR := Lib.hid hrr
  clear hrr hB hb0
  obtain ⟨Q, hQ⟩ : ∃ Q, Q = w.heap.size := ⟨_, rfl⟩
  rw [← hQ] at hz
  have HQ := Lib.hid hQ
  have HZ := Lib.hid hz
  unfold zobj at hV
  clear hz
  go_enter Try.func18, Try.ntmps18
  go_upto_region 1 with (fail)
  rw [← hV, ← hQ]
  clear hV hQ
  go_wp2_with fail
  refine (refFields_any _ b V HBB.out).mono ?_
  rintro e w1 ⟨⟨x, o, n, u, c, d, e2, rfl, hO, htk, hf⟩, hb⟩
  obtain ⟨M, hM⟩ : ∃ M, M = V.heap.size := ⟨_, rfl⟩
  have HQM : Hid (Q < M) := by rw [hM]; exact Lib.hid (lt_of_block HZ.out)
  have HWM : Hid (w.heap.size ≤ M) := by rw [hM]; exact Lib.hid HB0.out.size
  rw [← hM] at hO
  obtain ⟨p1, c1, p2, c2, p3, c3, p4, c4, p5, c5, rfl, rfl, rfl, rfl, rfl⟩ := rec_slices hO.at
  have HO1 := Lib.hid hO
  have HTK := Lib.hid (fun z hz => htk z hz)
  have HF := Lib.hid hf
  have HB1 := Lib.hid (HB0.out.trans (hb.mono HB0.out.size))
  have HBB1 := Lib.hid (HBB.out.below hb)
  have HZ1 := Lib.hid ((hb.block _ (lt_of_block HZ.out)).trans HZ.out)
  clear hO htk hf hb hM
  go_upto_region 2 with (fail)
  obtain ⟨Y, hY⟩ : ∃ Y, Y = w1.alloc (.cells #[.int .i64 x.kind, .int .u64 (x.lsn : Int), .int .u32 (x.epoch : Int), .int .u64 (x.txn : Int), .int .u32 (x.page : Int), .int .u16 (x.off : Int), .slice p1 x.old.length c1, .slice p2 x.new.length c2, .slice p3 x.undo.length c3, .int .u64 (x.prev : Int), .int .u64 (x.next : Int), .bool x.clr, .int .u64 (x.stamp : Int), .slice p4 x.opn.length c4, .slice p5 x.dirt.length c5] 30) := ⟨_, rfl⟩
  have hbY : Below w1.heap.size w1 Y := by rw [hY]; exact below_new1 _ _
  have hrY : Y.heap[w1.heap.size]? = some (.cells #[.int .i64 x.kind, .int .u64 (x.lsn : Int), .int .u32 (x.epoch : Int), .int .u64 (x.txn : Int), .int .u32 (x.page : Int), .int .u16 (x.off : Int), .slice p1 x.old.length c1, .slice p2 x.new.length c2, .slice p3 x.undo.length c3, .int .u64 (x.prev : Int), .int .u64 (x.next : Int), .bool x.clr, .int .u64 (x.stamp : Int), .slice p4 x.opn.length c4, .slice p5 x.dirt.length c5] 30 (0, 0)) := by rw [hY]; exact heap_alloc_last _ _
  rw [← hY]
  obtain ⟨y, hy⟩ : ∃ y, y = w1.heap.size := ⟨_, rfl⟩
  rw [← hy] at hrY ⊢
  have HRY := Lib.hid hrY
  have HOY := Lib.hid (HO1.out.below hbY)
  have HBY := Lib.hid (HB1.out.trans (hbY.mono HB1.out.size))
  have HBBY := Lib.hid (HBB1.out.below hbY)
  have HZY := Lib.hid ((hbY.block _ (lt_of_block HZ1.out)).trans HZ1.out)
  clear hY hbY hrY hy
  by_cases he : e2 = 0
  case neg =>
    as_aux_lemma =>
      rw [decide_eq_false he]
      obtain rfl : rr = (Lr.zero, 0, 4) := HRR.out.symm.trans (Lr.readR_none (fun z hz => he (HTK.out z hz).2))
      have HZ5 := HZY
      have HB5 := HBY
      go_upto_region 3 with (fail)
      iterate 4 go_step
      refine wpList_store_rec rfl (.tmp 2) (.tmp 20) rfl Q rfl #[.int .i64 0, .int .u64 0, .int .u32 0, .int .u64 0, .int .u32 0, .int .u16 0, .slice none 0 0, .slice none 0 0, .slice none 0 0, .int .u64 0, .int .u64 0, .bool false, .int .u64 0, .slice none 0 0, .slice none 0 0] rfl _ HZ5.out rfl rfl (by simp [Value.oneCell']) ?_
      intro U hrU hgU
      have HST : Hid (_ ∧ _) := ⟨hrU, hgU⟩
      clear hrU hgU
      go_wp2_with fail
      obtain ⟨u0, u1, u2, u3, u4, u5, u6, u7, u8, u9, u10, u11, u12, u13, u14⟩ := rec_cell HST.out.1
      refine bodyPost_ret (v := .tuple #[.agg #[.int .i64 0, .int .u64 0, .int .u32 0, .int .u64 0, .int .u32 0, .int .u16 0, .slice none 0 0, .slice none 0 0, .slice none 0 0, .int .u64 0, .int .u64 0, .bool false, .int .u64 0, .slice none 0 0, .slice none 0 0], .int .i64 0, .int .i64 4]) (by simp [results, Try.results18, go_sem, u0, u1, u2, u3, u4, u5, u6, u7, u8, u9, u10, u11, u12, u13, u14]) rfl ?_
      exact ⟨_, _, _, _, _, rfl, zero_own _ _, below_grown HB5.out HST.out.2 HB5.out.size (Nat.le_of_eq HQ.out.symm)⟩
  rw [decide_eq_true he]
  clear he
  obtain ⟨y0, y1, y2, y3, y4, y5, y6, y7, y8, y9, y10, y11, y12, y13, y14⟩ := rec_cell HRY.out
  go_wp2_with fail
  clear y0 y1 y2 y3 y4 y5 y6 y7 y8 y9 y10 y11 y12 y13 y14
  refine (refMay_any x _ _ _ _ _ Y HOY.out.at HF.out).mono ?_
  rintro e w2 ⟨rfl, hb2⟩
  have HOZ := Lib.hid (HOY.out.below hb2)
  have HB2 := Lib.hid (HBY.out.trans (hb2.mono HBY.out.size))
  have HBB2 := Lib.hid (HBBY.out.below hb2)
  have HZ2 := Lib.hid ((hb2.block _ (lt_of_block HZY.out)).trans HZY.out)
  have HRY2 := Lib.hid ((hb2.block _ (lt_of_block HRY.out)).trans HRY.out)
  clear hb2
  by_cases hM : Lr.May x
  case neg =>
    as_aux_lemma =>
      rw [Lr.may_false hM]
      obtain rfl : rr = (Lr.zero, 0, 4) := HRR.out.symm.trans (Lr.readR_none (fun z hz => hM (by
        have h3 := (HTK.out z hz).1
        rw [h3]
        exact hz.1)))
      have HZ5 := HZ2
      have HB5 := HB2
      go_upto_region 3 with (fail)
      iterate 4 go_step
      refine wpList_store_rec rfl (.tmp 2) (.tmp 20) rfl Q rfl #[.int .i64 0, .int .u64 0, .int .u32 0, .int .u64 0, .int .u32 0, .int .u16 0, .slice none 0 0, .slice none 0 0, .slice none 0 0, .int .u64 0, .int .u64 0, .bool false, .int .u64 0, .slice none 0 0, .slice none 0 0] rfl _ HZ5.out rfl rfl (by simp [Value.oneCell']) ?_
      intro U hrU hgU
      have HST : Hid (_ ∧ _) := ⟨hrU, hgU⟩
      clear hrU hgU
      go_wp2_with fail
      obtain ⟨u0, u1, u2, u3, u4, u5, u6, u7, u8, u9, u10, u11, u12, u13, u14⟩ := rec_cell HST.out.1
      refine bodyPost_ret (v := .tuple #[.agg #[.int .i64 0, .int .u64 0, .int .u32 0, .int .u64 0, .int .u32 0, .int .u16 0, .slice none 0 0, .slice none 0 0, .slice none 0 0, .int .u64 0, .int .u64 0, .bool false, .int .u64 0, .slice none 0 0, .slice none 0 0], .int .i64 0, .int .i64 4]) (by simp [results, Try.results18, go_sem, u0, u1, u2, u3, u4, u5, u6, u7, u8, u9, u10, u11, u12, u13, u14]) rfl ?_
      exact ⟨_, _, _, _, _, rfl, zero_own _ _, below_grown HB5.out HST.out.2 HB5.out.size (Nat.le_of_eq HQ.out.symm)⟩
  rw [Lr.may_true hM]
  have HM := Lib.hid hM
  clear hM
  go_upto_region 4 with (fail)
  go_step
  refine wpList_load_rec rfl (.tmp 5) rfl y rfl _ HRY2.out rfl ?_
  go_wp2_with fail
  refine (refForm_any x _ _ _ _ _ w2 HOZ.out.at HM.out).mono ?_
  rintro e W ⟨v3, rfl, hO3, hb3⟩
  obtain ⟨q3, k3, rfl⟩ := hO3.bts.slice
  obtain ⟨L, hL⟩ : ∃ L, L = (Lr.form x).length := ⟨_, rfl⟩
  have hO3' := hO3.bts
  rw [← hL] at hO3' ⊢
  have HLL := Lib.hid hL
  have HF3 := Lib.hid hO3'
  have HOW := Lib.hid (HOZ.out.below hb3)
  have HBW := Lib.hid (HB2.out.trans (hb3.mono HB2.out.size))
  have HBBW := Lib.hid (HBB2.out.below hb3)
  have HZW := Lib.hid ((hb3.block _ (lt_of_block HZ2.out)).trans HZ2.out)
  have HRYW := Lib.hid ((hb3.block _ (lt_of_block HRY2.out)).trans HRY2.out)
  clear hO3 hO3' hb3 hL
  go_upto_region 5 with (fail)
  by_cases hlb : L ≤ b.length
  case neg =>
    as_aux_lemma =>
      obtain rfl : rr = (Lr.zero, 0, 4) := HRR.out.symm.trans (Lr.readR_none (fun z hz => hlb (by
        have h3 := (HTK.out z hz).1
        have h4 := (Lr.prefix_of hz).1
        rw [← h3, ← HLL.out] at h4
        exact h4)))
      have HLB := Lib.hid hlb
      clear hlb
      refine Ord.walk (RsF (.slice q3 L k3) (.slice p b.length cap) L b.length) (KeptR W.heap.size W (RsP ) RsT) (fun _ _ => True)
        (by kernel_rfl) (by kernel_rfl) ?frs ?hfrs (fun _ _ _ _ _ h => h) (fun xs => KeptR.first xs (Nat.le_refl _)) ?hes ?hends
      case hfrs =>
        intro xs
        simp only [Ord.fill, Act.put, List.setIfInBounds_toArray, List.set_cons_zero, List.set_cons_succ]
        rfl
      case hes =>
        refine Ord.each_cons (fun D xs w2 hD hC hP hR hA K hK => ?_) ?_
        · -- 0
          clear hA
          as_aux_lemma =>
            go_simp
            exact hK _ _ ⟨_, rfl, trivial, hR.step 0 _ (RsS ) (Below.refl _ _) trivial, rfl⟩
        refine Ord.each_cons (fun D xs w2 hD hC hP hR hA K hK => ?_) ?_
        · -- 1
          have q0 := Ord.ahead_get _ hA 0 (by decide)
          simp only [RsF] at q0
          simp only [q0] at hK
          clear hA
          as_aux_lemma =>
            go_simp
            exact hK _ _ ⟨_, rfl, trivial, hR.step 1 _ (RsS ) (Below.refl _ _) trivial, rfl⟩
        refine Ord.each_cons (fun D xs w2 hD hC hP hR hA K hK => ?_) ?_
        · -- 2
          clear hA
          as_aux_lemma =>
            go_simp
            exact hK _ _ ⟨_, rfl, trivial, hR.step 2 _ (RsS ) (Below.refl _ _) trivial, rfl⟩
        refine Ord.each_cons (fun D xs w2 hD hC hP hR hA K hK => ?_) ?_
        · -- 3
          have q2 := Ord.ahead_get _ hA 2 (by decide)
          simp only [RsF] at q2
          simp only [q2] at hK
          clear hA
          as_aux_lemma =>
            go_simp
            exact hK _ _ ⟨_, rfl, trivial, hR.step 3 _ (RsS ) (Below.refl _ _) trivial, rfl⟩
        refine Ord.each_cons (fun D xs w2 hD hC hP hR hA K hK => ?_) ?_
        · -- 4
          have q1 := Ord.ahead_get _ hA 1 (by decide)
          simp only [RsF] at q1
          have q3 := Ord.ahead_get _ hA 3 (by decide)
          simp only [RsF] at q3
          simp only [q1, q3] at hK
          clear hA
          as_aux_lemma =>
            have hle : (b.length : Int) < (L : Int) := by have := HLB.out; omega
            go_simp
            exact hK _ _ ⟨_, rfl, trivial, hR.step 4 _ (RsS ) (Below.refl _ _) trivial, rfl⟩
        refine Ord.each_cons (fun D xs w2 hD hC hP hR hA K hK => ?_) ?_
        · -- 5
          have q4 := Ord.ahead_get _ hA 4 (by decide)
          simp only [RsF] at q4
          simp only [q4] at hK
          clear hA
          as_aux_lemma =>
            go_simp
            exact hK _ _ ⟨_, rfl, trivial, hR.step 5 _ (RsS ) (Below.refl _ _) trivial, rfl⟩
        refine Ord.each_cons (fun D xs w2 hD hC hP hR hA K hK => ?_) ?_
        · -- 6
          have q5 := Ord.ahead_get _ hA 5 (by decide)
          simp only [RsF] at q5
          simp only [q5] at hK
          clear hA
          as_aux_lemma =>
            go_simp
            exact hK _ _ ⟨_, rfl, trivial, hR.step 6 _ (RsS ) (Below.refl _ _) trivial, rfl⟩
        refine Ord.each_cons (fun D xs w2 hD hC hP hR hA K hK => ?_) ?_
        · -- 7
          have q5 := Ord.ahead_get _ hA 5 (by decide)
          simp only [RsF] at q5
          simp only [q5] at hK
          clear hA
          as_aux_lemma =>
            go_simp
            exact hK _ _ ⟨_, rfl, trivial, hR.step 7 _ (RsS ) (Below.refl _ _) trivial, rfl⟩
        refine Ord.each_cons (fun D xs w2 hD hC hP hR hA K hK => ?_) ?_
        · -- 8
          have q5 := Ord.ahead_get _ hA 5 (by decide)
          simp only [RsF] at q5
          simp only [q5] at hK
          clear hA
          as_aux_lemma =>
            go_simp
            exact hK _ _ ⟨_, rfl, trivial, hR.step 8 _ (RsS ) (Below.refl _ _) trivial, rfl⟩
        refine Ord.each_cons (fun D xs w2 hD hC hP hR hA K hK => ?_) ?_
        · -- 9
          have q5 := Ord.ahead_get _ hA 5 (by decide)
          simp only [RsF] at q5
          simp only [q5] at hK
          clear hA
          as_aux_lemma =>
            go_simp
            exact hK _ _ ⟨_, rfl, trivial, hR.step 9 _ (RsS ) (Below.refl _ _) trivial, rfl⟩
        refine Ord.each_cons (fun D xs w2 hD hC hP hR hA K hK => ?_) ?_
        · -- 10
          have q5 := Ord.ahead_get _ hA 5 (by decide)
          simp only [RsF] at q5
          simp only [q5] at hK
          clear hA
          as_aux_lemma =>
            go_simp
            exact hK _ _ ⟨_, rfl, trivial, hR.step 10 _ (RsS ) (Below.refl _ _) trivial, rfl⟩
        refine Ord.each_cons (fun D xs w2 hD hC hP hR hA K hK => ?_) ?_
        · -- 11
          have q5 := Ord.ahead_get _ hA 5 (by decide)
          simp only [RsF] at q5
          simp only [q5] at hK
          clear hA
          as_aux_lemma =>
            go_simp
            exact hK _ _ ⟨_, rfl, trivial, hR.step 11 _ (RsS ) (Below.refl _ _) trivial, rfl⟩
        refine Ord.each_cons (fun D xs w2 hD hC hP hR hA K hK => ?_) ?_
        · -- 12
          have q5 := Ord.ahead_get _ hA 5 (by decide)
          simp only [RsF] at q5
          simp only [q5] at hK
          clear hA
          as_aux_lemma =>
            go_simp
            exact hK _ _ ⟨_, rfl, trivial, hR.step 12 _ (RsS ) (Below.refl _ _) trivial, rfl⟩
        refine Ord.each_cons (fun D xs w2 hD hC hP hR hA K hK => ?_) ?_
        · -- 13
          have q5 := Ord.ahead_get _ hA 5 (by decide)
          simp only [RsF] at q5
          simp only [q5] at hK
          clear hA
          as_aux_lemma =>
            go_simp
            exact hK _ _ ⟨_, rfl, trivial, hR.step 13 _ (RsS ) (Below.refl _ _) trivial, rfl⟩
        refine Ord.each_cons (fun D xs w2 hD hC hP hR hA K hK => ?_) ?_
        · -- 14
          have q5 := Ord.ahead_get _ hA 5 (by decide)
          simp only [RsF] at q5
          simp only [q5] at hK
          clear hA
          as_aux_lemma =>
            go_simp
            exact hK _ _ ⟨_, rfl, trivial, hR.step 14 _ (RsS ) (Below.refl _ _) trivial, rfl⟩
        exact Ord.each_nil
      case hends =>
        intro D xs w9 hR hall
        have r37 := (hall 14 (by decide)).2
        simp only [RsF] at r37
        have HB5 := Lib.hid (HBW.out.trans (hR.below.mono HBW.out.size))
        have HZ5 := Lib.hid ((hR.below.block _ (lt_of_block HZW.out)).trans HZW.out)
        clear hR hall
        simp only [r37]
        clear r37
        generalize xs 13 = z13 at *
        generalize xs 12 = z12 at *
        generalize xs 11 = z11 at *
        generalize xs 10 = z10 at *
        generalize xs 9 = z9 at *
        generalize xs 8 = z8 at *
        generalize xs 7 = z7 at *
        generalize xs 6 = z6 at *
        generalize xs 5 = z5 at *
        generalize xs 4 = z4 at *
        generalize xs 3 = z3 at *
        generalize xs 2 = z2 at *
        generalize xs 1 = z1 at *
        generalize xs 0 = z0 at *
        go_upto_region 6 with (fail)
        iterate 4 go_step
        refine wpList_store_rec rfl (.tmp 2) (.tmp 38) rfl Q rfl #[.int .i64 0, .int .u64 0, .int .u32 0, .int .u64 0, .int .u32 0, .int .u16 0, .slice none 0 0, .slice none 0 0, .slice none 0 0, .int .u64 0, .int .u64 0, .bool false, .int .u64 0, .slice none 0 0, .slice none 0 0] rfl _ HZ5.out rfl rfl (by simp [Value.oneCell']) ?_
        intro U hrU hgU
        have HST : Hid (_ ∧ _) := ⟨hrU, hgU⟩
        clear hrU hgU
        go_wp2_with fail
        obtain ⟨u0, u1, u2, u3, u4, u5, u6, u7, u8, u9, u10, u11, u12, u13, u14⟩ := rec_cell HST.out.1
        refine bodyPost_ret (v := .tuple #[.agg #[.int .i64 0, .int .u64 0, .int .u32 0, .int .u64 0, .int .u32 0, .int .u16 0, .slice none 0 0, .slice none 0 0, .slice none 0 0, .int .u64 0, .int .u64 0, .bool false, .int .u64 0, .slice none 0 0, .slice none 0 0], .int .i64 0, .int .i64 4]) (by simp [results, Try.results18, go_sem, u0, u1, u2, u3, u4, u5, u6, u7, u8, u9, u10, u11, u12, u13, u14]) rfl ?_
        exact ⟨_, _, _, _, _, rfl, zero_own _ _, below_grown HB5.out HST.out.2 HB5.out.size (Nat.le_of_eq HQ.out.symm)⟩

  have HLB := Lib.hid hlb
  have HCS : Hid (∀ W', Below W.heap.size W W' → (convert 26 9 (.slice q3 L k3)).run Try.prog W' = .ok (.string (strOfNums ((Lr.form x).map fun x : Nat => (x : Int)))) W') := fun W' h => strOf_conv (HF3.out.below h)
  have hMT := HBBW.out.take L hlb
  have HCT : Hid (∀ W', Below W.heap.size W W' → (convert 26 9 (.slice p L cap)).run Try.prog W' = .ok (.string (strOfNums ((b.take L).map fun x : Nat => (x : Int)))) W') := fun W' h => strOf_conv (hMT.below h)
  have hds := str_eq_iff HF3.out.small hMT.small
  generalize strOfNums ((Lr.form x).map fun x : Nat => (x : Int)) = S at *
  generalize strOfNums ((b.take L).map fun x : Nat => (x : Int)) = T at *
  obtain ⟨dd, hdd⟩ : ∃ dd, (S.toList == T.toList) = dd := ⟨_, rfl⟩
  rw [hdd] at hds
  have HDS : Hid (dd = true ↔ b.take (Lr.form x).length = Lr.form x) := by rw [← HLL.out]; exact hds
  have HDD := Lib.hid hdd
  clear hds hdd hMT hlb
  refine Ord.walk (RlF (.slice q3 L k3) (.slice p b.length cap) (.slice p L cap) L b.length S T dd) (KeptR W.heap.size W (RlP ) RlT) (fun _ _ => True)
    (by kernel_rfl) (by kernel_rfl) ?frl ?hfrl (fun _ _ _ _ _ h => h) (fun xs => KeptR.first xs (Nat.le_refl _)) ?hel ?hendl
  case hfrl =>
    intro xs
    simp only [Ord.fill, Act.put, List.setIfInBounds_toArray, List.set_cons_zero, List.set_cons_succ]
    rfl
  case hel =>
    refine Ord.each_cons (fun D xs w2 hD hC hP hR hA K hK => ?_) ?_
    · -- 0
      clear hA
      as_aux_lemma =>
        go_simp
        exact hK _ _ ⟨_, rfl, trivial, hR.step 0 _ (RlS ) (Below.refl _ _) trivial, rfl⟩
    refine Ord.each_cons (fun D xs w2 hD hC hP hR hA K hK => ?_) ?_
    · -- 1
      have q0 := Ord.ahead_get _ hA 0 (by decide)
      simp only [RlF] at q0
      simp only [q0] at hK
      clear hA
      as_aux_lemma =>
        go_simp
        exact hK _ _ ⟨_, rfl, trivial, hR.step 1 _ (RlS ) (Below.refl _ _) trivial, rfl⟩
    refine Ord.each_cons (fun D xs w2 hD hC hP hR hA K hK => ?_) ?_
    · -- 2
      clear hA
      as_aux_lemma =>
        go_simp
        exact hK _ _ ⟨_, rfl, trivial, hR.step 2 _ (RlS ) (Below.refl _ _) trivial, rfl⟩
    refine Ord.each_cons (fun D xs w2 hD hC hP hR hA K hK => ?_) ?_
    · -- 3
      have q2 := Ord.ahead_get _ hA 2 (by decide)
      simp only [RlF] at q2
      simp only [q2] at hK
      clear hA
      as_aux_lemma =>
        go_simp
        exact hK _ _ ⟨_, rfl, trivial, hR.step 3 _ (RlS ) (Below.refl _ _) trivial, rfl⟩
    refine Ord.each_cons (fun D xs w2 hD hC hP hR hA K hK => ?_) ?_
    · -- 4
      have q1 := Ord.ahead_get _ hA 1 (by decide)
      simp only [RlF] at q1
      have q3 := Ord.ahead_get _ hA 3 (by decide)
      simp only [RlF] at q3
      simp only [q1, q3] at hK
      clear hA
      as_aux_lemma =>
        have hle : ¬ (b.length : Int) < (L : Int) := by have := HLB.out; omega
        go_simp
        exact hK _ _ ⟨_, rfl, trivial, hR.step 4 _ (RlS ) (Below.refl _ _) trivial, rfl⟩
    refine Ord.each_cons (fun D xs w2 hD hC hP hR hA K hK => ?_) ?_
    · -- 5
      have q4 := Ord.ahead_get _ hA 4 (by decide)
      simp only [RlF] at q4
      simp only [q4] at hK
      clear hA
      as_aux_lemma =>
        go_simp
        exact hK _ _ ⟨_, rfl, trivial, hR.step 5 _ (RlS ) (Below.refl _ _) trivial, rfl⟩
    refine Ord.each_cons (fun D xs w2 hD hC hP hR hA K hK => ?_) ?_
    · -- 6
      have q5 := Ord.ahead_get _ hA 5 (by decide)
      simp only [RlF] at q5
      simp only [q5] at hK
      clear hA
      as_aux_lemma =>
        go_simp
        exact hK _ _ ⟨_, rfl, trivial, hR.step 6 _ (RlS ) (Below.refl _ _) trivial, rfl⟩
    refine Ord.each_cons (fun D xs w2 hD hC hP hR hA K hK => ?_) ?_
    · -- 7
      have q5 := Ord.ahead_get _ hA 5 (by decide)
      simp only [RlF] at q5
      have q6 := Ord.ahead_get _ hA 6 (by decide)
      simp only [RlF] at q6
      simp only [q5, q6] at hK
      clear hA
      as_aux_lemma =>
        have cv := HCS.out w2 hR.below
        go_simp
        exact hK _ _ ⟨_, rfl, trivial, hR.step 7 _ (RlS ) (Below.refl _ _) trivial, rfl⟩
    refine Ord.each_cons (fun D xs w2 hD hC hP hR hA K hK => ?_) ?_
    · -- 8
      have q5 := Ord.ahead_get _ hA 5 (by decide)
      simp only [RlF] at q5
      simp only [q5] at hK
      clear hA
      as_aux_lemma =>
        go_simp
        exact hK _ _ ⟨_, rfl, trivial, hR.step 8 _ (RlS ) (Below.refl _ _) trivial, rfl⟩
    refine Ord.each_cons (fun D xs w2 hD hC hP hR hA K hK => ?_) ?_
    · -- 9
      have q5 := Ord.ahead_get _ hA 5 (by decide)
      simp only [RlF] at q5
      simp only [q5] at hK
      clear hA
      as_aux_lemma =>
        go_simp
        exact hK _ _ ⟨_, rfl, trivial, hR.step 9 _ (RlS ) (Below.refl _ _) trivial, rfl⟩
    refine Ord.each_cons (fun D xs w2 hD hC hP hR hA K hK => ?_) ?_
    · -- 10
      have q5 := Ord.ahead_get _ hA 5 (by decide)
      simp only [RlF] at q5
      have q9 := Ord.ahead_get _ hA 9 (by decide)
      simp only [RlF] at q9
      simp only [q5, q9] at hK
      clear hA
      as_aux_lemma =>
        go_simp
        exact hK _ _ ⟨_, rfl, trivial, hR.step 10 _ (RlS ) (Below.refl _ _) trivial, rfl⟩
    refine Ord.each_cons (fun D xs w2 hD hC hP hR hA K hK => ?_) ?_
    · -- 11
      have q5 := Ord.ahead_get _ hA 5 (by decide)
      simp only [RlF] at q5
      have q8 := Ord.ahead_get _ hA 8 (by decide)
      simp only [RlF] at q8
      have q10 := Ord.ahead_get _ hA 10 (by decide)
      simp only [RlF] at q10
      simp only [q5, q8, q10] at hK
      clear hA
      as_aux_lemma =>
        have hle : (L : Int) ≤ (b.length : Int) := by have := HLB.out; omega
        have hcp1 := HCAP.out.1
        have hcp2 := HCAP.out.2
        have hle2 : L ≤ cap := by have := HLB.out; omega
        go_simp
        exact hK _ _ ⟨_, rfl, trivial, hR.step 11 _ (RlS ) (Below.refl _ _) trivial, rfl⟩
    refine Ord.each_cons (fun D xs w2 hD hC hP hR hA K hK => ?_) ?_
    · -- 12
      have q5 := Ord.ahead_get _ hA 5 (by decide)
      simp only [RlF] at q5
      have q11 := Ord.ahead_get _ hA 11 (by decide)
      simp only [RlF] at q11
      simp only [q5, q11] at hK
      clear hA
      as_aux_lemma =>
        have cv := HCT.out w2 hR.below
        go_simp
        exact hK _ _ ⟨_, rfl, trivial, hR.step 12 _ (RlS ) (Below.refl _ _) trivial, rfl⟩
    refine Ord.each_cons (fun D xs w2 hD hC hP hR hA K hK => ?_) ?_
    · -- 13
      have q5 := Ord.ahead_get _ hA 5 (by decide)
      simp only [RlF] at q5
      have q7 := Ord.ahead_get _ hA 7 (by decide)
      simp only [RlF] at q7
      have q12 := Ord.ahead_get _ hA 12 (by decide)
      simp only [RlF] at q12
      simp only [q5, q7, q12] at hK
      clear hA
      as_aux_lemma =>
        have hdd := HDD.out
        go_simp
        exact hK _ _ ⟨_, rfl, trivial, hR.step 13 _ (RlS ) (Below.refl _ _) trivial, rfl⟩
    refine Ord.each_cons (fun D xs w2 hD hC hP hR hA K hK => ?_) ?_
    · -- 14
      have q5 := Ord.ahead_get _ hA 5 (by decide)
      simp only [RlF] at q5
      have q13 := Ord.ahead_get _ hA 13 (by decide)
      simp only [RlF] at q13
      simp only [q5, q13] at hK
      clear hA
      as_aux_lemma =>
        go_simp
        exact hK _ _ ⟨_, rfl, trivial, hR.step 14 _ (RlS ) (Below.refl _ _) trivial, rfl⟩
    exact Ord.each_nil
  case hendl =>
    intro D xs w9 hR hall
    have r37 := (hall 14 (by decide)).2
    simp only [RlF] at r37
    have HB5 := Lib.hid (HBW.out.trans (hR.below.mono HBW.out.size))
    have HZ5 := Lib.hid ((hR.below.block _ (lt_of_block HZW.out)).trans HZW.out)
    have HRY5 := Lib.hid ((hR.below.block _ (lt_of_block HRYW.out)).trans HRYW.out)
    have HOx := Lib.hid (HOW.out.below hR.below)
    clear hR hall
    simp only [r37]
    clear r37
    generalize xs 13 = z13 at *
    generalize xs 12 = z12 at *
    generalize xs 11 = z11 at *
    generalize xs 10 = z10 at *
    generalize xs 9 = z9 at *
    generalize xs 8 = z8 at *
    generalize xs 7 = z7 at *
    generalize xs 6 = z6 at *
    generalize xs 5 = z5 at *
    generalize xs 4 = z4 at *
    generalize xs 3 = z3 at *
    generalize xs 2 = z2 at *
    generalize xs 1 = z1 at *
    generalize xs 0 = z0 at *
    cases dd
    case false =>
      as_aux_lemma =>
        obtain rfl : rr = (Lr.zero, 0, 4) := HRR.out.symm.trans (Lr.readR_none (fun z hz => by
          have h3 := (HTK.out z hz).1
          have h4 := (Lr.prefix_of hz).2
          rw [← h3] at h4
          have h5 := HDS.out.2 h4
          cases h5))
        rw [show (!false) = true from rfl]
        go_upto_region 6 with (fail)
        iterate 4 go_step
        refine wpList_store_rec rfl (.tmp 2) (.tmp 38) rfl Q rfl #[.int .i64 0, .int .u64 0, .int .u32 0, .int .u64 0, .int .u32 0, .int .u16 0, .slice none 0 0, .slice none 0 0, .slice none 0 0, .int .u64 0, .int .u64 0, .bool false, .int .u64 0, .slice none 0 0, .slice none 0 0] rfl _ HZ5.out rfl rfl (by simp [Value.oneCell']) ?_
        intro U hrU hgU
        have HST : Hid (_ ∧ _) := ⟨hrU, hgU⟩
        clear hrU hgU
        go_wp2_with fail
        obtain ⟨u0, u1, u2, u3, u4, u5, u6, u7, u8, u9, u10, u11, u12, u13, u14⟩ := rec_cell HST.out.1
        refine bodyPost_ret (v := .tuple #[.agg #[.int .i64 0, .int .u64 0, .int .u32 0, .int .u64 0, .int .u32 0, .int .u16 0, .slice none 0 0, .slice none 0 0, .slice none 0 0, .int .u64 0, .int .u64 0, .bool false, .int .u64 0, .slice none 0 0, .slice none 0 0], .int .i64 0, .int .i64 4]) (by simp [results, Try.results18, go_sem, u0, u1, u2, u3, u4, u5, u6, u7, u8, u9, u10, u11, u12, u13, u14]) rfl ?_
        exact ⟨_, _, _, _, _, rfl, zero_own _ _, below_grown HB5.out HST.out.2 HB5.out.size (Nat.le_of_eq HQ.out.symm)⟩
    case true =>
      as_aux_lemma =>
        obtain rfl : rr = (x, L, 0) := HRR.out.symm.trans ((Lr.readR_of (Lr.is_prefix HM.out HOx.out.ok ⟨by rw [← HLL.out]; exact HLB.out, HDS.out.1 rfl⟩)).trans (by rw [HLL.out]))
        rw [show (!true) = false from rfl]
        go_upto_region 7 with (fail)
        go_step
        refine wpList_load_rec rfl (.tmp 5) rfl y rfl _ HRY5.out rfl ?_
        iterate 6 go_step
        refine wpList_store_rec rfl (.tmp 2) (.tmp 39) rfl Q rfl _ rfl _ HZ5.out rfl rfl (by simp [Value.oneCell']) ?_
        intro U hrU hgU
        have HST : Hid (_ ∧ _) := ⟨hrU, hgU⟩
        clear hrU hgU
        go_wp2_with fail
        obtain ⟨u0, u1, u2, u3, u4, u5, u6, u7, u8, u9, u10, u11, u12, u13, u14⟩ := rec_cell HST.out.1
        refine bodyPost_ret (v := .tuple #[.agg #[.int .i64 x.kind, .int .u64 (x.lsn : Int), .int .u32 (x.epoch : Int), .int .u64 (x.txn : Int), .int .u32 (x.page : Int), .int .u16 (x.off : Int), .slice p1 x.old.length c1, .slice p2 x.new.length c2, .slice p3 x.undo.length c3, .int .u64 (x.prev : Int), .int .u64 (x.next : Int), .bool x.clr, .int .u64 (x.stamp : Int), .slice p4 x.opn.length c4, .slice p5 x.dirt.length c5], .int .i64 (L : Int), .int .i64 0]) (by simp [results, Try.results18, go_sem, u0, u1, u2, u3, u4, u5, u6, u7, u8, u9, u10, u11, u12, u13, u14]) rfl ?_
        refine ⟨_, _, _, _, _, rfl, ?_, below_grown HB5.out HST.out.2 HB5.out.size (Nat.le_of_eq HQ.out.symm)⟩
        have h := HOx.out
        have hq : Q < M := HQM.out
        exact ⟨(h.old.grown HST.out.2 (own_neB h.old hq)).from HWM.out, (h.new.grown HST.out.2 (own_neB h.new hq)).from HWM.out, (h.undo.grown HST.out.2 (own_neB h.undo hq)).from HWM.out, (h.opn.grown HST.out.2 (Chr.own_neB h.opn hq)).from HWM.out, (h.dirt.grown HST.out.2 (Dir.own_neB h.dirt hq)).from HWM.out, h.ok⟩

end Go.Proofs.Ytkchoelegdknoaa
