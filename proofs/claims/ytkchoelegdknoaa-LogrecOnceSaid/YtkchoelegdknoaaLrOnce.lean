/- What the law LogrecOnce answers, for all bytes. Conditions: the slice's cells hold them. -/
import Derived.Test.YtkchoelegdknoaaLrKnown
namespace Go.Proofs.Ytkchoelegdknoaa
open Go.RowKit

def OnF (xv : Value) (v3 : Value) (mv : Value) (mt : Value) (L : Nat) (N : Nat) (S : ByteArray) (i : Nat) (v : Value) (_ : World) : Prop :=
  match i with
  | 0 => v = .int .i64 0
  | 1 => v = .bool true
  | 2 => v = .bool true
  | 3 => v = v3
  | 4 => v = .int .i64 (L : Int)
  | 5 => v = .int .i64 (L : Int)
  | 6 => v = .bool true
  | 7 => v = .bool true
  | 8 => v = .bool true
  | 9 => v = xv
  | 10 => v = .int .i64 (L : Int)
  | 11 => v = .int .i64 (L : Int)
  | 12 => v = .bool true
  | 13 => v = .bool true
  | 14 => v = .bool true
  | 15 => v = .int .i64 (L : Int)
  | 16 => v = mv
  | 17 => v = .int .i64 (N : Int)
  | 18 => v = .bool true
  | 19 => v = .bool true
  | 20 => v = .bool true
  | 21 => v = v3
  | 22 => v = .string S
  | 23 => v = mv
  | 24 => v = .int .i64 (L : Int)
  | 25 => v = mt
  | 26 => v = .string S
  | 27 => v = .bool true
  | 28 => v = .bool true
  | 29 => v = .bool true
  | 30 => v = .bool true
  | 31 => v = .bool true
  | 32 => v = .bool true
  | _ => True
def OnP  (i : Nat) (_w : World) (_v : Value) : Prop :=
  match i with
  | _ => True
def OnT (i : Nat) : Option Nat :=
  match i with
  | _ => none
theorem OnS  : ∀ k w w' v, OnP  k w v → Below w.heap.size w w' → OnP  k w' v := by
  intro k w w' v _ _
  unfold OnP
  split
  · trivial

set_option maxHeartbeats 6400000 in
set_option maxRecDepth 20000 in
theorem once_any (m : Value) (b : List Nat) (w : World) (hB : Bts w m b) :
    Calls Try.prog 7 #[m] w fun e w' => e = .returned (.bool true) ∧ Below w.heap.size w w' := by
  have HB := Lib.hid hB
  obtain ⟨p, cap, rfl⟩ := hB.slice
  have HCAP : Hid (b.length ≤ cap ∧ cap ≤ 9223372036854775807) := by
    obtain ⟨p', cap', e, h, -⟩ := hB.form
    simp only [Value.slice.injEq] at e
    obtain ⟨-, -, rfl⟩ := e
    exact h
  clear hB
  by_cases hl : b.length ≤ 5000
  case neg =>
    have h1 : (5000 : Int) < (b.length : Int) := by omega
    go_enter Try.func7, Try.ntmps7
    go_wp2_with fail
    refine (known_any _).mono ?_
    rintro e w' ⟨rfl, hb⟩
    go_wp2_with fail
    go_ret
    exact ⟨rfl, hb⟩
  have h1 : ¬ (5000 : Int) < (b.length : Int) := by omega
  have hc := read_any _ b w HB.out (by omega)
  by_cases he : ∃ y, Lr.Is b y
  case neg =>
    rw [Lr.readR_none fun y hy => he ⟨y, hy⟩] at hc
    go_enter Try.func7, Try.ntmps7
    go_wp2_with fail
    refine hc.mono ?_
    rintro e w1 ⟨o, n, u, c, d, rfl, hO, hb⟩
    obtain ⟨p1, c1, p2, c2, p3, c3, p4, c4, p5, c5, rfl, rfl, rfl, rfl, rfl⟩ := rec_slices hO.at
    have HB1 := Lib.hid hb
    clear hc hO hb
    dsimp only [Lr.zero, List.length_nil]
    go_wp2_with fail
    refine (known_any _).mono ?_
    rintro e w' ⟨rfl, hb⟩
    have hb2 := Below.trans HB1.out ((Below.trans (below_new1 _ _) (hb.mono (below_new1 _ _).size)).mono HB1.out.size)
    clear hb
    go_wp2_with fail
    go_ret
    exact ⟨rfl, hb2⟩
  obtain ⟨y, hy⟩ := he
  obtain ⟨L, hL⟩ : ∃ L, L = (Lr.form y).length := ⟨_, rfl⟩
  have hpre := Lr.prefix_of hy
  rw [Lr.readR_of hy, ← hL] at hc
  have HLL := Lib.hid hL
  have HM := Lib.hid hy.1
  have HF := Lib.hid (Lr.bare_lists hy.1).1
  have HLB : Hid (L ≤ b.length) := by rw [hL]; exact hpre.1
  have HPR := Lib.hid hpre.2
  clear hpre hy hL
  go_enter Try.func7, Try.ntmps7
  go_wp2_with fail
  refine hc.mono ?_
  rintro e w1 ⟨o, n, u, c, d, rfl, hO, hb⟩
  obtain ⟨p1, c1, p2, c2, p3, c3, p4, c4, p5, c5, rfl, rfl, rfl, rfl, rfl⟩ := rec_slices hO.at
  have HO1 := Lib.hid hO
  have HB1 := Lib.hid hb
  clear hc hO hb
  go_upto_region 4 with (fail)
  obtain ⟨Y, hY⟩ : ∃ Y, Y = w1.alloc (.cells #[.int .i64 y.kind, .int .u64 (y.lsn : Int), .int .u32 (y.epoch : Int), .int .u64 (y.txn : Int), .int .u32 (y.page : Int), .int .u16 (y.off : Int), .slice p1 y.old.length c1, .slice p2 y.new.length c2, .slice p3 y.undo.length c3, .int .u64 (y.prev : Int), .int .u64 (y.next : Int), .bool y.clr, .int .u64 (y.stamp : Int), .slice p4 y.opn.length c4, .slice p5 y.dirt.length c5] 30) := ⟨_, rfl⟩
  have hbY : Below w1.heap.size w1 Y := by rw [hY]; exact below_new1 _ _
  have hrY : Y.heap[w1.heap.size]? = some (.cells #[.int .i64 y.kind, .int .u64 (y.lsn : Int), .int .u32 (y.epoch : Int), .int .u64 (y.txn : Int), .int .u32 (y.page : Int), .int .u16 (y.off : Int), .slice p1 y.old.length c1, .slice p2 y.new.length c2, .slice p3 y.undo.length c3, .int .u64 (y.prev : Int), .int .u64 (y.next : Int), .bool y.clr, .int .u64 (y.stamp : Int), .slice p4 y.opn.length c4, .slice p5 y.dirt.length c5] 30 (0, 0)) := by rw [hY]; exact heap_alloc_last _ _
  rw [← hY]
  obtain ⟨B, hBq⟩ : ∃ B, B = w1.heap.size := ⟨_, rfl⟩
  rw [← hBq] at hrY ⊢
  have HRY := Lib.hid hrY
  have HOY := Lib.hid (HO1.out.at.below hbY)
  have HBY := Lib.hid (HB1.out.trans (hbY.mono HB1.out.size))
  clear hY hbY hrY hBq
  go_upto_region 6 with (fail)
  go_step
  refine wpList_load_rec rfl (.tmp 3) rfl B rfl _ HRY.out rfl ?_
  go_wp2_with fail
  have hc := bytes_any y _ _ _ _ _ Y HOY.out HF.out
  rw [Lr.ifP_pos HM.out, Lr.ifP_pos HM.out, show ((0 : Nat) : Int) = 0 from rfl] at hc
  refine hc.mono ?_
  rintro e w3 ⟨v3, rfl, hO3, hb3⟩
  clear hc
  obtain ⟨q3, k3, rfl⟩ := hO3.bts.slice
  rw [← HLL.out]
  have hO3' := hO3.bts
  rw [← HLL.out] at hO3'
  have HO3 := Lib.hid hO3'
  have HBW := Lib.hid (HBY.out.trans (hb3.mono HBY.out.size))
  have HO := Lib.hid (HOY.out.below hb3)
  have HROW := Lib.hid ((hb3.block _ (lt_of_block HRY.out)).trans HRY.out)
  clear hO3 hO3' hb3
  go_upto_region 7 with (fail)
  obtain ⟨W, hW⟩ : ∃ W, W = w3 := ⟨_, rfl⟩
  rw [← hW] at HO3 HBW HO HROW ⊢
  clear hW
  have HYL : Hid (B < W.heap.size) := lt_of_block HROW.out
  have HBB := Lib.hid (HB.out.below HBW.out)
  have HMT : Hid (Bts W (.slice p L cap) (Lr.form y)) := by
    have h := HBB.out.take L HLB.out
    have e : b.take L = Lr.form y := by rw [HLL.out]; exact HPR.out
    rw [e] at h
    exact h
  obtain ⟨S, hS⟩ : ∃ S, S = strOfNums ((Lr.form y).map fun x : Nat => (x : Int)) := ⟨_, rfl⟩
  have HS3 : Hid (∀ W', Below W.heap.size W W' → (convert 26 9 (.slice q3 L k3)).run Try.prog W' = .ok (.string S) W') := fun W' h => by rw [hS]; exact strOf_conv (HO3.out.below h)
  have HSM : Hid (∀ W', Below W.heap.size W W' → (convert 26 9 (.slice p L cap)).run Try.prog W' = .ok (.string S) W') := fun W' h => by rw [hS]; exact strOf_conv (HMT.out.below h)
  clear hS h1 hl
  refine Ord.walk (OnF (RecV y (.slice p1 y.old.length c1) (.slice p2 y.new.length c2) (.slice p3 y.undo.length c3) (.slice p4 y.opn.length c4) (.slice p5 y.dirt.length c5)) (.slice q3 L k3) (.slice p b.length cap) (.slice p L cap) L b.length S) (KeptR W.heap.size W (OnP ) OnT) (fun _ _ => True)
    (by kernel_rfl) (by kernel_rfl) ?fr7 ?hfr7 (fun _ _ _ _ _ h => h) (fun xs => KeptR.first xs (Nat.le_refl _)) ?he7 ?hend7
  case hfr7 =>
    intro xs
    simp only [Ord.fill, Act.put, List.setIfInBounds_toArray, List.set_cons_zero, List.set_cons_succ]
    rfl
  case he7 =>
    refine Ord.each_cons (fun D xs w2 hD hC hP hR hA K hK => ?_) ?_
    · -- 0
      clear hA
      go_simp
      exact hK _ _ ⟨_, rfl, trivial, hR.step 0 _ (OnS ) (Below.refl _ _) trivial, rfl⟩
    refine Ord.each_cons (fun D xs w2 hD hC hP hR hA K hK => ?_) ?_
    · -- 1
      have q0 := Ord.ahead_get _ hA 0 (by decide)
      simp only [OnF] at q0
      simp only [q0] at hK
      clear hA
      go_simp
      exact hK _ _ ⟨_, rfl, trivial, hR.step 1 _ (OnS ) (Below.refl _ _) trivial, rfl⟩
    refine Ord.each_cons (fun D xs w2 hD hC hP hR hA K hK => ?_) ?_
    · -- 2
      have q1 := Ord.ahead_get _ hA 1 (by decide)
      simp only [OnF] at q1
      simp only [q1] at hK
      clear hA
      go_simp
      exact hK _ _ ⟨_, rfl, trivial, hR.step 2 _ (OnS ) (Below.refl _ _) trivial, rfl⟩
    refine Ord.each_cons (fun D xs w2 hD hC hP hR hA K hK => ?_) ?_
    · -- 3
      have q2 := Ord.ahead_get _ hA 2 (by decide)
      simp only [OnF] at q2
      simp only [q2] at hK
      clear hA
      go_simp
      exact hK _ _ ⟨_, rfl, trivial, hR.step 3 _ (OnS ) (Below.refl _ _) trivial, rfl⟩
    refine Ord.each_cons (fun D xs w2 hD hC hP hR hA K hK => ?_) ?_
    · -- 4
      have q2 := Ord.ahead_get _ hA 2 (by decide)
      simp only [OnF] at q2
      have q3 := Ord.ahead_get _ hA 3 (by decide)
      simp only [OnF] at q3
      simp only [q2, q3] at hK
      clear hA
      go_simp
      exact hK _ _ ⟨_, rfl, trivial, hR.step 4 _ (OnS ) (Below.refl _ _) trivial, rfl⟩
    refine Ord.each_cons (fun D xs w2 hD hC hP hR hA K hK => ?_) ?_
    · -- 5
      have q2 := Ord.ahead_get _ hA 2 (by decide)
      simp only [OnF] at q2
      simp only [q2] at hK
      clear hA
      go_simp
      exact hK _ _ ⟨_, rfl, trivial, hR.step 5 _ (OnS ) (Below.refl _ _) trivial, rfl⟩
    refine Ord.each_cons (fun D xs w2 hD hC hP hR hA K hK => ?_) ?_
    · -- 6
      have q2 := Ord.ahead_get _ hA 2 (by decide)
      simp only [OnF] at q2
      have q4 := Ord.ahead_get _ hA 4 (by decide)
      simp only [OnF] at q4
      have q5 := Ord.ahead_get _ hA 5 (by decide)
      simp only [OnF] at q5
      simp only [q2, q4, q5] at hK
      clear hA
      go_simp
      exact hK _ _ ⟨_, rfl, trivial, hR.step 6 _ (OnS ) (Below.refl _ _) trivial, rfl⟩
    refine Ord.each_cons (fun D xs w2 hD hC hP hR hA K hK => ?_) ?_
    · -- 7
      have q2 := Ord.ahead_get _ hA 2 (by decide)
      simp only [OnF] at q2
      have q6 := Ord.ahead_get _ hA 6 (by decide)
      simp only [OnF] at q6
      simp only [q2, q6] at hK
      clear hA
      go_simp
      exact hK _ _ ⟨_, rfl, trivial, hR.step 7 _ (OnS ) (Below.refl _ _) trivial, rfl⟩
    refine Ord.each_cons (fun D xs w2 hD hC hP hR hA K hK => ?_) ?_
    · -- 8
      have q7 := Ord.ahead_get _ hA 7 (by decide)
      simp only [OnF] at q7
      simp only [q7] at hK
      clear hA
      go_simp
      exact hK _ _ ⟨_, rfl, trivial, hR.step 8 _ (OnS ) (Below.refl _ _) trivial, rfl⟩
    refine Ord.each_cons (fun D xs w2 hD hC hP hR hA K hK => ?_) ?_
    · -- 9
      have q8 := Ord.ahead_get _ hA 8 (by decide)
      simp only [OnF] at q8
      simp only [q8] at hK
      clear hA
      have hrow := (hR.below.block _ HYL.out).trans HROW.out
      obtain ⟨e0, e1, e2, e3, e4, e5, e6, e7, e8, e9, e10, e11, e12, e13, e14⟩ := rec_cell hrow
      clear hrow
      go_simp
      exact hK _ _ ⟨_, rfl, trivial, hR.step 9 _ (OnS ) (Below.refl _ _) trivial, rfl⟩
    refine Ord.each_cons (fun D xs w2 hD hC hP hR hA K hK => ?_) ?_
    · -- 10
      have q8 := Ord.ahead_get _ hA 8 (by decide)
      simp only [OnF] at q8
      have q9 := Ord.ahead_get _ hA 9 (by decide)
      simp only [OnF] at q9
      simp only [q8, q9] at hK
      clear hA
      have hc := size_any y _ _ _ _ _ w2 (HO.out.below hR.below) HF.out
      rw [Lr.ifP_pos HM.out, ← HLL.out] at hc
      go_simp
      refine hc.mono ?_
      rintro e w' ⟨rfl, hb⟩
      exact hK _ _ ⟨_, rfl, trivial, hR.step 10 _ (OnS ) hb trivial, rfl⟩
    refine Ord.each_cons (fun D xs w2 hD hC hP hR hA K hK => ?_) ?_
    · -- 11
      have q8 := Ord.ahead_get _ hA 8 (by decide)
      simp only [OnF] at q8
      simp only [q8] at hK
      clear hA
      go_simp
      exact hK _ _ ⟨_, rfl, trivial, hR.step 11 _ (OnS ) (Below.refl _ _) trivial, rfl⟩
    refine Ord.each_cons (fun D xs w2 hD hC hP hR hA K hK => ?_) ?_
    · -- 12
      have q8 := Ord.ahead_get _ hA 8 (by decide)
      simp only [OnF] at q8
      have q10 := Ord.ahead_get _ hA 10 (by decide)
      simp only [OnF] at q10
      have q11 := Ord.ahead_get _ hA 11 (by decide)
      simp only [OnF] at q11
      simp only [q8, q10, q11] at hK
      clear hA
      go_simp
      exact hK _ _ ⟨_, rfl, trivial, hR.step 12 _ (OnS ) (Below.refl _ _) trivial, rfl⟩
    refine Ord.each_cons (fun D xs w2 hD hC hP hR hA K hK => ?_) ?_
    · -- 13
      have q8 := Ord.ahead_get _ hA 8 (by decide)
      simp only [OnF] at q8
      have q12 := Ord.ahead_get _ hA 12 (by decide)
      simp only [OnF] at q12
      simp only [q8, q12] at hK
      clear hA
      go_simp
      exact hK _ _ ⟨_, rfl, trivial, hR.step 13 _ (OnS ) (Below.refl _ _) trivial, rfl⟩
    refine Ord.each_cons (fun D xs w2 hD hC hP hR hA K hK => ?_) ?_
    · -- 14
      have q13 := Ord.ahead_get _ hA 13 (by decide)
      simp only [OnF] at q13
      simp only [q13] at hK
      clear hA
      go_simp
      exact hK _ _ ⟨_, rfl, trivial, hR.step 14 _ (OnS ) (Below.refl _ _) trivial, rfl⟩
    refine Ord.each_cons (fun D xs w2 hD hC hP hR hA K hK => ?_) ?_
    · -- 15
      have q14 := Ord.ahead_get _ hA 14 (by decide)
      simp only [OnF] at q14
      simp only [q14] at hK
      clear hA
      go_simp
      exact hK _ _ ⟨_, rfl, trivial, hR.step 15 _ (OnS ) (Below.refl _ _) trivial, rfl⟩
    refine Ord.each_cons (fun D xs w2 hD hC hP hR hA K hK => ?_) ?_
    · -- 16
      have q14 := Ord.ahead_get _ hA 14 (by decide)
      simp only [OnF] at q14
      simp only [q14] at hK
      clear hA
      go_simp
      exact hK _ _ ⟨_, rfl, trivial, hR.step 16 _ (OnS ) (Below.refl _ _) trivial, rfl⟩
    refine Ord.each_cons (fun D xs w2 hD hC hP hR hA K hK => ?_) ?_
    · -- 17
      have q14 := Ord.ahead_get _ hA 14 (by decide)
      simp only [OnF] at q14
      have q16 := Ord.ahead_get _ hA 16 (by decide)
      simp only [OnF] at q16
      simp only [q14, q16] at hK
      clear hA
      go_simp
      exact hK _ _ ⟨_, rfl, trivial, hR.step 17 _ (OnS ) (Below.refl _ _) trivial, rfl⟩
    refine Ord.each_cons (fun D xs w2 hD hC hP hR hA K hK => ?_) ?_
    · -- 18
      have q14 := Ord.ahead_get _ hA 14 (by decide)
      simp only [OnF] at q14
      have q15 := Ord.ahead_get _ hA 15 (by decide)
      simp only [OnF] at q15
      have q17 := Ord.ahead_get _ hA 17 (by decide)
      simp only [OnF] at q17
      simp only [q14, q15, q17] at hK
      clear hA
      have hle : (L : Int) ≤ (b.length : Int) := by have := HLB.out; omega
      go_simp
      exact hK _ _ ⟨_, rfl, trivial, hR.step 18 _ (OnS ) (Below.refl _ _) trivial, rfl⟩
    refine Ord.each_cons (fun D xs w2 hD hC hP hR hA K hK => ?_) ?_
    · -- 19
      have q14 := Ord.ahead_get _ hA 14 (by decide)
      simp only [OnF] at q14
      have q18 := Ord.ahead_get _ hA 18 (by decide)
      simp only [OnF] at q18
      simp only [q14, q18] at hK
      clear hA
      go_simp
      exact hK _ _ ⟨_, rfl, trivial, hR.step 19 _ (OnS ) (Below.refl _ _) trivial, rfl⟩
    refine Ord.each_cons (fun D xs w2 hD hC hP hR hA K hK => ?_) ?_
    · -- 20
      have q19 := Ord.ahead_get _ hA 19 (by decide)
      simp only [OnF] at q19
      simp only [q19] at hK
      clear hA
      go_simp
      exact hK _ _ ⟨_, rfl, trivial, hR.step 20 _ (OnS ) (Below.refl _ _) trivial, rfl⟩
    refine Ord.each_cons (fun D xs w2 hD hC hP hR hA K hK => ?_) ?_
    · -- 21
      have q20 := Ord.ahead_get _ hA 20 (by decide)
      simp only [OnF] at q20
      simp only [q20] at hK
      clear hA
      go_simp
      exact hK _ _ ⟨_, rfl, trivial, hR.step 21 _ (OnS ) (Below.refl _ _) trivial, rfl⟩
    refine Ord.each_cons (fun D xs w2 hD hC hP hR hA K hK => ?_) ?_
    · -- 22
      have q20 := Ord.ahead_get _ hA 20 (by decide)
      simp only [OnF] at q20
      have q21 := Ord.ahead_get _ hA 21 (by decide)
      simp only [OnF] at q21
      simp only [q20, q21] at hK
      clear hA
      have cv := HS3.out w2 hR.below
      go_simp
      exact hK _ _ ⟨_, rfl, trivial, hR.step 22 _ (OnS ) (Below.refl _ _) trivial, rfl⟩
    refine Ord.each_cons (fun D xs w2 hD hC hP hR hA K hK => ?_) ?_
    · -- 23
      have q20 := Ord.ahead_get _ hA 20 (by decide)
      simp only [OnF] at q20
      simp only [q20] at hK
      clear hA
      go_simp
      exact hK _ _ ⟨_, rfl, trivial, hR.step 23 _ (OnS ) (Below.refl _ _) trivial, rfl⟩
    refine Ord.each_cons (fun D xs w2 hD hC hP hR hA K hK => ?_) ?_
    · -- 24
      have q20 := Ord.ahead_get _ hA 20 (by decide)
      simp only [OnF] at q20
      simp only [q20] at hK
      clear hA
      go_simp
      exact hK _ _ ⟨_, rfl, trivial, hR.step 24 _ (OnS ) (Below.refl _ _) trivial, rfl⟩
    refine Ord.each_cons (fun D xs w2 hD hC hP hR hA K hK => ?_) ?_
    · -- 25
      have q20 := Ord.ahead_get _ hA 20 (by decide)
      simp only [OnF] at q20
      have q23 := Ord.ahead_get _ hA 23 (by decide)
      simp only [OnF] at q23
      have q24 := Ord.ahead_get _ hA 24 (by decide)
      simp only [OnF] at q24
      simp only [q20, q23, q24] at hK
      clear hA
      have hle : (L : Int) ≤ (b.length : Int) := by have := HLB.out; omega
      have hcp1 := HCAP.out.1
      have hcp2 := HCAP.out.2
      have hle2 : L ≤ cap := by have := HLB.out; omega
      go_simp
      exact hK _ _ ⟨_, rfl, trivial, hR.step 25 _ (OnS ) (Below.refl _ _) trivial, rfl⟩
    refine Ord.each_cons (fun D xs w2 hD hC hP hR hA K hK => ?_) ?_
    · -- 26
      have q20 := Ord.ahead_get _ hA 20 (by decide)
      simp only [OnF] at q20
      have q25 := Ord.ahead_get _ hA 25 (by decide)
      simp only [OnF] at q25
      simp only [q20, q25] at hK
      clear hA
      have cv := HSM.out w2 hR.below
      go_simp
      exact hK _ _ ⟨_, rfl, trivial, hR.step 26 _ (OnS ) (Below.refl _ _) trivial, rfl⟩
    refine Ord.each_cons (fun D xs w2 hD hC hP hR hA K hK => ?_) ?_
    · -- 27
      have q20 := Ord.ahead_get _ hA 20 (by decide)
      simp only [OnF] at q20
      have q22 := Ord.ahead_get _ hA 22 (by decide)
      simp only [OnF] at q22
      have q26 := Ord.ahead_get _ hA 26 (by decide)
      simp only [OnF] at q26
      simp only [q20, q22, q26] at hK
      clear hA
      go_simp
      exact hK _ _ ⟨_, rfl, trivial, hR.step 27 _ (OnS ) (Below.refl _ _) trivial, rfl⟩
    refine Ord.each_cons (fun D xs w2 hD hC hP hR hA K hK => ?_) ?_
    · -- 28
      have q20 := Ord.ahead_get _ hA 20 (by decide)
      simp only [OnF] at q20
      have q27 := Ord.ahead_get _ hA 27 (by decide)
      simp only [OnF] at q27
      simp only [q20, q27] at hK
      clear hA
      go_simp
      exact hK _ _ ⟨_, rfl, trivial, hR.step 28 _ (OnS ) (Below.refl _ _) trivial, rfl⟩
    refine Ord.each_cons (fun D xs w2 hD hC hP hR hA K hK => ?_) ?_
    · -- 29
      have q28 := Ord.ahead_get _ hA 28 (by decide)
      simp only [OnF] at q28
      simp only [q28] at hK
      clear hA
      go_simp
      exact hK _ _ ⟨_, rfl, trivial, hR.step 29 _ (OnS ) (Below.refl _ _) trivial, rfl⟩
    refine Ord.each_cons (fun D xs w2 hD hC hP hR hA K hK => ?_) ?_
    · -- 30
      have q29 := Ord.ahead_get _ hA 29 (by decide)
      simp only [OnF] at q29
      simp only [q29] at hK
      clear hA
      go_simp
      refine (known_any w2).mono ?_
      rintro e w' ⟨rfl, hb⟩
      exact hK _ _ ⟨_, rfl, trivial, hR.step 30 _ (OnS ) hb trivial, rfl⟩
    refine Ord.each_cons (fun D xs w2 hD hC hP hR hA K hK => ?_) ?_
    · -- 31
      have q29 := Ord.ahead_get _ hA 29 (by decide)
      simp only [OnF] at q29
      have q30 := Ord.ahead_get _ hA 30 (by decide)
      simp only [OnF] at q30
      simp only [q29, q30] at hK
      clear hA
      go_simp
      exact hK _ _ ⟨_, rfl, trivial, hR.step 31 _ (OnS ) (Below.refl _ _) trivial, rfl⟩
    refine Ord.each_cons (fun D xs w2 hD hC hP hR hA K hK => ?_) ?_
    · -- 32
      have q31 := Ord.ahead_get _ hA 31 (by decide)
      simp only [OnF] at q31
      simp only [q31] at hK
      clear hA
      go_simp
      exact hK _ _ ⟨_, rfl, trivial, hR.step 32 _ (OnS ) (Below.refl _ _) trivial, rfl⟩
    exact Ord.each_nil
  case hend7 =>
    intro D xs w9 hR hall
    have h8 := (hall 32 (by decide)).2
    simp only [OnF] at h8
    have HB9 := Lib.hid hR.below
    clear hR hall
    simp only [h8]
    clear h8
    generalize xs 31 = z31 at *
    generalize xs 30 = z30 at *
    generalize xs 29 = z29 at *
    generalize xs 28 = z28 at *
    generalize xs 27 = z27 at *
    generalize xs 26 = z26 at *
    generalize xs 25 = z25 at *
    generalize xs 24 = z24 at *
    generalize xs 23 = z23 at *
    generalize xs 22 = z22 at *
    generalize xs 21 = z21 at *
    generalize xs 20 = z20 at *
    generalize xs 19 = z19 at *
    generalize xs 18 = z18 at *
    generalize xs 17 = z17 at *
    generalize xs 16 = z16 at *
    generalize xs 15 = z15 at *
    generalize xs 14 = z14 at *
    generalize xs 13 = z13 at *
    generalize xs 12 = z12 at *
    generalize xs 11 = z11 at *
    generalize xs 10 = z10 at *
    generalize xs 9 = z9 at *
    generalize xs 8 = z8 at *
    generalize xs 7 = z7 at *
    generalize xs 6 = z6 at *
    generalize xs 5 = z5 at *
    generalize xs 4 = z4 at *
    generalize xs 3 = z3 at *
    generalize xs 2 = z2 at *
    generalize xs 1 = z1 at *
    generalize xs 0 = z0 at *
    go_wp2_with fail
    go_ret
    exact ⟨rfl, HBW.out.trans (HB9.out.mono HBW.out.size)⟩
end Go.Proofs.Ytkchoelegdknoaa
