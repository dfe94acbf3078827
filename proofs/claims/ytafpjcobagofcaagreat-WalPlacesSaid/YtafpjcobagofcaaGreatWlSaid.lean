/- What a sector ahead of the ring says, as the program reads it. Conditions: it says what a log's must. -/
import Derived.Test.YtafpjcobagofcaaGreatWlHead
import Derived.Test.YtafpjcobagofcaaGreatCodeM
import Derived.Test.YtafpjcobagofcaaGreatLrEq
import Derived.Test.YtafpjcobagofcaaGreatRgn
namespace Go.Proofs.YtafpjcobagofcaaGreat
open Go.RowKit

namespace Wl
def hdTail (k : Kn) : List Nat := Cod.le 8 k.start ++ (Cod.le 8 k.flushed ++ (Cod.le 8 k.point ++ (Cod.le 4 k.epoch ++ List.replicate 88 0)))
def hdRest (a c : Nat) (k : Kn) : Nat → List Nat
  | 0 => head a c k
  | 1 => Cod.le 4 a ++ (Cod.le 4 c ++ hdTail k)
  | 2 => Cod.le 4 c ++ hdTail k
  | _ => hdTail k
theorem head_parts (a c : Nat) (k : Kn) : head a c k = Cod.le 4 (Crc.more 0 (headB a c k)) ++ (Cod.le 4 a ++ (Cod.le 4 c ++ hdTail k)) := by
  unfold head hdTail
  conv => lhs; rw [show headB a c k = ((((Cod.le 4 a ++ Cod.le 4 c) ++ Cod.le 8 k.start) ++ Cod.le 8 k.flushed) ++ Cod.le 8 k.point) ++ Cod.le 4 k.epoch from rfl]
  simp only [List.append_assoc]
  rfl
theorem hd_next {a c : Nat} {k : Kn} (ha : a < 4294967296) (hc : c < 4294967296) {K : Nat} (h : K < 3) : ∃ m, Cod.rdNum 4 (hdRest a c k K) 0 = (m, hdRest a c k (K + 1), 0) := by
  obtain rfl | rfl | rfl : K = 0 ∨ K = 1 ∨ K = 2 := by omega
  · exact ⟨_, by show Cod.rdNum 4 (head a c k) 0 = _; rw [head_parts]; exact Lr.rd_four (Lr.sum_lt (headB_lt a c k)) _⟩
  · exact ⟨_, Lr.rd_four ha _⟩
  · exact ⟨_, Lr.rd_four hc _⟩
/-- What is known is told by as many bits as there are. -/
structure KnOk (k : Kn) : Prop where
  start : k.start < 18446744073709551616
  flushed : k.flushed < 18446744073709551616
  point : k.point < 18446744073709551616
  epoch : k.epoch < 4294967296
end Wl

def SdF (k : Wl.Kn) (L a c W : Nat) (v0 : Value) (i : Nat) (v : Value) (w : World) : Prop :=
  match i with
  | 0 => v = KnV k
  | 1 => v = v0
  | 2 => v = .pointer (some ⟨L, 0, none⟩)
  | 3 => v = KnV k
  | 4 => Own W w v (Wl.head a c k)
  | 5 => v = .bool true
  | 7 => v = .bool true
  | _ => True
theorem SdF_later (k : Wl.Kn) (L a c W : Nat) (v0 : Value) {Q : Nat} (hq : Q < W) (i : Nat) (v : Value) (w w' : World) (hb : Touch (· = Q) w w') (h : SdF k L a c W v0 i v w) : SdF k L a c W v0 i v w' := by
  unfold SdF at *
  split at h <;> first | exact h | exact h.touch1 hq hb | trivial

set_option maxHeartbeats 3200000 in
set_option maxRecDepth 20000 in
theorem wlSaid_any {w : World} {L B a c : Nat} {k0 : Wl.Kn} {pl wa : Value} {dn : Bool} (h : LogAt w L k0 B a c pl wa dn) (v : Value) (k : Wl.Kn) (hv : Bts w v (Wl.head a c k)) (hk : Wl.KnOk k) (ha : a ≤ 65536) (hc : c ≤ 8192) :
    Calls Tryz.prog 66 #[.pointer (some ⟨L, 0, none⟩), v] w fun e w' => e = .returned (.tuple #[KnV k, .bool true]) ∧ Below w.heap.size w w' := by
  obtain ⟨W, hW⟩ : ∃ W, W = w.alloc (.cells #[.int .u64 0, .int .u64 0, .int .u64 0, .int .u32 0] 62) := ⟨_, rfl⟩
  have hb0 : Below w.heap.size w W := by rw [hW]; exact below_new1 _ _
  have hrow : W.heap[w.heap.size]? = some (.cells #[.int .u64 0, .int .u64 0, .int .u64 0, .int .u32 0] 62 (0, 0)) := by rw [hW]; exact heap_alloc_last _ _
  obtain ⟨Q1, hQ⟩ : ∃ Q, Q = w.heap.size := ⟨_, rfl⟩
  rw [← hQ] at hrow
  have HLG0 := Lib.hid (h.below hb0)
  have HV0 := Lib.hid (hv.below hb0)
  have HROW := Lib.hid hrow
  have HB0 := Lib.hid hb0
  have HQ := Lib.hid hQ
  have HA := Lib.hid ha
  have HC := Lib.hid hc
  have HK := Lib.hid hk
  have HLQ : Hid (L ≠ Q1) := by have := h.lt; show L ≠ Q1; omega
  have HVQ : Hid (∀ g, v.ownBlock = some g → g ≠ Q1) := fun g hg => by
    have := hv.block_lt (by rw [Wl.head_length]; decide) g hg
    omega
  clear h hb0 hrow hv ha hc hk
  go_enter Tryz.func66, Tryz.ntmps66
  go_upto_region 1 with (fail)
  rw [← hW, ← hQ]
  clear hW hQ
  go_wp2_with fail
  refine (newReader_any v _ W HV0.out).mono ?_
  rintro e w1 ⟨R, rfl, hR, hWR, hb1⟩
  have HR := Lib.hid hR
  have HB1 := Lib.hid hb1
  have HWR := Lib.hid hWR
  clear hR hb1 hWR
  go_wp2_with fail
  go_loopw [10] (fun i wr => ∃ K, K ≤ 3 ∧ i = .int .i64 ((K : Nat) : Int) ∧ Rd 127 (fun b => W.heap.size ≤ b ∧ b < R) wr R (Wl.hdRest a c k K) 0 ∧ Below W.heap.size W wr) (fun i _ => 3 - (intOf i).toNat)
  case atStart => exact ⟨0, Nat.zero_le _, rfl, HR.out, HB1.out⟩
  case round =>
    obtain ⟨K, hK, rfl, hr, hb⟩ := hrel
    have HB := Lib.hid hb
    have HRR := Lib.hid hr
    clear hr hb
    by_cases hlt : K < 3
    · have hi : (K : Int) < 3 := by omega
      have hm2 := IntWalk.i64_in ((K : Int) + 1) (by omega)
      obtain ⟨m, hm⟩ := Wl.hd_next (a := a) (c := c) (k := k) (by have := HA.out; omega) (by have := HC.out; omega) hlt
      have hcon := U32_any _ R 0 _ wr HRR.out
      rw [hm] at hcon
      have HCON := Lib.hid hcon
      clear hcon hm
      go_wp2_with fail
      refine HCON.out.mono ?_
      rintro e w2 ⟨rfl, hR2, hg2⟩
      have HR2 := Lib.hid hR2
      have HB2 := Lib.hid (below_grown HB.out hg2 HB.out.size HWR.out)
      clear hR2 hg2 HCON
      go_wp2_with fail
      go_roundw
      case rel => exact ⟨K + 1, by omega, by go_num, HR2.out, HB2.out⟩
      case measure => simp [intOf]; omega
    · obtain rfl : K = 3 := by omega
      have hk := HK.out
      have h1 := U64_any _ R 0 _ wr HRR.out
      rw [show Wl.hdRest a c k 3 = Wl.hdTail k from rfl, show Wl.hdTail k = Cod.le 8 k.start ++ (Cod.le 8 k.flushed ++ (Cod.le 8 k.point ++ (Cod.le 4 k.epoch ++ List.replicate 88 0))) from rfl, Lr.rd_eight hk.start] at h1
      have H1 := Lib.hid h1
      clear h1 hk
      go_wp2_with fail
      refine H1.out.mono ?_
      rintro e w1a ⟨rfl, hR1, hg1⟩
      have HBa := Lib.hid (below_grown HB.out hg1 HB.out.size HWR.out)
      have h2 := U64_any _ R 0 _ w1a hR1
      rw [Lr.rd_eight HK.out.flushed] at h2
      have H2 := Lib.hid h2
      clear h2 hR1 hg1 H1
      go_wp2_with fail
      refine H2.out.mono ?_
      rintro e w1b ⟨rfl, hR1, hg1⟩
      have HBb := Lib.hid (below_grown HBa.out hg1 HBa.out.size HWR.out)
      have h2 := U64_any _ R 0 _ w1b hR1
      rw [Lr.rd_eight HK.out.point] at h2
      have H3 := Lib.hid h2
      clear h2 hR1 hg1 H2
      go_wp2_with fail
      refine H3.out.mono ?_
      rintro e w1c ⟨rfl, hR1, hg1⟩
      have HBc := Lib.hid (below_grown HBb.out hg1 HBb.out.size HWR.out)
      have h2 := U32_any _ R 0 _ w1c hR1
      rw [Lr.rd_four HK.out.epoch] at h2
      have H4 := Lib.hid h2
      clear h2 hR1 hg1 H3
      go_wp2_with fail
      refine H4.out.mono ?_
      rintro e w3 ⟨rfl, hR1, hg1⟩
      have HBd := Lib.hid (below_grown HBc.out hg1 HBc.out.size HWR.out)
      clear hR1 hg1 H4
      obtain ⟨W4, hW4⟩ : ∃ W4, W4 = w3.alloc (.cells (KnC k) 62) := ⟨_, rfl⟩
      have hb4 : Below w3.heap.size w3 W4 := by rw [hW4]; exact below_new1 _ _
      have hrow4 : W4.heap[w3.heap.size]? = some (.cells (KnC k) 62 (0, 0)) := by rw [hW4]; exact heap_alloc_last _ _
      obtain ⟨Q2, hQ2⟩ : ∃ Q, Q = w3.heap.size := ⟨_, rfl⟩
      rw [← hQ2] at hrow4
      have HB4 := Lib.hid (HBd.out.trans (hb4.mono HBd.out.size))
      have HQ2 := Lib.hid hrow4
      have HQ1R := Lib.hid ((HB4.out.block Q1 (lt_of_block HROW.out)).trans HROW.out)
      have HQ1L : Hid (Q1 < W4.heap.size) := lt_of_block HQ1R.out
      have HQN : Hid (¬ Q2 = Q1) := by have h1 := lt_of_block HROW.out; have h2 := HBd.out.size; show ¬ Q2 = Q1; omega
      have HLG := Lib.hid (HLG0.out.below HB4.out)
      have HLN : Hid (¬ L = Q1) := HLQ.out
      have HVB := Lib.hid (HV0.out.below HB4.out)
      have HVN : Hid (0 < (Wl.head a c k).length → ∀ g, v.ownBlock = some g → ¬ g = Q1) := fun _ g hg => HVQ.out g hg
      clear hb4 hrow4
      go_upto_region 7 with (fail)
      rw [← hW4, ← hQ2]
      clear hW4 hQ2
      refine Ord.walk (SdF k L a c W4.heap.size v) (fun D _ w' => TR W4 Q1 62 #[.int .u64 0, .int .u64 0, .int .u64 0, .int .u32 0] (KnC k) 6 D w') (fun a b => Touch (· = Q1) a b)
        (by kernel_rfl) (by kernel_rfl) ?fra ?hfra (fun i v w w' hb h => SdF_later _ _ _ _ _ _ HQ1L.out i v w w' hb h) (fun xs => TR.first HQ1R.out) ?hea ?henda
      case hfra =>
        intro xs
        simp only [Ord.fill, Act.put, List.setIfInBounds_toArray, List.set_cons_zero, List.set_cons_succ]
        rfl
      case hea =>
        refine Ord.each_cons (fun D xs w2 hD hC hP hR hA K hK => ?_) ?_
        · -- 0
          clear hA
          refine wp_load_row 62 _ rfl Q2 rfl _ _ _ _ (hR.touch.row HQ2.out HQN.out) Tryz.underlying62 rfl (by kernel_rfl) ?_
          exact hK _ _ ⟨_, rfl, Touch.refl _ _, hR.skip 0 (by decide), rfl⟩
        refine Ord.each_cons (fun D xs w2 hD hC hP hR hA K hK => ?_) ?_
        · -- 1
          clear hA
          go_simp
          exact hK _ _ ⟨_, rfl, Touch.refl _ _, hR.skip 1 (by decide), rfl⟩
        refine Ord.each_cons (fun D xs w2 hD hC hP hR hA K hK => ?_) ?_
        · -- 2
          clear hA
          go_simp
          exact hK _ _ ⟨_, rfl, Touch.refl _ _, hR.skip 2 (by decide), rfl⟩
        refine Ord.each_cons (fun D xs w2 hD hC hP hR hA K hK => ?_) ?_
        · -- 3
          clear hA
          refine wp_load_row 62 _ rfl Q2 rfl _ _ _ _ (hR.touch.row HQ2.out HQN.out) Tryz.underlying62 rfl (by kernel_rfl) ?_
          exact hK _ _ ⟨_, rfl, Touch.refl _ _, hR.skip 3 (by decide), rfl⟩
        refine Ord.each_cons (fun D xs w2 hD hC hP hR hA K hK => ?_) ?_
        · -- 4
          have q2 := Ord.ahead_get _ hA 2 (by decide)
          simp only [SdF] at q2
          have q3 := Ord.ahead_get _ hA 3 (by decide)
          simp only [SdF] at q3
          simp only [q2, q3] at hK
          clear hA
          go_simp
          refine (wlForm_any (HLG.out.touch hR.touch HLN.out) k HA.out HC.out).mono ?_
          rintro e w' ⟨u, rfl, hO, hb⟩
          exact hK _ _ ⟨_, rfl, Touch.of_new hb, hR.step 4 (by decide) hb, hO.from hR.touch.size⟩
        refine Ord.each_cons (fun D xs w2 hD hC hP hR hA K hK => ?_) ?_
        · -- 5
          have q1 := Ord.ahead_get _ hA 1 (by decide)
          simp only [SdF] at q1
          have q4 := Ord.ahead_get _ hA 4 (by decide)
          simp only [SdF] at q4
          simp only [q1] at hK
          clear hA
          go_simp
          refine (btEqual_any v (xs 4) _ _ w2 (hR.touch.bts HVB.out HVN.out) q4.bts).mono ?_
          rintro e w' ⟨rfl, rfl⟩
          rw [decide_eq_true rfl]
          exact hK _ _ ⟨_, rfl, Touch.refl _ _, hR.skip 5 (by decide), rfl⟩
        refine Ord.each_cons (fun D xs w2 hD hC hP hR hA K hK => ?_) ?_
        · -- 6
          have q0 := Ord.ahead_get _ hA 0 (by decide)
          simp only [SdF] at q0
          clear hA
          have hBo := hR.now hD
          refine wp_store_row 62 _ _ rfl Q1 (KnC k) rfl (by exact q0) _ _ hBo (by kernel_rfl) rfl (by simp [Value.oneCell']) ?_
          exact hK _ _ ⟨undef, rfl, setRow_touch _ _, hR.put (setRow_touch _ _) (setRow_heap _ _ _ _ _ _ hBo), trivial⟩
        refine Ord.each_cons (fun D xs w2 hD hC hP hR hA K hK => ?_) ?_
        · -- 7
          have q5 := Ord.ahead_get _ hA 5 (by decide)
          simp only [SdF] at q5
          simp only [q5] at hK
          clear hA
          go_simp
          exact hK _ _ ⟨_, rfl, Touch.refl _ _, hR.skip 7 (by decide), rfl⟩
        exact Ord.each_nil
      case henda =>
        intro D xs w9 hR hF
        have hD6 := (hF 6 (by decide)).1
        have e0 := (hF 0 (by decide)).2
        have e1 := (hF 1 (by decide)).2
        have e2 := (hF 2 (by decide)).2
        have e3 := (hF 3 (by decide)).2
        have e5 := (hF 5 (by decide)).2
        have e7 := (hF 7 (by decide)).2
        have hO4 := (hF 4 (by decide)).2
        simp only [SdF] at e0 e1 e2 e3 e5 e7 hO4
        rw [e0]
        rw [e1]
        rw [e2]
        rw [e3]
        rw [e5]
        rw [e7]
        clear e0 e1 e2 e3 e5 e7
        clear hF
        generalize xs 4 = x4 at *
        generalize xs 6 = x6 at *
        have hrow9 := hR.done hD6
        have HE := Lib.hid ((HB0.out.trans (HB4.out.mono HB0.out.size)).trans (hR.touch.below (base := w.heap.size) (fun i hi => by rw [hi, HQ.out]; exact Nat.le_refl _) (Nat.le_trans HB0.out.size HB4.out.size)))
        have q0 := blk_cell hrow9 0 (v := .int .u64 (k.start : Int)) rfl
        have q1 := blk_cell hrow9 1 (v := .int .u64 (k.flushed : Int)) rfl
        have q2 := blk_cell hrow9 2 (v := .int .u64 (k.point : Int)) rfl
        have q3 := blk_cell hrow9 3 (v := .int .u32 (k.epoch : Int)) rfl
        clear hR hO4 hD6 hrow9
        go_wp2_with fail
        refine bodyPost_ret (v := .tuple #[KnV k, .bool true]) (by simp [results, Tryz.results66, go_sem, q0, q1, q2, q3]) rfl ⟨rfl, HE.out⟩
end Go.Proofs.YtafpjcobagofcaaGreat
