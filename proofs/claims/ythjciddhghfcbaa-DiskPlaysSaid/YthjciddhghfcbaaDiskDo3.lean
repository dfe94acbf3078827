/- A law's do: Write of both devices, what was handed in looked at again. Conditions: the program's contracts; both devices are alike. -/
import Derived.Test.YthjciddhghfcbaaDiskDoR
import Derived.Test.YthjciddhghfcbaaOwnSet
import Derived.BigQuiet
namespace Go.Proofs.Ythjciddhghfcbaa
open Go.RowKit

section
variable {PD : (Nat → Prop) → World → Nat → Dk.Dev → Prop}
/-- What the operations of Write's statement leave. -/
def WrF (B D1 Q G nn cap : Nat) (ni : Int) (at_ : Int) (c : Nat) (i : Nat) (x : Value) (_ : World) : Prop :=
  match i with
  | 0 => x = .pointer (some ⟨B, 0, none⟩)
  | 1 => x = .pointer (some ⟨Q, 1, none⟩)
  | 2 => x = .int .i64 at_
  | 3 => x = .slice (some ⟨G, 0, none⟩) 129 cap
  | 4 => x = .int .i64 ni
  | 5 => x = .slice (some ⟨G, 0, none⟩) nn cap
  | 6 => x = .int .i64 (c : Int)
  | 7 => x = .pointer (some ⟨D1, 0, none⟩)
  | 8 => x = .pointer (some ⟨Q, 1, none⟩)
  | 9 => x = .int .i64 at_
  | 10 => x = .slice (some ⟨G, 0, none⟩) 129 cap
  | 11 => x = .int .i64 ni
  | 12 => x = .slice (some ⟨G, 0, none⟩) nn cap
  | 13 => x = .int .i64 (c : Int)
  | 14 => x = .bool true
  | 15 => x = .bool true
  | _ => True
def lawL (fill : Int) : List Nat := secL fill ++ [77]
theorem lawL_length (fill : Int) : (lawL fill).length = 129 := by simp [lawL, secL_length]
theorem lawL_at (fill : Int) (k : Nat) (hk : k < 128) : (lawL fill).getD k 0 = secB fill k := by
  unfold lawL
  rw [List.getD_eq_getElem?_getD, List.getElem?_append_left (by rw [secL_length]; exact hk)]
  simp [secL, hk]
def stepL (fill : Int) (k : Nat) : List Nat := (List.replicate 129 0).take k ++ (lawL fill).drop k
theorem stepL_length (fill : Int) (k : Nat) (hk : k ≤ 129) : (stepL fill k).length = 129 := by simp [stepL, lawL_length]; omega
theorem stepL_at (fill : Int) (k : Nat) (hk : k ≤ 129) : (stepL fill k).getD k 0 = (lawL fill).getD k 0 := by
  unfold stepL
  have h : ((List.replicate 129 0).take k).length = k := by simp; omega
  rw [List.getD_eq_getElem?_getD, List.getElem?_append_right (by omega), h, Nat.sub_self, List.getElem?_drop, Nat.add_zero, List.getD_eq_getElem?_getD]
theorem stepL_next (fill : Int) (k : Nat) (hk : k < 129) : (stepL fill k).set k 0 = stepL fill (k + 1) :=
  Dk.set_mid (List.replicate 129 0) (lawL fill) k 0 (by simp; omega) (by rw [lawL_length]; exact hk) (by rw [List.getElem?_replicate]; simp; omega)

set_option maxHeartbeats 1600000 in
set_option maxRecDepth 20000 in
theorem do_zero (A : Api PD) (base : Nat) (S : Nat → Prop) (w : World) (B D1 g1 g2 g3 : Nat) (d : Dk.Dev) (o : Opr) (hBo : Both PD base S w B D1 g1 g2 g3 d) (hk : o.kind = 0) :
    Calls Try.prog 12 #[.pointer (some ⟨B, 0, none⟩), .pointer (some ⟨D1, 0, none⟩), OpV o] w (DoPost PD base w D1 g1 g2 g3 (Dk.size d)) := by
  have HA := Lib.hid A
  obtain ⟨kind, at_, fill, short, pk, ps⟩ := o
  simp only at hk
  subst hk
  unfold OpV
  simp only
  go_enter Try.func12, Try.ntmps12
  go_upto_region 1 with (fail)
  obtain ⟨W, hW⟩ : ∃ W, W = w.alloc (.cells (opCells ⟨0, at_, fill, short, pk, ps⟩) 34) := ⟨_, rfl⟩
  have hb0 : Below w.heap.size w W := by rw [hW]; exact (Below.refl _ _).alloc (Nat.le_refl _) _
  have hr0 : W.heap[w.heap.size]? = some (.cells (opCells ⟨0, at_, fill, short, pk, ps⟩) 34 (0, 0)) := by rw [hW]; exact heap_alloc_last _ _
  unfold opCells at hW hr0
  simp only at hW hr0
  rw [← hW]
  clear hW
  obtain ⟨Q, hQ⟩ : ∃ Q, w.heap.size = Q := ⟨_, rfl⟩
  rw [hQ] at hr0
  try rw [hQ]
  have z0 := blk_cell hr0 0 (v := .int .i64 0) rfl
  have z1 := blk_cell hr0 1 (v := .int .i64 at_) rfl
  have z2 := blk_cell hr0 2 (v := .int .i64 fill) rfl
  have z3 := blk_cell hr0 3 (v := .bool short) rfl
  have z4 := blk_cell hr0 4 (v := pk) rfl
  have HB0 := Lib.hid hb0
  have hBo' := Lib.hid hBo
  have HBo := Lib.hid (hBo.below A hb0)
  have HR0 := Lib.hid hr0
  have HQ := Lib.hid hQ
  have HBG := Lib.hid hBo.big
  have HW0 := Lib.hid (hb0.mono hBo.big)
  clear hb0 hr0 hQ hBo
  clear z1 z3 z4
  go_upto_region 3 with (fail)
  iterate 9 go_step
  refine (sector_own fill W).mono ?_
  rintro e w1 ⟨g, rfl, hg, hO, hb1⟩
  have HO1 := Lib.hid hO
  have HBL1 := Lib.hid hb1
  clear hg hO hb1 z0 z2
  dsimp only
  iterate 4 go_step
  refine wpList_append_byte rfl (.tmp 27) (.tmp 28) rfl W.heap.size _ (secL fill) rfl HO1.out rfl 77 rfl (by decide) (by rw [secL_length]; decide) HBL1.out.size ?_
  intro v2 w4 hO2 hb2
  have hbl := HBL1.out.trans hb2
  obtain ⟨G, cap, rfl, hgb, hgl, hc1, hc2, -⟩ := own_some hO2 (by simp)
  have hLL : (secL fill ++ [77]).length = 129 := lawL_length fill
  rw [hLL] at hO2 hc1 ⊢
  have HOW := Lib.hid (show Own W.heap.size w4 (.slice (some ⟨G, 0, none⟩) 129 cap) (lawL fill) from hO2)
  have hQW := lt_of_block HR0.out
  have HRQ := Lib.hid (show w4.heap[Q]? = _ from (hbl.block Q hQW).trans HR0.out)
  have HQG := Lib.hid (show ¬ Q = G by omega)
  have HGW := Lib.hid (show w.heap.size ≤ G by have := HB0.out.size; omega)
  have HB4 := Lib.hid (HBo.out.below HA.out hbl)
  have HW4 := Lib.hid (HW0.out.trans (hbl.mono HBo.out.big))
  have y3 := blk_cell HRQ.out 3 (v := .bool short) rfl
  have HT4 := Lib.hid (show ∀ i, (i = Q ∨ i = G) → i < w4.heap.size ∧ ¬ S i ∧ ¬ RS D1 g1 g2 g3 i from fun i hi => by
    rcases hi with rfl | rfl
    · refine ⟨lt_of_block HRQ.out, fun hs => ?_, fun hs => ?_⟩
      · have := HA.out.lt hBo'.out.p _ hs; have := HQ.out; omega
      · have := hBo'.out.r.lt _ hs; have := HQ.out; omega
    · refine ⟨hgl, fun hs => ?_, fun hs => ?_⟩
      · have := HA.out.lt HBo.out.p _ hs; omega
      · have := HBo.out.r.lt _ hs; omega)
  have HCAP := Lib.hid hc1
  clear hO2 hb2 hbl hgb hgl
  cases short
  · -- whole
    have hrr : RR PD base w w4 B D1 g1 g2 g3 d (Dk.write d at_ ((lawL fill).take 128)).1 (fun i => i = Q ∨ i = G) false false w4.drew := (rr_start HB4.out HW4.out HT4.out).skip HA.out (new_drew w4)
    have HRR := Lib.hid hrr
    have hbt : Bts w4 (.slice (some ⟨G, 0, none⟩) 128 cap) ((lawL fill).take 128) := by
      have h := HOW.out.bts
      rw [show 129 = (lawL fill).length from (lawL_length fill).symm] at h
      exact h.take 128 (by rw [lawL_length]; decide)
    have HBT := Lib.hid hbt
    have hcn : (128 : Int) ≤ (cap : Int) := by have := HCAP.out; omega
    clear hrr hbt
    go_upto_region 7 with (fail)
    clear y3
    refine Ord.walk (WrF B D1 Q G 128 cap 128 at_ (Dk.write d at_ ((lawL fill).take 128)).2) (fun D _ w' => RR PD base w w4 B D1 g1 g2 g3 d (Dk.write d at_ ((lawL fill).take 128)).1 (fun i => i = Q ∨ i = G) (D 6) (D 13) w') (fun _ _ => True)
        (by kernel_rfl) (by kernel_rfl) ?fra ?hfra (fun _ _ _ _ _ h => h) (fun _ => HRR.out) ?hea ?henda
    case hfra =>
      intro xs
      simp only [Ord.fill, Act.put, List.setIfInBounds_toArray, List.set_cons_zero, List.set_cons_succ]
      rfl
    case hea =>
      refine Ord.each_cons (fun D xs w2 hD hC hP hR hA K hK => ?_) ?_
      · -- 0
        clear hA
        have hD' : D 0 = false := hD
        go_simp
        exact hK _ _ ⟨_, rfl, trivial, hR.skip HA.out (Below.refl _ _), rfl⟩
      refine Ord.each_cons (fun D xs w2 hD hC hP hR hA K hK => ?_) ?_
      · -- 1
        clear hA
        have hD' : D 1 = false := hD
        go_simp
        exact hK _ _ ⟨_, rfl, trivial, hR.skip HA.out (Below.refl _ _), rfl⟩
      refine Ord.each_cons (fun D xs w2 hD hC hP hR hA K hK => ?_) ?_
      · -- 2
        have q1 := Ord.ahead_get _ hA 1 (by decide)
        simp only [WrF] at q1
        simp only [q1] at hK
        clear hA
        have hD' : D 2 = false := hD
        have c0 := blk_cell (by rw [hR.keep Q (Or.inl rfl)]; exact HRQ.out) 1 (v := .int .i64 at_) rfl
        go_simp
        exact hK _ _ ⟨_, rfl, trivial, hR.skip HA.out (Below.refl _ _), rfl⟩
      refine Ord.each_cons (fun D xs w2 hD hC hP hR hA K hK => ?_) ?_
      · -- 3
        clear hA
        have hD' : D 3 = false := hD
        go_simp
        exact hK _ _ ⟨_, rfl, trivial, hR.skip HA.out (Below.refl _ _), rfl⟩
      refine Ord.each_cons (fun D xs w2 hD hC hP hR hA K hK => ?_) ?_
      · -- 4
        clear hA
        have hD' : D 4 = false := hD
        go_simp
        exact hK _ _ ⟨_, rfl, trivial, hR.skip HA.out (Below.refl _ _), rfl⟩
      refine Ord.each_cons (fun D xs w2 hD hC hP hR hA K hK => ?_) ?_
      · -- 5
        have q3 := Ord.ahead_get _ hA 3 (by decide)
        simp only [WrF] at q3
        have q4 := Ord.ahead_get _ hA 4 (by decide)
        simp only [WrF] at q4
        simp only [q3, q4] at hK
        clear hA
        have hD' : D 5 = false := hD
        go_simp
        exact hK _ _ ⟨_, rfl, trivial, hR.skip HA.out (Below.refl _ _), rfl⟩
      refine Ord.each_cons (fun D xs w2 hD hC hP hR hA K hK => ?_) ?_
      · -- 6
        have q0 := Ord.ahead_get _ hA 0 (by decide)
        simp only [WrF] at q0
        have q2 := Ord.ahead_get _ hA 2 (by decide)
        simp only [WrF] at q2
        have q5 := Ord.ahead_get _ hA 5 (by decide)
        simp only [WrF] at q5
        simp only [q0, q2, q5] at hK
        clear hA
        have hD' : D 6 = false := hD
        rw [hD'] at hR
        go_simp
        obtain ⟨S', h1, h2, h3, h4⟩ := hR.ex
        refine (HA.out.write at_ _ ((lawL fill).take 128) h1 (HBT.out.block (hR.keep G (Or.inr rfl))) (fun _ g hg => ?_)).mono ?_
        · simp only [Value.ownBlock, Option.some.injEq] at hg
          rw [← hg]
          exact h4 G (Or.inr rfl)
        rintro e w9 ⟨rfl, hw⟩
        exact hK _ _ ⟨_, rfl, trivial, hR.prog h2 h3 h4 hw, rfl⟩
      refine Ord.each_cons (fun D xs w2 hD hC hP hR hA K hK => ?_) ?_
      · -- 7
        clear hA
        have hD' : D 7 = false := hD
        go_simp
        exact hK _ _ ⟨_, rfl, trivial, hR.skip HA.out (Below.refl _ _), rfl⟩
      refine Ord.each_cons (fun D xs w2 hD hC hP hR hA K hK => ?_) ?_
      · -- 8
        clear hA
        have hD' : D 8 = false := hD
        go_simp
        exact hK _ _ ⟨_, rfl, trivial, hR.skip HA.out (Below.refl _ _), rfl⟩
      refine Ord.each_cons (fun D xs w2 hD hC hP hR hA K hK => ?_) ?_
      · -- 9
        have q8 := Ord.ahead_get _ hA 8 (by decide)
        simp only [WrF] at q8
        simp only [q8] at hK
        clear hA
        have hD' : D 9 = false := hD
        have c0 := blk_cell (by rw [hR.keep Q (Or.inl rfl)]; exact HRQ.out) 1 (v := .int .i64 at_) rfl
        go_simp
        exact hK _ _ ⟨_, rfl, trivial, hR.skip HA.out (Below.refl _ _), rfl⟩
      refine Ord.each_cons (fun D xs w2 hD hC hP hR hA K hK => ?_) ?_
      · -- 10
        clear hA
        have hD' : D 10 = false := hD
        go_simp
        exact hK _ _ ⟨_, rfl, trivial, hR.skip HA.out (Below.refl _ _), rfl⟩
      refine Ord.each_cons (fun D xs w2 hD hC hP hR hA K hK => ?_) ?_
      · -- 11
        clear hA
        have hD' : D 11 = false := hD
        go_simp
        exact hK _ _ ⟨_, rfl, trivial, hR.skip HA.out (Below.refl _ _), rfl⟩
      refine Ord.each_cons (fun D xs w2 hD hC hP hR hA K hK => ?_) ?_
      · -- 12
        have q10 := Ord.ahead_get _ hA 10 (by decide)
        simp only [WrF] at q10
        have q11 := Ord.ahead_get _ hA 11 (by decide)
        simp only [WrF] at q11
        simp only [q10, q11] at hK
        clear hA
        have hD' : D 12 = false := hD
        go_simp
        exact hK _ _ ⟨_, rfl, trivial, hR.skip HA.out (Below.refl _ _), rfl⟩
      refine Ord.each_cons (fun D xs w2 hD hC hP hR hA K hK => ?_) ?_
      · -- 13
        have q7 := Ord.ahead_get _ hA 7 (by decide)
        simp only [WrF] at q7
        have q9 := Ord.ahead_get _ hA 9 (by decide)
        simp only [WrF] at q9
        have q12 := Ord.ahead_get _ hA 12 (by decide)
        simp only [WrF] at q12
        simp only [q7, q9, q12] at hK
        clear hA
        have hD' : D 13 = false := hD
        rw [hD'] at hR
        go_simp
        refine (refWrite_any D1 g1 g2 g3 d at_ _ ((lawL fill).take 128) w2 hR.r (HBT.out.block (hR.keep G (Or.inr rfl)))).mono ?_
        rintro e w9 ⟨rfl, hr, ht⟩
        exact hK _ _ ⟨_, rfl, trivial, hR.ref HA.out hr ht, rfl⟩
      refine Ord.each_cons (fun D xs w2 hD hC hP hR hA K hK => ?_) ?_
      · -- 14
        have q6 := Ord.ahead_get _ hA 6 (by decide)
        simp only [WrF] at q6
        have q13 := Ord.ahead_get _ hA 13 (by decide)
        simp only [WrF] at q13
        simp only [q6, q13] at hK
        clear hA
        have hD' : D 14 = false := hD
        go_simp
        exact hK _ _ ⟨_, rfl, trivial, hR.skip HA.out (Below.refl _ _), rfl⟩
      refine Ord.each_cons (fun D xs w2 hD hC hP hR hA K hK => ?_) ?_
      · -- 15
        have q14 := Ord.ahead_get _ hA 14 (by decide)
        simp only [WrF] at q14
        simp only [q14] at hK
        clear hA
        have hD' : D 15 = false := hD
        go_simp
        exact hK _ _ ⟨_, rfl, trivial, hR.skip HA.out (Below.refl _ _), rfl⟩
      exact Ord.each_nil
    case henda =>
      intro D xs w5 hR hF
      have e15 := (hF 15 (by decide)).2
      simp only [WrF] at e15
      rw [(hF 6 (by decide)).1, (hF 13 (by decide)).1] at hR
      have hkQ := hR.keep Q (Or.inl rfl)
      have hkG := hR.keep G (Or.inr rfl)
      have hnG := hR.nr G (Or.inr rfl)
      obtain ⟨S', hB, hnS, hbl⟩ := hR.done
      have HB5 := Lib.hid hB
      have HBL5 := Lib.hid hbl
      have HNG := Lib.hid hnG
      have HNS := Lib.hid hnS
      have HQ5 := Lib.hid (show w5.heap[Q]? = _ from hkQ.trans HRQ.out)
      have HO5 := Lib.hid (HOW.out.block hkG)
      simp only [e15]
      generalize hz : xs 0 = z00
      generalize hz : xs 1 = z01
      generalize hz : xs 2 = z02
      generalize hz : xs 3 = z03
      generalize hz : xs 4 = z04
      generalize hz : xs 5 = z05
      generalize hz : xs 6 = z06
      generalize hz : xs 7 = z07
      generalize hz : xs 8 = z08
      generalize hz : xs 9 = z09
      generalize hz : xs 10 = z010
      generalize hz : xs 11 = z011
      generalize hz : xs 12 = z012
      generalize hz : xs 13 = z013
      generalize hz : xs 14 = z014
      clear hR hF e15 hB hbl hnG hnS hkQ hkG
      go_wp2_with fail
      go_loopw [10, 11] (fun ok i wr => ∃ k : Nat, k ≤ 128 ∧ i = .int .i64 k ∧ ok = .bool true ∧ Own W.heap.size wr (.slice (some ⟨G, 0, none⟩) 129 cap) (stepL fill k) ∧ Touch (fun j => j = G) w5 wr) (fun _ i _ => 128 - (intOf i).toNat)
      case atStart => exact ⟨0, Nat.zero_le _, rfl, rfl, HO5.out, .refl _ _⟩
      case round =>
        obtain ⟨k, hk, rfl, rfl, hO, hT⟩ := hrel
        have HOk := Lib.hid hO
        have HTk := Lib.hid hT
        have hrq := hT.row HQ5.out HQG.out
        have y2 := blk_cell hrq 2 (v := .int .i64 fill) rfl
        clear hO hT hrq
        by_cases hlt : k < 128
        · have hki : (k : Int) < 128 := by omega
          have hki2 : (k : Int) < 129 := by omega
          obtain ⟨cG, fG⟩ := HOk.out.cellAt (stepL_length fill k (by omega)) k (by omega)
          rw [stepL_at fill k (by omega), lawL_at fill k hlt] at cG
          have hE := sec_wrap fill k
          go_wp2_with fail
          go_quiet (fail)
          have HOq := Lib.hid (HOk.out.below (new_drewN wr nq))
          have HTq := Lib.hid (HTk.out.drewN nq)
          generalize wr.drewN nq = wq at HOq HTq ⊢
          clear cG fG y2
          obtain ⟨cG, fG⟩ := HOq.out.cellAt (stepL_length fill k (by omega)) k (by omega)
          have hst := HOq.out.stored (stepL_length fill k (by omega)) k 0 (by decide)
          rw [stepL_next fill k (by omega)] at hst
          have HST := Lib.hid hst.1
          have HT2 := Lib.hid (HTq.out.trans (.of_grown (S := fun j => j = G) hst.2 rfl))
          clear hst
          go_wp2_with fail
          go_roundw
          case rel => exact ⟨k + 1, by omega, by go_num, rfl, HST.out, HT2.out⟩
          case measure => simp [intOf]; omega
        · obtain rfl : k = 128 := by omega
          obtain ⟨cG, fG⟩ := HOk.out.cellAt (stepL_length fill 128 (by omega)) 128 (by omega)
          rw [stepL_at fill 128 (by omega), show (lawL fill).getD 128 0 = 77 from by unfold lawL; rw [List.getD_eq_getElem?_getD, List.getElem?_append_right (by rw [secL_length]; omega), secL_length]; rfl] at cG
          clear y2
          go_wp2_with fail
          go_quiet (fail)
          have hfin := (HB5.out.keep HA.out HTk.out (fun i hi e => by rw [e] at hi; exact HNS.out G (Or.inr rfl) hi) (fun i hi e => by rw [e] at hi; exact HNG.out hi)).below HA.out (new_drewN wr nq)
          have hbf : Below base w (wr.drewN nq) := (HBL5.out.trans (HTk.out.below (fun i e => by rw [e]; have := HGW.out; have := HBG.out; omega) HB5.out.big)).trans ((new_drewN wr nq).mono (Nat.le_trans HB5.out.big HTk.out.size))
          go_wp2_with fail
          go_ret2
          exact ⟨B, S', (Dk.write d at_ ((lawL fill).take 128)).1, rfl, hfin, Dk.write_size _ _ _, hbf⟩
  · -- short
    have hrr : RR PD base w w4 B D1 g1 g2 g3 d (Dk.write d at_ ((lawL fill).take 127)).1 (fun i => i = Q ∨ i = G) false false w4.drew := (rr_start HB4.out HW4.out HT4.out).skip HA.out (new_drew w4)
    have HRR := Lib.hid hrr
    have hbt : Bts w4 (.slice (some ⟨G, 0, none⟩) 127 cap) ((lawL fill).take 127) := by
      have h := HOW.out.bts
      rw [show 129 = (lawL fill).length from (lawL_length fill).symm] at h
      exact h.take 127 (by rw [lawL_length]; decide)
    have HBT := Lib.hid hbt
    have hcn : (127 : Int) ≤ (cap : Int) := by have := HCAP.out; omega
    clear hrr hbt
    go_upto_region 7 with (fail)
    clear y3
    refine Ord.walk (WrF B D1 Q G 127 cap 127 at_ (Dk.write d at_ ((lawL fill).take 127)).2) (fun D _ w' => RR PD base w w4 B D1 g1 g2 g3 d (Dk.write d at_ ((lawL fill).take 127)).1 (fun i => i = Q ∨ i = G) (D 6) (D 13) w') (fun _ _ => True)
        (by kernel_rfl) (by kernel_rfl) ?frb ?hfrb (fun _ _ _ _ _ h => h) (fun _ => HRR.out) ?heb ?hendb
    case hfrb =>
      intro xs
      simp only [Ord.fill, Act.put, List.setIfInBounds_toArray, List.set_cons_zero, List.set_cons_succ]
      rfl
    case heb =>
      refine Ord.each_cons (fun D xs w2 hD hC hP hR hA K hK => ?_) ?_
      · -- 0
        clear hA
        have hD' : D 0 = false := hD
        go_simp
        exact hK _ _ ⟨_, rfl, trivial, hR.skip HA.out (Below.refl _ _), rfl⟩
      refine Ord.each_cons (fun D xs w2 hD hC hP hR hA K hK => ?_) ?_
      · -- 1
        clear hA
        have hD' : D 1 = false := hD
        go_simp
        exact hK _ _ ⟨_, rfl, trivial, hR.skip HA.out (Below.refl _ _), rfl⟩
      refine Ord.each_cons (fun D xs w2 hD hC hP hR hA K hK => ?_) ?_
      · -- 2
        have q1 := Ord.ahead_get _ hA 1 (by decide)
        simp only [WrF] at q1
        simp only [q1] at hK
        clear hA
        have hD' : D 2 = false := hD
        have c0 := blk_cell (by rw [hR.keep Q (Or.inl rfl)]; exact HRQ.out) 1 (v := .int .i64 at_) rfl
        go_simp
        exact hK _ _ ⟨_, rfl, trivial, hR.skip HA.out (Below.refl _ _), rfl⟩
      refine Ord.each_cons (fun D xs w2 hD hC hP hR hA K hK => ?_) ?_
      · -- 3
        clear hA
        have hD' : D 3 = false := hD
        go_simp
        exact hK _ _ ⟨_, rfl, trivial, hR.skip HA.out (Below.refl _ _), rfl⟩
      refine Ord.each_cons (fun D xs w2 hD hC hP hR hA K hK => ?_) ?_
      · -- 4
        clear hA
        have hD' : D 4 = false := hD
        go_simp
        exact hK _ _ ⟨_, rfl, trivial, hR.skip HA.out (Below.refl _ _), rfl⟩
      refine Ord.each_cons (fun D xs w2 hD hC hP hR hA K hK => ?_) ?_
      · -- 5
        have q3 := Ord.ahead_get _ hA 3 (by decide)
        simp only [WrF] at q3
        have q4 := Ord.ahead_get _ hA 4 (by decide)
        simp only [WrF] at q4
        simp only [q3, q4] at hK
        clear hA
        have hD' : D 5 = false := hD
        go_simp
        exact hK _ _ ⟨_, rfl, trivial, hR.skip HA.out (Below.refl _ _), rfl⟩
      refine Ord.each_cons (fun D xs w2 hD hC hP hR hA K hK => ?_) ?_
      · -- 6
        have q0 := Ord.ahead_get _ hA 0 (by decide)
        simp only [WrF] at q0
        have q2 := Ord.ahead_get _ hA 2 (by decide)
        simp only [WrF] at q2
        have q5 := Ord.ahead_get _ hA 5 (by decide)
        simp only [WrF] at q5
        simp only [q0, q2, q5] at hK
        clear hA
        have hD' : D 6 = false := hD
        rw [hD'] at hR
        go_simp
        obtain ⟨S', h1, h2, h3, h4⟩ := hR.ex
        refine (HA.out.write at_ _ ((lawL fill).take 127) h1 (HBT.out.block (hR.keep G (Or.inr rfl))) (fun _ g hg => ?_)).mono ?_
        · simp only [Value.ownBlock, Option.some.injEq] at hg
          rw [← hg]
          exact h4 G (Or.inr rfl)
        rintro e w9 ⟨rfl, hw⟩
        exact hK _ _ ⟨_, rfl, trivial, hR.prog h2 h3 h4 hw, rfl⟩
      refine Ord.each_cons (fun D xs w2 hD hC hP hR hA K hK => ?_) ?_
      · -- 7
        clear hA
        have hD' : D 7 = false := hD
        go_simp
        exact hK _ _ ⟨_, rfl, trivial, hR.skip HA.out (Below.refl _ _), rfl⟩
      refine Ord.each_cons (fun D xs w2 hD hC hP hR hA K hK => ?_) ?_
      · -- 8
        clear hA
        have hD' : D 8 = false := hD
        go_simp
        exact hK _ _ ⟨_, rfl, trivial, hR.skip HA.out (Below.refl _ _), rfl⟩
      refine Ord.each_cons (fun D xs w2 hD hC hP hR hA K hK => ?_) ?_
      · -- 9
        have q8 := Ord.ahead_get _ hA 8 (by decide)
        simp only [WrF] at q8
        simp only [q8] at hK
        clear hA
        have hD' : D 9 = false := hD
        have c0 := blk_cell (by rw [hR.keep Q (Or.inl rfl)]; exact HRQ.out) 1 (v := .int .i64 at_) rfl
        go_simp
        exact hK _ _ ⟨_, rfl, trivial, hR.skip HA.out (Below.refl _ _), rfl⟩
      refine Ord.each_cons (fun D xs w2 hD hC hP hR hA K hK => ?_) ?_
      · -- 10
        clear hA
        have hD' : D 10 = false := hD
        go_simp
        exact hK _ _ ⟨_, rfl, trivial, hR.skip HA.out (Below.refl _ _), rfl⟩
      refine Ord.each_cons (fun D xs w2 hD hC hP hR hA K hK => ?_) ?_
      · -- 11
        clear hA
        have hD' : D 11 = false := hD
        go_simp
        exact hK _ _ ⟨_, rfl, trivial, hR.skip HA.out (Below.refl _ _), rfl⟩
      refine Ord.each_cons (fun D xs w2 hD hC hP hR hA K hK => ?_) ?_
      · -- 12
        have q10 := Ord.ahead_get _ hA 10 (by decide)
        simp only [WrF] at q10
        have q11 := Ord.ahead_get _ hA 11 (by decide)
        simp only [WrF] at q11
        simp only [q10, q11] at hK
        clear hA
        have hD' : D 12 = false := hD
        go_simp
        exact hK _ _ ⟨_, rfl, trivial, hR.skip HA.out (Below.refl _ _), rfl⟩
      refine Ord.each_cons (fun D xs w2 hD hC hP hR hA K hK => ?_) ?_
      · -- 13
        have q7 := Ord.ahead_get _ hA 7 (by decide)
        simp only [WrF] at q7
        have q9 := Ord.ahead_get _ hA 9 (by decide)
        simp only [WrF] at q9
        have q12 := Ord.ahead_get _ hA 12 (by decide)
        simp only [WrF] at q12
        simp only [q7, q9, q12] at hK
        clear hA
        have hD' : D 13 = false := hD
        rw [hD'] at hR
        go_simp
        refine (refWrite_any D1 g1 g2 g3 d at_ _ ((lawL fill).take 127) w2 hR.r (HBT.out.block (hR.keep G (Or.inr rfl)))).mono ?_
        rintro e w9 ⟨rfl, hr, ht⟩
        exact hK _ _ ⟨_, rfl, trivial, hR.ref HA.out hr ht, rfl⟩
      refine Ord.each_cons (fun D xs w2 hD hC hP hR hA K hK => ?_) ?_
      · -- 14
        have q6 := Ord.ahead_get _ hA 6 (by decide)
        simp only [WrF] at q6
        have q13 := Ord.ahead_get _ hA 13 (by decide)
        simp only [WrF] at q13
        simp only [q6, q13] at hK
        clear hA
        have hD' : D 14 = false := hD
        go_simp
        exact hK _ _ ⟨_, rfl, trivial, hR.skip HA.out (Below.refl _ _), rfl⟩
      refine Ord.each_cons (fun D xs w2 hD hC hP hR hA K hK => ?_) ?_
      · -- 15
        have q14 := Ord.ahead_get _ hA 14 (by decide)
        simp only [WrF] at q14
        simp only [q14] at hK
        clear hA
        have hD' : D 15 = false := hD
        go_simp
        exact hK _ _ ⟨_, rfl, trivial, hR.skip HA.out (Below.refl _ _), rfl⟩
      exact Ord.each_nil
    case hendb =>
      intro D xs w5 hR hF
      have e15 := (hF 15 (by decide)).2
      simp only [WrF] at e15
      rw [(hF 6 (by decide)).1, (hF 13 (by decide)).1] at hR
      have hkQ := hR.keep Q (Or.inl rfl)
      have hkG := hR.keep G (Or.inr rfl)
      have hnG := hR.nr G (Or.inr rfl)
      obtain ⟨S', hB, hnS, hbl⟩ := hR.done
      have HB5 := Lib.hid hB
      have HBL5 := Lib.hid hbl
      have HNG := Lib.hid hnG
      have HNS := Lib.hid hnS
      have HQ5 := Lib.hid (show w5.heap[Q]? = _ from hkQ.trans HRQ.out)
      have HO5 := Lib.hid (HOW.out.block hkG)
      simp only [e15]
      generalize hz : xs 0 = z00
      generalize hz : xs 1 = z01
      generalize hz : xs 2 = z02
      generalize hz : xs 3 = z03
      generalize hz : xs 4 = z04
      generalize hz : xs 5 = z05
      generalize hz : xs 6 = z06
      generalize hz : xs 7 = z07
      generalize hz : xs 8 = z08
      generalize hz : xs 9 = z09
      generalize hz : xs 10 = z010
      generalize hz : xs 11 = z011
      generalize hz : xs 12 = z012
      generalize hz : xs 13 = z013
      generalize hz : xs 14 = z014
      clear hR hF e15 hB hbl hnG hnS hkQ hkG
      go_wp2_with fail
      go_loopw [10, 11] (fun ok i wr => ∃ k : Nat, k ≤ 128 ∧ i = .int .i64 k ∧ ok = .bool true ∧ Own W.heap.size wr (.slice (some ⟨G, 0, none⟩) 129 cap) (stepL fill k) ∧ Touch (fun j => j = G) w5 wr) (fun _ i _ => 128 - (intOf i).toNat)
      case atStart => exact ⟨0, Nat.zero_le _, rfl, rfl, HO5.out, .refl _ _⟩
      case round =>
        obtain ⟨k, hk, rfl, rfl, hO, hT⟩ := hrel
        have HOk := Lib.hid hO
        have HTk := Lib.hid hT
        have hrq := hT.row HQ5.out HQG.out
        have y2 := blk_cell hrq 2 (v := .int .i64 fill) rfl
        clear hO hT hrq
        by_cases hlt : k < 128
        · have hki : (k : Int) < 128 := by omega
          have hki2 : (k : Int) < 129 := by omega
          obtain ⟨cG, fG⟩ := HOk.out.cellAt (stepL_length fill k (by omega)) k (by omega)
          rw [stepL_at fill k (by omega), lawL_at fill k hlt] at cG
          have hE := sec_wrap fill k
          go_wp2_with fail
          go_quiet (fail)
          have HOq := Lib.hid (HOk.out.below (new_drewN wr nq))
          have HTq := Lib.hid (HTk.out.drewN nq)
          generalize wr.drewN nq = wq at HOq HTq ⊢
          clear cG fG y2
          obtain ⟨cG, fG⟩ := HOq.out.cellAt (stepL_length fill k (by omega)) k (by omega)
          have hst := HOq.out.stored (stepL_length fill k (by omega)) k 0 (by decide)
          rw [stepL_next fill k (by omega)] at hst
          have HST := Lib.hid hst.1
          have HT2 := Lib.hid (HTq.out.trans (.of_grown (S := fun j => j = G) hst.2 rfl))
          clear hst
          go_wp2_with fail
          go_roundw
          case rel => exact ⟨k + 1, by omega, by go_num, rfl, HST.out, HT2.out⟩
          case measure => simp [intOf]; omega
        · obtain rfl : k = 128 := by omega
          obtain ⟨cG, fG⟩ := HOk.out.cellAt (stepL_length fill 128 (by omega)) 128 (by omega)
          rw [stepL_at fill 128 (by omega), show (lawL fill).getD 128 0 = 77 from by unfold lawL; rw [List.getD_eq_getElem?_getD, List.getElem?_append_right (by rw [secL_length]; omega), secL_length]; rfl] at cG
          clear y2
          go_wp2_with fail
          go_quiet (fail)
          have hfin := (HB5.out.keep HA.out HTk.out (fun i hi e => by rw [e] at hi; exact HNS.out G (Or.inr rfl) hi) (fun i hi e => by rw [e] at hi; exact HNG.out hi)).below HA.out (new_drewN wr nq)
          have hbf : Below base w (wr.drewN nq) := (HBL5.out.trans (HTk.out.below (fun i e => by rw [e]; have := HGW.out; have := HBG.out; omega) HB5.out.big)).trans ((new_drewN wr nq).mono (Nat.le_trans HB5.out.big HTk.out.size))
          go_wp2_with fail
          go_ret2
          exact ⟨B, S', (Dk.write d at_ ((lawL fill).take 127)).1, rfl, hfin, Dk.write_size _ _ _, hbf⟩
end
end Go.Proofs.Ythjciddhghfcbaa
