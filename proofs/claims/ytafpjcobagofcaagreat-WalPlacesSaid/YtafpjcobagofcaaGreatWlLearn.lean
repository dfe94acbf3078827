/- What both sectors ahead of the ring say is learnt, by the program. Conditions: the first of them says it. -/
import Derived.Test.YtafpjcobagofcaaGreatWlSaid
import Derived.Test.YtafpjcobagofcaaGreatWlRd
namespace Go.Proofs.YtafpjcobagofcaaGreat
open Go.RowKit

def LnF (B L a aK W : Nat) (b : List Nat) (i : Nat) (v : Value) (w : World) : Prop :=
  match i with
  | 0 => v = .pointer (some ⟨L, 0, none⟩)
  | 1 => v = .pointer (some ⟨L, 0, none⟩)
  | 2 => v = .pointer (some ⟨L, 4, none⟩)
  | 3 => v = .pointer (some ⟨B, 0, none⟩)
  | 4 => v = .pointer (some ⟨L, 0, none⟩)
  | 5 => v = .pointer (some ⟨L, 0, none⟩)
  | 6 => v = .pointer (some ⟨L, 5, none⟩)
  | 7 => v = .int .i64 (a : Int)
  | 8 => v = .int .i64 0
  | 9 => v = .int .i64 (aK : Int)
  | 10 => RdA W w v b
  | 11 => RdA W w v b
  | 12 => Mine W w v b
  | 13 => v = .int .i64 0
  | 14 => Mine W w v b
  | 15 => v = .int .i64 0
  | _ => True
theorem LnF_later (B L a aK W : Nat) (b : List Nat) (i : Nat) (v : Value) (w w' : World) (hb : Below w.heap.size w w') (h : LnF B L a aK W b i v w) : LnF B L a aK W b i v w' := by
  unfold LnF at *
  split at h <;> first | exact h | exact h.below hb | trivial

set_option maxHeartbeats 3200000 in
set_option maxRecDepth 20000 in
theorem wlLearn_any {w : World} {L B a c m1 m2 : Nat} {k0 : Wl.Kn} {pl wa : Value} {d : Dk.Dev} (h : LogAt w L k0 B a c pl wa false) (hP : PDev w B m1 m2 d) (ho : d.off = false) (k : Wl.Kn) (hk : Wl.KnOk k) (hfit : a + c + 2 ≤ Dk.size d) (hc : c ≤ 8192) (he : Wl.eff d a = Wl.head a c k) :
    Calls Tryz.prog 42 #[.pointer (some ⟨L, 0, none⟩)] w fun e w' => e = .returned (.int .i64 0) ∧ LogAt w' L k B a c pl wa false ∧ Touch (· = L) w w' := by
  have hsz := hP.own.size
  have HLG := Lib.hid h
  have HLT : Hid (L < w.heap.size) := h.lt
  have C4 := Lib.hid (h.cell 4 (v := .pointer (some ⟨B, 0, none⟩)) rfl)
  have C5 := Lib.hid (h.cell 5 (v := .int .i64 (a : Int)) rfl)
  have HPD := Lib.hid hP
  have HOF := Lib.hid ho
  have HSZ : Hid (a < Dk.size d) := by show _ < _; omega
  have HM3 : Hid (IntKind.i64.wrap (a : Int) = (a : Int)) := IntWalk.i64_in _ (by omega)
  have HEF := Lib.hid he
  have HK := Lib.hid hk
  have HA : Hid (a ≤ 65536 ∧ c ≤ 8192) := by show _ ∧ _; omega
  clear h hP ho hk hfit hc he hsz
  go_enter Tryz.func42, Tryz.ntmps42
  go_wp2_with fail
  go_loopw [8] (fun i wr => i = .int .i64 0 ∧ w = wr) (fun _ _ => 0)
  case atStart => exact ⟨rfl, rfl⟩
  case round =>
    obtain ⟨rfl, rfl⟩ := hrel
    go_upto_region 4 with (fail)
    refine Ord.walk (LnF B L a a w.heap.size (Wl.head a c k)) (fun _ _ w' => Below w.heap.size w w') (fun a b => Below a.heap.size a b)
      (by kernel_rfl) (by kernel_rfl) ?fra ?hfra (fun i v w w' hb h => LnF_later _ _ _ _ _ _ i v w w' hb h) (fun xs => (Below.refl _ _).go1) ?hea ?henda
    case hfra =>
      intro xs
      simp only [Ord.fill, Act.put, List.setIfInBounds_toArray, List.set_cons_zero, List.set_cons_succ]
      rfl
    case hea =>
      refine Ord.each_cons (fun D xs w2 hD hC hP hR hA K hK => ?_) ?_
      · -- 0
        clear hA
        go_simp
        exact hK _ _ ⟨_, rfl, Below.refl _ _, hR, rfl⟩
      refine Ord.each_cons (fun D xs w2 hD hC hP hR hA K hK => ?_) ?_
      · -- 1
        have q0 := Ord.ahead_get _ hA 0 (by decide)
        simp only [LnF] at q0
        simp only [q0] at hK
        clear hA
        go_simp
        exact hK _ _ ⟨_, rfl, Below.refl _ _, hR, rfl⟩
      refine Ord.each_cons (fun D xs w2 hD hC hP hR hA K hK => ?_) ?_
      · -- 2
        have q1 := Ord.ahead_get _ hA 1 (by decide)
        simp only [LnF] at q1
        simp only [q1] at hK
        clear hA
        go_simp
        exact hK _ _ ⟨_, rfl, Below.refl _ _, hR, rfl⟩
      refine Ord.each_cons (fun D xs w2 hD hC hP hR hA K hK => ?_) ?_
      · -- 3
        have q2 := Ord.ahead_get _ hA 2 (by decide)
        simp only [LnF] at q2
        simp only [q2] at hK
        clear hA
        have cc := hR.cell (p := ⟨L, 4, none⟩) HLT.out
        rw [C4.out] at cc
        go_simp
        exact hK _ _ ⟨_, rfl, Below.refl _ _, hR, rfl⟩
      refine Ord.each_cons (fun D xs w2 hD hC hP hR hA K hK => ?_) ?_
      · -- 4
        clear hA
        go_simp
        exact hK _ _ ⟨_, rfl, Below.refl _ _, hR, rfl⟩
      refine Ord.each_cons (fun D xs w2 hD hC hP hR hA K hK => ?_) ?_
      · -- 5
        have q4 := Ord.ahead_get _ hA 4 (by decide)
        simp only [LnF] at q4
        simp only [q4] at hK
        clear hA
        go_simp
        exact hK _ _ ⟨_, rfl, Below.refl _ _, hR, rfl⟩
      refine Ord.each_cons (fun D xs w2 hD hC hP hR hA K hK => ?_) ?_
      · -- 6
        have q5 := Ord.ahead_get _ hA 5 (by decide)
        simp only [LnF] at q5
        simp only [q5] at hK
        clear hA
        go_simp
        exact hK _ _ ⟨_, rfl, Below.refl _ _, hR, rfl⟩
      refine Ord.each_cons (fun D xs w2 hD hC hP hR hA K hK => ?_) ?_
      · -- 7
        have q6 := Ord.ahead_get _ hA 6 (by decide)
        simp only [LnF] at q6
        simp only [q6] at hK
        clear hA
        have cc := hR.cell (p := ⟨L, 5, none⟩) HLT.out
        rw [C5.out] at cc
        go_simp
        exact hK _ _ ⟨_, rfl, Below.refl _ _, hR, rfl⟩
      refine Ord.each_cons (fun D xs w2 hD hC hP hR hA K hK => ?_) ?_
      · -- 8
        clear hA
        go_simp
        exact hK _ _ ⟨_, rfl, Below.refl _ _, hR, rfl⟩
      refine Ord.each_cons (fun D xs w2 hD hC hP hR hA K hK => ?_) ?_
      · -- 9
        have q7 := Ord.ahead_get _ hA 7 (by decide)
        simp only [LnF] at q7
        have q8 := Ord.ahead_get _ hA 8 (by decide)
        simp only [LnF] at q8
        simp only [q7, q8] at hK
        clear hA
        go_simp
        rw [HM3.out]
        exact hK _ _ ⟨_, rfl, Below.refl _ _, hR, rfl⟩
      refine Ord.each_cons (fun D xs w2 hD hC hP hR hA K hK => ?_) ?_
      · -- 10
        have q3 := Ord.ahead_get _ hA 3 (by decide)
        simp only [LnF] at q3
        have q9 := Ord.ahead_get _ hA 9 (by decide)
        simp only [LnF] at q9
        simp only [q3, q9] at hK
        clear hA
        have hrd := wlRead_any (HPD.out.below hR) HOF.out HSZ.out
        rw [HEF.out] at hrd
        go_simp
        refine hrd.mono ?_
        rintro e w' ⟨u, rfl, hM, hb⟩
        exact hK _ _ ⟨_, rfl, hb, hR.trans (hb.mono hR.size), u, rfl, hM.from hR.size⟩
      refine Ord.each_cons (fun D xs w2 hD hC hP hR hA K hK => ?_) ?_
      · -- 11
        have q10 := Ord.ahead_get _ hA 10 (by decide)
        simp only [LnF] at q10
        clear hA
        go_simp
        exact hK _ _ ⟨_, rfl, Below.refl _ _, hR, q10⟩
      refine Ord.each_cons (fun D xs w2 hD hC hP hR hA K hK => ?_) ?_
      · -- 12
        have q11 := Ord.ahead_get _ hA 11 (by decide)
        simp only [LnF] at q11
        obtain ⟨u8, e8, m8⟩ := q11
        clear hA
        rw [e8] at hK ⊢
        go_simp
        exact hK _ _ ⟨_, rfl, Below.refl _ _, hR, m8⟩
      refine Ord.each_cons (fun D xs w2 hD hC hP hR hA K hK => ?_) ?_
      · -- 13
        have q11 := Ord.ahead_get _ hA 11 (by decide)
        simp only [LnF] at q11
        obtain ⟨u8, e8, m8⟩ := q11
        clear hA
        rw [e8] at hK ⊢
        go_simp
        exact hK _ _ ⟨_, rfl, Below.refl _ _, hR, rfl⟩
      refine Ord.each_cons (fun D xs w2 hD hC hP hR hA K hK => ?_) ?_
      · -- 14
        have q12 := Ord.ahead_get _ hA 12 (by decide)
        simp only [LnF] at q12
        clear hA
        go_simp
        exact hK _ _ ⟨_, rfl, Below.refl _ _, hR, q12⟩
      refine Ord.each_cons (fun D xs w2 hD hC hP hR hA K hK => ?_) ?_
      · -- 15
        have q13 := Ord.ahead_get _ hA 13 (by decide)
        simp only [LnF] at q13
        simp only [q13] at hK
        clear hA
        go_simp
        exact hK _ _ ⟨_, rfl, Below.refl _ _, hR, rfl⟩
      exact Ord.each_nil
    case henda =>
      intro D xs w9 hR hF
      have e0 := (hF 0 (by decide)).2
      have e1 := (hF 1 (by decide)).2
      have e2 := (hF 2 (by decide)).2
      have e3 := (hF 3 (by decide)).2
      have e4 := (hF 4 (by decide)).2
      have e5 := (hF 5 (by decide)).2
      have e6 := (hF 6 (by decide)).2
      have e7 := (hF 7 (by decide)).2
      have e8 := (hF 8 (by decide)).2
      have e9 := (hF 9 (by decide)).2
      have e13 := (hF 13 (by decide)).2
      have e15 := (hF 15 (by decide)).2
      have hO14 := (hF 14 (by decide)).2
      simp only [LnF] at e0 e1 e2 e3 e4 e5 e6 e7 e8 e9 e13 e15 hO14
      rw [e0]
      rw [e1]
      rw [e2]
      rw [e3]
      rw [e4]
      rw [e5]
      rw [e6]
      rw [e7]
      rw [e8]
      rw [e9]
      rw [e13]
      rw [e15]
      clear e0 e1 e2 e3 e4 e5 e6 e7 e8 e9 e13 e15
      clear hF
      generalize xs 10 = x10 at *
      generalize xs 11 = x11 at *
      generalize xs 12 = x12 at *
      generalize xs 14 = x14 at *
      have HM := Lib.hid hO14
      have HB1 := Lib.hid hR
      clear hR hO14
      have HCON := Lib.hid (wlSaid_any (HLG.out.below HB1.out) x14 k HM.out.bts HK.out HA.out.1 HA.out.2)
      go_wp2_with fail
      refine HCON.out.mono ?_
      rintro e w3 ⟨rfl, hb3⟩
      have HB3 := Lib.hid (HB1.out.trans (hb3.mono HB1.out.size))
      obtain ⟨W4, hW4⟩ : ∃ W4, W4 = w3.alloc (.cells (KnC k) 62) := ⟨_, rfl⟩
      have hb4 : Below w3.heap.size w3 W4 := by rw [hW4]; exact below_new1 _ _
      have hrow4 : W4.heap[w3.heap.size]? = some (.cells (KnC k) 62 (0, 0)) := by rw [hW4]; exact heap_alloc_last _ _
      obtain ⟨Q2, hQ2⟩ : ∃ Q, Q = w3.heap.size := ⟨_, rfl⟩
      rw [← hQ2] at hrow4
      have HB4 := Lib.hid (HB3.out.trans (hb4.mono HB3.out.size))
      have HL4 := Lib.hid (HLG.out.below HB4.out)
      have q0 := blk_cell hrow4 0 (v := .int .u64 (k.start : Int)) rfl
      have q1 := blk_cell hrow4 1 (v := .int .u64 (k.flushed : Int)) rfl
      have q2 := blk_cell hrow4 2 (v := .int .u64 (k.point : Int)) rfl
      have q3 := blk_cell hrow4 3 (v := .int .u32 (k.epoch : Int)) rfl
      have hL3 := HL4.out
      have f0 := blk_free hL3 0
      have s0 : LogAt (W4.setCell ⟨L, 0, none⟩ (.int .u64 (k.start : Int))) L { k0 with start := k.start } B a c pl wa false := blk_set (i := 0) hL3 _
      have f1 := blk_free s0 1
      have s1 : LogAt ((W4.setCell ⟨L, 0, none⟩ (.int .u64 (k.start : Int))).setCell ⟨L, 1, none⟩ (.int .u64 (k.flushed : Int))) L { k0 with start := k.start, flushed := k.flushed } B a c pl wa false := blk_set (i := 1) s0 _
      have f2 := blk_free s1 2
      have s2 : LogAt (((W4.setCell ⟨L, 0, none⟩ (.int .u64 (k.start : Int))).setCell ⟨L, 1, none⟩ (.int .u64 (k.flushed : Int))).setCell ⟨L, 2, none⟩ (.int .u64 (k.point : Int))) L { k0 with start := k.start, flushed := k.flushed, point := k.point } B a c pl wa false := blk_set (i := 2) s1 _
      have f3 := blk_free s2 3
      have s3 : LogAt ((((W4.setCell ⟨L, 0, none⟩ (.int .u64 (k.start : Int))).setCell ⟨L, 1, none⟩ (.int .u64 (k.flushed : Int))).setCell ⟨L, 2, none⟩ (.int .u64 (k.point : Int))).setCell ⟨L, 3, none⟩ (.int .u32 (k.epoch : Int))) L k B a c pl wa false := blk_set (i := 3) s2 _
      have g0 := LogAt.cell hL3 0 (v := .int .u64 (k0.start : Int)) rfl
      have g1 := LogAt.cell s0 1 (v := .int .u64 (k0.flushed : Int)) rfl
      have g2 := LogAt.cell s1 2 (v := .int .u64 (k0.point : Int)) rfl
      have g3 := LogAt.cell s2 3 (v := .int .u32 (k0.epoch : Int)) rfl
      have S3 := Lib.hid s3
      have htl : Touch (· = L) W4 ((((W4.setCell ⟨L, 0, none⟩ (.int .u64 (k.start : Int))).setCell ⟨L, 1, none⟩ (.int .u64 (k.flushed : Int))).setCell ⟨L, 2, none⟩ (.int .u64 (k.point : Int))).setCell ⟨L, 3, none⟩ (.int .u32 (k.epoch : Int))) := (((Touch.set (S := (· = L)) L 0 _ rfl).trans (.set L 1 _ rfl)).trans (.set L 2 _ rfl)).trans (.set L 3 _ rfl)
      have HTL := Lib.hid ((Touch.of_new (S := (· = L)) HB4.out).trans htl)
      clear hb3 hb4 hrow4 s0 s1 s2 s3 hL3 htl HCON
      go_upto_region 8 with (fail)
      rw [← hW4, ← hQ2]
      clear hW4 hQ2
      go_wp2_with fail
      go_ret
      exact ⟨rfl, S3.out, HTL.out⟩
end Go.Proofs.YtafpjcobagofcaaGreat
