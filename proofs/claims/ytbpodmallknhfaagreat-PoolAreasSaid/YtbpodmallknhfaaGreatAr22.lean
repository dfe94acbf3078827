/- Parts of a proof. Conditions: as each row says. -/
import Derived.Test.YtbpodmallknhfaaGreatAr05
import Derived.Test.YtbpodmallknhfaaGreatAr06
import Derived.Test.YtbpodmallknhfaaGreatAr10
import Derived.Test.YtbpodmallknhfaaGreatAr21
import Derived.Test.YtbpodmallknhfaaGreatAr07
import Derived.Test.YtbpodmallknhfaaGreatAr09
import Derived.Test.YtbpodmallknhfaaGreatAr03
import Derived.Test.YtbpodmallknhfaaGreatAr08
import Derived.Laws.StructEq
import Derived.Laws.CopyRow
import Derived.StillTailTactics
namespace Go.Proofs.YtbpodmallknhfaaGreat
open Go.RowKit
abbrev KnC (k : Wl.Kn) : Array Value := #[.int .u64 (k.start : Int), .int .u64 (k.flushed : Int), .int .u64 (k.point : Int), .int .u32 (k.epoch : Int)]
abbrev KnV (k : Wl.Kn) : Value := .agg (KnC k)
def HdF1 (L a c W : Nat) (i : Nat) (v : Value) (w : World) : Prop :=
  match i with
  | 0 => v = .pointer (some ⟨L, 0, none⟩)
  | 1 => v = .pointer (some ⟨L, 0, none⟩)
  | 2 => v = .pointer (some ⟨L, 5, none⟩)
  | 3 => v = .int .i64 (a : Int)
  | 4 => v = .int .u32 (a : Int)
  | 5 => Own W w v ([] ++ Cod.le 4 a)
  | 6 => v = .pointer (some ⟨L, 0, none⟩)
  | 7 => v = .pointer (some ⟨L, 0, none⟩)
  | 8 => v = .pointer (some ⟨L, 6, none⟩)
  | 9 => v = .int .i64 (c : Int)
  | 10 => v = .int .u32 (c : Int)
  | 11 => Own W w v (([] ++ Cod.le 4 a) ++ Cod.le 4 c)
  | 12 => Own W w v (([] ++ Cod.le 4 a) ++ Cod.le 4 c)
  | _ => True
theorem HdF1_later (L a c W : Nat) (i : Nat) (v : Value) (w w' : World) (hb : Below w.heap.size w w') (h : HdF1 L a c W i v w) : HdF1 L a c W i v w' := by
  unfold HdF1 at *
  split at h <;> first | exact h | exact h.below hb | trivial
def HdF2 (k : Wl.Kn) (Q W : Nat) (l : List Nat) (u : Value) (i : Nat) (v : Value) (w : World) : Prop :=
  match i with
  | 0 => v = u
  | 1 => v = .pointer (some ⟨Q, 0, none⟩)
  | 2 => v = .int .u64 (k.start : Int)
  | 3 => Own W w v (l ++ Cod.le 8 k.start)
  | 4 => v = .pointer (some ⟨Q, 1, none⟩)
  | 5 => v = .int .u64 (k.flushed : Int)
  | 6 => Own W w v ((l ++ Cod.le 8 k.start) ++ Cod.le 8 k.flushed)
  | 7 => v = .pointer (some ⟨Q, 2, none⟩)
  | 8 => v = .int .u64 (k.point : Int)
  | 9 => Own W w v (((l ++ Cod.le 8 k.start) ++ Cod.le 8 k.flushed) ++ Cod.le 8 k.point)
  | 10 => Own W w v (((l ++ Cod.le 8 k.start) ++ Cod.le 8 k.flushed) ++ Cod.le 8 k.point)
  | _ => True
theorem HdF2_later (k : Wl.Kn) (Q W : Nat) (l : List Nat) (u : Value) (i : Nat) (v : Value) (w w' : World) (hb : Below w.heap.size w w') (h : HdF2 k Q W l u i v w) : HdF2 k Q W l u i v w' := by
  unfold HdF2 at *
  split at h <;> first | exact h | exact h.below hb | trivial
set_option maxHeartbeats 3200000 in
set_option maxRecDepth 20000 in
theorem wlForm_any {w : World} {L B a c : Nat} {k0 : Wl.Kn} {pl wa : Value} {dn : Bool} (h : LogAt w L k0 B a c pl wa dn) (k : Wl.Kn) (ha : a ≤ 65536) (hc : c ≤ 8192) :
    Calls Tryz.prog 101 #[.pointer (some ⟨L, 0, none⟩), KnV k] w fun e w' => ∃ u, e = .returned u ∧ Own w.heap.size w' u (Wl.head a c k) ∧ Below w.heap.size w w' := by
  obtain ⟨W, hW⟩ : ∃ W, W = w.alloc (.cells (KnC k) 120) := ⟨_, rfl⟩
  have hb0 : Below w.heap.size w W := by rw [hW]; exact below_new1 _ _
  have hrow : W.heap[w.heap.size]? = some (.cells (KnC k) 120 (0, 0)) := by rw [hW]; exact heap_alloc_last _ _
  obtain ⟨Q, hQ⟩ : ∃ Q, Q = w.heap.size := ⟨_, rfl⟩
  rw [← hQ] at hrow
  have hl := h.below hb0
  have HLT : Hid (L < W.heap.size) := hl.lt
  have C5 := Lib.hid (hl.cell 5 (v := .int .i64 (a : Int)) rfl)
  have C6 := Lib.hid (hl.cell 6 (v := .int .i64 (c : Int)) rfl)
  have WA : Hid (IntKind.u32.wrap (a : Int) = (a : Int)) := IntWalk.u32_in _ (by omega)
  have WC : Hid (IntKind.u32.wrap (c : Int) = (c : Int)) := IntWalk.u32_in _ (by omega)
  have HROW := Lib.hid hrow
  have HB0 := Lib.hid hb0
  have HQ := Lib.hid hQ
  clear hl h hb0 hrow ha hc
  go_enter Tryz.func101, Tryz.ntmps101
  go_upto_region 1 with (fail)
  rw [← hW, ← hQ]
  clear hW hQ
  refine Ord.walk (HdF1 L a c W.heap.size) (fun _ _ w' => Below W.heap.size W w') (fun a b => Below a.heap.size a b)
    (by kernel_rfl) (by kernel_rfl) ?fra ?hfra (fun i v w w' hb h => HdF1_later _ _ _ _ i v w w' hb h) (fun xs => (Below.refl _ _).go1) ?hea ?henda
  case hfra =>
    intro xs
    simp only [Ord.fill, Act.put, List.setIfInBounds_toArray, List.set_cons_zero, List.set_cons_succ]
    rfl
  case hea =>
    refine Ord.each_cons (fun D xs w2 hD hC hP hR hA K hK => ?_) ?_
    ·
      clear hA
      go_simp
      exact hK _ _ ⟨_, rfl, Below.refl _ _, hR, rfl⟩
    refine Ord.each_cons (fun D xs w2 hD hC hP hR hA K hK => ?_) ?_
    ·
      have q0 := Ord.ahead_get _ hA 0 (by decide)
      simp only [HdF1] at q0
      simp only [q0] at hK
      clear hA
      go_simp
      exact hK _ _ ⟨_, rfl, Below.refl _ _, hR, rfl⟩
    refine Ord.each_cons (fun D xs w2 hD hC hP hR hA K hK => ?_) ?_
    ·
      have q1 := Ord.ahead_get _ hA 1 (by decide)
      simp only [HdF1] at q1
      simp only [q1] at hK
      clear hA
      go_simp
      exact hK _ _ ⟨_, rfl, Below.refl _ _, hR, rfl⟩
    refine Ord.each_cons (fun D xs w2 hD hC hP hR hA K hK => ?_) ?_
    ·
      have q2 := Ord.ahead_get _ hA 2 (by decide)
      simp only [HdF1] at q2
      simp only [q2] at hK
      clear hA
      have cc := hR.cell (p := ⟨L, 5, none⟩) HLT.out
      rw [C5.out] at cc
      go_simp
      exact hK _ _ ⟨_, rfl, Below.refl _ _, hR, rfl⟩
    refine Ord.each_cons (fun D xs w2 hD hC hP hR hA K hK => ?_) ?_
    ·
      have q3 := Ord.ahead_get _ hA 3 (by decide)
      simp only [HdF1] at q3
      simp only [q3] at hK
      clear hA
      go_simp
      rw [WA.out]
      exact hK _ _ ⟨_, rfl, Below.refl _ _, hR, rfl⟩
    refine Ord.each_cons (fun D xs w2 hD hC hP hR hA K hK => ?_) ?_
    ·
      have q4 := Ord.ahead_get _ hA 4 (by decide)
      simp only [HdF1] at q4
      simp only [q4] at hK
      clear hA
      go_simp
      refine (Put32_any (.slice none 0 0) [] a w2 (bts_none w2) (by decide)).mono ?_
      rintro e w' ⟨u, rfl, hO, hb⟩
      exact hK _ _ ⟨_, rfl, hb, hR.trans (hb.mono hR.size), hO.from hR.size⟩
    refine Ord.each_cons (fun D xs w2 hD hC hP hR hA K hK => ?_) ?_
    ·
      clear hA
      go_simp
      exact hK _ _ ⟨_, rfl, Below.refl _ _, hR, rfl⟩
    refine Ord.each_cons (fun D xs w2 hD hC hP hR hA K hK => ?_) ?_
    ·
      have q6 := Ord.ahead_get _ hA 6 (by decide)
      simp only [HdF1] at q6
      simp only [q6] at hK
      clear hA
      go_simp
      exact hK _ _ ⟨_, rfl, Below.refl _ _, hR, rfl⟩
    refine Ord.each_cons (fun D xs w2 hD hC hP hR hA K hK => ?_) ?_
    ·
      have q7 := Ord.ahead_get _ hA 7 (by decide)
      simp only [HdF1] at q7
      simp only [q7] at hK
      clear hA
      go_simp
      exact hK _ _ ⟨_, rfl, Below.refl _ _, hR, rfl⟩
    refine Ord.each_cons (fun D xs w2 hD hC hP hR hA K hK => ?_) ?_
    ·
      have q8 := Ord.ahead_get _ hA 8 (by decide)
      simp only [HdF1] at q8
      simp only [q8] at hK
      clear hA
      have cc := hR.cell (p := ⟨L, 6, none⟩) HLT.out
      rw [C6.out] at cc
      go_simp
      exact hK _ _ ⟨_, rfl, Below.refl _ _, hR, rfl⟩
    refine Ord.each_cons (fun D xs w2 hD hC hP hR hA K hK => ?_) ?_
    ·
      have q9 := Ord.ahead_get _ hA 9 (by decide)
      simp only [HdF1] at q9
      simp only [q9] at hK
      clear hA
      go_simp
      rw [WC.out]
      exact hK _ _ ⟨_, rfl, Below.refl _ _, hR, rfl⟩
    refine Ord.each_cons (fun D xs w2 hD hC hP hR hA K hK => ?_) ?_
    ·
      have q10 := Ord.ahead_get _ hA 10 (by decide)
      simp only [HdF1] at q10
      have q5 := Ord.ahead_get _ hA 5 (by decide)
      simp only [HdF1] at q5
      simp only [q10] at hK
      clear hA
      go_simp
      refine (Put32_any (xs 5) _ c w2 q5.bts (by rw [List.length_append, Cod.le_length]; decide)).mono ?_
      rintro e w' ⟨u, rfl, hO, hb⟩
      exact hK _ _ ⟨_, rfl, hb, hR.trans (hb.mono hR.size), hO.from hR.size⟩
    refine Ord.each_cons (fun D xs w2 hD hC hP hR hA K hK => ?_) ?_
    ·
      have q11 := Ord.ahead_get _ hA 11 (by decide)
      simp only [HdF1] at q11
      clear hA
      go_simp
      exact hK _ _ ⟨_, rfl, Below.refl _ _, hR, q11⟩
    exact Ord.each_nil
  case henda =>
    intro D xs w9 hR hF
    have e0 := (hF 0 (by decide)).2
    have e1 := (hF 1 (by decide)).2
    have e2 := (hF 2 (by decide)).2
    have e3 := (hF 3 (by decide)).2
    have e4 := (hF 4 (by decide)).2
    have e6 := (hF 6 (by decide)).2
    have e7 := (hF 7 (by decide)).2
    have e8 := (hF 8 (by decide)).2
    have e9 := (hF 9 (by decide)).2
    have e10 := (hF 10 (by decide)).2
    have hO12 := (hF 12 (by decide)).2
    simp only [HdF1] at e0 e1 e2 e3 e4 e6 e7 e8 e9 e10 hO12
    rw [e0]
    rw [e1]
    rw [e2]
    rw [e3]
    rw [e4]
    rw [e6]
    rw [e7]
    rw [e8]
    rw [e9]
    rw [e10]
    clear e0 e1 e2 e3 e4 e6 e7 e8 e9 e10
    clear hF
    generalize xs 5 = x5 at *
    generalize xs 11 = x11 at *
    generalize xs 12 = x12 at *
    rw [List.nil_append] at hO12
    have HO1 := Lib.hid hO12
    have HB1 := Lib.hid hR
    clear hR hO12
    obtain ⟨W1, hW1⟩ : ∃ W1, W1 = w9 := ⟨_, rfl⟩
    rw [← hW1] at HO1 HB1 ⊢
    clear hW1
    have HR1 : Hid (W1.heap[Q]? = some (.cells (KnC k) 120 (0, 0))) := (HB1.out.block Q (lt_of_block HROW.out)).trans HROW.out
    have HQ1 : Hid (Q < W1.heap.size) := lt_of_block HR1.out
    have D0 := Lib.hid (blk_cell HR1.out 0 (v := .int .u64 (k.start : Int)) rfl)
    have D1 := Lib.hid (blk_cell HR1.out 1 (v := .int .u64 (k.flushed : Int)) rfl)
    have D2 := Lib.hid (blk_cell HR1.out 2 (v := .int .u64 (k.point : Int)) rfl)
    go_upto_region 2 with (fail)
    refine Ord.walkF (HdF2 k Q W1.heap.size (Cod.le 4 a ++ Cod.le 4 c) x12) (fun D xs w' => Below W1.heap.size W1 w' ∧ (D 10 = false → xs 10 = x12)) (fun a b => Below a.heap.size a b)
      (by kernel_rfl) (by kernel_rfl) ?frb ?hfrb (fun i v w w' hb h => HdF2_later _ _ _ _ _ i v w w' hb h) (fun xs hx => ⟨(Below.refl _ _).go1, fun _ => hx 10⟩) ?heb ?hendb
    case hfrb =>
      intro xs
      simp only [Ord.fill, Act.put, List.setIfInBounds_toArray, List.set_cons_zero, List.set_cons_succ]
      rfl
    case heb =>
      refine Ord.each_cons (fun D xs w2 hD hC hP hR hA K hK => ?_) ?_
      ·
        clear hA
        have hpr := hR.2 (by cases hx : D 10 with | false => rfl | true => exact absurd (Ord.closed_at hC 10 0 rfl hx) (by rw [hD]; decide))
        rw [hpr] at hK ⊢
        obtain ⟨hR, hRp⟩ := hR
        go_simp
        exact hK _ _ ⟨_, rfl, Below.refl _ _, ⟨hR, fun h => hRp h⟩, rfl⟩
      refine Ord.each_cons (fun D xs w2 hD hC hP hR hA K hK => ?_) ?_
      ·
        clear hA
        obtain ⟨hR, hRp⟩ := hR
        go_simp
        exact hK _ _ ⟨_, rfl, Below.refl _ _, ⟨hR, fun h => hRp h⟩, rfl⟩
      refine Ord.each_cons (fun D xs w2 hD hC hP hR hA K hK => ?_) ?_
      ·
        have q1 := Ord.ahead_get _ hA 1 (by decide)
        simp only [HdF2] at q1
        simp only [q1] at hK
        clear hA
        obtain ⟨hR, hRp⟩ := hR
        have cc := hR.cell (p := ⟨Q, 0, none⟩) HQ1.out
        rw [D0.out] at cc
        go_simp
        exact hK _ _ ⟨_, rfl, Below.refl _ _, ⟨hR, fun h => hRp h⟩, rfl⟩
      refine Ord.each_cons (fun D xs w2 hD hC hP hR hA K hK => ?_) ?_
      ·
        have q2 := Ord.ahead_get _ hA 2 (by decide)
        simp only [HdF2] at q2
        have q0 := Ord.ahead_get _ hA 0 (by decide)
        simp only [HdF2] at q0
        simp only [q2, q0] at hK
        clear hA
        obtain ⟨hR, hRp⟩ := hR
        go_simp
        refine (Put64_any x12 _ k.start w2 (HO1.out.bts.below hR) (by rw [List.length_append, Cod.le_length, Cod.le_length]; decide)).mono ?_
        rintro e w' ⟨u, rfl, hO, hb⟩
        exact hK _ _ ⟨_, rfl, hb, ⟨hR.trans (hb.mono hR.size), fun h => hRp h⟩, hO.from hR.size⟩
      refine Ord.each_cons (fun D xs w2 hD hC hP hR hA K hK => ?_) ?_
      ·
        clear hA
        obtain ⟨hR, hRp⟩ := hR
        go_simp
        exact hK _ _ ⟨_, rfl, Below.refl _ _, ⟨hR, fun h => hRp h⟩, rfl⟩
      refine Ord.each_cons (fun D xs w2 hD hC hP hR hA K hK => ?_) ?_
      ·
        have q4 := Ord.ahead_get _ hA 4 (by decide)
        simp only [HdF2] at q4
        simp only [q4] at hK
        clear hA
        obtain ⟨hR, hRp⟩ := hR
        have cc := hR.cell (p := ⟨Q, 1, none⟩) HQ1.out
        rw [D1.out] at cc
        go_simp
        exact hK _ _ ⟨_, rfl, Below.refl _ _, ⟨hR, fun h => hRp h⟩, rfl⟩
      refine Ord.each_cons (fun D xs w2 hD hC hP hR hA K hK => ?_) ?_
      ·
        have q5 := Ord.ahead_get _ hA 5 (by decide)
        simp only [HdF2] at q5
        have q3 := Ord.ahead_get _ hA 3 (by decide)
        simp only [HdF2] at q3
        simp only [q5] at hK
        clear hA
        obtain ⟨hR, hRp⟩ := hR
        go_simp
        refine (Put64_any (xs 3) _ k.flushed w2 q3.bts (by simp only [List.length_append, Cod.le_length]; decide)).mono ?_
        rintro e w' ⟨u, rfl, hO, hb⟩
        exact hK _ _ ⟨_, rfl, hb, ⟨hR.trans (hb.mono hR.size), fun h => hRp h⟩, hO.from hR.size⟩
      refine Ord.each_cons (fun D xs w2 hD hC hP hR hA K hK => ?_) ?_
      ·
        clear hA
        obtain ⟨hR, hRp⟩ := hR
        go_simp
        exact hK _ _ ⟨_, rfl, Below.refl _ _, ⟨hR, fun h => hRp h⟩, rfl⟩
      refine Ord.each_cons (fun D xs w2 hD hC hP hR hA K hK => ?_) ?_
      ·
        have q7 := Ord.ahead_get _ hA 7 (by decide)
        simp only [HdF2] at q7
        simp only [q7] at hK
        clear hA
        obtain ⟨hR, hRp⟩ := hR
        have cc := hR.cell (p := ⟨Q, 2, none⟩) HQ1.out
        rw [D2.out] at cc
        go_simp
        exact hK _ _ ⟨_, rfl, Below.refl _ _, ⟨hR, fun h => hRp h⟩, rfl⟩
      refine Ord.each_cons (fun D xs w2 hD hC hP hR hA K hK => ?_) ?_
      ·
        have q8 := Ord.ahead_get _ hA 8 (by decide)
        simp only [HdF2] at q8
        have q6 := Ord.ahead_get _ hA 6 (by decide)
        simp only [HdF2] at q6
        simp only [q8] at hK
        clear hA
        obtain ⟨hR, hRp⟩ := hR
        go_simp
        refine (Put64_any (xs 6) _ k.point w2 q6.bts (by simp only [List.length_append, Cod.le_length]; decide)).mono ?_
        rintro e w' ⟨u, rfl, hO, hb⟩
        exact hK _ _ ⟨_, rfl, hb, ⟨hR.trans (hb.mono hR.size), fun h => hRp h⟩, hO.from hR.size⟩
      refine Ord.each_cons (fun D xs w2 hD hC hP hR hA K hK => ?_) ?_
      ·
        have q9 := Ord.ahead_get _ hA 9 (by decide)
        simp only [HdF2] at q9
        clear hA
        obtain ⟨hR, hRp⟩ := hR
        go_simp
        exact hK _ _ ⟨_, rfl, Below.refl _ _, ⟨hR, fun h => Bool.noConfusion (show true = false from h)⟩, q9⟩
      exact Ord.each_nil
    case hendb =>
      intro D xs w9 hR hF
      obtain ⟨hR, -⟩ := hR
      have e0 := (hF 0 (by decide)).2
      have e1 := (hF 1 (by decide)).2
      have e2 := (hF 2 (by decide)).2
      have e4 := (hF 4 (by decide)).2
      have e5 := (hF 5 (by decide)).2
      have e7 := (hF 7 (by decide)).2
      have e8 := (hF 8 (by decide)).2
      have hO10 := (hF 10 (by decide)).2
      simp only [HdF2] at e0 e1 e2 e4 e5 e7 e8 hO10
      rw [e0]
      rw [e1]
      rw [e2]
      rw [e4]
      rw [e5]
      rw [e7]
      rw [e8]
      clear e0 e1 e2 e4 e5 e7 e8
      clear hF
      generalize xs 3 = x3 at *
      generalize xs 6 = x6 at *
      generalize xs 9 = x9 at *
      generalize xs 10 = x10 at *
      have HO2 := Lib.hid hO10
      have HB2 := Lib.hid hR
      have HR2 : Hid (w9.heap[Q]? = some (.cells (KnC k) 120 (0, 0))) := (HB2.out.block Q (lt_of_block HR1.out)).trans HR1.out
      have d3 := blk_cell HR2.out 3 (v := .int .u32 (k.epoch : Int)) rfl
      clear hR hO10
      go_wp2_with fail
      refine (Put32_any x10 _ k.epoch w9 HO2.out.bts (by simp only [List.length_append, Cod.le_length]; decide)).mono ?_
      rintro e w3 ⟨u3, rfl, hO3, hb3⟩
      have HB : Hid (Wl.headB a c k = (((Cod.le 4 a ++ Cod.le 4 c) ++ Cod.le 8 k.start ++ Cod.le 8 k.flushed) ++ Cod.le 8 k.point) ++ Cod.le 4 k.epoch) := rfl
      rw [← HB.out] at hO3
      have HO3 := Lib.hid hO3
      have HB3 := Lib.hid (HB2.out.trans (hb3.mono HB2.out.size))
      have HHL := Lib.hid (Wl.headB_length a c k)
      clear hO3 hb3 d3 HB
      go_wp2_with fail
      refine (sum_any u3 _ w3 HO3.out.bts).mono ?_
      rintro e w4 ⟨rfl, hb4⟩
      have HO4 := Lib.hid (HO3.out.below hb4)
      have HB4 := Lib.hid (HB3.out.trans (hb4.mono HB3.out.size))
      clear hb4
      go_wp2_with fail
      refine (Put32_any (.slice none 0 0) [] (Crc.more 0 (Wl.headB a c k)) w4 (bts_none w4) (by decide)).mono ?_
      rintro e w5 ⟨u5, rfl, hO5, hb5⟩
      rw [List.nil_append] at hO5
      have HO5 := Lib.hid hO5
      have HU5 := Lib.hid (HO4.out.below hb5)
      have HS5 : Hid (w4.heap.size ≤ w5.heap.size) := hb5.size
      have HB5 := Lib.hid hb5
      clear hO5 hb5
      dsimp only
      iterate 4 go_step
      refine wpList_append_Own rfl (.tmp 34) (.tmp 35) rfl w4.heap.size u5 _ rfl HO5.out u3 _ rfl HU5.out.bts (by rw [Cod.le_length, HHL.out]; decide) HS5.out ?_
      intro u6 w6 hO6 hb6 _
      have hl6 : (Cod.le 4 (Crc.more 0 (Wl.headB a c k)) ++ Wl.headB a c k).length = 40 := by rw [List.length_append, Cod.le_length, HHL.out]
      obtain ⟨p6, c6, rfl, -, -, -⟩ := hO6.bts.form
      rw [hl6] at hO6 ⊢
      have HO6 := Lib.hid hO6
      have HN6 := Lib.hid hl6
      have HB6 := Lib.hid ((HB4.out.trans (HB5.out.mono HB4.out.size)).trans (hb6.mono HB4.out.size))
      have HS6 : Hid (w4.heap.size ≤ w6.heap.size) := Nat.le_trans HS5.out hb6.size
      clear hO6 hb6 hl6
      have hwk : IntKind.i64.wrap (128 - 40) = ((88 : Nat) : Int) := by rw [IntWalk.i64_in _ (by decide)]; rfl
      obtain ⟨b7, w7, hrun, hO7, hb7⟩ := run_append_zeros HO6.out (by rw [HN6.out]; decide) 88 (by rw [HN6.out]; decide) HS6.out 57
      rw [show (Cod.le 4 (Crc.more 0 (Wl.headB a c k)) ++ Wl.headB a c k) ++ List.replicate 88 0 = Wl.head a c k from rfl] at hO7
      have HO7 := Lib.hid hO7
      have HB7 := Lib.hid (HB6.out.trans (hb7.mono HB4.out.size))
      have HRUN := Lib.hid hrun
      clear hO7 hb7 hrun
      go_upto_region 5 with (fail)
      iterate 13 go_step
      refine Lib.wpList_append_run _ rfl (.tmp 37) (.tmp 40) _ _ rfl _ _ rfl rfl _ _ HRUN.out ?_
      clear HRUN
      go_wp2_with fail
      go_ret
      refine ⟨_, rfl, HO7.out.from ?_, HB0.out.trans ((HB1.out.trans (HB7.out.mono HB1.out.size)).mono HB0.out.size)⟩
      exact Nat.le_trans (Nat.le_trans HB0.out.size HB1.out.size) HB4.out.size
end Go.Proofs.YtbpodmallknhfaaGreat
namespace Go.Proofs.YtbpodmallknhfaaGreat
open Go.RowKit
def HfC (x : Wl.Hf) : Array Value := (.int .u32 (x.round : Int) :: .int .u32 (x.epoch : Int) :: .int .u32 (x.fill : Int) :: bytesV x.log).toArray
abbrev HfV (x : Wl.Hf) : Value := .agg (HfC x)
def HfAt (w : World) (g : Nat) (x : Wl.Hf) : Prop := w.heap[g]? = some (.cells (HfC x) 180 (0, 0))
abbrev HfZ : Array Value := #[.int .u32 0, .int .u32 0, .int .u32 0, .int .u8 0, .int .u8 0, .int .u8 0, .int .u8 0, .int .u8 0, .int .u8 0, .int .u8 0, .int .u8 0, .int .u8 0, .int .u8 0, .int .u8 0, .int .u8 0, .int .u8 0, .int .u8 0, .int .u8 0, .int .u8 0, .int .u8 0, .int .u8 0, .int .u8 0, .int .u8 0, .int .u8 0, .int .u8 0, .int .u8 0, .int .u8 0, .int .u8 0, .int .u8 0, .int .u8 0, .int .u8 0, .int .u8 0, .int .u8 0, .int .u8 0, .int .u8 0, .int .u8 0, .int .u8 0, .int .u8 0, .int .u8 0, .int .u8 0, .int .u8 0, .int .u8 0, .int .u8 0, .int .u8 0, .int .u8 0, .int .u8 0, .int .u8 0, .int .u8 0, .int .u8 0, .int .u8 0, .int .u8 0, .int .u8 0, .int .u8 0, .int .u8 0, .int .u8 0]
abbrev HfL (r e f : Nat) : Array Value := #[.int .u32 (r : Int), .int .u32 (e : Int), .int .u32 (f : Int), .int .u8 0, .int .u8 0, .int .u8 0, .int .u8 0, .int .u8 0, .int .u8 0, .int .u8 0, .int .u8 0, .int .u8 0, .int .u8 0, .int .u8 0, .int .u8 0, .int .u8 0, .int .u8 0, .int .u8 0, .int .u8 0, .int .u8 0, .int .u8 0, .int .u8 0, .int .u8 0, .int .u8 0, .int .u8 0, .int .u8 0, .int .u8 0, .int .u8 0, .int .u8 0, .int .u8 0, .int .u8 0, .int .u8 0, .int .u8 0, .int .u8 0, .int .u8 0, .int .u8 0, .int .u8 0, .int .u8 0, .int .u8 0, .int .u8 0, .int .u8 0, .int .u8 0, .int .u8 0, .int .u8 0, .int .u8 0, .int .u8 0, .int .u8 0, .int .u8 0, .int .u8 0, .int .u8 0, .int .u8 0, .int .u8 0, .int .u8 0, .int .u8 0, .int .u8 0]
theorem hfZ_eq : HfZ = HfC ⟨0, 0, 0, List.replicate 52 0⟩ := by kernel_rfl
theorem hfL_eq (r e f : Nat) : HfL r e f = HfC ⟨r, e, f, List.replicate 52 0⟩ := by kernel_rfl
theorem hfC_size (x : Wl.Hf) : (HfC x).size = 3 + x.log.length := by
  unfold HfC
  simp only [List.size_toArray, List.length_cons, bytesV_length]; omega
theorem hf_info {x : Wl.Hf} (h : x.log.length = 52) : (Tryz.prog.info? 180).map (·.size) = some (HfC x).size := by
  rw [hfC_size, h]; kernel_rfl
theorem hfC_ones (x : Wl.Hf) : (HfC x).all (·.oneCell') = true := by
  unfold HfC
  rw [Array.all_eq_true]
  intro i hi
  simp only [List.size_toArray, List.length_cons] at hi
  obtain rfl | rfl | rfl | ⟨j, rfl⟩ : i = 0 ∨ i = 1 ∨ i = 2 ∨ ∃ j, i = j + 3 := by
    by_cases h : i < 3
    · omega
    · exact Or.inr (Or.inr (Or.inr ⟨i - 3, by omega⟩))
  · rfl
  · rfl
  · rfl
  · simp only [List.getElem_toArray, List.getElem_cons_succ]
    have hm : (bytesV x.log)[j] ∈ bytesV x.log := List.getElem_mem _
    obtain ⟨y, -, hy⟩ := List.mem_map.1 hm
    rw [← hy]; rfl
theorem HfAt.cell {w : World} {g : Nat} {x : Wl.Hf} (h : HfAt w g x) {i : Nat} (hi : i < x.log.length) : w.cell? ⟨g, 3 + i, none⟩ = some (.int .u8 (x.log.getD i 0 : Nat)) := by
  rw [cell_of_row w g _ _ _ _ h]
  unfold HfC
  rw [show 3 + i = i + 1 + 1 + 1 by omega]
  simp [bytesV, hi, List.getD_eq_getElem?_getD]
theorem HfAt.c0 {w : World} {g : Nat} {x : Wl.Hf} (h : HfAt w g x) : w.cell? ⟨g, 0, none⟩ = some (.int .u32 (x.round : Int)) := by rw [cell_of_row w g _ _ _ _ h]; rfl
theorem HfAt.c1 {w : World} {g : Nat} {x : Wl.Hf} (h : HfAt w g x) : w.cell? ⟨g, 1, none⟩ = some (.int .u32 (x.epoch : Int)) := by rw [cell_of_row w g _ _ _ _ h]; rfl
theorem HfAt.c2 {w : World} {g : Nat} {x : Wl.Hf} (h : HfAt w g x) : w.cell? ⟨g, 2, none⟩ = some (.int .u32 (x.fill : Int)) := by rw [cell_of_row w g _ _ _ _ h]; rfl
theorem HfAt.bts {w : World} {g : Nat} {x : Wl.Hf} (h : HfAt w g x) (hl : x.log.length = 52) (hs : ∀ b ∈ x.log, b < 256) : Bts w (.slice (some ⟨g, 3, none⟩) 52 52) x.log :=
  ⟨⟨some ⟨g, 3, none⟩, 52, by rw [hl], ⟨by rw [hl]; exact Nat.le_refl _, by decide⟩, (fun h => by cases h), fun _ => ⟨g, 3, rfl, fun i hi => h.cell hi⟩⟩, hs, by rw [hl]; decide⟩
theorem info_byteW : (Tryz.prog.info? 5).map (·.size) = some 1 := by kernel_rfl
theorem copy_half {w : World} {g o dl dc : Nat} {x : Wl.Hf} {v : Value} {l : List Nat} (hg : HfAt w g x) (hx : x.log.length = 52) (ho : o + dl ≤ 52) (hB : Bts w v l) :
    ∃ w', (∀ ty, (Builtin.copy_ #[57, 57] ty #[.slice (some ⟨g, 3 + o, none⟩) dl dc, v]).run Tryz.prog w = .ok (.int .i64 ((min l.length dl : Nat) : Int)) w') ∧
      HfAt w' g { x with log := x.log.take o ++ l.take (min l.length dl) ++ x.log.drop (o + min l.length dl) } ∧ Touch (· = g) w w' := by
  obtain ⟨n, hn⟩ : ∃ n, min l.length dl = n := ⟨_, rfl⟩
  rw [hn]
  obtain ⟨p, cap, rfl, -, hnn, hp⟩ := hB.form
  have hcs : (bytesV (l.take n)).length = n := by rw [bytesV_length, List.length_take]; omega
  by_cases h0 : n = 0
  · subst h0
    refine ⟨w, fun ty => ?_, ?_, .refl _ _⟩
    · rw [run_copy_none w _ _ ty 5 _ _ _ _ _ _ Tryz.underlying57 info_byteW hn]; rfl
    · rw [List.take_zero, List.append_nil, Nat.add_zero, List.take_append_drop]; exact hg
  · obtain ⟨b, off, rfl, hc⟩ := hp (by omega)
    have hr := fun ty => run_copy_row Tryz.prog w 57 57 ty 5 g (3 + o) dl dc ⟨b, off, none⟩ l.length cap (HfC x) _ (bytesV (l.take n)) Tryz.underlying57 info_byteW hg (by rw [hcs]; exact hn.symm) (fun j u hu => by
      have hadd : (⟨b, off, none⟩ : Addr).add j = ⟨b, off + j, none⟩ := by unfold Addr.add; split <;> simp_all
      have hj : j < n := by
        rcases Nat.lt_or_ge j n with hh | hh
        · exact hh
        · rw [List.getElem?_eq_none (by omega)] at hu; cases hu
      rw [hadd, hc j (by omega), ← hu]
      simp [bytesV, List.getD_eq_getElem?_getD, show j < l.length by omega, hj]) (by rw [hcs, hfC_size, hx]; omega) (fun u hu => by
      obtain ⟨y, -, rfl⟩ := List.mem_map.1 hu
      rfl)
    have e : (HfC x).toList.take (3 + o) ++ bytesV (l.take n) ++ (HfC x).toList.drop (3 + o + n) = (.int .u32 (x.round : Int) :: .int .u32 (x.epoch : Int) :: .int .u32 (x.fill : Int) :: bytesV (x.log.take o ++ l.take n ++ x.log.drop (o + n))) := by
      unfold HfC
      rw [show 3 + o = o + 1 + 1 + 1 by omega, show o + 1 + 1 + 1 + n = o + n + 1 + 1 + 1 by omega]
      simp [bytesV, List.map_take, List.map_drop]
    refine ⟨_, fun ty => ?_, setRow_heap _ _ _ (HfC { x with log := x.log.take o ++ l.take n ++ x.log.drop (o + n) }) _ _ hg, ⟨rfl, rfl, rfl, by simp, fun i _ hi => setRow_other w g i _ hi⟩⟩
    rw [hr ty, hcs, e]
    rfl
theorem rd_at {b : List Nat} {i : Nat} (h : i + 4 ≤ b.length) : Cod.rdNum 4 (b.drop i) 0 = (Cod.num ((b.drop i).take 4), b.drop (i + 4), 0) := by
  unfold Cod.rdNum
  rw [if_neg (by decide), if_neg (by rw [List.length_drop]; omega), List.drop_drop]
theorem hfOf_new {b : List Nat} (hl : b.length = 64) {nr ne nf : Nat} (h1 : Cod.num (((b.take 12).drop 0).take 4) = nr) (h2 : Cod.num (((b.take 12).drop (0 + 4)).take 4) = ne) (h3 : Cod.num (((b.take 12).drop (0 + 4 + 4)).take 4) = nf) :
    Wl.hfOf b = ⟨nr, ne, nf, (List.replicate 52 0).take 0 ++ (b.drop 12).take 52 ++ (List.replicate 52 0).drop (0 + 52)⟩ := by
  unfold Wl.hfOf
  rw [← h1, ← h2, ← h3]
  have e1 : ((b.take 12).drop 0).take 4 = b.take 4 := by rw [List.drop_zero, List.take_take]; rfl
  have e2 : ((b.take 12).drop (0 + 4)).take 4 = (b.drop 4).take 4 := by rw [List.drop_take, List.take_take]; rfl
  have e3 : ((b.take 12).drop (0 + 4 + 4)).take 4 = (b.drop 8).take 4 := by rw [List.drop_take, List.take_take]; rfl
  have e4 : (List.replicate 52 0).take 0 ++ (b.drop 12).take 52 ++ (List.replicate 52 0).drop (0 + 52) = b.drop 12 := by
    rw [List.take_zero, List.nil_append, List.drop_of_length_le (l := List.replicate 52 0) (by simp), List.append_nil, List.take_of_length_le (by rw [List.length_drop]; omega)]
  rw [e1, e2, e3, e4]
def HoF (g off cap Q : Nat) (i : Nat) (v : Value) (_ : World) : Prop :=
  match i with
  | 0 => v = .pointer (some ⟨Q, 3, none⟩)
  | 1 => v = .slice (some ⟨Q, 3, none⟩) 52 52
  | 2 => v = .slice (some ⟨g, off, none⟩) 64 cap
  | 3 => v = .slice (some ⟨g, off + 12, none⟩) 52 (cap - 12)
  | _ => True
theorem HoF_later (g off cap Q : Nat) {Q1 : Nat} (i : Nat) (v : Value) (w w' : World) (_ : Touch (· = Q1) w w') (h : HoF g off cap Q i v w) : HoF g off cap Q i v w' := h
set_option maxHeartbeats 3200000 in
set_option maxRecDepth 20000 in
theorem halfOf_any (v : Value) (b : List Nat) (w : World) (hB : Bts w v b) (hl : b.length = 64) :
    Calls Tryz.prog 160 #[v] w fun e w' => e = .returned (HfV (Wl.hfOf b)) ∧ Below w.heap.size w w' := by
  obtain ⟨W, hW⟩ : ∃ W, W = w.alloc (.cells HfZ 180) := ⟨_, rfl⟩
  have hb0 : Below w.heap.size w W := by rw [hW]; exact below_new1 _ _
  have hrow : W.heap[w.heap.size]? = some (.cells HfZ 180 (0, 0)) := by rw [hW]; exact heap_alloc_last _ _
  obtain ⟨Q1, hQ⟩ : ∃ Q, Q = w.heap.size := ⟨_, rfl⟩
  rw [← hQ] at hrow
  obtain ⟨p, cap, rfl, hcap, hn, hp⟩ := hB.form
  obtain ⟨g, off, rfl, hc⟩ := hp (by omega)
  rw [hl] at hcap hB ⊢
  have HV0 := Lib.hid (hB.below hb0)
  have HL := Lib.hid hl
  have HROW := Lib.hid hrow
  have HB0 := Lib.hid hb0
  have HQ := Lib.hid hQ
  have hcap1 := hcap.1
  have hcap2 := hcap.2
  clear hb0 hrow hp hn hc hcap hB
  go_enter Tryz.func160, Tryz.ntmps160
  go_upto_region 1 with (fail)
  rw [← hW]
  rw [← hQ]
  clear hW hQ
  go_wp2_with fail
  refine (newReader_any _ (b.take 12) W ((HL.out ▸ HV0.out : Bts W (.slice (some ⟨g, off, none⟩) b.length cap) b).take 12 (by rw [HL.out]; decide))).mono ?_
  rintro e w1 ⟨R, rfl, hR, hWR, hb1⟩
  have HB1 := Lib.hid hb1
  have HWR := Lib.hid hWR
  have hlt : (b.take 12).length = 12 := by rw [List.length_take, hl]; rfl
  obtain ⟨nr, hnr⟩ : ∃ n, Cod.num (((b.take 12).drop 0).take 4) = n := ⟨_, rfl⟩
  obtain ⟨ne, hne⟩ : ∃ n, Cod.num (((b.take 12).drop (0 + 4)).take 4) = n := ⟨_, rfl⟩
  obtain ⟨nf, hnf⟩ : ∃ n, Cod.num (((b.take 12).drop (0 + 4 + 4)).take 4) = n := ⟨_, rfl⟩
  have HNR := Lib.hid hnr
  have HNE := Lib.hid hne
  have HNF := Lib.hid hnf
  have h1 := U32_any _ R 0 _ w1 hR
  rw [show b.take 12 = (b.take 12).drop 0 from rfl, rd_at (by rw [hlt]; decide), hnr] at h1
  have H1 := Lib.hid h1
  have HLT := Lib.hid hlt
  clear hR hb1 hWR h1 hlt hl hnr hne hnf
  go_wp2_with fail
  refine H1.out.mono ?_
  rintro e w1a ⟨rfl, hR1, hg1⟩
  have HBa := Lib.hid (below_grown HB1.out hg1 HB1.out.size HWR.out)
  have h2 := U32_any _ R 0 _ w1a hR1
  rw [rd_at (by rw [HLT.out]; decide), HNE.out] at h2
  have H2 := Lib.hid h2
  clear h2 hR1 hg1 H1
  go_wp2_with fail
  refine H2.out.mono ?_
  rintro e w1b ⟨rfl, hR1, hg1⟩
  have HBb := Lib.hid (below_grown HBa.out hg1 HBa.out.size HWR.out)
  have h2 := U32_any _ R 0 _ w1b hR1
  rw [rd_at (by rw [HLT.out]; decide), HNF.out] at h2
  have H3 := Lib.hid h2
  clear h2 hR1 hg1 H2
  go_wp2_with fail
  refine H3.out.mono ?_
  rintro e w3 ⟨rfl, hR1, hg1⟩
  have HBd := Lib.hid (below_grown HBb.out hg1 HBb.out.size HWR.out)
  clear hR1 hg1 H3
  dsimp only
  iterate 10 go_step
  have hr3 : (w3.alloc (.cells HfZ 180)).heap[w3.heap.size]? = some (.cells HfZ 180 (0, 0)) := heap_alloc_last _ _
  refine wpList_store_row rfl 180 (.tmp 4) (.tmp 15) rfl w3.heap.size (HfL nr ne nf) rfl rfl _ _ hr3 (by kernel_rfl) rfl (by rw [hfL_eq]; exact hfC_ones _) ?_
  obtain ⟨Q4, hQ4⟩ : ∃ Q, Q = w3.heap.size := ⟨_, rfl⟩
  have hrow4 := setRow_heap _ _ _ (HfL nr ne nf) _ _ hr3
  have hb4 : Below w3.heap.size w3 ((w3.alloc (.cells HfZ 180)).setRow w3.heap.size (HfL nr ne nf)) := (below_new1 _ _).trans ((setRow_touch _ _).below (base := w3.heap.size) (fun i hi => by rw [hi]; exact Nat.le_refl _) (by simp))
  generalize (w3.alloc (.cells HfZ 180)).setRow w3.heap.size (HfL nr ne nf) = W4 at hrow4 hb4 ⊢
  rw [hfL_eq, ← hQ4] at hrow4
  rw [← hQ4]
  have HQ4 : Hid (W.heap.size ≤ Q4) := by show _ ≤ _; rw [hQ4]; exact HBd.out.size
  have HB4 := Lib.hid (HBd.out.trans (hb4.mono HBd.out.size))
  have HR4 := Lib.hid hrow4
  have hv4 := ((HL.out ▸ HV0.out.below HB4.out : Bts W4 (.slice (some ⟨g, off, none⟩) b.length cap) b).drop 12 (by rw [HL.out]; decide))
  have HVN : Hid (¬ g = Q4) := fun e => by have h1 := HV0.out.block_lt (by rw [HL.out]; decide) g rfl; have h2 := HQ4.out; omega
  rw [HL.out] at hv4
  have HV4 : Hid (Bts W4 (.slice (some ⟨g, off + 12, none⟩) 52 (cap - 12)) (b.drop 12)) := hv4
  clear hv4
  clear hr3 hQ4 hb4 hrow4
  go_upto_region 3 with (fail)
  refine Ord.walk (HoF g off cap Q4) (fun D _ w' => TR W4 Q4 180 (HfC ⟨nr, ne, nf, List.replicate 52 0⟩) (HfC (Wl.hfOf b)) 4 D w') (fun a b => Touch (· = Q4) a b)
    (by kernel_rfl) (by kernel_rfl) ?fra ?hfra (fun i v w w' hb h => HoF_later _ _ _ _  i v w w' hb h) (fun xs => TR.first HR4.out) ?hea ?henda
  case hfra =>
    intro xs
    simp only [Ord.fill, Act.put, List.setIfInBounds_toArray, List.set_cons_zero, List.set_cons_succ]
    rfl
  case hea =>
    refine Ord.each_cons (fun D xs w2 hD hC hP hR hA K hK => ?_) ?_
    ·
      clear hA
      go_simp
      exact hK _ _ ⟨_, rfl, Touch.refl _ _, hR.skip 0 (by decide), rfl⟩
    refine Ord.each_cons (fun D xs w2 hD hC hP hR hA K hK => ?_) ?_
    ·
      have q0 := Ord.ahead_get _ hA 0 (by decide)
      simp only [HoF] at q0
      simp only [q0] at hK
      clear hA
      go_simp
      exact hK _ _ ⟨_, rfl, Touch.refl _ _, hR.skip 1 (by decide), rfl⟩
    refine Ord.each_cons (fun D xs w2 hD hC hP hR hA K hK => ?_) ?_
    ·
      clear hA
      go_simp
      exact hK _ _ ⟨_, rfl, Touch.refl _ _, hR.skip 2 (by decide), rfl⟩
    refine Ord.each_cons (fun D xs w2 hD hC hP hR hA K hK => ?_) ?_
    ·
      have q2 := Ord.ahead_get _ hA 2 (by decide)
      simp only [HoF] at q2
      simp only [q2] at hK
      clear hA
      go_simp
      rw [if_neg (by omega)]
      exact hK _ _ ⟨_, rfl, Touch.refl _ _, hR.skip 3 (by decide), rfl⟩
    refine Ord.each_cons (fun D xs w2 hD hC hP hR hA K hK => ?_) ?_
    ·
      have q1 := Ord.ahead_get _ hA 1 (by decide)
      simp only [HoF] at q1
      have q3 := Ord.ahead_get _ hA 3 (by decide)
      simp only [HoF] at q3
      simp only [q1, q3] at hK
      clear hA
      have hnow := hR.now hD
      obtain ⟨w8, hrun, hrow8, ht8⟩ := copy_half (o := 0) (dl := 52) (dc := 52) (x := ⟨nr, ne, nf, List.replicate 52 0⟩) hnow (by simp) (by decide) (hR.touch.bts HV4.out (fun _ g' e => by simp only [Value.ownBlock, Option.some.injEq] at e; subst e; exact HVN.out))
      rw [show min (b.drop 12).length 52 = 52 by rw [List.length_drop, HL.out]; decide] at hrun hrow8
      have hrow9 : HfAt w8 Q4 (Wl.hfOf b) := by
        rw [show (Wl.hfOf b) = ⟨nr, ne, nf, (List.replicate 52 0).take 0 ++ (b.drop 12).take 52 ++ (List.replicate 52 0).drop (0 + 52)⟩ from hfOf_new HL.out HNR.out HNE.out HNF.out]
        exact hrow8
      have hrun := hrun 3
      go_simp
      exact hK _ _ ⟨_, rfl, ht8, hR.put ht8 hrow9, trivial⟩
    exact Ord.each_nil
  case henda =>
    intro D xs w9 hR hF
    have hD4 := (hF 4 (by decide)).1
    have e0 := (hF 0 (by decide)).2
    have e1 := (hF 1 (by decide)).2
    have e2 := (hF 2 (by decide)).2
    have e3 := (hF 3 (by decide)).2
    simp only [HoF] at e0 e1 e2 e3
    rw [e0]
    rw [e1]
    rw [e2]
    rw [e3]
    clear e0 e1 e2 e3
    clear hF
    generalize xs 4 = x4 at *
    have hrow := hR.done hD4
    have HB9 := Lib.hid (HB4.out.trans (hR.touch.below (base := W.heap.size) (fun i hi => by rw [hi]; exact HQ4.out) HB4.out.size))
    clear hD4 hR
    have HR9 := Lib.hid hrow
    have HQ9 := Lib.hid ((HB9.out.block Q1 (lt_of_block HROW.out)).trans HROW.out)
    clear hrow
    have hxl : (Wl.hfOf b).log.length = 52 := by show (b.drop 12).length = 52; rw [List.length_drop, HL.out]
    go_upto_region 4 with (fail)
    go_step
    refine wpList_load_row rfl 180 (.tmp 4) rfl Q4 rfl _ _ _ _ HR9.out Tryz.underlying180 rfl (hf_info hxl) ?_
    refine wpList_store_row rfl 180 (.tmp 2) (.tmp 21) rfl Q1 _ rfl rfl _ _ HQ9.out (hf_info hxl) (by rw [hfC_size, hxl]; rfl) (hfC_ones _) ?_
    have hrow10 := setRow_heap _ _ _ (HfC (Wl.hfOf b)) _ _ HQ9.out
    have HE := Lib.hid ((HB0.out.trans (HB9.out.mono HB0.out.size)).trans ((setRow_touch (w := w9) Q1 (HfC (Wl.hfOf b))).below (base := w.heap.size) (fun i hi => by rw [hi, HQ.out]; exact Nat.le_refl _) (Nat.le_trans HB0.out.size HB9.out.size)))
    generalize w9.setRow Q1 (HfC (Wl.hfOf b)) = w10 at hrow10 HE ⊢
    go_wp2_with fail
    refine bodyPost_ret (v := HfV (Wl.hfOf b)) ?_ rfl ⟨rfl, HE.out⟩
    exact results_cell_row rfl _ _ Q1 180 _ _ _ rfl hrow10 Tryz.underlying180 rfl (hf_info hxl)
end Go.Proofs.YtbpodmallknhfaaGreat
namespace Go.Proofs.YtbpodmallknhfaaGreat
open Go.RowKit
theorem Mine.below {base : Nat} {w w' : World} {v : Value} {l : List Nat} (h : Mine base w v l) (hb : Below w.heap.size w w') : Mine base w' v l := by
  refine ⟨h.bts.below hb, fun h0 => ?_⟩
  obtain ⟨g, cap, hv, hg, hlt, h1, h2, cur, T, hh, h3, h4⟩ := h.row h0
  exact ⟨g, cap, hv, hg, Nat.lt_of_lt_of_le hlt hb.size, h1, h2, cur, T, (hb.block g hlt).trans hh, h3, h4⟩
theorem Mine.from {base base' : Nat} {w : World} {v : Value} {l : List Nat} (h : Mine base w v l) (hb : base' ≤ base) : Mine base' w v l := by
  refine ⟨h.bts, fun h0 => ?_⟩
  obtain ⟨g, cap, hv, hg, r⟩ := h.row h0
  exact ⟨g, cap, hv, Nat.le_trans hb hg, r⟩
theorem Mine.some {base : Nat} {w : World} {v : Value} {l : List Nat} (h : Mine base w v l) (h0 : 0 < l.length) : ∃ g cap, v = .slice (some ⟨g, 0, none⟩) l.length cap ∧ base ≤ g ∧ g < w.heap.size ∧ l.length ≤ cap ∧ cap ≤ 9223372036854775807 := by
  obtain ⟨g, cap, hv, hg, hlt, h1, h2, -⟩ := h.row h0
  exact ⟨g, cap, hv, hg, hlt, h1, h2⟩
def RdA (base : Nat) (w : World) (v : Value) (b : List Nat) : Prop := ∃ u, v = .tuple #[u, .int .i64 0] ∧ Mine base w u b
theorem RdA.below {base : Nat} {w w' : World} {v : Value} {l : List Nat} (h : RdA base w v l) (hb : Below w.heap.size w w') : RdA base w' v l := by
  obtain ⟨u, hv, hm⟩ := h
  exact ⟨u, hv, hm.below hb⟩
theorem wlRead_any {B m1 m2 : Nat} {d : Dk.Dev} {w : World} (h : PDev w B m1 m2 d) (ho : d.off = false) {i : Nat} (hi : i < Dk.size d) :
    Calls Tryz.prog 97 #[.pointer (some ⟨B, 0, none⟩), .int .i64 (i : Int)] w fun e w' => ∃ u, e = .returned (.tuple #[u, .int .i64 0]) ∧ Mine w.heap.size w' u (Wl.eff d i) ∧ Below w.heap.size w w' := by
  have h1 := read_any h (i : Int)
  rw [Dk.read_fine ho hi] at h1
  exact h1
theorem hf_bts {w : World} {gb cap : Nat} {b : List Nat} (h : Bts w (.slice (some ⟨gb, 0, none⟩) 128 cap) b) (hb : b.length = 128) (_ : 128 ≤ cap) {j : Nat} (hj : j < 2) : Bts w (.slice (some ⟨gb, 64 * j, none⟩) 64 (cap - 64 * j)) (Wl.hf b j) := by
  have h1 := (hb ▸ h : Bts w (.slice (some ⟨gb, 0, none⟩) b.length cap) b).drop (64 * j) (by omega)
  rw [Nat.zero_add] at h1
  have h2 : (b.drop (64 * j)).length = b.length - 64 * j := List.length_drop ..
  rw [← h2] at h1
  have h3 := h1.take 64 (by rw [h2]; omega)
  exact h3
end Go.Proofs.YtbpodmallknhfaaGreat
namespace Go.Proofs.YtbpodmallknhfaaGreat
open Go.RowKit
namespace Wl
def fill1 (was : Hf) (old : Nat) : Hf := ⟨0, 0, 0, (List.replicate 52 0).take 0 ++ was.log.take old ++ (List.replicate 52 0).drop (0 + old)⟩
def fill2 (was : Hf) (wl : List Nat) (old sw fresh : Nat) : Hf := ⟨0, 0, 0, (fill1 was old).log.take old ++ (wl.drop sw).take fresh ++ (fill1 was old).log.drop (old + fresh)⟩
def fillHf (was : Hf) (wl : List Nat) (old sw fresh r ep : Nat) : Hf := ⟨r, ep, old + fresh, (fill2 was wl old sw fresh).log⟩
theorem fill1_length {was : Hf} (h : was.log.length = 52) {old : Nat} (ho : old ≤ 52) : (fill1 was old).log.length = 52 := by
  unfold fill1
  simp only [List.length_append, List.length_take, List.length_drop, List.length_replicate, h]
  omega
theorem fill2_length {was : Hf} (h : was.log.length = 52) {wl : List Nat} {old sw fresh : Nat} (ho : old + fresh ≤ 52) (hs : fresh ≤ wl.length - sw) : (fill2 was wl old sw fresh).log.length = 52 := by
  unfold fill2
  simp only [List.length_append, List.length_take, List.length_drop, fill1_length h (show old ≤ 52 by omega)]
  omega
theorem fill2_lt {was : Hf} (h : ∀ b ∈ was.log, b < 256) {wl : List Nat} (hw : ∀ b ∈ wl, b < 256) {old sw fresh : Nat} : ∀ b ∈ (fill2 was wl old sw fresh).log, b < 256 := by
  have hz : ∀ b ∈ List.replicate 52 0, b < 256 := fun b hb => by rw [List.eq_of_mem_replicate hb]; decide
  have h1 : ∀ b ∈ (fill1 was old).log, b < 256 := by
    intro b hb
    unfold fill1 at hb
    simp only [List.mem_append] at hb
    rcases hb with (hb | hb) | hb
    · exact hz b (List.mem_of_mem_take hb)
    · exact h b (List.mem_of_mem_take hb)
    · exact hz b (List.mem_of_mem_drop hb)
  intro b hb
  unfold fill2 at hb
  simp only [List.mem_append] at hb
  rcases hb with (hb | hb) | hb
  · exact h1 b (List.mem_of_mem_take hb)
  · exact hw b (List.mem_of_mem_drop (List.mem_of_mem_take hb))
  · exact h1 b (List.mem_of_mem_drop hb)
theorem fill2_at {was : Hf} (h : was.log.length = 52) {wl : List Nat} {old sw fresh : Nat} (ho : old + fresh ≤ 52) (hs : fresh ≤ wl.length - sw) {i : Nat} (hi : i < old + fresh) : (fill2 was wl old sw fresh).log.getD i 0 = if i < old then was.log.getD i 0 else wl.getD (sw + (i - old)) 0 := by
  have hl := fill1_length h (show old ≤ 52 by omega)
  have e : (fill2 was wl old sw fresh).log = (fill1 was old).log.take old ++ ((wl.drop sw).take fresh ++ (fill1 was old).log.drop (old + fresh)) := List.append_assoc ..
  have ht : ((fill1 was old).log.take old).length = old := by rw [List.length_take, hl]; omega
  rw [e, getD_app, ht]
  by_cases h1 : i < old
  · rw [if_pos h1, if_pos h1, getD_take h1]
    have e2 : (fill1 was old).log = was.log.take old ++ (List.replicate 52 0).drop (0 + old) := by unfold fill1; rw [List.take_zero, List.nil_append]
    rw [e2, getD_app, List.length_take, h, if_pos (by omega), getD_take h1]
  · rw [if_neg h1, if_neg h1]
    rw [getD_app, if_pos (by rw [List.length_take, List.length_drop]; omega), getD_take (by omega), getD_drop]
end Wl
theorem hfC_0 (x : Wl.Hf) : (HfC x)[0]? = some (.int .u32 (x.round : Int)) := rfl
theorem hfC_1 (x : Wl.Hf) (u : Value) : ((HfC x).setIfInBounds 0 u)[1]? = some (.int .u32 (x.epoch : Int)) := by rw [Array.getElem?_setIfInBounds_ne (by decide)]; rfl
theorem hfC_2 (x : Wl.Hf) (u v : Value) : (((HfC x).setIfInBounds 0 u).setIfInBounds 1 v)[2]? = some (.int .u32 (x.fill : Int)) := by rw [Array.getElem?_setIfInBounds_ne (by decide), Array.getElem?_setIfInBounds_ne (by decide)]; rfl
theorem hfC_head (x : Wl.Hf) (r e f : Nat) : (((HfC x).setIfInBounds 0 (.int .u32 (r : Int))).setIfInBounds 1 (.int .u32 (e : Int))).setIfInBounds 2 (.int .u32 (f : Int)) = HfC ⟨r, e, f, x.log⟩ := by
  unfold HfC
  simp
def HbF (x : Wl.Hf) (Q W : Nat) (i : Nat) (v : Value) (w : World) : Prop :=
  match i with
  | 0 => v = .pointer (some ⟨Q, 0, none⟩)
  | 1 => v = .pointer (some ⟨Q, 0, none⟩)
  | 2 => v = .int .u32 (x.round : Int)
  | 3 => Own W w v ([] ++ Cod.le 4 x.round)
  | 4 => v = .pointer (some ⟨Q, 0, none⟩)
  | 5 => v = .pointer (some ⟨Q, 1, none⟩)
  | 6 => v = .int .u32 (x.epoch : Int)
  | 7 => Own W w v (([] ++ Cod.le 4 x.round) ++ Cod.le 4 x.epoch)
  | 8 => v = .pointer (some ⟨Q, 0, none⟩)
  | 9 => v = .pointer (some ⟨Q, 2, none⟩)
  | 10 => v = .int .u32 (x.fill : Int)
  | 11 => Own W w v ((([] ++ Cod.le 4 x.round) ++ Cod.le 4 x.epoch) ++ Cod.le 4 x.fill)
  | 12 => Own W w v ((([] ++ Cod.le 4 x.round) ++ Cod.le 4 x.epoch) ++ Cod.le 4 x.fill)
  | _ => True
theorem HbF_later (x : Wl.Hf) (Q W : Nat) (i : Nat) (v : Value) (w w' : World) (hb : Below w.heap.size w w') (h : HbF x Q W i v w) : HbF x Q W i v w' := by
  unfold HbF at *
  split at h <;> first | exact h | exact h.below hb | trivial
def F4F (Q1 Q3 old : Nat) (i : Nat) (v : Value) (_ : World) : Prop :=
  match i with
  | 0 => v = .pointer (some ⟨Q3, 3, none⟩)
  | 1 => v = .int .u64 (old : Int)
  | 2 => v = .slice (some ⟨Q3, 3, none⟩) old 52
  | 3 => v = .pointer (some ⟨Q1, 3, none⟩)
  | 4 => v = .slice (some ⟨Q1, 3, none⟩) 52 52
  | _ => True
theorem F4F_later (Q1 Q3 old : Nat) {Qz : Nat} (i : Nat) (v : Value) (w w' : World) (_ : Touch (· = Qz) w w') (h : F4F Q1 Q3 old i v w) : F4F Q1 Q3 old i v w' := h
def F5F (L Q3 old place flushed p3 po s0 : Nat) (wa : Value) (gw sw nw cw : Nat) (i : Nat) (v : Value) (_ : World) : Prop :=
  match i with
  | 0 => v = .pointer (some ⟨Q3, 3, none⟩)
  | 1 => v = .int .u64 (old : Int)
  | 2 => v = .slice (some ⟨Q3, 3 + old, none⟩) (52 - old) (52 - old)
  | 3 => v = .pointer (some ⟨L, 0, none⟩)
  | 4 => v = .pointer (some ⟨L, 0, none⟩)
  | 5 => v = .pointer (some ⟨L, 8, none⟩)
  | 6 => v = wa
  | 7 => v = .int .u64 (place : Int)
  | 8 => v = .int .u64 (old : Int)
  | 9 => v = .int .u64 (po : Int)
  | 10 => v = .pointer (some ⟨L, 0, none⟩)
  | 11 => v = .pointer (some ⟨L, 0, none⟩)
  | 12 => v = .pointer (some ⟨L, 0, none⟩)
  | 13 => v = .pointer (some ⟨L, 1, none⟩)
  | 14 => v = .int .u64 (flushed : Int)
  | 15 => v = .int .u64 (s0 : Int)
  | 16 => v = .slice (some ⟨gw, sw, none⟩) nw cw
  | 17 => v = .int .i64 (p3 : Int)
  | 18 => v = .int .i64 (p3 : Int)
  | _ => True
theorem F5F_later (L Q3 old place flushed p3 po s0 : Nat) (wa : Value) (gw sw nw cw : Nat) {Qz : Nat} (i : Nat) (v : Value) (w w' : World) (_ : Touch (· = Qz) w w') (h : F5F L Q3 old place flushed p3 po s0 wa gw sw nw cw i v w) : F5F L Q3 old place flushed p3 po s0 wa gw sw nw cw i v w' := h
def F6F (L Q3 g r old fresh ep ff : Nat) (i : Nat) (v : Value) (_ : World) : Prop :=
  match i with
  | 0 => v = .pointer (some ⟨L, 0, none⟩)
  | 1 => v = .int .u64 (g : Int)
  | 2 => v = .int .u32 (r : Int)
  | 3 => v = .pointer (some ⟨L, 0, none⟩)
  | 4 => v = .pointer (some ⟨L, 0, none⟩)
  | 5 => v = .pointer (some ⟨L, 0, none⟩)
  | 6 => v = .pointer (some ⟨L, 3, none⟩)
  | 7 => v = .int .u32 (ep : Int)
  | 8 => v = .int .u64 (old : Int)
  | 9 => v = .int .u32 (old : Int)
  | 10 => v = .int .i64 (fresh : Int)
  | 11 => v = .int .u32 (fresh : Int)
  | 12 => v = .int .u32 (ff : Int)
  | 13 => v = .agg #[.int .u32 (r : Int), .int .u32 (ep : Int), .int .u32 (ff : Int)]
  | 14 => v = .pointer (some ⟨Q3, 0, none⟩)
  | _ => True
theorem F6F_later (L Q3 g r old fresh ep ff : Nat) {Qz : Nat} (i : Nat) (v : Value) (w w' : World) (_ : Touch (· = Qz) w w') (h : F6F L Q3 g r old fresh ep ff i v w) : F6F L Q3 g r old fresh ep ff i v w' := h
set_option maxHeartbeats 3200000 in
set_option maxRecDepth 20000 in
theorem hfBytes_any (x : Wl.Hf) (w : World) (hl : x.log.length = 52) (hs : ∀ b ∈ x.log, b < 256) :
    Calls Tryz.prog 176 #[HfV x] w fun e w' => ∃ u, e = .returned u ∧ Own w.heap.size w' u (Wl.hfB x) ∧ Below w.heap.size w w' := by
  obtain ⟨W, hW⟩ : ∃ W, W = w.alloc (.cells (HfC x) 180) := ⟨_, rfl⟩
  have hb0 : Below w.heap.size w W := by rw [hW]; exact below_new1 _ _
  have hrow : HfAt W w.heap.size x := by rw [hW]; exact heap_alloc_last _ _
  obtain ⟨Q, hQ⟩ : ∃ Q, Q = w.heap.size := ⟨_, rfl⟩
  rw [← hQ] at hrow
  have HROW := Lib.hid hrow
  have HQL : Hid (Q < W.heap.size) := lt_of_block hrow
  have C0 := Lib.hid hrow.c0
  have C1 := Lib.hid hrow.c1
  have C2 := Lib.hid hrow.c2
  have HB0 := Lib.hid hb0
  have HL := Lib.hid hl
  have HS := Lib.hid hs
  clear hb0 hrow hl hs
  go_enter Tryz.func176, Tryz.ntmps176
  go_upto_region 1 with (fail)
  rw [← hW, ← hQ]
  clear hW hQ
  refine Ord.walk (HbF x Q W.heap.size) (fun _ _ w' => Below W.heap.size W w') (fun a b => Below a.heap.size a b)
    (by kernel_rfl) (by kernel_rfl) ?fra ?hfra (fun i v w w' hb h => HbF_later _ _ _ i v w w' hb h) (fun xs => (Below.refl _ _).go1) ?hea ?henda
  case hfra =>
    intro xs
    simp only [Ord.fill, Act.put, List.setIfInBounds_toArray, List.set_cons_zero, List.set_cons_succ]
    rfl
  case hea =>
    refine Ord.each_cons (fun D xs w2 hD hC hP hR hA K hK => ?_) ?_
    ·
      clear hA
      go_simp
      exact hK _ _ ⟨_, rfl, Below.refl _ _, hR, rfl⟩
    refine Ord.each_cons (fun D xs w2 hD hC hP hR hA K hK => ?_) ?_
    ·
      have q0 := Ord.ahead_get _ hA 0 (by decide)
      simp only [HbF] at q0
      simp only [q0] at hK
      clear hA
      go_simp
      exact hK _ _ ⟨_, rfl, Below.refl _ _, hR, rfl⟩
    refine Ord.each_cons (fun D xs w2 hD hC hP hR hA K hK => ?_) ?_
    ·
      have q1 := Ord.ahead_get _ hA 1 (by decide)
      simp only [HbF] at q1
      simp only [q1] at hK
      clear hA
      have cc := hR.cell (p := ⟨Q, 0, none⟩) HQL.out
      rw [C0.out] at cc
      go_simp
      exact hK _ _ ⟨_, rfl, Below.refl _ _, hR, rfl⟩
    refine Ord.each_cons (fun D xs w2 hD hC hP hR hA K hK => ?_) ?_
    ·
      have q2 := Ord.ahead_get _ hA 2 (by decide)
      simp only [HbF] at q2
      simp only [q2] at hK
      clear hA
      go_simp
      refine (Put32_any (.slice none 0 0) [] x.round w2 (bts_none w2) (by decide)).mono ?_
      rintro e w' ⟨u, rfl, hO, hb⟩
      exact hK _ _ ⟨_, rfl, hb, hR.trans (hb.mono hR.size), hO.from hR.size⟩
    refine Ord.each_cons (fun D xs w2 hD hC hP hR hA K hK => ?_) ?_
    ·
      clear hA
      go_simp
      exact hK _ _ ⟨_, rfl, Below.refl _ _, hR, rfl⟩
    refine Ord.each_cons (fun D xs w2 hD hC hP hR hA K hK => ?_) ?_
    ·
      have q4 := Ord.ahead_get _ hA 4 (by decide)
      simp only [HbF] at q4
      simp only [q4] at hK
      clear hA
      go_simp
      exact hK _ _ ⟨_, rfl, Below.refl _ _, hR, rfl⟩
    refine Ord.each_cons (fun D xs w2 hD hC hP hR hA K hK => ?_) ?_
    ·
      have q5 := Ord.ahead_get _ hA 5 (by decide)
      simp only [HbF] at q5
      simp only [q5] at hK
      clear hA
      have cc := hR.cell (p := ⟨Q, 1, none⟩) HQL.out
      rw [C1.out] at cc
      go_simp
      exact hK _ _ ⟨_, rfl, Below.refl _ _, hR, rfl⟩
    refine Ord.each_cons (fun D xs w2 hD hC hP hR hA K hK => ?_) ?_
    ·
      have q6 := Ord.ahead_get _ hA 6 (by decide)
      simp only [HbF] at q6
      have q3 := Ord.ahead_get _ hA 3 (by decide)
      simp only [HbF] at q3
      simp only [q6] at hK
      clear hA
      go_simp
      refine (Put32_any (xs 3) _ x.epoch w2 q3.bts (by rw [List.length_append, Cod.le_length]; decide)).mono ?_
      rintro e w' ⟨u, rfl, hO, hb⟩
      exact hK _ _ ⟨_, rfl, hb, hR.trans (hb.mono hR.size), hO.from hR.size⟩
    refine Ord.each_cons (fun D xs w2 hD hC hP hR hA K hK => ?_) ?_
    ·
      clear hA
      go_simp
      exact hK _ _ ⟨_, rfl, Below.refl _ _, hR, rfl⟩
    refine Ord.each_cons (fun D xs w2 hD hC hP hR hA K hK => ?_) ?_
    ·
      have q8 := Ord.ahead_get _ hA 8 (by decide)
      simp only [HbF] at q8
      simp only [q8] at hK
      clear hA
      go_simp
      exact hK _ _ ⟨_, rfl, Below.refl _ _, hR, rfl⟩
    refine Ord.each_cons (fun D xs w2 hD hC hP hR hA K hK => ?_) ?_
    ·
      have q9 := Ord.ahead_get _ hA 9 (by decide)
      simp only [HbF] at q9
      simp only [q9] at hK
      clear hA
      have cc := hR.cell (p := ⟨Q, 2, none⟩) HQL.out
      rw [C2.out] at cc
      go_simp
      exact hK _ _ ⟨_, rfl, Below.refl _ _, hR, rfl⟩
    refine Ord.each_cons (fun D xs w2 hD hC hP hR hA K hK => ?_) ?_
    ·
      have q10 := Ord.ahead_get _ hA 10 (by decide)
      simp only [HbF] at q10
      have q7 := Ord.ahead_get _ hA 7 (by decide)
      simp only [HbF] at q7
      simp only [q10] at hK
      clear hA
      go_simp
      refine (Put32_any (xs 7) _ x.fill w2 q7.bts (by simp only [List.length_append, Cod.le_length]; decide)).mono ?_
      rintro e w' ⟨u, rfl, hO, hb⟩
      exact hK _ _ ⟨_, rfl, hb, hR.trans (hb.mono hR.size), hO.from hR.size⟩
    refine Ord.each_cons (fun D xs w2 hD hC hP hR hA K hK => ?_) ?_
    ·
      have q11 := Ord.ahead_get _ hA 11 (by decide)
      simp only [HbF] at q11
      clear hA
      go_simp
      exact hK _ _ ⟨_, rfl, Below.refl _ _, hR, q11⟩
    exact Ord.each_nil
  case henda =>
    intro D xs w9 hR hF
    have e0 := (hF 0 (by decide)).2
    have e1 := (hF 1 (by decide)).2
    have e2 := (hF 2 (by decide)).2
    have e4 := (hF 4 (by decide)).2
    have e5 := (hF 5 (by decide)).2
    have e6 := (hF 6 (by decide)).2
    have e8 := (hF 8 (by decide)).2
    have e9 := (hF 9 (by decide)).2
    have e10 := (hF 10 (by decide)).2
    have hO12 := (hF 12 (by decide)).2
    simp only [HbF] at e0 e1 e2 e4 e5 e6 e8 e9 e10 hO12
    rw [e0]
    rw [e1]
    rw [e2]
    rw [e4]
    rw [e5]
    rw [e6]
    rw [e8]
    rw [e9]
    rw [e10]
    clear e0 e1 e2 e4 e5 e6 e8 e9 e10
    clear hF
    generalize xs 3 = x3 at *
    generalize xs 7 = x7 at *
    generalize xs 11 = x11 at *
    generalize xs 12 = x12 at *
    rw [List.nil_append] at hO12
    have HO1 := Lib.hid hO12
    have HB1 := Lib.hid hR
    have HR1 : Hid (HfAt w9 Q x) := (HB1.out.block Q (lt_of_block HROW.out)).trans HROW.out
    clear hR hO12
    go_upto_region 2 with (fail)
    iterate 10 go_step
    refine wpList_append_Own rfl (.tmp 16) (.tmp 18) rfl W.heap.size x12 _ rfl HO1.out _ _ rfl (HR1.out.bts HL.out HS.out) (by simp only [List.length_append, Cod.le_length, HL.out]; decide) HB1.out.size ?_
    intro u2 w2 hO2 hb2 _
    have HO2 := Lib.hid hO2
    have HE := Lib.hid (HB0.out.trans ((HB1.out.trans hb2).mono HB0.out.size))
    clear hO2 hb2
    go_wp2_with fail
    go_ret
    exact ⟨_, rfl, HO2.out.from HB0.out.size, HE.out⟩
set_option maxHeartbeats 6400000 in
set_option maxRecDepth 20000 in
theorem wlFilled_any {w : World} {L B a c : Nat} {k : Wl.Kn} {pl : Value} {dn : Bool} {gw ow nw cw : Nat} {wl : List Nat} (h : LogAt w L k B a c pl (.slice (some ⟨gw, ow, none⟩) nw cw) dn) (hB : Bts w (.slice (some ⟨gw, ow, none⟩) nw cw) wl) (hc1 : 1 ≤ c) (hc2 : c ≤ 8192)
    (g : Nat) (hr : g / (2 * c) < 4294967296) (was : Wl.Hf) (hwl : was.log.length = 52) (hws : ∀ b ∈ was.log, b < 256) {old sw fresh : Nat} (hg : g ≤ 10000000000000) (hfl : k.flushed ≤ 1000000000000000) (hold : old = max (g * 52) k.flushed - g * 52) (ho : old < 52) (hsw : sw = g * 52 + old - k.flushed) (hsl : sw < nw) (hfr : min (nw - sw) (52 - old) = fresh) :
    Calls Tryz.prog 175 #[.pointer (some ⟨L, 0, none⟩), .int .u64 (g : Int), HfV was] w fun e w' => e = .returned (HfV (Wl.fillHf was wl old sw fresh (g / (2 * c)) k.epoch)) ∧ Below w.heap.size w w' := by
  obtain ⟨W, hW⟩ : ∃ W, W = (w.alloc (.cells (HfC was) 180)).alloc (.cells HfZ 180) := ⟨_, rfl⟩
  have hb0 : Below w.heap.size w W := by rw [hW]; exact ((Below.refl _ _).alloc (Nat.le_refl _) _).alloc (by simp) _
  have hs0 : W.heap.size = w.heap.size + 1 + 1 := by rw [hW]; simp
  have hrow1 : HfAt W w.heap.size was := by
    rw [hW]
    show (World.alloc _ _).heap[_]? = _
    rw [Below.heap_alloc _ _ _ (by simp)]
    exact heap_alloc_last _ _
  have hrow2 : W.heap[w.heap.size + 1]? = some (.cells HfZ 180 (0, 0)) := by
    rw [hW]
    have := heap_alloc_last (w.alloc (.cells (HfC was) 180)) (.cells HfZ 180)
    rwa [show (w.alloc (.cells (HfC was) 180)).heap.size = w.heap.size + 1 by simp] at this
  obtain ⟨Q1, hQ⟩ : ∃ Q, Q = w.heap.size := ⟨_, rfl⟩
  rw [← hQ] at hrow1 hrow2
  obtain ⟨W3, hW3⟩ : ∃ W3, W3 = W.alloc (.cells HfZ 180) := ⟨_, rfl⟩
  have hb3 : Below W.heap.size W W3 := by rw [hW3]; exact below_new1 _ _
  have hrow3 : W3.heap[W.heap.size]? = some (.cells HfZ 180 (0, 0)) := by rw [hW3]; exact heap_alloc_last _ _
  obtain ⟨Q3, hQ3⟩ : ∃ Q, Q = W.heap.size := ⟨_, rfl⟩
  rw [← hQ3] at hrow3
  rw [hfZ_eq] at hrow3
  have hl0 := h.below hb0
  have hL := h.lt
  have hlog := hl0.below hb3
  obtain ⟨p, cap, hv, hcap, -, hp⟩ := hB.form
  simp only [Value.slice.injEq] at hv
  obtain ⟨-, hnw, rfl⟩ := hv
  have hcw1 := hcap.1
  have hcw2 := hcap.2
  have HR3 := Lib.hid hrow3
  have HR2 := Lib.hid ((hb3.block _ (lt_of_block hrow2)).trans hrow2)
  have HB0 := Lib.hid hb0
  have HB3 := Lib.hid (hb0.trans (hb3.mono hb0.size))
  have HQ := Lib.hid hQ
  have HLG := Lib.hid hlog
  have HLN : Hid (¬ L = Q3) := by show ¬ L = Q3; omega
  have HWB := Lib.hid ((hrow1.bts hwl hws).below hb3)
  have HQN : Hid (¬ Q1 = Q3) := by show ¬ Q1 = Q3; omega
  have HQ3 : Hid (w.heap.size ≤ Q3) := by show _ ≤ _; omega
  have HQ31 : Hid (Q1 + 1 ≠ Q3) := by show Q1 + 1 ≠ Q3; omega
  have HWL := Lib.hid hwl
  have HWS := Lib.hid hws
  have HBW := Lib.hid ((hB.below hb0).below hb3)
  have HGW : Hid (¬ gw = Q3) := by have h1 := hB.block_lt (by omega) gw rfl; show ¬ gw = Q3; omega
  have HR1 : Hid (g / (2 * c) < 4294967296) := hr
  have HC1 := Lib.hid hc1
  have HC2 := Lib.hid hc2
  have c1 := hl0.cell 1 (v := .int .u64 (k.flushed : Int)) rfl
  obtain ⟨place, hpl⟩ : ∃ p, p = g * 52 := ⟨_, rfl⟩
  rw [← hpl] at hold hsw
  have h1 : IntKind.u64.wrap ((g : Int) * 52) = (place : Int) := by rw [IntWalk.u64_in _ (by omega)]; omega
  obtain ⟨mx, hmx⟩ : ∃ m, m = max place k.flushed := ⟨_, rfl⟩
  have h2 : max (place : Int) (k.flushed : Int) = (mx : Int) := by omega
  have h3 : IntKind.u64.wrap ((mx : Int) - (place : Int)) = (old : Int) := by rw [IntWalk.u64_in _ (by omega)]; omega
  have HNO : Hid (¬ 52 = old) := by show ¬ 52 = old; omega
  have HO52 : Hid (old ≤ 52) := by show old ≤ 52; omega
  obtain ⟨po, hpo⟩ : ∃ n, n = place + old := ⟨_, rfl⟩
  have H5 : Hid (IntKind.u64.wrap ((place : Int) + (old : Int)) = (po : Int)) := by show _ = _; rw [IntWalk.u64_in _ (by omega)]; omega
  have H6 : Hid (IntKind.u64.wrap ((po : Int) - (k.flushed : Int)) = (sw : Int)) := by show _ = _; rw [IntWalk.u64_in _ (by omega)]; omega
  obtain ⟨ff, hff⟩ : ∃ n, n = old + fresh := ⟨_, rfl⟩
  have HFF := Lib.hid hff
  have HSL : Hid ((sw : Int) ≤ (nw : Int)) := by show (sw : Int) ≤ _; omega
  have HSC : Hid ((sw : Int) ≤ (cw : Int)) := by show (sw : Int) ≤ _; omega
  have HCN : Hid (¬ cw = sw) := by show ¬ cw = sw; omega
  have HFR1 : Hid (old + fresh ≤ 52) := by show _ ≤ _; omega
  have HFR2 : Hid (fresh ≤ nw - sw) := by show _ ≤ _; omega
  have HNW := Lib.hid hnw
  have HF1L := Lib.hid (Wl.fill1_length hwl (old := old) (by omega))
  have HF2L := Lib.hid (Wl.fill2_length hwl (wl := wl) (old := old) (sw := sw) (fresh := fresh) (by omega) (by omega))
  have HO5 : Hid (IntKind.u32.wrap (old : Int) = (old : Int)) := IntWalk.u32_in _ (by omega)
  have HF5 : Hid (IntKind.u32.wrap (fresh : Int) = (fresh : Int)) := IntWalk.u32_in _ (by omega)
  have HS5 : Hid (IntKind.u32.wrap ((old : Int) + (fresh : Int)) = (ff : Int)) := by show _ = _; rw [IntWalk.u32_in _ (by omega)]; omega
  have HFRM : Hid (min (nw - sw) (52 - old) = fresh) := hfr
  clear hpo hff hb0 hs0 hrow1 hrow2 hb3 hrow3 hl0 hL hlog hcap hp h hB hr hold ho hsw hsl hfr hmx hpl hwl hws hc1 hc2 hnw
  go_enter Tryz.func175, Tryz.ntmps175
  go_upto_region 1 with (fail)
  rw [← hW, ← hQ]
  clear hW hQ
  go_upto_region 4 with (fail)
  rw [← hW3, ← hQ3]
  clear hW3 hQ3 h1 h2 h3 c1
  refine Ord.walk (F4F Q1 Q3 old) (fun D _ w' => TR W3 Q3 180 (HfC ⟨0, 0, 0, List.replicate 52 0⟩) (HfC (Wl.fill1 was old)) 5 D w') (fun a b => Touch (· = Q3) a b)
    (by kernel_rfl) (by kernel_rfl) ?fra ?hfra (fun i v w w' hb h => F4F_later _ _ _  i v w w' hb h) (fun xs => TR.first HR3.out) ?hea ?henda
  case hfra =>
    intro xs
    simp only [Ord.fill, Act.put, List.setIfInBounds_toArray, List.set_cons_zero, List.set_cons_succ]
    rfl
  case hea =>
    refine Ord.each_cons (fun D xs w2 hD hC hP hR hA K hK => ?_) ?_
    ·
      clear hA
      go_simp
      exact hK _ _ ⟨_, rfl, Touch.refl _ _, hR.skip 0 (by decide), rfl⟩
    refine Ord.each_cons (fun D xs w2 hD hC hP hR hA K hK => ?_) ?_
    ·
      clear hA
      go_simp
      exact hK _ _ ⟨_, rfl, Touch.refl _ _, hR.skip 1 (by decide), rfl⟩
    refine Ord.each_cons (fun D xs w2 hD hC hP hR hA K hK => ?_) ?_
    ·
      have q0 := Ord.ahead_get _ hA 0 (by decide)
      simp only [F4F] at q0
      have q1 := Ord.ahead_get _ hA 1 (by decide)
      simp only [F4F] at q1
      simp only [q0, q1] at hK
      clear hA
      have ho1 : (old : Int) ≤ 52 := by have := HO52.out; omega
      have ho2 : old ≤ 52 := HO52.out
      go_simp
      exact hK _ _ ⟨_, rfl, Touch.refl _ _, hR.skip 2 (by decide), rfl⟩
    refine Ord.each_cons (fun D xs w2 hD hC hP hR hA K hK => ?_) ?_
    ·
      clear hA
      go_simp
      exact hK _ _ ⟨_, rfl, Touch.refl _ _, hR.skip 3 (by decide), rfl⟩
    refine Ord.each_cons (fun D xs w2 hD hC hP hR hA K hK => ?_) ?_
    ·
      have q3 := Ord.ahead_get _ hA 3 (by decide)
      simp only [F4F] at q3
      simp only [q3] at hK
      clear hA
      go_simp
      exact hK _ _ ⟨_, rfl, Touch.refl _ _, hR.skip 4 (by decide), rfl⟩
    refine Ord.each_cons (fun D xs w2 hD hC hP hR hA K hK => ?_) ?_
    ·
      have q2 := Ord.ahead_get _ hA 2 (by decide)
      simp only [F4F] at q2
      have q4 := Ord.ahead_get _ hA 4 (by decide)
      simp only [F4F] at q4
      simp only [q2, q4] at hK
      clear hA
      have hnow := hR.now hD
      obtain ⟨w8, hrun, hrow8, ht8⟩ := copy_half (o := 0) (dl := old) (dc := 52) (x := ⟨0, 0, 0, List.replicate 52 0⟩) hnow (by simp) (by have := HO52.out; omega) (hR.touch.bts HWB.out (fun _ g' e => by simp only [Value.ownBlock, Option.some.injEq] at e; subst e; exact HQN.out))
      rw [show min was.log.length old = old by rw [HWL.out]; have := HO52.out; omega] at hrun hrow8
      have hrun := hrun 3
      go_simp
      exact hK _ _ ⟨_, rfl, ht8, hR.put ht8 hrow8, trivial⟩
    exact Ord.each_nil
  case henda =>
    intro D xs w9 hR hF
    have hD5 := (hF 5 (by decide)).1
    have e0 := (hF 0 (by decide)).2
    have e1 := (hF 1 (by decide)).2
    have e2 := (hF 2 (by decide)).2
    have e3 := (hF 3 (by decide)).2
    have e4 := (hF 4 (by decide)).2
    simp only [F4F] at e0 e1 e2 e3 e4
    rw [e0]
    rw [e1]
    rw [e2]
    rw [e3]
    rw [e4]
    clear e0 e1 e2 e3 e4
    clear hF
    generalize xs 5 = x5 at *
    have hrow := hR.done hD5
    have HR4 := Lib.hid hrow
    have HT4 := Lib.hid hR.touch
    clear hrow hR hD5
    obtain ⟨W4, hW4⟩ : ∃ W4, W4 = w9 := ⟨_, rfl⟩
    rw [← hW4] at HR4 HT4 ⊢
    clear hW4
    have HLG := Lib.hid (HLG.out.touch HT4.out HLN.out)
    have hbw4 := HT4.out.bts HBW.out (fun _ g' e => by simp only [Value.ownBlock, Option.some.injEq] at e; subst e; exact HGW.out)
    have hws4 := (HNW.out ▸ hbw4 : Bts W4 (.slice (some ⟨gw, ow, none⟩) wl.length cw) wl).drop sw (by have h1 := HSL.out; have h2 := HNW.out; omega)
    rw [← HNW.out] at hws4
    have HWS4 := Lib.hid hws4
    have HGN : Hid (¬ gw = Q3) := HGW.out
    have HFR : Hid (min (wl.drop sw).length (52 - old) = fresh) := by show _ = _; rw [List.length_drop, ← HNW.out]; exact HFRM.out
    clear hbw4 hws4
    have HO52 : Hid (old ≤ 52) := HO52.out
    go_upto_region 5 with (fail)
    refine Ord.walk (F5F L Q3 old place k.flushed fresh po sw (.slice (some ⟨gw, ow, none⟩) nw cw) gw (ow + sw) (nw - sw) (cw - sw)) (fun D _ w' => TR W4 Q3 180 (HfC (Wl.fill1 was old)) (HfC (Wl.fill2 was wl old sw fresh)) 17 D w') (fun a b => Touch (· = Q3) a b)
      (by kernel_rfl) (by kernel_rfl) ?frb ?hfrb (fun i v w w' hb h => F5F_later _ _ _ _ _ _ _ _ _ _ _ _ _  i v w w' hb h) (fun xs => TR.first HR4.out) ?heb ?hendb
    case hfrb =>
      intro xs
      simp only [Ord.fill, Act.put, List.setIfInBounds_toArray, List.set_cons_zero, List.set_cons_succ]
      rfl
    case heb =>
      refine Ord.each_cons (fun D xs w2 hD hC hP hR hA K hK => ?_) ?_
      ·
        clear hA
        go_simp
        exact hK _ _ ⟨_, rfl, Touch.refl _ _, hR.skip 0 (by decide), rfl⟩
      refine Ord.each_cons (fun D xs w2 hD hC hP hR hA K hK => ?_) ?_
      ·
        clear hA
        go_simp
        exact hK _ _ ⟨_, rfl, Touch.refl _ _, hR.skip 1 (by decide), rfl⟩
      refine Ord.each_cons (fun D xs w2 hD hC hP hR hA K hK => ?_) ?_
      ·
        have q0 := Ord.ahead_get _ hA 0 (by decide)
        simp only [F5F] at q0
        have q1 := Ord.ahead_get _ hA 1 (by decide)
        simp only [F5F] at q1
        simp only [q0, q1] at hK
        clear hA
        have ho1 : (old : Int) ≤ 52 := by have := HO52.out; omega
        have ho2 : old ≤ 52 := HO52.out
        go_simp
        rw [if_neg HNO.out]
        exact hK _ _ ⟨_, rfl, Touch.refl _ _, hR.skip 2 (by decide), rfl⟩
      refine Ord.each_cons (fun D xs w2 hD hC hP hR hA K hK => ?_) ?_
      ·
        clear hA
        go_simp
        exact hK _ _ ⟨_, rfl, Touch.refl _ _, hR.skip 3 (by decide), rfl⟩
      refine Ord.each_cons (fun D xs w2 hD hC hP hR hA K hK => ?_) ?_
      ·
        have q3 := Ord.ahead_get _ hA 3 (by decide)
        simp only [F5F] at q3
        simp only [q3] at hK
        clear hA
        go_simp
        exact hK _ _ ⟨_, rfl, Touch.refl _ _, hR.skip 4 (by decide), rfl⟩
      refine Ord.each_cons (fun D xs w2 hD hC hP hR hA K hK => ?_) ?_
      ·
        have q4 := Ord.ahead_get _ hA 4 (by decide)
        simp only [F5F] at q4
        simp only [q4] at hK
        clear hA
        go_simp
        exact hK _ _ ⟨_, rfl, Touch.refl _ _, hR.skip 5 (by decide), rfl⟩
      refine Ord.each_cons (fun D xs w2 hD hC hP hR hA K hK => ?_) ?_
      ·
        have q5 := Ord.ahead_get _ hA 5 (by decide)
        simp only [F5F] at q5
        simp only [q5] at hK
        clear hA
        have cc := (HLG.out.touch hR.touch HLN.out).cell 8 (v := .slice (some ⟨gw, ow, none⟩) nw cw) rfl
        go_simp
        exact hK _ _ ⟨_, rfl, Touch.refl _ _, hR.skip 6 (by decide), rfl⟩
      refine Ord.each_cons (fun D xs w2 hD hC hP hR hA K hK => ?_) ?_
      ·
        clear hA
        go_simp
        exact hK _ _ ⟨_, rfl, Touch.refl _ _, hR.skip 7 (by decide), rfl⟩
      refine Ord.each_cons (fun D xs w2 hD hC hP hR hA K hK => ?_) ?_
      ·
        clear hA
        go_simp
        exact hK _ _ ⟨_, rfl, Touch.refl _ _, hR.skip 8 (by decide), rfl⟩
      refine Ord.each_cons (fun D xs w2 hD hC hP hR hA K hK => ?_) ?_
      ·
        have q7 := Ord.ahead_get _ hA 7 (by decide)
        simp only [F5F] at q7
        have q8 := Ord.ahead_get _ hA 8 (by decide)
        simp only [F5F] at q8
        simp only [q7, q8] at hK
        clear hA
        go_simp
        rw [H5.out]
        exact hK _ _ ⟨_, rfl, Touch.refl _ _, hR.skip 9 (by decide), rfl⟩
      refine Ord.each_cons (fun D xs w2 hD hC hP hR hA K hK => ?_) ?_
      ·
        clear hA
        go_simp
        exact hK _ _ ⟨_, rfl, Touch.refl _ _, hR.skip 10 (by decide), rfl⟩
      refine Ord.each_cons (fun D xs w2 hD hC hP hR hA K hK => ?_) ?_
      ·
        have q10 := Ord.ahead_get _ hA 10 (by decide)
        simp only [F5F] at q10
        simp only [q10] at hK
        clear hA
        go_simp
        exact hK _ _ ⟨_, rfl, Touch.refl _ _, hR.skip 11 (by decide), rfl⟩
      refine Ord.each_cons (fun D xs w2 hD hC hP hR hA K hK => ?_) ?_
      ·
        have q11 := Ord.ahead_get _ hA 11 (by decide)
        simp only [F5F] at q11
        simp only [q11] at hK
        clear hA
        go_simp
        exact hK _ _ ⟨_, rfl, Touch.refl _ _, hR.skip 12 (by decide), rfl⟩
      refine Ord.each_cons (fun D xs w2 hD hC hP hR hA K hK => ?_) ?_
      ·
        have q12 := Ord.ahead_get _ hA 12 (by decide)
        simp only [F5F] at q12
        simp only [q12] at hK
        clear hA
        go_simp
        exact hK _ _ ⟨_, rfl, Touch.refl _ _, hR.skip 13 (by decide), rfl⟩
      refine Ord.each_cons (fun D xs w2 hD hC hP hR hA K hK => ?_) ?_
      ·
        have q13 := Ord.ahead_get _ hA 13 (by decide)
        simp only [F5F] at q13
        simp only [q13] at hK
        clear hA
        have cc := (HLG.out.touch hR.touch HLN.out).cell 1 (v := .int .u64 (k.flushed : Int)) rfl
        go_simp
        exact hK _ _ ⟨_, rfl, Touch.refl _ _, hR.skip 14 (by decide), rfl⟩
      refine Ord.each_cons (fun D xs w2 hD hC hP hR hA K hK => ?_) ?_
      ·
        have q9 := Ord.ahead_get _ hA 9 (by decide)
        simp only [F5F] at q9
        have q14 := Ord.ahead_get _ hA 14 (by decide)
        simp only [F5F] at q14
        simp only [q9, q14] at hK
        clear hA
        go_simp
        rw [H6.out]
        exact hK _ _ ⟨_, rfl, Touch.refl _ _, hR.skip 15 (by decide), rfl⟩
      refine Ord.each_cons (fun D xs w2 hD hC hP hR hA K hK => ?_) ?_
      ·
        have q6 := Ord.ahead_get _ hA 6 (by decide)
        simp only [F5F] at q6
        have q15 := Ord.ahead_get _ hA 15 (by decide)
        simp only [F5F] at q15
        simp only [q6, q15] at hK
        clear hA
        have hs1 := HSL.out
        have hs2 := HSC.out
        go_simp
        rw [if_neg HCN.out]
        exact hK _ _ ⟨_, rfl, Touch.refl _ _, hR.skip 16 (by decide), rfl⟩
      refine Ord.each_cons (fun D xs w2 hD hC hP hR hA K hK => ?_) ?_
      ·
        have q2 := Ord.ahead_get _ hA 2 (by decide)
        simp only [F5F] at q2
        have q16 := Ord.ahead_get _ hA 16 (by decide)
        simp only [F5F] at q16
        simp only [q2, q16] at hK
        clear hA
        have hnow := hR.now hD
        obtain ⟨w8, hrun, hrow8, ht8⟩ := copy_half (o := old) (dl := 52 - old) (dc := 52 - old) hnow HF1L.out (by have := HO52.out; omega) (hR.touch.bts HWS4.out (fun _ g' e => by simp only [Value.ownBlock, Option.some.injEq] at e; subst e; exact HGN.out))
        rw [HFR.out] at hrun hrow8
        have hrun := hrun 3
        go_simp
        exact hK _ _ ⟨_, rfl, ht8, hR.put ht8 hrow8, rfl⟩
      refine Ord.each_cons (fun D xs w2 hD hC hP hR hA K hK => ?_) ?_
      ·
        have q17 := Ord.ahead_get _ hA 17 (by decide)
        simp only [F5F] at q17
        simp only [q17] at hK
        clear hA
        go_simp
        exact hK _ _ ⟨_, rfl, Touch.refl _ _, hR.skip 18 (by decide), rfl⟩
      exact Ord.each_nil
    case hendb =>
      intro D xs w9 hR hF
      have hD17 := (hF 17 (by decide)).1
      have e0 := (hF 0 (by decide)).2
      have e1 := (hF 1 (by decide)).2
      have e2 := (hF 2 (by decide)).2
      have e3 := (hF 3 (by decide)).2
      have e4 := (hF 4 (by decide)).2
      have e5 := (hF 5 (by decide)).2
      have e6 := (hF 6 (by decide)).2
      have e7 := (hF 7 (by decide)).2
      have e8 := (hF 8 (by decide)).2
      have e9 := (hF 9 (by decide)).2
      have e10 := (hF 10 (by decide)).2
      have e11 := (hF 11 (by decide)).2
      have e12 := (hF 12 (by decide)).2
      have e13 := (hF 13 (by decide)).2
      have e14 := (hF 14 (by decide)).2
      have e15 := (hF 15 (by decide)).2
      have e16 := (hF 16 (by decide)).2
      have e17 := (hF 17 (by decide)).2
      have e18 := (hF 18 (by decide)).2
      simp only [F5F] at e0 e1 e2 e3 e4 e5 e6 e7 e8 e9 e10 e11 e12 e13 e14 e15 e16 e17 e18
      rw [e0]
      rw [e1]
      rw [e2]
      rw [e3]
      rw [e4]
      rw [e5]
      rw [e6]
      rw [e7]
      rw [e8]
      rw [e9]
      rw [e10]
      rw [e11]
      rw [e12]
      rw [e13]
      rw [e14]
      rw [e15]
      rw [e16]
      rw [e17]
      rw [e18]
      clear e0 e1 e2 e3 e4 e5 e6 e7 e8 e9 e10 e11 e12 e13 e14 e15 e16 e17 e18
      clear hF
      have hrow := hR.done hD17
      have HR5 := Lib.hid hrow
      have HT5 := Lib.hid hR.touch
      clear hrow hR hD17
      obtain ⟨W5, hW5⟩ : ∃ W5, W5 = w9 := ⟨_, rfl⟩
      rw [← hW5] at HR5 HT5 ⊢
      clear hW5
      have HLG5 := Lib.hid (HLG.out.touch HT5.out HLN.out)
      obtain ⟨r, hr2⟩ : ∃ r, r = g / (2 * c) := ⟨_, rfl⟩
      have HRR := Lib.hid hr2
      have hround := fun w2 (hl : LogAt w2 L k B a c pl (.slice (some ⟨gw, ow, none⟩) nw cw) dn) => wlRound_any hl g HC1.out HC2.out HR1.out
      rw [← hr2] at hround
      clear hr2
      go_upto_region 6 with (fail)
      refine Ord.walk (F6F L Q3 g r old fresh k.epoch ff) (fun D _ w' => TR W5 Q3 180 (HfC (Wl.fill2 was wl old sw fresh)) (HfC (Wl.fillHf was wl old sw fresh r k.epoch)) 15 D w') (fun a b => Touch (· = Q3) a b)
        (by kernel_rfl) (by kernel_rfl) ?frc ?hfrc (fun i v w w' hb h => F6F_later _ _ _ _ _ _ _ _  i v w w' hb h) (fun xs => TR.first HR5.out) ?hec ?hendc
      case hfrc =>
        intro xs
        simp only [Ord.fill, Act.put, List.setIfInBounds_toArray, List.set_cons_zero, List.set_cons_succ]
        rfl
      case hec =>
        refine Ord.each_cons (fun D xs w2 hD hC hP hR hA K hK => ?_) ?_
        ·
          clear hA
          go_simp
          exact hK _ _ ⟨_, rfl, Touch.refl _ _, hR.skip 0 (by decide), rfl⟩
        refine Ord.each_cons (fun D xs w2 hD hC hP hR hA K hK => ?_) ?_
        ·
          clear hA
          go_simp
          exact hK _ _ ⟨_, rfl, Touch.refl _ _, hR.skip 1 (by decide), rfl⟩
        refine Ord.each_cons (fun D xs w2 hD hC hP hR hA K hK => ?_) ?_
        ·
          have q0 := Ord.ahead_get _ hA 0 (by decide)
          simp only [F6F] at q0
          have q1 := Ord.ahead_get _ hA 1 (by decide)
          simp only [F6F] at q1
          simp only [q0, q1] at hK
          clear hA
          go_simp
          refine (hround w2 (HLG5.out.touch hR.touch HLN.out)).mono ?_
          rintro e w' ⟨rfl, rfl⟩
          exact hK _ _ ⟨_, rfl, Touch.refl _ _, hR.skip 2 (by decide), rfl⟩
        refine Ord.each_cons (fun D xs w2 hD hC hP hR hA K hK => ?_) ?_
        ·
          clear hA
          go_simp
          exact hK _ _ ⟨_, rfl, Touch.refl _ _, hR.skip 3 (by decide), rfl⟩
        refine Ord.each_cons (fun D xs w2 hD hC hP hR hA K hK => ?_) ?_
        ·
          have q3 := Ord.ahead_get _ hA 3 (by decide)
          simp only [F6F] at q3
          simp only [q3] at hK
          clear hA
          go_simp
          exact hK _ _ ⟨_, rfl, Touch.refl _ _, hR.skip 4 (by decide), rfl⟩
        refine Ord.each_cons (fun D xs w2 hD hC hP hR hA K hK => ?_) ?_
        ·
          have q4 := Ord.ahead_get _ hA 4 (by decide)
          simp only [F6F] at q4
          simp only [q4] at hK
          clear hA
          go_simp
          exact hK _ _ ⟨_, rfl, Touch.refl _ _, hR.skip 5 (by decide), rfl⟩
        refine Ord.each_cons (fun D xs w2 hD hC hP hR hA K hK => ?_) ?_
        ·
          have q5 := Ord.ahead_get _ hA 5 (by decide)
          simp only [F6F] at q5
          simp only [q5] at hK
          clear hA
          go_simp
          exact hK _ _ ⟨_, rfl, Touch.refl _ _, hR.skip 6 (by decide), rfl⟩
        refine Ord.each_cons (fun D xs w2 hD hC hP hR hA K hK => ?_) ?_
        ·
          have q6 := Ord.ahead_get _ hA 6 (by decide)
          simp only [F6F] at q6
          simp only [q6] at hK
          clear hA
          have cc := (HLG5.out.touch hR.touch HLN.out).cell 3 (v := .int .u32 (k.epoch : Int)) rfl
          go_simp
          exact hK _ _ ⟨_, rfl, Touch.refl _ _, hR.skip 7 (by decide), rfl⟩
        refine Ord.each_cons (fun D xs w2 hD hC hP hR hA K hK => ?_) ?_
        ·
          clear hA
          go_simp
          exact hK _ _ ⟨_, rfl, Touch.refl _ _, hR.skip 8 (by decide), rfl⟩
        refine Ord.each_cons (fun D xs w2 hD hC hP hR hA K hK => ?_) ?_
        ·
          have q8 := Ord.ahead_get _ hA 8 (by decide)
          simp only [F6F] at q8
          simp only [q8] at hK
          clear hA
          go_simp
          rw [HO5.out]
          exact hK _ _ ⟨_, rfl, Touch.refl _ _, hR.skip 9 (by decide), rfl⟩
        refine Ord.each_cons (fun D xs w2 hD hC hP hR hA K hK => ?_) ?_
        ·
          clear hA
          go_simp
          exact hK _ _ ⟨_, rfl, Touch.refl _ _, hR.skip 10 (by decide), rfl⟩
        refine Ord.each_cons (fun D xs w2 hD hC hP hR hA K hK => ?_) ?_
        ·
          have q10 := Ord.ahead_get _ hA 10 (by decide)
          simp only [F6F] at q10
          simp only [q10] at hK
          clear hA
          go_simp
          rw [HF5.out]
          exact hK _ _ ⟨_, rfl, Touch.refl _ _, hR.skip 11 (by decide), rfl⟩
        refine Ord.each_cons (fun D xs w2 hD hC hP hR hA K hK => ?_) ?_
        ·
          have q9 := Ord.ahead_get _ hA 9 (by decide)
          simp only [F6F] at q9
          have q11 := Ord.ahead_get _ hA 11 (by decide)
          simp only [F6F] at q11
          simp only [q9, q11] at hK
          clear hA
          go_simp
          rw [HS5.out]
          exact hK _ _ ⟨_, rfl, Touch.refl _ _, hR.skip 12 (by decide), rfl⟩
        refine Ord.each_cons (fun D xs w2 hD hC hP hR hA K hK => ?_) ?_
        ·
          have q2 := Ord.ahead_get _ hA 2 (by decide)
          simp only [F6F] at q2
          have q7 := Ord.ahead_get _ hA 7 (by decide)
          simp only [F6F] at q7
          have q12 := Ord.ahead_get _ hA 12 (by decide)
          simp only [F6F] at q12
          simp only [q2, q7, q12] at hK
          clear hA
          go_simp
          exact hK _ _ ⟨_, rfl, Touch.refl _ _, hR.skip 13 (by decide), rfl⟩
        refine Ord.each_cons (fun D xs w2 hD hC hP hR hA K hK => ?_) ?_
        ·
          clear hA
          go_simp
          exact hK _ _ ⟨_, rfl, Touch.refl _ _, hR.skip 14 (by decide), rfl⟩
        refine Ord.each_cons (fun D xs w2 hD hC hP hR hA K hK => ?_) ?_
        ·
          have q13 := Ord.ahead_get _ hA 13 (by decide)
          simp only [F6F] at q13
          have q14 := Ord.ahead_get _ hA 14 (by decide)
          simp only [F6F] at q14
          simp only [q13, q14] at hK
          clear hA
          have hnow := hR.now hD
          have f0 := blk_free hnow 0
          have s0 := blk_set (i := 0) hnow (.int .u32 (r : Int))
          have f1 := blk_free s0 1
          have s1 := blk_set (i := 1) s0 (.int .u32 (k.epoch : Int))
          have f2 := blk_free s1 2
          have s2 := blk_set (i := 2) s1 (.int .u32 (ff : Int))
          have g0 := blk_cell hnow 0 (hfC_0 _)
          have g1 := blk_cell s0 1 (hfC_1 _ _)
          have g2 := blk_cell s1 2 (hfC_2 _ _ _)
          rw [hfC_head, show HfC ⟨r, k.epoch, ff, (Wl.fill2 was wl old sw fresh).log⟩ = HfC (Wl.fillHf was wl old sw fresh r k.epoch) from by rw [HFF.out]; rfl] at s2
          have S2 := Lib.hid s2
          clear hnow s0 s1 s2
          go_simp
          exact hK _ _ ⟨undef, rfl, ((Touch.set (S := (· = Q3)) Q3 0 _ rfl).trans (.set Q3 1 _ rfl)).trans (.set Q3 2 _ rfl), hR.put (((Touch.set (S := (· = Q3)) Q3 0 _ rfl).trans (.set Q3 1 _ rfl)).trans (.set Q3 2 _ rfl)) S2.out, trivial⟩
        exact Ord.each_nil
      case hendc =>
        intro D xs w9 hR hF
        have hD15 := (hF 15 (by decide)).1
        have e0 := (hF 0 (by decide)).2
        have e1 := (hF 1 (by decide)).2
        have e2 := (hF 2 (by decide)).2
        have e3 := (hF 3 (by decide)).2
        have e4 := (hF 4 (by decide)).2
        have e5 := (hF 5 (by decide)).2
        have e6 := (hF 6 (by decide)).2
        have e7 := (hF 7 (by decide)).2
        have e8 := (hF 8 (by decide)).2
        have e9 := (hF 9 (by decide)).2
        have e10 := (hF 10 (by decide)).2
        have e11 := (hF 11 (by decide)).2
        have e12 := (hF 12 (by decide)).2
        have e13 := (hF 13 (by decide)).2
        have e14 := (hF 14 (by decide)).2
        simp only [F6F] at e0 e1 e2 e3 e4 e5 e6 e7 e8 e9 e10 e11 e12 e13 e14
        rw [e0]
        rw [e1]
        rw [e2]
        rw [e3]
        rw [e4]
        rw [e5]
        rw [e6]
        rw [e7]
        rw [e8]
        rw [e9]
        rw [e10]
        rw [e11]
        rw [e12]
        rw [e13]
        rw [e14]
        clear e0 e1 e2 e3 e4 e5 e6 e7 e8 e9 e10 e11 e12 e13 e14
        clear hF
        generalize xs 15 = x15 at *
        have hrow := hR.done hD15
        have HR6 := Lib.hid hrow
        have HT6 := Lib.hid ((HT4.out.trans HT5.out).trans hR.touch)
        clear hrow hR hD15 hround
        have hfl2 : (Wl.fillHf was wl old sw fresh r k.epoch).log.length = 52 := HF2L.out
        have HFL := Lib.hid hfl2
        have HQ2 := Lib.hid (HT6.out.row HR2.out HQ31.out)
        clear hfl2
        generalize hgy : Wl.fillHf was wl old sw fresh r k.epoch = y at *
        have HGY := Lib.hid hgy
        clear hgy
        go_upto_region 7 with (fail)
        go_step
        refine wpList_load_row rfl 180 (.tmp 9) rfl Q3 rfl _ _ _ _ HR6.out Tryz.underlying180 rfl (hf_info HFL.out) ?_
        refine wpList_store_row rfl 180 (.tmp 6) (.tmp 61) rfl (Q1 + 1) _ rfl rfl _ _ HQ2.out (hf_info HFL.out) (by rw [hfC_size, HFL.out]; rfl) (hfC_ones _) ?_
        have hrow10 := setRow_heap _ _ _ (HfC y) _ _ HQ2.out
        have hbl : Below w.heap.size w w9 := HB3.out.trans (HT6.out.below (base := w.heap.size) (fun i hi => by rw [hi]; exact HQ3.out) HB3.out.size)
        have HE := Lib.hid (hbl.trans ((setRow_touch (w := w9) (Q1 + 1) (HfC y)).below (base := w.heap.size) (fun i hi => by rw [hi, HQ.out]; exact Nat.le_succ _) hbl.size))
        clear hbl
        generalize w9.setRow (Q1 + 1) (HfC y) = w10 at hrow10 HE ⊢
        go_wp2_with fail
        refine bodyPost_ret (v := HfV y) ?_ rfl ⟨by rw [← HGY.out, HRR.out], HE.out⟩
        exact results_cell_row rfl _ _ (Q1 + 1) 180 _ _ _ rfl hrow10 Tryz.underlying180 rfl (hf_info HFL.out)
end Go.Proofs.YtbpodmallknhfaaGreat
namespace Go.Proofs.YtbpodmallknhfaaGreat
open Go.RowKit
namespace Wl
def oldOf (fl i : Nat) : Nat := max (i * 52) fl - i * 52
def swOf (fl i : Nat) : Nat := i * 52 + oldOf fl i - fl
def freshOf (fl n i : Nat) : Nat := min (n - swOf fl i) (52 - oldOf fl i)
def nw (fl ep n2 : Nat) (wl : List Nat) (x : Hf) (i : Nat) : Hf := fillHf x wl (oldOf fl i) (swOf fl i) (freshOf fl wl.length i) (i / n2) ep
structure Sn (fl ep n2 : Nat) (wl b0 : List Nat) (h i : Nat) (b : List Nat) : Prop where
  sec : Dk.Sec b
  new : ∀ t, h ≤ t → t < i → hfOf (hf b (t % 2)) = nw fl ep n2 wl (hfOf (hf b0 (t % 2))) t
  old : ∀ k, k < 2 → (∀ t, h ≤ t → t < i → t % 2 ≠ k) → hf b k = hf b0 k
theorem sn_start {fl ep n2 h : Nat} {wl b0 : List Nat} (hs : Dk.Sec b0) : Sn fl ep n2 wl b0 h h b0 := ⟨hs, fun t h1 h2 => absurd h2 (by omega), fun _ _ _ => rfl⟩
def ins (b l : List Nat) (j : Nat) : List Nat := b.take (64 * j) ++ l ++ b.drop (64 * j + 64)
theorem hf_ins {b l : List Nat} (hb : b.length = 128) (hl : l.length = 64) {j k : Nat} (hj : j < 2) (hk : k < 2) : hf (ins b l j) k = if k = j then l else hf b k := by
  obtain rfl | rfl : j = 0 ∨ j = 1 := by omega
  · obtain rfl | rfl : k = 0 ∨ k = 1 := by omega
    · rw [if_pos rfl]
      unfold hf ins
      rw [Nat.mul_zero, List.take_zero, List.nil_append, List.drop_zero, List.take_left' hl]
    · rw [if_neg (by decide)]
      unfold hf ins
      rw [Nat.mul_zero, List.take_zero, List.nil_append, Nat.mul_one, List.drop_left' hl, Nat.zero_add]
  · have ht : (b.take 64).length = 64 := by rw [List.length_take, hb]; rfl
    obtain rfl | rfl : k = 0 ∨ k = 1 := by omega
    · rw [if_neg (by decide)]
      unfold hf ins
      rw [Nat.mul_zero, List.drop_zero, List.drop_zero, List.append_assoc, Nat.mul_one, List.take_left' ht]
    · rw [if_pos rfl]
      unfold hf ins
      rw [Nat.mul_one, List.append_assoc, List.drop_left' ht, List.take_left' hl]
theorem ins_sec {b l : List Nat} (hb : Dk.Sec b) (hl : l.length = 64) (hs : ∀ x ∈ l, x < 256) {j : Nat} (hj : j < 2) : Dk.Sec (ins b l j) := by
  refine ⟨?_, fun x hx => ?_⟩
  · unfold ins
    rw [List.length_append, List.length_append, List.length_take, List.length_drop, hb.1, hl]
    omega
  · unfold ins at hx
    simp only [List.mem_append] at hx
    rcases hx with (hx | hx) | hx
    · exact hb.2 x (List.mem_of_mem_take hx)
    · exact hs x hx
    · exact hb.2 x (List.mem_of_mem_drop hx)
structure NwOk (fl ep n2 : Nat) (wl : List Nat) (i : Nat) : Prop where
  old : oldOf fl i < 52
  sw : swOf fl i < wl.length
  round : i / n2 < 4294967296
  ep : ep < 4294967296
theorem NwOk.length {fl ep n2 i : Nat} {wl : List Nat} (h : NwOk fl ep n2 wl i) {x : Hf} (hx : x.log.length = 52) : (nw fl ep n2 wl x i).log.length = 52 := by
  have h1 := h.old
  refine fill2_length hx ?_ ?_
  · unfold freshOf; omega
  · unfold freshOf; omega
theorem NwOk.of {fl ep n2 i : Nat} {wl : List Nat} (h : NwOk fl ep n2 wl i) (x : Hf) : hfOf (hfB (nw fl ep n2 wl x i)) = nw fl ep n2 wl x i := by
  have h1 := h.old
  refine hfOf_hfB h.round h.ep ?_
  show oldOf fl i + freshOf fl wl.length i < _
  unfold freshOf
  omega
theorem hfOf_lt {b : List Nat} (h : ∀ x ∈ b, x < 256) : ∀ x ∈ (hfOf b).log, x < 256 := fun x hx => h x (List.mem_of_mem_drop hx)
theorem hf_lt {b : List Nat} (h : ∀ x ∈ b, x < 256) (k : Nat) : ∀ x ∈ hf b k, x < 256 := fun x hx => h x (List.mem_of_mem_drop (List.mem_of_mem_take hx))
theorem hfOf_len {b : List Nat} (h : b.length = 128) {k : Nat} (hk : k < 2) : (hfOf (hf b k)).log.length = 52 := by
  show (List.drop 12 _).length = 52
  rw [List.length_drop, hf_length h hk]
theorem hfB_lt {x : Hf} (h : ∀ b ∈ x.log, b < 256) : ∀ b ∈ hfB x, b < 256 := Lr.app_lt (Lr.app_lt (Lr.app_lt (Cod.le_lt _ _) (Cod.le_lt _ _)) (Cod.le_lt _ _)) h
theorem Sn.next {fl ep n2 h i : Nat} {wl b0 b : List Nat} (H : Sn fl ep n2 wl b0 h i b) (hb0 : Dk.Sec b0) (hw : ∀ x ∈ wl, x < 256) (hi : h ≤ i) (hno : ∀ t, h ≤ t → t < i → t % 2 ≠ i % 2) (hok : NwOk fl ep n2 wl i) :
    hf b (i % 2) = hf b0 (i % 2) ∧ Sn fl ep n2 wl b0 h (i + 1) (ins b (hfB (nw fl ep n2 wl (hfOf (hf b0 (i % 2))) i)) (i % 2)) := by
  have hj : i % 2 < 2 := by omega
  have hlen := hok.length (hfOf_len hb0.1 hj)
  have hl64 : (hfB (nw fl ep n2 wl (hfOf (hf b0 (i % 2))) i)).length = 64 := by rw [hfB_length, hlen]
  refine ⟨H.old _ hj hno, ins_sec H.sec hl64 (hfB_lt (fill2_lt (hfOf_lt (hf_lt hb0.2 _)) hw)) hj, fun t h1 h2 => ?_, fun k hk hn => ?_⟩
  · rw [hf_ins H.sec.1 hl64 hj (by omega)]
    by_cases e : t = i
    · subst e
      rw [if_pos rfl, hok.of]
    · rw [if_neg (hno t h1 (by omega))]
      exact H.new t h1 (by omega)
  · rw [hf_ins H.sec.1 hl64 hj hk, if_neg (fun e => hn i hi (by omega) e.symm)]
    exact H.old k hk fun t h1 h2 => hn t h1 (by omega)
end Wl
theorem copy_mine {base w g cap j} {b l : List Nat} {v : Value} (h : Mine base w (.slice (some ⟨g, 0, none⟩) 128 cap) b) (hb : b.length = 128) (hj : j < 2) (hB : Bts w v l) (hl : l.length = 64) :
    ∃ w', (∀ ty, (Builtin.copy_ #[57, 57] ty #[.slice (some ⟨g, 64 * j, none⟩) 64 (cap - 64 * j), v]).run Tryz.prog w = .ok (.int .i64 64) w') ∧ Mine base w' (.slice (some ⟨g, 0, none⟩) 128 cap) (Wl.ins b l j) ∧ Touch (· = g) w w' := by
  obtain ⟨g2, cap2, hv, hg, hlt, hc1, hc2, cur, T, hh, hs, hc⟩ := h.row (by omega)
  simp only [Value.slice.injEq, Option.some.injEq, Addr.mk.injEq, and_true] at hv
  obtain ⟨rfl, -, rfl⟩ := hv
  rw [hb] at hs hc
  obtain ⟨p, cs, hv2, -, -, hp⟩ := hB.form
  subst hv2
  obtain ⟨gs, off, rfl, hcs⟩ := hp (by omega)
  have hrun := fun ty => run_copy_row Tryz.prog w 57 57 ty 5 g (64 * j) 64 (cap - 64 * j) ⟨gs, off, none⟩ l.length cs cur T (bytesV l) Tryz.underlying57 info_byteW hh (by rw [bytesV_length, hl]; rfl) (fun i u hu => by
    have hadd : (⟨gs, off, none⟩ : Addr).add i = ⟨gs, off + i, none⟩ := by unfold Addr.add; split <;> simp_all
    have hi : i < l.length := by
      rcases Nat.lt_or_ge i l.length with hh | hh
      · exact hh
      · rw [List.getElem?_eq_none (by rw [bytesV_length]; omega)] at hu; cases hu
    rw [hadd, hcs i hi, ← hu]
    simp [bytesV, List.getD_eq_getElem?_getD, hi]) (by rw [bytesV_length, hl]; omega) (fun u hu => by
    obtain ⟨y, -, rfl⟩ := List.mem_map.1 hu
    rfl)
  have hrow := setRow_heap w g cur (cur.toList.take (64 * j) ++ bytesV l ++ cur.toList.drop (64 * j + (bytesV l).length)).toArray T (0, 0) hh
  have hlb : (Wl.ins b l j).length = 128 := by
    unfold Wl.ins
    rw [List.length_append, List.length_append, List.length_take, List.length_drop, hb, hl]
    omega
  have hsm : ∀ x ∈ Wl.ins b l j, x < 256 := by
    intro x hx
    unfold Wl.ins at hx
    simp only [List.mem_append] at hx
    rcases hx with (hx | hx) | hx
    · exact h.bts.small x (List.mem_of_mem_take hx)
    · exact hB.small x hx
    · exact h.bts.small x (List.mem_of_mem_drop hx)
  have hcell : ∀ i, i < 128 → cur[i]? = some (.int .u8 (b.getD i 0 : Nat)) := by
    intro i hi
    obtain ⟨p3, c3, hv3, -, -, hp3⟩ := h.bts.form
    simp only [Value.slice.injEq] at hv3
    obtain ⟨rfl, -, -⟩ := hv3
    obtain ⟨g4, o4, he4, hc4⟩ := hp3 (by omega)
    simp only [Option.some.injEq, Addr.mk.injEq, and_true] at he4
    obtain ⟨rfl, rfl⟩ := he4
    have := hc4 i (by omega)
    rw [Nat.zero_add, cell_of_row w g i cur T (0, 0) hh] at this
    exact this
  have hnew : ∀ i, i < 128 → (cur.toList.take (64 * j) ++ bytesV l ++ cur.toList.drop (64 * j + (bytesV l).length)).toArray[i]? = some (.int .u8 ((Wl.ins b l j).getD i 0 : Nat)) := by
    intro i hi
    have e1 : (cur.toList.take (64 * j)).length = 64 * j := by rw [List.length_take]; simp; omega
    rw [List.getElem?_toArray, bytesV_length, hl]
    unfold Wl.ins
    by_cases h1 : i < 64 * j
    · rw [List.append_assoc, List.getElem?_append_left (by omega), List.getElem?_take, if_pos h1, List.append_assoc, Wl.getD_app, List.length_take, if_pos (by omega), Wl.getD_take h1]
      rw [Array.getElem?_toList]; exact hcell i hi
    · by_cases h2 : i < 64 * j + 64
      · rw [List.append_assoc, List.getElem?_append_right (by omega), e1, List.getElem?_append_left (by rw [bytesV_length]; omega), List.append_assoc, Wl.getD_app, List.length_take, hb, if_neg (by omega), Wl.getD_app, if_pos (by omega)]
        rw [show min (64 * j) 128 = 64 * j by omega]
        simp [bytesV, List.getD_eq_getElem?_getD, show i - 64 * j < l.length by omega]
      · rw [List.append_assoc, List.getElem?_append_right (by omega), e1, List.getElem?_append_right (by rw [bytesV_length]; omega), bytesV_length, List.getElem?_drop, List.append_assoc, Wl.getD_app, List.length_take, hb, if_neg (by omega), Wl.getD_app, if_neg (by omega), Wl.getD_drop]
        rw [show min (64 * j) 128 = 64 * j by omega, hl, show 64 * j + 64 + (i - 64 * j - 64) = i by omega, Array.getElem?_toList]
        exact hcell i hi
  refine ⟨_, fun ty => by rw [hrun ty, bytesV_length, hl]; rfl, ⟨⟨⟨some ⟨g, 0, none⟩, cap, by rw [hlb], ⟨by rw [hlb]; omega, hc2⟩, (fun e => by cases e), fun _ => ⟨g, 0, rfl, fun i hi => ?_⟩⟩, hsm, by rw [hlb]; decide⟩, fun _ => ⟨g, cap, by rw [hlb], hg, by rw [size_setRow]; exact hlt, by rw [hlb]; omega, hc2, _, T, hrow, ?_, fun i hi => ?_⟩⟩, setRow_touch _ _⟩
  · rw [Nat.zero_add, cell_of_row _ g i _ T (0, 0) hrow]
    exact hnew i (by omega)
  · rw [hlb]
    simp only [List.size_toArray, List.length_append, List.length_take, List.length_drop, bytesV_length, hl, Array.length_toList]
    omega
  · exact ⟨_, by
      rw [List.getD_eq_getElem?_getD, List.getElem?_eq_getElem (by omega)]
      exact hsm _ (List.getElem_mem _), hnew i (by omega)⟩
end Go.Proofs.YtbpodmallknhfaaGreat
namespace Go.Proofs.YtbpodmallknhfaaGreat
open Go.RowKit
set_option maxHeartbeats 6400000 in
set_option maxRecDepth 20000 in
theorem wlPut_any {w : World} {L B a c m1 m2 : Nat} {k : Wl.Kn} {pl : Value} {gw ow cw : Nat} {wl : List Nat} {d : Dk.Dev} (h : LogAt w L k B a c pl (.slice (some ⟨gw, ow, none⟩) wl.length cw) false) (hP : PDev w B m1 m2 d) (hB : Bts w (.slice (some ⟨gw, ow, none⟩) wl.length cw) wl)
    (ho : d.off = false) (hc1 : 1 ≤ c) (hc2 : c ≤ 8192) (hfit : a + c + 2 ≤ Dk.size d) (g last : Nat) (hgl : g ≤ last) (hlast : last ≤ 1000000000000) (hok : ∀ i, g ≤ i → i ≤ last → Wl.NwOk k.flushed k.epoch (2 * c) wl i) (hLd : ¬ DS B m1 m2 L) (hfl : k.flushed ≤ 1000000000000000) :
    Calls Tryz.prog 147 #[.pointer (some ⟨L, 0, none⟩), .int .u64 (g : Int), .int .u64 (last : Int)] w fun e w' => ∃ b', Wl.Sn k.flushed k.epoch (2 * c) wl (Wl.eff d (a + 2 + g % (2 * c) / 2)) g (min last (g / 2 * 2 + 1) + 1) b' ∧
      e = .returned (.int .i64 ((Dk.write d ((a + 2 + g % (2 * c) / 2 : Nat) : Int) b').2 : Nat)) ∧ PDev w' B m1 m2 (Dk.write d ((a + 2 + g % (2 * c) / 2 : Nat) : Int) b').1 ∧ LogAt w' L k B a c pl (.slice (some ⟨gw, ow, none⟩) wl.length cw) (decide ((Dk.write d ((a + 2 + g % (2 * c) / 2 : Nat) : Int) b').2 ≠ 0)) ∧ Touch (PutS B m1 m2 L) w w' := by
  have HLG0 := Lib.hid h
  have hlt := Wl.sec_lt (n := c) (h := g) hc1
  have hsz := hP.own.size
  have hsec := wlSector_any h g hc1 hc2 (show a ≤ 65536 by omega)
  obtain ⟨σ, hσ⟩ : ∃ s, s = a + 2 + g % (2 * c) / 2 := ⟨_, rfl⟩
  rw [← hσ] at hsec ⊢
  have HSZ : Hid (σ < Dk.size d) := by show _ < _; omega
  have HSEC := Lib.hid hsec
  have HPD0 := Lib.hid hP
  have HBW0 := Lib.hid hB
  have HOF := Lib.hid ho
  have HOK := Lib.hid hok
  have HLD := Lib.hid hLd
  have HC1 := Lib.hid hc1
  have HC2 := Lib.hid hc2
  have HFL := Lib.hid hfl
  have HLA : Hid (last ≤ 1000000000000) := hlast
  have HSC := Lib.hid (Wl.eff_sec hP.own.ok HSZ.out)
  obtain ⟨top, htop⟩ : ∃ t, t = min last (g / 2 * 2 + 1) := ⟨_, rfl⟩
  have HTOP : Hid (g ≤ top ∧ top ≤ last ∧ top ≤ g / 2 * 2 + 1) := by show _ ∧ _ ∧ _; omega
  have hm1 : IntKind.u64.wrap ((g : Int) / 2) = ((g / 2 : Nat) : Int) := by rw [IntWalk.u64_in _ (by omega)]; omega
  obtain ⟨g2, hg2⟩ : ∃ n, n = g / 2 := ⟨_, rfl⟩
  rw [← hg2] at hm1
  obtain ⟨g4, hg4⟩ : ∃ n, n = g2 * 2 := ⟨_, rfl⟩
  have hm2 : IntKind.u64.wrap ((g2 : Int) * 2) = (g4 : Int) := by rw [IntWalk.u64_in _ (by omega)]; omega
  obtain ⟨g5, hg5⟩ : ∃ n, n = g4 + 1 := ⟨_, rfl⟩
  have hm3 : IntKind.u64.wrap ((g4 : Int) + 1) = (g5 : Int) := by rw [IntWalk.u64_in _ (by omega)]; omega
  have hm4 : min (last : Int) (g5 : Int) = (top : Int) := by omega
  rw [← htop]
  clear h hP hB ho hc1 hc2 hfit hok hLd hfl hlt hsz hsec hσ hgl hlast htop hg2 hg4 hg5
  go_enter Tryz.func147, Tryz.ntmps147
  go_wp2_with fail
  refine HSEC.out.mono ?_
  rintro e w1 ⟨rfl, q, rfl⟩
  have hb1 := below_drewN w.heap.size w q
  have HLG := Lib.hid (HLG0.out.below hb1)
  have HPD := Lib.hid (HPD0.out.below hb1)
  have HBW := Lib.hid (HBW0.out.below hb1)
  have HT1 : Hid (Touch (PutS B m1 m2 L) w (w.drewN q)) := (Touch.refl _ _).drewN q
  clear HSEC hb1
  generalize w.drewN q = W1 at *
  have c4 := HLG.out.cell 4 (v := .pointer (some ⟨B, 0, none⟩)) rfl
  go_wp2_with fail
  refine (wlRead_any HPD.out HOF.out HSZ.out).mono ?_
  rintro e w2 ⟨u, rfl, hM, hb2⟩
  obtain ⟨gb, cap, hu, hgb, hgl2, hcap1, hcap2⟩ := hM.some (by rw [HSC.out.1]; decide)
  rw [HSC.out.1] at hu hcap1
  subst hu
  have HM := Lib.hid hM
  have HB2 := Lib.hid hb2
  have HGB : Hid (W1.heap.size ≤ gb) := hgb
  clear hM hb2 hgb hgl2 c4
  go_wp2_with fail
  go_loopw [10] (fun i wr => ∃ (t : Nat) (bb : List Nat), i = .int .u64 (t : Int) ∧ g ≤ t ∧ t ≤ top + 1 ∧ Mine W1.heap.size wr (.slice (some ⟨gb, 0, none⟩) 128 cap) bb ∧ Wl.Sn k.flushed k.epoch (2 * c) wl (Wl.eff d σ) g t bb ∧ Below W1.heap.size W1 wr) (fun i _ => (top + 1) - (intOf i).toNat)
  case atStart => exact ⟨g, _, rfl, Nat.le_refl _, by have := HTOP.out; omega, HM.out, Wl.sn_start HSC.out, HB2.out⟩
  case round =>
    obtain ⟨t, bb, rfl, ht1, ht2, hm, hsn, hb⟩ := hrel
    have HMM := Lib.hid hm
    have HSN := Lib.hid hsn
    have HB := Lib.hid hb
    have HT12 : Hid (g ≤ t ∧ t ≤ top + 1) := ⟨ht1, ht2⟩
    clear hm hsn hb ht1 ht2
    by_cases hlt : t ≤ top
    · have hi : (t : Int) ≤ (top : Int) := by omega
      have HTT := Lib.hid hlt
      obtain ⟨hh1, hh2⟩ := HSN.out.next HSC.out HBW.out.small HT12.out.1 (fun s h1 h2 => by have := HTOP.out; omega) (HOK.out t HT12.out.1 (by have := HTOP.out; omega))
      have hj1 : (t : Int) % 2 = ((t % 2 : Nat) : Int) := by omega
      have hj2 : t % 2 < 2 := by omega
      have HH1 := Lib.hid hh1
      have HH2 := Lib.hid hh2
      clear hh1 hh2 hlt
      generalize t % 2 = j at *
      have hj3 : IntKind.u64.wrap ((j : Int) * 64) = ((64 * j : Nat) : Int) := by rw [IntWalk.u64_in _ (by omega)]; omega
      have hcj : ¬ cap = 64 * j := by omega
      have hle1 : ((64 * j : Nat) : Int) ≤ 128 := by omega
      have hle2 : (64 : Int) ≤ 128 - ((64 * j : Nat) : Int) := by omega
      have HJ := Lib.hid hj2
      have hbt := hf_bts HMM.out.bts HSN.out.sec.1 hcap1 hj2
      rw [HH1.out] at hbt
      have HCON := Lib.hid (halfOf_any _ _ wr hbt (Wl.hf_length HSC.out.1 hj2))
      have HXL := Lib.hid (Wl.hfOf_len HSC.out.1 hj2)
      have HXS := Lib.hid (Wl.hfOf_lt (Wl.hf_lt HSC.out.2 j))
      clear hbt
      generalize hxg : Wl.hfOf (Wl.hf (Wl.eff d σ) j) = x at *
      have HN := Lib.hid (HOK.out t HT12.out.1 (by have := HTOP.out; have := HTT.out; omega))
      have hmt : IntKind.u64.wrap ((t : Int) + 1) = ((t + 1 : Nat) : Int) := by have := HTOP.out; have := HLA.out; have := HTT.out; rw [IntWalk.u64_in _ (by omega)]; omega
      clear hxg
      go_wp2_with fail
      refine HCON.out.mono ?_
      rintro e w3 ⟨rfl, hb3⟩
      have HB3 := Lib.hid (HB.out.trans (hb3.mono HB.out.size))
      have HM3 := Lib.hid (HMM.out.below hb3)
      clear hb3 HCON
      go_wp2_with fail
      have HFC : Hid (Calls Tryz.prog 175 #[.pointer (some ⟨L, 0, none⟩), .int .u64 (t : Int), HfV x] w3 fun e w' => e = .returned (HfV (Wl.nw k.flushed k.epoch (2 * c) wl x t)) ∧ Below w3.heap.size w3 w') :=
        wlFilled_any (HLG.out.below HB3.out) (HBW.out.below HB3.out) HC1.out HC2.out t HN.out.round x HXL.out HXS.out (by have := HTOP.out; have := HLA.out; have := HTT.out; omega) HFL.out rfl HN.out.old rfl HN.out.sw rfl
      refine HFC.out.mono ?_
      clear HFC
      rintro e w4 ⟨rfl, hb4⟩
      have HB4 := Lib.hid (HB3.out.trans (hb4.mono HB3.out.size))
      have HM4 := Lib.hid (HM3.out.below hb4)
      have hyl : (Wl.nw k.flushed k.epoch (2 * c) wl x t).log.length = 52 := HN.out.length HXL.out
      have hys : ∀ b ∈ (Wl.nw k.flushed k.epoch (2 * c) wl x t).log, b < 256 := Wl.fill2_lt HXS.out HBW.out.small
      generalize hyg : Wl.nw k.flushed k.epoch (2 * c) wl x t = y at *
      have HYL := Lib.hid hyl
      have HYS := Lib.hid hys
      clear hyl hys hb4 hyg
      go_wp2_with fail
      refine (hfBytes_any y w4 HYL.out HYS.out).mono ?_
      rintro e w5 ⟨u5, rfl, hO5, hb5⟩
      have HB5 := Lib.hid (HB4.out.trans (hb5.mono HB4.out.size))
      have HM5 := Lib.hid (HM4.out.below hb5)
      have hl5 : (Wl.hfB y).length = 64 := by rw [Wl.hfB_length, HYL.out]
      obtain ⟨w6, hrun, hM6, ht6⟩ := copy_mine HM5.out HSN.out.sec.1 HJ.out hO5.bts hl5
      have hrun := hrun 3
      have HM6 := Lib.hid hM6
      have HB6 := Lib.hid (HB5.out.trans (ht6.below (base := W1.heap.size) (fun i hi => by rw [hi]; exact HGB.out) HB5.out.size))
      clear hb5 hO5 hl5 hM6 ht6
      go_wp2_with fail
      go_roundw
      case rel => exact ⟨t + 1, _, by go_num, by have := HT12.out; omega, by have := HTT.out; omega, HM6.out, HH2.out, HB6.out⟩
      case measure => simp [intOf]; have := HTT.out; omega
    · obtain rfl : t = top + 1 := by have := HT12.out; omega
      have hi : ¬ ((top + 1 : Nat) : Int) ≤ (top : Int) := by omega
      have HLG2 := Lib.hid (HLG.out.below HB.out)
      have HPD2 := Lib.hid (HPD.out.below HB.out)
      have c4 := HLG2.out.cell 4 (v := .pointer (some ⟨B, 0, none⟩)) rfl
      have hwr := write_any HPD2.out (σ : Int) _ bb HMM.out.bts (fun _ g' e hd => by
        simp only [Value.ownBlock, Option.some.injEq] at e
        subst e
        have h1 := HPD.out.lt _ hd
        have h2 := HGB.out
        omega)
      have HWR := Lib.hid hwr
      clear hwr hlt
      go_wp2_with fail
      refine HWR.out.mono ?_
      rintro e w7 ⟨rfl, hP7, ht7⟩
      have HP7 := Lib.hid hP7
      have HLG7 := Lib.hid (HLG2.out.touch ht7 HLD.out)
      have HT7 := Lib.hid ((HT1.out.trans (Touch.of_new HB.out)).trans (ht7.mono fun i _ hi => Or.inl hi))
      clear hP7 ht7 c4 HWR
      go_wp2_with fail
      refine (wlTold_any HLG7.out _).mono ?_
      rintro e w8 ⟨rfl, hL8, ht8⟩
      have HE := Lib.hid (HT7.out.trans (ht8.mono fun i _ hi => Or.inr hi))
      have HL8 := Lib.hid hL8
      have HP8 := Lib.hid (HP7.out.keep ht8 (fun i hi e => HLD.out (e ▸ hi)))
      clear hL8 ht8
      go_wp2_with fail
      go_ret
      exact ⟨bb, HSN.out, rfl, HP8.out, HL8.out, HE.out⟩
end Go.Proofs.YtbpodmallknhfaaGreat
namespace Go.Proofs.YtbpodmallknhfaaGreat
open Go.RowKit
structure Fl (P0 P1 : World → Prop) (i : Nat) (D : Nat → Bool) (w : World) : Prop where
  s0 : D i = false → P0 w
  s1 : D i = true → P1 w
section
variable {P0 P1 : World → Prop} {i : Nat} {D : Nat → Bool} {w w' : World}
theorem Fl.first (h : P0 w) : Fl P0 P1 i (fun _ => false) w := ⟨fun _ => h, fun h => Bool.noConfusion h⟩
theorem Fl.skip (h : Fl P0 P1 i D w) (k : Nat) (hk : i ≠ k) : Fl P0 P1 i (Ord.wth D k) w :=
  ⟨fun e => h.s0 (by rw [← e]; exact (if_neg hk).symm), fun e => h.s1 (by rw [← e]; exact (if_neg hk).symm)⟩
theorem Fl.keep (_ : Fl P0 P1 i D w) (k : Nat) (hk : i ≠ k) (hd : D i = true) (hp : P1 w') : Fl P0 P1 i (Ord.wth D k) w' :=
  ⟨(fun e => by rw [show Ord.wth D k i = D i from if_neg hk, hd] at e; cases e), fun _ => hp⟩
theorem Fl.flip (_ : Fl P0 P1 i D w) (hp : P1 w') : Fl P0 P1 i (Ord.wth D i) w' :=
  ⟨(fun e => by rw [show Ord.wth D i i = true from if_pos rfl] at e; cases e), fun _ => hp⟩
theorem Fl.any {R : World → Prop} (h : Fl P0 P1 i D w) (f0 : ∀ w, P0 w → R w) (f1 : ∀ w, P1 w → R w) : R w := by
  cases hd : D i with
  | false => exact f0 w (h.s0 hd)
  | true => exact f1 w (h.s1 hd)
end
namespace Wl
theorem calm_write {n : Nat} {d : Dk.Dev} (h : Calm n d) (ok : Dk.Ok d) {i : Nat} (hi : i < n) {b : List Nat} (hb : Dk.Sec b) : Dk.write d (i : Int) b = (Dk.put d i b, 0) ∧ Calm n (Dk.put d i b) ∧ Dk.Ok (Dk.put d i b) := by
  have hu : Dk.used d < d.most ∨ d.seen.getD i false = true := by
    cases hs : d.seen.getD i false with
    | true => exact Or.inr rfl
    | false =>
      refine Or.inl ?_
      have hsz := h.sz
      have hl : i < d.seen.length := by rw [ok.s]; omega
      have h5 := Dk.count_set_new hl hs
      have h6 : (d.seen.set i true).count true ≤ (d.seen.set i true).length := List.count_le_length
      rw [List.length_set, ok.s] at h6
      have := h.most
      unfold Dk.used
      omega
  exact ⟨Dk.write_fine h.off h.armed (by rw [h.sz]; exact hi) hb.1 hu, ⟨h.off, h.armed, h.sz, h.most⟩, Dk.ok_put ok i hb⟩
def tellD (d : Dk.Dev) (a : Nat) (b : List Nat) : Nat → Dk.Dev
  | 0 => d
  | 1 => Dk.put d a b
  | _ => Dk.put (Dk.put d a b) (a + 1) b
theorem tellD_next {n K : Nat} {d : Dk.Dev} {a : Nat} {b : List Nat} (hK : K < 2) (h : Calm n (tellD d a b K)) (ok : Dk.Ok (tellD d a b K)) (ha : a + 1 < n) (hb : Dk.Sec b) :
    Dk.write (tellD d a b K) ((a + K : Nat) : Int) b = (tellD d a b (K + 1), 0) ∧ Calm n (tellD d a b (K + 1)) ∧ Dk.Ok (tellD d a b (K + 1)) := by
  obtain rfl | rfl : K = 0 ∨ K = 1 := by omega
  · exact calm_write h ok (by omega) hb
  · exact calm_write h ok (by omega) hb
end Wl
def TlF (L B a K aK gu nu cu : Nat) (i : Nat) (v : Value) (_ : World) : Prop :=
  match i with
  | 0 => v = .pointer (some ⟨L, 0, none⟩)
  | 1 => v = .pointer (some ⟨L, 0, none⟩)
  | 2 => v = .pointer (some ⟨L, 0, none⟩)
  | 3 => v = .pointer (some ⟨L, 4, none⟩)
  | 4 => v = .pointer (some ⟨B, 0, none⟩)
  | 5 => v = .pointer (some ⟨L, 0, none⟩)
  | 6 => v = .pointer (some ⟨L, 0, none⟩)
  | 7 => v = .pointer (some ⟨L, 5, none⟩)
  | 8 => v = .int .i64 (a : Int)
  | 9 => v = .int .i64 (K : Int)
  | 10 => v = .int .i64 (aK : Int)
  | 11 => v = .slice (some ⟨gu, 0, none⟩) nu cu
  | 12 => v = .int .i64 0
  | 13 => v = .int .i64 0
  | 14 => v = .int .i64 0
  | _ => True
def TlP (B m1 m2 L a c : Nat) (k0 : Wl.Kn) (pl wa : Value) (w1 : World) (d : Dk.Dev) (w : World) : Prop := PDev w B m1 m2 d ∧ LogAt w L k0 B a c pl wa false ∧ Touch (PutS B m1 m2 L) w1 w
set_option maxHeartbeats 6400000 in
set_option maxRecDepth 20000 in
theorem wlTell_any {w : World} {L B a c m1 m2 n : Nat} {k0 : Wl.Kn} {pl wa : Value} {d : Dk.Dev} (h : LogAt w L k0 B a c pl wa false) (hP : PDev w B m1 m2 d) (hC : Wl.Calm n d) (k : Wl.Kn) (hfit : a + c + 2 ≤ n) (hc : c ≤ 8192) (hLd : ¬ DS B m1 m2 L) :
    Calls Tryz.prog 68 #[.pointer (some ⟨L, 0, none⟩), KnV k] w fun e w' => e = .returned (.int .i64 0) ∧ LogAt w' L k B a c pl wa false ∧ PDev w' B m1 m2 (Wl.told d a (Wl.head a c k)) ∧ Touch (PutS B m1 m2 L) w w' := by
  obtain ⟨W, hW⟩ : ∃ W, W = w.alloc (.cells (KnC k) 120) := ⟨_, rfl⟩
  have hb0 : Below w.heap.size w W := by rw [hW]; exact below_new1 _ _
  have hrow : W.heap[w.heap.size]? = some (.cells (KnC k) 120 (0, 0)) := by rw [hW]; exact heap_alloc_last _ _
  obtain ⟨Q, hQ⟩ : ∃ Q, Q = w.heap.size := ⟨_, rfl⟩
  rw [← hQ] at hrow
  have hlt := h.lt
  have hsz := hP.own.size
  have hn := hC.sz
  have HLG := Lib.hid (h.below hb0)
  have HPD := Lib.hid (hP.below hb0)
  have HLT : Hid (L < w.heap.size) := hlt
  have HDL := Lib.hid hP.lt
  have HROW := Lib.hid hrow
  have HB0 := Lib.hid hb0
  have HQ := Lib.hid hQ
  have HC := Lib.hid hC
  have HOK := Lib.hid hP.own.ok
  have HA : Hid (a + 1 < n ∧ a ≤ 65536) := by show _ ∧ _; omega
  have HSEC := Lib.hid (Wl.head_sec a c k)
  have HLD := Lib.hid hLd
  have q0 := blk_cell hrow 0 (v := .int .u64 (k.start : Int)) rfl
  have q1 := blk_cell hrow 1 (v := .int .u64 (k.flushed : Int)) rfl
  have q2 := blk_cell hrow 2 (v := .int .u64 (k.point : Int)) rfl
  have q3 := blk_cell hrow 3 (v := .int .u32 (k.epoch : Int)) rfl
  have hform := wlForm_any HLG.out k (by omega) hc
  have HFORM := Lib.hid hform
  clear hb0 hrow hlt hsz hn h hP hC hfit hc hLd hform
  go_enter Tryz.func68, Tryz.ntmps68
  go_upto_region 1 with (fail)
  rw [← hW, ← hQ]
  clear hW hQ
  go_wp2_with fail
  refine HFORM.out.mono ?_
  rintro e w1 ⟨u, rfl, hO, hb1⟩
  generalize hhb : Wl.head a c k = hb at *
  have HHB := Lib.hid hhb
  obtain ⟨gu, cu, hu, hgu, -⟩ := own_some hO (by rw [HSEC.out.1]; decide)
  subst hu
  have HLG1 := Lib.hid (HLG.out.below hb1)
  have HPD1 := Lib.hid (HPD.out.below hb1)
  have HO := Lib.hid hO.bts
  have HB1 := Lib.hid (HB0.out.trans (hb1.mono HB0.out.size))
  have HGU : Hid (W.heap.size ≤ gu) := hgu
  have HR1 := Lib.hid ((hb1.block Q (lt_of_block HROW.out)).trans HROW.out)
  have HWS := Lib.hid HB0.out.size
  have HQ1 : Hid (Q < W.heap.size) := lt_of_block HROW.out
  clear hO hb1 hgu HFORM q0 q1 q2 q3 hhb
  go_wp2_with fail
  go_loopw [12] (fun i wr => ∃ K : Nat, K ≤ 2 ∧ i = .int .i64 (K : Int) ∧ Wl.Calm n (Wl.tellD d a hb K) ∧ PDev wr B m1 m2 (Wl.tellD d a hb K) ∧ LogAt wr L k0 B a c pl wa false ∧ Touch (PutS B m1 m2 L) w1 wr) (fun i _ => 2 - (intOf i).toNat)
  case atStart => exact ⟨0, Nat.zero_le _, rfl, HC.out, HPD1.out, HLG1.out, .refl _ _⟩
  case round =>
    obtain ⟨K, hK, rfl, hc1, hp1, hl1, ht1⟩ := hrel
    have HC1 := Lib.hid hc1
    have HP1 := Lib.hid hp1
    have HL1 := Lib.hid hl1
    have HT1 := Lib.hid ht1
    clear hc1 hp1 hl1 ht1
    have hgn : ¬ PutS B m1 m2 L gu := by
      rintro (h | h)
      · have h1 := HDL.out gu h; have h2 := HGU.out; have h3 := HWS.out; omega
      · have h1 := HLT.out; have h2 := HGU.out; have h3 := HWS.out; omega
    by_cases hlt : K < 2
    · have hi : (K : Int) < 2 := by omega
      have hm1 := IntWalk.i64_in ((a : Int) + (K : Int)) (by have := HA.out; omega)
      have hm2 := IntWalk.i64_in ((K : Int) + 1) (by omega)
      obtain ⟨aK, haK⟩ : ∃ n, n = a + K := ⟨_, rfl⟩
      have HM3 : Hid (IntKind.i64.wrap ((a : Int) + (K : Int)) = (aK : Int)) := by show _ = _; rw [hm1]; omega
      obtain ⟨hw1, hw2, hw3⟩ := Wl.tellD_next hlt HC1.out HP1.out.own.ok HA.out.1 HSEC.out
      rw [← haK] at hw1
      have hbt := HT1.out.bts HO.out (fun _ g' e => by
        simp only [Value.ownBlock, Option.some.injEq] at e
        subst e
        exact hgn)
      have HBT := Lib.hid hbt
      have HW1 := Lib.hid hw1
      have HW2 := Lib.hid hw2
      have HGN := Lib.hid hgn
      clear hbt hw1 hw2 hw3 hK hgn haK hm1
      go_upto_region 5 with (fail)
      refine Ord.walk (TlF L B a K aK gu hb.length cu) (fun D _ w' => Fl (TlP B m1 m2 L a c k0 pl wa w1 (Wl.tellD d a hb K)) (TlP B m1 m2 L a c k0 pl wa w1 (Wl.tellD d a hb (K + 1))) 12 D w') (fun _ _ => True)
        (by kernel_rfl) (by kernel_rfl) ?fr ?hfr (fun _ _ _ _ _ h => h) (fun xs => Fl.first ⟨HP1.out.below ((Below.refl _ _).go1), HL1.out.below ((Below.refl _ _).go1), HT1.out.drew⟩) ?he ?hend
      case hfr =>
        intro xs
        simp only [Ord.fill, Act.put, List.setIfInBounds_toArray, List.set_cons_zero, List.set_cons_succ]
        rfl
      case he =>
        refine Ord.each_cons (fun D xs w2 hD hC hP hR hA K' hK => ?_) ?_
        ·
          clear hA
          go_simp
          exact hK _ _ ⟨_, rfl, trivial, hR.skip 0 (by decide), rfl⟩
        refine Ord.each_cons (fun D xs w2 hD hC hP hR hA K' hK => ?_) ?_
        ·
          clear hA
          go_simp
          exact hK _ _ ⟨_, rfl, trivial, hR.skip 1 (by decide), rfl⟩
        refine Ord.each_cons (fun D xs w2 hD hC hP hR hA K' hK => ?_) ?_
        ·
          have q1 := Ord.ahead_get _ hA 1 (by decide)
          simp only [TlF] at q1
          simp only [q1] at hK
          clear hA
          go_simp
          exact hK _ _ ⟨_, rfl, trivial, hR.skip 2 (by decide), rfl⟩
        refine Ord.each_cons (fun D xs w2 hD hC hP hR hA K' hK => ?_) ?_
        ·
          have q2 := Ord.ahead_get _ hA 2 (by decide)
          simp only [TlF] at q2
          simp only [q2] at hK
          clear hA
          go_simp
          exact hK _ _ ⟨_, rfl, trivial, hR.skip 3 (by decide), rfl⟩
        refine Ord.each_cons (fun D xs w2 hD hC hP hR hA K' hK => ?_) ?_
        ·
          have q3 := Ord.ahead_get _ hA 3 (by decide)
          simp only [TlF] at q3
          simp only [q3] at hK
          clear hA
          have cc := hR.any (R := fun w => w.cell? ⟨L, 4, none⟩ = some (.pointer (some ⟨B, 0, none⟩))) (fun w h => h.2.1.cell 4 rfl) (fun w h => h.2.1.cell 4 rfl)
          go_simp
          exact hK _ _ ⟨_, rfl, trivial, hR.skip 4 (by decide), rfl⟩
        refine Ord.each_cons (fun D xs w2 hD hC hP hR hA K' hK => ?_) ?_
        ·
          clear hA
          go_simp
          exact hK _ _ ⟨_, rfl, trivial, hR.skip 5 (by decide), rfl⟩
        refine Ord.each_cons (fun D xs w2 hD hC hP hR hA K' hK => ?_) ?_
        ·
          have q5 := Ord.ahead_get _ hA 5 (by decide)
          simp only [TlF] at q5
          simp only [q5] at hK
          clear hA
          go_simp
          exact hK _ _ ⟨_, rfl, trivial, hR.skip 6 (by decide), rfl⟩
        refine Ord.each_cons (fun D xs w2 hD hC hP hR hA K' hK => ?_) ?_
        ·
          have q6 := Ord.ahead_get _ hA 6 (by decide)
          simp only [TlF] at q6
          simp only [q6] at hK
          clear hA
          go_simp
          exact hK _ _ ⟨_, rfl, trivial, hR.skip 7 (by decide), rfl⟩
        refine Ord.each_cons (fun D xs w2 hD hC hP hR hA K' hK => ?_) ?_
        ·
          have q7 := Ord.ahead_get _ hA 7 (by decide)
          simp only [TlF] at q7
          simp only [q7] at hK
          clear hA
          have cc := hR.any (R := fun w => w.cell? ⟨L, 5, none⟩ = some (.int .i64 (a : Int))) (fun w h => h.2.1.cell 5 rfl) (fun w h => h.2.1.cell 5 rfl)
          go_simp
          exact hK _ _ ⟨_, rfl, trivial, hR.skip 8 (by decide), rfl⟩
        refine Ord.each_cons (fun D xs w2 hD hC hP hR hA K' hK => ?_) ?_
        ·
          clear hA
          go_simp
          exact hK _ _ ⟨_, rfl, trivial, hR.skip 9 (by decide), rfl⟩
        refine Ord.each_cons (fun D xs w2 hD hC hP hR hA K' hK => ?_) ?_
        ·
          have q8 := Ord.ahead_get _ hA 8 (by decide)
          simp only [TlF] at q8
          have q9 := Ord.ahead_get _ hA 9 (by decide)
          simp only [TlF] at q9
          simp only [q8, q9] at hK
          clear hA
          go_simp
          rw [HM3.out]
          exact hK _ _ ⟨_, rfl, trivial, hR.skip 10 (by decide), rfl⟩
        refine Ord.each_cons (fun D xs w2 hD hC hP hR hA K' hK => ?_) ?_
        ·
          clear hA
          go_simp
          exact hK _ _ ⟨_, rfl, trivial, hR.skip 11 (by decide), rfl⟩
        refine Ord.each_cons (fun D xs w2 hD hC hP hR hA K' hK => ?_) ?_
        ·
          have q4 := Ord.ahead_get _ hA 4 (by decide)
          simp only [TlF] at q4
          have q10 := Ord.ahead_get _ hA 10 (by decide)
          simp only [TlF] at q10
          have q11 := Ord.ahead_get _ hA 11 (by decide)
          simp only [TlF] at q11
          simp only [q4, q10, q11] at hK
          clear hA
          have h0 := hR.s0 hD
          have hwr := write_any h0.1 (aK : Int) (.slice (some ⟨gu, 0, none⟩) hb.length cu) hb (h0.2.2.bts HO.out (fun _ g' e => by
            simp only [Value.ownBlock, Option.some.injEq] at e
            subst e
            exact HGN.out)) (fun _ g' e hd => by
            simp only [Value.ownBlock, Option.some.injEq] at e
            subst e
            exact HGN.out (Or.inl hd))
          rw [HW1.out] at hwr
          go_simp
          refine hwr.mono ?_
          rintro e w' ⟨rfl, hP', ht'⟩
          exact hK _ _ ⟨_, rfl, trivial, hR.flip ⟨hP', h0.2.1.touch ht' HLD.out, h0.2.2.trans (ht'.mono fun i _ hi => Or.inl hi)⟩, rfl⟩
        refine Ord.each_cons (fun D xs w2 hD hC hP hR hA K' hK => ?_) ?_
        ·
          have q0 := Ord.ahead_get _ hA 0 (by decide)
          simp only [TlF] at q0
          have q12 := Ord.ahead_get _ hA 12 (by decide)
          simp only [TlF] at q12
          simp only [q0, q12] at hK
          clear hA
          have h1 := hR.s1 (hP { on := 12, ground := .data } (by simp) rfl)
          go_simp
          refine (wlTold_ok h1.2.1).mono ?_
          rintro e w' ⟨rfl, hL', ht'⟩
          exact hK _ _ ⟨_, rfl, trivial, hR.keep 13 (by decide) (hP { on := 12, ground := .data } (by simp) rfl) ⟨h1.1.keep ht' (fun i hi e => HLD.out (e ▸ hi)), hL', h1.2.2.trans (ht'.mono fun i _ hi => Or.inr hi)⟩, rfl⟩
        refine Ord.each_cons (fun D xs w2 hD hC hP hR hA K' hK => ?_) ?_
        ·
          have q13 := Ord.ahead_get _ hA 13 (by decide)
          simp only [TlF] at q13
          simp only [q13] at hK
          clear hA
          go_simp
          exact hK _ _ ⟨_, rfl, trivial, hR.skip 14 (by decide), rfl⟩
        exact Ord.each_nil
      case hend =>
        intro D xs w9 hR hF
        have h9 := hR.s1 (hF 12 (by decide)).1
        have e0 := (hF 0 (by decide)).2
        have e1 := (hF 1 (by decide)).2
        have e2 := (hF 2 (by decide)).2
        have e3 := (hF 3 (by decide)).2
        have e4 := (hF 4 (by decide)).2
        have e5 := (hF 5 (by decide)).2
        have e6 := (hF 6 (by decide)).2
        have e7 := (hF 7 (by decide)).2
        have e8 := (hF 8 (by decide)).2
        have e9 := (hF 9 (by decide)).2
        have e10 := (hF 10 (by decide)).2
        have e11 := (hF 11 (by decide)).2
        have e12 := (hF 12 (by decide)).2
        have e13 := (hF 13 (by decide)).2
        have e14 := (hF 14 (by decide)).2
        simp only [TlF] at e0 e1 e2 e3 e4 e5 e6 e7 e8 e9 e10 e11 e12 e13 e14
        rw [e0, e1, e2, e3, e4, e5, e6, e7, e8, e9, e10, e11, e12, e13, e14]
        clear hF hR  e0 e1 e2 e3 e4 e5 e6 e7 e8 e9 e10 e11 e12 e13 e14
        have HP9 := Lib.hid h9.1
        have HL9 := Lib.hid h9.2.1
        have HT9 := Lib.hid h9.2.2
        clear h9
        go_wp2_with fail
        go_roundw
        case rel => exact ⟨K + 1, by omega, by go_num, HW2.out, HP9.out, HL9.out, HT9.out⟩
        case measure => simp [intOf]; omega
    · obtain rfl : K = 2 := by omega
      have hi : ¬ ((2 : Nat) : Int) < 2 := by decide
      have c4 := HL1.out.cell 4 (v := .pointer (some ⟨B, 0, none⟩)) rfl
      have hsy := sync_any HP1.out
      rw [Dk.sync_fine HC1.out.off HC1.out.armed] at hsy
      have HSY := Lib.hid hsy
      have HRQ := Lib.hid (HT1.out.row HR1.out (by
        rintro (h | h)
        · have h1 := HDL.out _ h; have h2 := HQ.out; omega
        · have h1 := HLT.out; have h2 := HQ.out; omega))
      clear hsy hlt hgn
      go_wp2_with fail
      refine HSY.out.mono ?_
      rintro e w2 ⟨rfl, hP2, ht2⟩
      have HP2 := Lib.hid hP2
      have HL2 := Lib.hid (HL1.out.touch ht2 HLD.out)
      have HT2 := Lib.hid (HT1.out.trans (ht2.mono fun i _ hi => Or.inl hi))
      have HRQ2 := Lib.hid (ht2.row HRQ.out (fun h => by have h1 := HDL.out _ h; have h2 := HQ.out; omega))
      clear hP2 ht2 HSY c4
      go_wp2_with fail
      refine (wlTold_ok HL2.out).mono ?_
      rintro e w3 ⟨rfl, hL3, ht3⟩
      have HP3 := Lib.hid (HP2.out.keep ht3 (fun i hi e => HLD.out (e ▸ hi)))
      have HT3 := Lib.hid (HT2.out.trans (ht3.mono fun i _ hi => Or.inr hi))
      have hrq3 := ht3.row HRQ2.out (fun h => by have h1 := HLT.out; have h2 := HQ.out; omega)
      have q0 := blk_cell hrq3 0 (v := .int .u64 (k.start : Int)) rfl
      have q1 := blk_cell hrq3 1 (v := .int .u64 (k.flushed : Int)) rfl
      have q2 := blk_cell hrq3 2 (v := .int .u64 (k.point : Int)) rfl
      have q3 := blk_cell hrq3 3 (v := .int .u32 (k.epoch : Int)) rfl
      have f0 := blk_free hL3 0
      have s0 : LogAt (w3.setCell ⟨L, 0, none⟩ (.int .u64 (k.start : Int))) L { k0 with start := k.start } B a c pl wa false := blk_set (i := 0) hL3 _
      have f1 := blk_free s0 1
      have s1 : LogAt ((w3.setCell ⟨L, 0, none⟩ (.int .u64 (k.start : Int))).setCell ⟨L, 1, none⟩ (.int .u64 (k.flushed : Int))) L { k0 with start := k.start, flushed := k.flushed } B a c pl wa false := blk_set (i := 1) s0 _
      have f2 := blk_free s1 2
      have s2 : LogAt (((w3.setCell ⟨L, 0, none⟩ (.int .u64 (k.start : Int))).setCell ⟨L, 1, none⟩ (.int .u64 (k.flushed : Int))).setCell ⟨L, 2, none⟩ (.int .u64 (k.point : Int))) L { k0 with start := k.start, flushed := k.flushed, point := k.point } B a c pl wa false := blk_set (i := 2) s1 _
      have f3 := blk_free s2 3
      have s3 : LogAt ((((w3.setCell ⟨L, 0, none⟩ (.int .u64 (k.start : Int))).setCell ⟨L, 1, none⟩ (.int .u64 (k.flushed : Int))).setCell ⟨L, 2, none⟩ (.int .u64 (k.point : Int))).setCell ⟨L, 3, none⟩ (.int .u32 (k.epoch : Int))) L k B a c pl wa false := blk_set (i := 3) s2 _
      have g0 := LogAt.cell hL3 0 (v := .int .u64 (k0.start : Int)) rfl
      have g1 := LogAt.cell s0 1 (v := .int .u64 (k0.flushed : Int)) rfl
      have g2 := LogAt.cell s1 2 (v := .int .u64 (k0.point : Int)) rfl
      have g3 := LogAt.cell s2 3 (v := .int .u32 (k0.epoch : Int)) rfl
      have S3 := Lib.hid s3
      have htl : Touch (· = L) w3 ((((w3.setCell ⟨L, 0, none⟩ (.int .u64 (k.start : Int))).setCell ⟨L, 1, none⟩ (.int .u64 (k.flushed : Int))).setCell ⟨L, 2, none⟩ (.int .u64 (k.point : Int))).setCell ⟨L, 3, none⟩ (.int .u32 (k.epoch : Int))) := (((Touch.set (S := (· = L)) L 0 _ rfl).trans (.set L 1 _ rfl)).trans (.set L 2 _ rfl)).trans (.set L 3 _ rfl)
      have HTL := Lib.hid htl
      clear hrq3 s0 s1 s2 s3 hL3 ht3 htl
      go_wp2_with fail
      go_ret
      refine ⟨rfl, S3.out, ?_, ((Touch.of_new HB1.out).trans HT3.out).trans (HTL.out.mono fun i _ hi => Or.inr hi)⟩
      rw [HHB.out]
      exact HP3.out.keep HTL.out (fun i hi e => HLD.out (e ▸ hi))
end Go.Proofs.YtbpodmallknhfaaGreat
