/- The bytes of a sector ahead of the ring, as the program writes them. Conditions: the log's place is told by few bits. -/
import Derived.Test.YtafpjcobagofcaaGreatWlLog
import Derived.Test.YtafpjcobagofcaaGreatCodeP
import Derived.Test.YtafpjcobagofcaaGreatLrCrc
import Derived.Test.YtafpjcobagofcaaGreatAppAt
namespace Go.Proofs.YtafpjcobagofcaaGreat
open Go.RowKit

/-- What is known, as a value. -/
abbrev KnC (k : Wl.Kn) : Array Value := #[.int .u64 (k.start : Int), .int .u64 (k.flushed : Int), .int .u64 (k.point : Int), .int .u32 (k.epoch : Int)]
abbrev KnV (k : Wl.Kn) : Value := .agg (KnC k)
def HdF1 (L a c W : Nat) (i : Nat) (v : Value) (w : World) : Prop :=
  match i with
  | 0 => v = .pointer (some ⟨L, 0, none⟩)
  | 1 => v = .pointer (some ⟨L, 0, none⟩)
  | 2 => v = .pointer (some ⟨L, 5, none⟩)
  | 3 => v = .int .i64 (a : Int)
  | 4 => v = .int .u32 (a : Int)
  | 5 => Own W w v ([] ++ Cod.le 4 a)
  | 6 => v = .pointer (some ⟨L, 0, none⟩)
  | 7 => v = .pointer (some ⟨L, 0, none⟩)
  | 8 => v = .pointer (some ⟨L, 6, none⟩)
  | 9 => v = .int .i64 (c : Int)
  | 10 => v = .int .u32 (c : Int)
  | 11 => Own W w v (([] ++ Cod.le 4 a) ++ Cod.le 4 c)
  | 12 => Own W w v (([] ++ Cod.le 4 a) ++ Cod.le 4 c)
  | _ => True
theorem HdF1_later (L a c W : Nat) (i : Nat) (v : Value) (w w' : World) (hb : Below w.heap.size w w') (h : HdF1 L a c W i v w) : HdF1 L a c W i v w' := by
  unfold HdF1 at *
  split at h <;> first | exact h | exact h.below hb | trivial

def HdF2 (k : Wl.Kn) (Q W : Nat) (l : List Nat) (u : Value) (i : Nat) (v : Value) (w : World) : Prop :=
  match i with
  | 0 => v = u
  | 1 => v = .pointer (some ⟨Q, 0, none⟩)
  | 2 => v = .int .u64 (k.start : Int)
  | 3 => Own W w v (l ++ Cod.le 8 k.start)
  | 4 => v = .pointer (some ⟨Q, 1, none⟩)
  | 5 => v = .int .u64 (k.flushed : Int)
  | 6 => Own W w v ((l ++ Cod.le 8 k.start) ++ Cod.le 8 k.flushed)
  | 7 => v = .pointer (some ⟨Q, 2, none⟩)
  | 8 => v = .int .u64 (k.point : Int)
  | 9 => Own W w v (((l ++ Cod.le 8 k.start) ++ Cod.le 8 k.flushed) ++ Cod.le 8 k.point)
  | 10 => Own W w v (((l ++ Cod.le 8 k.start) ++ Cod.le 8 k.flushed) ++ Cod.le 8 k.point)
  | _ => True
theorem HdF2_later (k : Wl.Kn) (Q W : Nat) (l : List Nat) (u : Value) (i : Nat) (v : Value) (w w' : World) (hb : Below w.heap.size w w') (h : HdF2 k Q W l u i v w) : HdF2 k Q W l u i v w' := by
  unfold HdF2 at *
  split at h <;> first | exact h | exact h.below hb | trivial

set_option maxHeartbeats 3200000 in
set_option maxRecDepth 20000 in
theorem wlForm_any {w : World} {L B a c : Nat} {k0 : Wl.Kn} {pl wa : Value} {dn : Bool} (h : LogAt w L k0 B a c pl wa dn) (k : Wl.Kn) (ha : a ≤ 65536) (hc : c ≤ 8192) :
    Calls Tryz.prog 59 #[.pointer (some ⟨L, 0, none⟩), KnV k] w fun e w' => ∃ u, e = .returned u ∧ Own w.heap.size w' u (Wl.head a c k) ∧ Below w.heap.size w w' := by
  obtain ⟨W, hW⟩ : ∃ W, W = w.alloc (.cells (KnC k) 62) := ⟨_, rfl⟩
  have hb0 : Below w.heap.size w W := by rw [hW]; exact below_new1 _ _
  have hrow : W.heap[w.heap.size]? = some (.cells (KnC k) 62 (0, 0)) := by rw [hW]; exact heap_alloc_last _ _
  obtain ⟨Q, hQ⟩ : ∃ Q, Q = w.heap.size := ⟨_, rfl⟩
  rw [← hQ] at hrow
  have hl := h.below hb0
  have HLT : Hid (L < W.heap.size) := hl.lt
  have C5 := Lib.hid (hl.cell 5 (v := .int .i64 (a : Int)) rfl)
  have C6 := Lib.hid (hl.cell 6 (v := .int .i64 (c : Int)) rfl)
  have WA : Hid (IntKind.u32.wrap (a : Int) = (a : Int)) := IntWalk.u32_in _ (by omega)
  have WC : Hid (IntKind.u32.wrap (c : Int) = (c : Int)) := IntWalk.u32_in _ (by omega)
  have HROW := Lib.hid hrow
  have HB0 := Lib.hid hb0
  have HQ := Lib.hid hQ
  clear hl h hb0 hrow ha hc
  go_enter Tryz.func59, Tryz.ntmps59
  go_upto_region 1 with (fail)
  rw [← hW, ← hQ]
  clear hW hQ
  refine Ord.walk (HdF1 L a c W.heap.size) (fun _ _ w' => Below W.heap.size W w') (fun a b => Below a.heap.size a b)
    (by kernel_rfl) (by kernel_rfl) ?fra ?hfra (fun i v w w' hb h => HdF1_later _ _ _ _ i v w w' hb h) (fun xs => (Below.refl _ _).go1) ?hea ?henda
  case hfra =>
    intro xs
    simp only [Ord.fill, Act.put, List.setIfInBounds_toArray, List.set_cons_zero, List.set_cons_succ]
    rfl
  case hea =>
    refine Ord.each_cons (fun D xs w2 hD hC hP hR hA K hK => ?_) ?_
    · -- 0
      clear hA
      go_simp
      exact hK _ _ ⟨_, rfl, Below.refl _ _, hR, rfl⟩
    refine Ord.each_cons (fun D xs w2 hD hC hP hR hA K hK => ?_) ?_
    · -- 1
      have q0 := Ord.ahead_get _ hA 0 (by decide)
      simp only [HdF1] at q0
      simp only [q0] at hK
      clear hA
      go_simp
      exact hK _ _ ⟨_, rfl, Below.refl _ _, hR, rfl⟩
    refine Ord.each_cons (fun D xs w2 hD hC hP hR hA K hK => ?_) ?_
    · -- 2
      have q1 := Ord.ahead_get _ hA 1 (by decide)
      simp only [HdF1] at q1
      simp only [q1] at hK
      clear hA
      go_simp
      exact hK _ _ ⟨_, rfl, Below.refl _ _, hR, rfl⟩
    refine Ord.each_cons (fun D xs w2 hD hC hP hR hA K hK => ?_) ?_
    · -- 3
      have q2 := Ord.ahead_get _ hA 2 (by decide)
      simp only [HdF1] at q2
      simp only [q2] at hK
      clear hA
      have cc := hR.cell (p := ⟨L, 5, none⟩) HLT.out
      rw [C5.out] at cc
      go_simp
      exact hK _ _ ⟨_, rfl, Below.refl _ _, hR, rfl⟩
    refine Ord.each_cons (fun D xs w2 hD hC hP hR hA K hK => ?_) ?_
    · -- 4
      have q3 := Ord.ahead_get _ hA 3 (by decide)
      simp only [HdF1] at q3
      simp only [q3] at hK
      clear hA
      go_simp
      rw [WA.out]
      exact hK _ _ ⟨_, rfl, Below.refl _ _, hR, rfl⟩
    refine Ord.each_cons (fun D xs w2 hD hC hP hR hA K hK => ?_) ?_
    · -- 5
      have q4 := Ord.ahead_get _ hA 4 (by decide)
      simp only [HdF1] at q4
      simp only [q4] at hK
      clear hA
      go_simp
      refine (Put32_any (.slice none 0 0) [] a w2 (bts_none w2) (by decide)).mono ?_
      rintro e w' ⟨u, rfl, hO, hb⟩
      exact hK _ _ ⟨_, rfl, hb, hR.trans (hb.mono hR.size), hO.from hR.size⟩
    refine Ord.each_cons (fun D xs w2 hD hC hP hR hA K hK => ?_) ?_
    · -- 6
      clear hA
      go_simp
      exact hK _ _ ⟨_, rfl, Below.refl _ _, hR, rfl⟩
    refine Ord.each_cons (fun D xs w2 hD hC hP hR hA K hK => ?_) ?_
    · -- 7
      have q6 := Ord.ahead_get _ hA 6 (by decide)
      simp only [HdF1] at q6
      simp only [q6] at hK
      clear hA
      go_simp
      exact hK _ _ ⟨_, rfl, Below.refl _ _, hR, rfl⟩
    refine Ord.each_cons (fun D xs w2 hD hC hP hR hA K hK => ?_) ?_
    · -- 8
      have q7 := Ord.ahead_get _ hA 7 (by decide)
      simp only [HdF1] at q7
      simp only [q7] at hK
      clear hA
      go_simp
      exact hK _ _ ⟨_, rfl, Below.refl _ _, hR, rfl⟩
    refine Ord.each_cons (fun D xs w2 hD hC hP hR hA K hK => ?_) ?_
    · -- 9
      have q8 := Ord.ahead_get _ hA 8 (by decide)
      simp only [HdF1] at q8
      simp only [q8] at hK
      clear hA
      have cc := hR.cell (p := ⟨L, 6, none⟩) HLT.out
      rw [C6.out] at cc
      go_simp
      exact hK _ _ ⟨_, rfl, Below.refl _ _, hR, rfl⟩
    refine Ord.each_cons (fun D xs w2 hD hC hP hR hA K hK => ?_) ?_
    · -- 10
      have q9 := Ord.ahead_get _ hA 9 (by decide)
      simp only [HdF1] at q9
      simp only [q9] at hK
      clear hA
      go_simp
      rw [WC.out]
      exact hK _ _ ⟨_, rfl, Below.refl _ _, hR, rfl⟩
    refine Ord.each_cons (fun D xs w2 hD hC hP hR hA K hK => ?_) ?_
    · -- 11
      have q10 := Ord.ahead_get _ hA 10 (by decide)
      simp only [HdF1] at q10
      have q5 := Ord.ahead_get _ hA 5 (by decide)
      simp only [HdF1] at q5
      simp only [q10] at hK
      clear hA
      go_simp
      refine (Put32_any (xs 5) _ c w2 q5.bts (by rw [List.length_append, Cod.le_length]; decide)).mono ?_
      rintro e w' ⟨u, rfl, hO, hb⟩
      exact hK _ _ ⟨_, rfl, hb, hR.trans (hb.mono hR.size), hO.from hR.size⟩
    refine Ord.each_cons (fun D xs w2 hD hC hP hR hA K hK => ?_) ?_
    · -- 12
      have q11 := Ord.ahead_get _ hA 11 (by decide)
      simp only [HdF1] at q11
      clear hA
      go_simp
      exact hK _ _ ⟨_, rfl, Below.refl _ _, hR, q11⟩
    exact Ord.each_nil
  case henda =>
    intro D xs w9 hR hF
    have e0 := (hF 0 (by decide)).2
    have e1 := (hF 1 (by decide)).2
    have e2 := (hF 2 (by decide)).2
    have e3 := (hF 3 (by decide)).2
    have e4 := (hF 4 (by decide)).2
    have e6 := (hF 6 (by decide)).2
    have e7 := (hF 7 (by decide)).2
    have e8 := (hF 8 (by decide)).2
    have e9 := (hF 9 (by decide)).2
    have e10 := (hF 10 (by decide)).2
    have hO12 := (hF 12 (by decide)).2
    simp only [HdF1] at e0 e1 e2 e3 e4 e6 e7 e8 e9 e10 hO12
    rw [e0]
    rw [e1]
    rw [e2]
    rw [e3]
    rw [e4]
    rw [e6]
    rw [e7]
    rw [e8]
    rw [e9]
    rw [e10]
    clear e0 e1 e2 e3 e4 e6 e7 e8 e9 e10
    clear hF
    generalize xs 5 = x5 at *
    generalize xs 11 = x11 at *
    generalize xs 12 = x12 at *
    rw [List.nil_append] at hO12
    have HO1 := Lib.hid hO12
    have HB1 := Lib.hid hR
    clear hR hO12
    obtain ⟨W1, hW1⟩ : ∃ W1, W1 = w9 := ⟨_, rfl⟩
    rw [← hW1] at HO1 HB1 ⊢
    clear hW1
    have HR1 : Hid (W1.heap[Q]? = some (.cells (KnC k) 62 (0, 0))) := (HB1.out.block Q (lt_of_block HROW.out)).trans HROW.out
    have HQ1 : Hid (Q < W1.heap.size) := lt_of_block HR1.out
    have D0 := Lib.hid (blk_cell HR1.out 0 (v := .int .u64 (k.start : Int)) rfl)
    have D1 := Lib.hid (blk_cell HR1.out 1 (v := .int .u64 (k.flushed : Int)) rfl)
    have D2 := Lib.hid (blk_cell HR1.out 2 (v := .int .u64 (k.point : Int)) rfl)
    go_upto_region 2 with (fail)
    refine Ord.walkF (HdF2 k Q W1.heap.size (Cod.le 4 a ++ Cod.le 4 c) x12) (fun D xs w' => Below W1.heap.size W1 w' ∧ (D 10 = false → xs 10 = x12)) (fun a b => Below a.heap.size a b)
      (by kernel_rfl) (by kernel_rfl) ?frb ?hfrb (fun i v w w' hb h => HdF2_later _ _ _ _ _ i v w w' hb h) (fun xs hx => ⟨(Below.refl _ _).go1, fun _ => hx 10⟩) ?heb ?hendb
    case hfrb =>
      intro xs
      simp only [Ord.fill, Act.put, List.setIfInBounds_toArray, List.set_cons_zero, List.set_cons_succ]
      rfl
    case heb =>
      refine Ord.each_cons (fun D xs w2 hD hC hP hR hA K hK => ?_) ?_
      · -- 0
        clear hA
        have hpr := hR.2 (by cases hx : D 10 with | false => rfl | true => exact absurd (Ord.closed_at hC 10 0 rfl hx) (by rw [hD]; decide))
        rw [hpr] at hK ⊢
        obtain ⟨hR, hRp⟩ := hR
        go_simp
        exact hK _ _ ⟨_, rfl, Below.refl _ _, ⟨hR, fun h => hRp h⟩, rfl⟩
      refine Ord.each_cons (fun D xs w2 hD hC hP hR hA K hK => ?_) ?_
      · -- 1
        clear hA
        obtain ⟨hR, hRp⟩ := hR
        go_simp
        exact hK _ _ ⟨_, rfl, Below.refl _ _, ⟨hR, fun h => hRp h⟩, rfl⟩
      refine Ord.each_cons (fun D xs w2 hD hC hP hR hA K hK => ?_) ?_
      · -- 2
        have q1 := Ord.ahead_get _ hA 1 (by decide)
        simp only [HdF2] at q1
        simp only [q1] at hK
        clear hA
        obtain ⟨hR, hRp⟩ := hR
        have cc := hR.cell (p := ⟨Q, 0, none⟩) HQ1.out
        rw [D0.out] at cc
        go_simp
        exact hK _ _ ⟨_, rfl, Below.refl _ _, ⟨hR, fun h => hRp h⟩, rfl⟩
      refine Ord.each_cons (fun D xs w2 hD hC hP hR hA K hK => ?_) ?_
      · -- 3
        have q2 := Ord.ahead_get _ hA 2 (by decide)
        simp only [HdF2] at q2
        have q0 := Ord.ahead_get _ hA 0 (by decide)
        simp only [HdF2] at q0
        simp only [q2, q0] at hK
        clear hA
        obtain ⟨hR, hRp⟩ := hR
        go_simp
        refine (Put64_any x12 _ k.start w2 (HO1.out.bts.below hR) (by rw [List.length_append, Cod.le_length, Cod.le_length]; decide)).mono ?_
        rintro e w' ⟨u, rfl, hO, hb⟩
        exact hK _ _ ⟨_, rfl, hb, ⟨hR.trans (hb.mono hR.size), fun h => hRp h⟩, hO.from hR.size⟩
      refine Ord.each_cons (fun D xs w2 hD hC hP hR hA K hK => ?_) ?_
      · -- 4
        clear hA
        obtain ⟨hR, hRp⟩ := hR
        go_simp
        exact hK _ _ ⟨_, rfl, Below.refl _ _, ⟨hR, fun h => hRp h⟩, rfl⟩
      refine Ord.each_cons (fun D xs w2 hD hC hP hR hA K hK => ?_) ?_
      · -- 5
        have q4 := Ord.ahead_get _ hA 4 (by decide)
        simp only [HdF2] at q4
        simp only [q4] at hK
        clear hA
        obtain ⟨hR, hRp⟩ := hR
        have cc := hR.cell (p := ⟨Q, 1, none⟩) HQ1.out
        rw [D1.out] at cc
        go_simp
        exact hK _ _ ⟨_, rfl, Below.refl _ _, ⟨hR, fun h => hRp h⟩, rfl⟩
      refine Ord.each_cons (fun D xs w2 hD hC hP hR hA K hK => ?_) ?_
      · -- 6
        have q5 := Ord.ahead_get _ hA 5 (by decide)
        simp only [HdF2] at q5
        have q3 := Ord.ahead_get _ hA 3 (by decide)
        simp only [HdF2] at q3
        simp only [q5] at hK
        clear hA
        obtain ⟨hR, hRp⟩ := hR
        go_simp
        refine (Put64_any (xs 3) _ k.flushed w2 q3.bts (by simp only [List.length_append, Cod.le_length]; decide)).mono ?_
        rintro e w' ⟨u, rfl, hO, hb⟩
        exact hK _ _ ⟨_, rfl, hb, ⟨hR.trans (hb.mono hR.size), fun h => hRp h⟩, hO.from hR.size⟩
      refine Ord.each_cons (fun D xs w2 hD hC hP hR hA K hK => ?_) ?_
      · -- 7
        clear hA
        obtain ⟨hR, hRp⟩ := hR
        go_simp
        exact hK _ _ ⟨_, rfl, Below.refl _ _, ⟨hR, fun h => hRp h⟩, rfl⟩
      refine Ord.each_cons (fun D xs w2 hD hC hP hR hA K hK => ?_) ?_
      · -- 8
        have q7 := Ord.ahead_get _ hA 7 (by decide)
        simp only [HdF2] at q7
        simp only [q7] at hK
        clear hA
        obtain ⟨hR, hRp⟩ := hR
        have cc := hR.cell (p := ⟨Q, 2, none⟩) HQ1.out
        rw [D2.out] at cc
        go_simp
        exact hK _ _ ⟨_, rfl, Below.refl _ _, ⟨hR, fun h => hRp h⟩, rfl⟩
      refine Ord.each_cons (fun D xs w2 hD hC hP hR hA K hK => ?_) ?_
      · -- 9
        have q8 := Ord.ahead_get _ hA 8 (by decide)
        simp only [HdF2] at q8
        have q6 := Ord.ahead_get _ hA 6 (by decide)
        simp only [HdF2] at q6
        simp only [q8] at hK
        clear hA
        obtain ⟨hR, hRp⟩ := hR
        go_simp
        refine (Put64_any (xs 6) _ k.point w2 q6.bts (by simp only [List.length_append, Cod.le_length]; decide)).mono ?_
        rintro e w' ⟨u, rfl, hO, hb⟩
        exact hK _ _ ⟨_, rfl, hb, ⟨hR.trans (hb.mono hR.size), fun h => hRp h⟩, hO.from hR.size⟩
      refine Ord.each_cons (fun D xs w2 hD hC hP hR hA K hK => ?_) ?_
      · -- 10
        have q9 := Ord.ahead_get _ hA 9 (by decide)
        simp only [HdF2] at q9
        clear hA
        obtain ⟨hR, hRp⟩ := hR
        go_simp
        exact hK _ _ ⟨_, rfl, Below.refl _ _, ⟨hR, fun h => Bool.noConfusion (show true = false from h)⟩, q9⟩
      exact Ord.each_nil
    case hendb =>
      intro D xs w9 hR hF
      obtain ⟨hR, -⟩ := hR
      have e0 := (hF 0 (by decide)).2
      have e1 := (hF 1 (by decide)).2
      have e2 := (hF 2 (by decide)).2
      have e4 := (hF 4 (by decide)).2
      have e5 := (hF 5 (by decide)).2
      have e7 := (hF 7 (by decide)).2
      have e8 := (hF 8 (by decide)).2
      have hO10 := (hF 10 (by decide)).2
      simp only [HdF2] at e0 e1 e2 e4 e5 e7 e8 hO10
      rw [e0]
      rw [e1]
      rw [e2]
      rw [e4]
      rw [e5]
      rw [e7]
      rw [e8]
      clear e0 e1 e2 e4 e5 e7 e8
      clear hF
      generalize xs 3 = x3 at *
      generalize xs 6 = x6 at *
      generalize xs 9 = x9 at *
      generalize xs 10 = x10 at *
      have HO2 := Lib.hid hO10
      have HB2 := Lib.hid hR
      have HR2 : Hid (w9.heap[Q]? = some (.cells (KnC k) 62 (0, 0))) := (HB2.out.block Q (lt_of_block HR1.out)).trans HR1.out
      have d3 := blk_cell HR2.out 3 (v := .int .u32 (k.epoch : Int)) rfl
      clear hR hO10
      go_wp2_with fail
      refine (Put32_any x10 _ k.epoch w9 HO2.out.bts (by simp only [List.length_append, Cod.le_length]; decide)).mono ?_
      rintro e w3 ⟨u3, rfl, hO3, hb3⟩
      have HB : Hid (Wl.headB a c k = (((Cod.le 4 a ++ Cod.le 4 c) ++ Cod.le 8 k.start ++ Cod.le 8 k.flushed) ++ Cod.le 8 k.point) ++ Cod.le 4 k.epoch) := rfl
      rw [← HB.out] at hO3
      have HO3 := Lib.hid hO3
      have HB3 := Lib.hid (HB2.out.trans (hb3.mono HB2.out.size))
      have HHL := Lib.hid (Wl.headB_length a c k)
      clear hO3 hb3 d3 HB
      go_wp2_with fail
      refine (sum_any u3 _ w3 HO3.out.bts).mono ?_
      rintro e w4 ⟨rfl, hb4⟩
      have HO4 := Lib.hid (HO3.out.below hb4)
      have HB4 := Lib.hid (HB3.out.trans (hb4.mono HB3.out.size))
      clear hb4
      go_wp2_with fail
      refine (Put32_any (.slice none 0 0) [] (Crc.more 0 (Wl.headB a c k)) w4 (bts_none w4) (by decide)).mono ?_
      rintro e w5 ⟨u5, rfl, hO5, hb5⟩
      rw [List.nil_append] at hO5
      have HO5 := Lib.hid hO5
      have HU5 := Lib.hid (HO4.out.below hb5)
      have HS5 : Hid (w4.heap.size ≤ w5.heap.size) := hb5.size
      have HB5 := Lib.hid hb5
      clear hO5 hb5
      dsimp only
      iterate 4 go_step
      refine wpList_append_Own rfl (.tmp 34) (.tmp 35) rfl w4.heap.size u5 _ rfl HO5.out u3 _ rfl HU5.out.bts (by rw [Cod.le_length, HHL.out]; decide) HS5.out ?_
      intro u6 w6 hO6 hb6 _
      have hl6 : (Cod.le 4 (Crc.more 0 (Wl.headB a c k)) ++ Wl.headB a c k).length = 40 := by rw [List.length_append, Cod.le_length, HHL.out]
      obtain ⟨p6, c6, rfl, -, -, -⟩ := hO6.bts.form
      rw [hl6] at hO6 ⊢
      have HO6 := Lib.hid hO6
      have HN6 := Lib.hid hl6
      have HB6 := Lib.hid ((HB4.out.trans (HB5.out.mono HB4.out.size)).trans (hb6.mono HB4.out.size))
      have HS6 : Hid (w4.heap.size ≤ w6.heap.size) := Nat.le_trans HS5.out hb6.size
      clear hO6 hb6 hl6
      have hwk : IntKind.i64.wrap (128 - 40) = ((88 : Nat) : Int) := by rw [IntWalk.i64_in _ (by decide)]; rfl
      obtain ⟨b7, w7, hrun, hO7, hb7⟩ := run_append_zeros HO6.out (by rw [HN6.out]; decide) 88 (by rw [HN6.out]; decide) HS6.out 36
      rw [show (Cod.le 4 (Crc.more 0 (Wl.headB a c k)) ++ Wl.headB a c k) ++ List.replicate 88 0 = Wl.head a c k from rfl] at hO7
      have HO7 := Lib.hid hO7
      have HB7 := Lib.hid (HB6.out.trans (hb7.mono HB4.out.size))
      have HRUN := Lib.hid hrun
      clear hO7 hb7 hrun
      go_upto_region 5 with (fail)
      iterate 13 go_step
      refine Lib.wpList_append_run _ rfl (.tmp 37) (.tmp 40) _ _ rfl _ _ rfl rfl _ _ HRUN.out ?_
      clear HRUN
      go_wp2_with fail
      go_ret
      refine ⟨_, rfl, HO7.out.from ?_, HB0.out.trans ((HB1.out.trans (HB7.out.mono HB1.out.size)).mono HB0.out.size)⟩
      exact Nat.le_trans (Nat.le_trans HB0.out.size HB1.out.size) HB4.out.size
    
end Go.Proofs.YtafpjcobagofcaaGreat
