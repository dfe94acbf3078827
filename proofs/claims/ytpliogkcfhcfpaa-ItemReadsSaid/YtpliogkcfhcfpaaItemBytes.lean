/- What Bytes answers: why a record may not be, else its form, in new memory. Conditions: the slices' cells hold what they tell. -/
import Derived.Test.YtpliogkcfhcfpaaItemComps
import Derived.Test.YtpliogkcfhcfpaaItemSame
import Derived.Test.YtpliogkcfhcfpaaOrd
namespace Go.Proofs.Ytpliogkcfhcfpaa
open Go.RowKit

theorem comps_flat : ∀ l : List Int, (l.map fun c => Cod.le 4 (Itm.u32 c)).flatten = Itm.comps l
  | [] => rfl
  | c :: r => by rw [List.map_cons, List.flatten_cons, comps_flat r]; rfl

theorem put64_nil (n : Nat) (w : World) :
    Calls Try.prog 21 #[.slice none 0 0, .int .u64 (n : Int)] w fun e w' => ∃ v', e = .returned v' ∧ Own w.heap.size w' v' (Cod.le 8 n) ∧ Below w.heap.size w w' :=
  Put64_any _ [] n w (own_nil 0 w).bts (by decide)
theorem putUv_nil (n : Nat) (w : World) (hn : n < 18446744073709551616) :
    Calls Try.prog 22 #[.slice none 0 0, .int .u64 (n : Int)] w fun e w' => ∃ v', e = .returned v' ∧ Own w.heap.size w' v' (Cod.uv n) ∧ Below w.heap.size w w' :=
  PutUv_any _ [] n w (own_nil 0 w).bts hn (by decide)
theorem putText_nil (s : Value) (t : List Nat) (w : World) (hS : Bts w s t) (ht : t.length ≤ 140737488355000) :
    Calls Try.prog 25 #[.slice none 0 0, s] w fun e w' => ∃ v', e = .returned v' ∧ Own w.heap.size w' v' (Cod.uv t.length ++ t) ∧ Below w.heap.size w w' :=
  PutText_any _ _ [] t w (own_nil 0 w).bts hS (by simp only [List.length_nil]; omega)

/-- What Bytes answers. -/
def BytesAns (w0 : World) (k : Nat) (v : List Int) (m : List Nat) (e : Ending) (w' : World) : Prop :=
  ∃ u, e = .returned (.tuple #[u, .int .i64 (Itm.mayE v.length m.length : Nat)]) ∧ Own w0.heap.size w' u (if Itm.mayE v.length m.length = 0 then Itm.form k v m else []) ∧ Below w0.heap.size w0 w'

/-- A slice of the call's own. -/
def OwnS (B : Nat) (w : World) (x : Value) (l : List Nat) : Prop := (∃ p n c, x = .slice p n c) ∧ Own B w x l
theorem Own.sl {B : Nat} {w : World} {x : Value} {l : List Nat} (h : Own B w x l) : OwnS B w x l := by
  obtain ⟨p, c, hv, -⟩ := h.bts.form
  exact ⟨⟨p, _, c, hv⟩, h⟩
theorem OwnS.below {B : Nat} {w w' : World} {x : Value} {l : List Nat} (h : OwnS B w x l) (hb : Below w.heap.size w w') : OwnS B w' x l := ⟨h.1, h.2.below hb⟩

/-- Four slices laid behind each other are pieces. -/
theorem pcs_four {w : World} {a b c d : Value} {l1 l2 l3 l4 : List Nat} (T : TypeId) (fr : Nat × Nat) (h1 : Bts w a l1) (h2 : Bts w b l2) (h3 : Bts w c l3) (h4 : Bts w d l4) :
    Pcs (w.alloc (.cells #[a, b, c, d] T fr)) (.slice (some ⟨w.heap.size, 0, none⟩) 4 4) [l1, l2, l3, l4] := by
  have hb : Below w.heap.size w (w.alloc (.cells #[a, b, c, d] T fr)) := (Below.refl _ _).alloc (Nat.le_refl _) _
  refine ⟨⟨_, 4, rfl, ⟨by simp, by simp⟩, fun _ => ⟨w.heap.size, 0, rfl, fun i hi => ?_⟩⟩, by simp⟩
  rw [cell_of_row _ _ _ _ _ _ (heap_alloc_last _ _)]
  match i, hi with
  | 0, _ => exact ⟨a, rfl, h1.below hb⟩
  | 1, _ => exact ⟨b, rfl, h2.below hb⟩
  | 2, _ => exact ⟨c, rfl, h3.below hb⟩
  | 3, _ => exact ⟨d, rfl, h4.below hb⟩

theorem form_flat (k : Nat) (v : List Int) (m : List Nat) : [Cod.le 8 k, Cod.uv v.length, Itm.comps v, Cod.uv m.length ++ m].flatten = Itm.form k v m := by
  simp [Itm.form, List.flatten]

/-- What the operations of its last line leave. -/
def Rg5 (B k : Nat) (v : List Int) (m : List Nat) (c1 : Nat) (p1 : Option Addr) (c2 : Nat) (p2 : Option Addr) (vk vd : Value) (i : Nat) (x : Value) (w : World) : Prop :=
  match i with
  | 0 => x = vk
  | 1 => x = vd
  | 2 => x = .pointer (some ⟨B, 1, none⟩)
  | 3 => x = .slice p1 v.length c1
  | 4 => Pcs w x (v.map fun c => Cod.le 4 (Itm.u32 c))
  | 5 => OwnS B w x (Itm.comps v)
  | 6 => x = .pointer (some ⟨B, 2, none⟩)
  | 7 => x = .slice p2 m.length c2
  | 8 => OwnS B w x (Cod.uv m.length ++ m)
  | 9 => Pcs w x [Cod.le 8 k, Cod.uv v.length, Itm.comps v, Cod.uv m.length ++ m]
  | 10 => Own B w x (Itm.form k v m)
  | 11 => Own B w x (Itm.form k v m)
  | _ => x = .int .i64 0

theorem rg5_later {B k : Nat} {v : List Int} {m : List Nat} {c1 : Nat} {p1 : Option Addr} {c2 : Nat} {p2 : Option Addr} {vk vd : Value} (i : Nat) (x : Value) (w w' : World) (hb : Below w.heap.size w w') (h : Rg5 B k v m c1 p1 c2 p2 vk vd i x w) : Rg5 B k v m c1 p1 c2 p2 vk vd i x w' := by
  unfold Rg5 at *
  split at h <;> first | exact h | exact h.below hb

/-- What the operations of its second line leave. -/
def Rg4 (B k : Nat) (v : List Int) (c1 : Nat) (p1 : Option Addr) (i : Nat) (x : Value) (w : World) : Prop :=
  match i with
  | 0 => x = .pointer (some ⟨B, 0, none⟩)
  | 1 => x = .int .u64 (k : Int)
  | 2 => OwnS B w x (Cod.le 8 k)
  | 3 => x = .pointer (some ⟨B, 1, none⟩)
  | 4 => x = .slice p1 v.length c1
  | 5 => x = .int .i64 (v.length : Int)
  | 6 => x = .int .u64 (v.length : Int)
  | 7 => OwnS B w x (Cod.uv v.length)
  | 8 => OwnS B w x (Cod.le 8 k)
  | _ => OwnS B w x (Cod.uv v.length)

theorem rg4_later {B k : Nat} {v : List Int} {c1 : Nat} {p1 : Option Addr} (i : Nat) (x : Value) (w w' : World) (hb : Below w.heap.size w w') (h : Rg4 B k v c1 p1 i x w) : Rg4 B k v c1 p1 i x w' := by
  unfold Rg4 at *
  split at h <;> first | exact h | exact h.below hb

set_option maxHeartbeats 1600000 in
set_option maxRecDepth 20000 in
theorem bytes_any (k : Nat) (vv vm : Value) (v : List Int) (m : List Nat) (w : World) (hI : ItemAt w k vv vm v m) :
    Calls Try.prog 12 #[ItemV k vv vm] w (BytesAns w k v m) := by
  have HI := Lib.hid hI
  obtain ⟨p1, c1, rfl, -, -, -⟩ := hI.vec.form
  obtain ⟨p2, c2, rfl, -, -, -⟩ := hI.bytes.form
  have h1 := hI.vec.len
  have h2 := hI.bytes.len
  clear hI
  by_cases hm : Itm.mayE v.length m.length = 0
  · obtain ⟨n1, n2, n3⟩ := Itm.may_zero hm
    have HM := Lib.hid hm
    have HU1 := Lib.hid (Cod.uv_ten (n := v.length) (by omega))
    have HU2 := Lib.hid (Cod.uv_ten (n := m.length) (by omega))
    clear hm
    go_enter Try.func12, Try.ntmps12
    go_wp2_with fail
    refine (may_any _ _ _ _ _ _ _ _ h1 h2).mono ?_
    rintro e w1 ⟨rfl, hb1⟩
    rw [HM.out]
    go_upto_region 4 with (fail)
    have hc0 := hb1.cell (p := ⟨w.heap.size, 0, none⟩) (by simp)
    have hc1 := hb1.cell (p := ⟨w.heap.size, 1, none⟩) (by simp)
    have hc2 := hb1.cell (p := ⟨w.heap.size, 2, none⟩) (by simp)
    rw [cell_of_row _ w.heap.size _ _ _ _ (heap_alloc_last _ _)] at hc0 hc1 hc2
    have hbs := hb1.size
    rw [show (w.alloc (Obj.cells #[Value.int IntKind.u64 ↑k, Value.slice p1 v.length c1, Value.slice p2 m.length c2] 26)).heap.size = w.heap.size + 1 by simp] at hbs
    have HBW := Lib.hid (((Below.refl w.heap.size w).alloc (Nat.le_refl _) (Obj.cells #[Value.int IntKind.u64 ↑k, Value.slice p1 v.length c1, Value.slice p2 m.length c2] 26)).trans (hb1.mono (by simp)))
    have HI1 := Lib.hid (HI.out.below HBW.out)
    obtain ⟨B, hB⟩ : ∃ B, B = w.heap.size := ⟨_, rfl⟩
    rw [← hB] at hc0 hc1 hc2 hbs HBW ⊢
    have D0 := Lib.hid hc0
    have D1 := Lib.hid hc1
    have D2 := Lib.hid hc2
    have HBB : Hid (B < w1.heap.size) := hbs
    have HBS : Hid (B ≤ w1.heap.size) := Nat.le_of_lt hbs
    have HEB := Lib.hid hB
    have hwr : IntKind.u64.wrap (v.length : Int) = (v.length : Int) := by
      rw [show IntKind.u64.wrap (v.length : Int) = (v.length : Int) % 18446744073709551616 by simp [IntKind.wrap, IntKind.bits, IntKind.signed]]
      omega
    have HWR := Lib.hid hwr
    clear hc0 hc1 hc2 hbs hb1 hB hwr
    refine Ord.walk (Rg4 B k v c1 p1) (fun _ _ w' => Below w1.heap.size w1 w') (fun a b => Below a.heap.size a b)
      (by kernel_rfl) (by kernel_rfl) ?fr ?hfr rg4_later (fun xs => (Below.refl _ _).go1) ?he ?hend
    case hfr =>
      intro xs
      simp only [Ord.fill, Act.put, List.setIfInBounds_toArray, List.set_cons_zero, List.set_cons_succ]
      rfl
    case he =>
      refine Ord.each_cons (fun D xs w2 hD hC hP hR hA K hK => ?_) ?_
      · -- 0
        clear hA
        go_simp
        exact hK _ _ ⟨_, rfl, Below.refl _ _, hR, rfl⟩
      refine Ord.each_cons (fun D xs w2 hD hC hP hR hA K hK => ?_) ?_
      · -- 1
        have q0 := Ord.ahead_get _ hA 0 (by decide)
        simp only [Rg4] at q0
        simp only [q0] at hK
        clear hA
        have c0 := hR.cell (p := ⟨B, 0, none⟩) HBB.out
        rw [D0.out] at c0
        go_simp
        exact hK _ _ ⟨_, rfl, Below.refl _ _, hR, rfl⟩
      refine Ord.each_cons (fun D xs w2 hD hC hP hR hA K hK => ?_) ?_
      · -- 2
        have q1 := Ord.ahead_get _ hA 1 (by decide)
        simp only [Rg4] at q1
        simp only [q1] at hK
        clear hA
        go_simp
        refine (put64_nil k w2).mono ?_
        rintro e w' ⟨u, rfl, hO, hb⟩
        exact hK _ _ ⟨_, rfl, hb, hR.trans (hb.mono hR.size), (hO.from (Nat.le_trans HBS.out hR.size)).sl⟩
      refine Ord.each_cons (fun D xs w2 hD hC hP hR hA K hK => ?_) ?_
      · -- 3
        clear hA
        go_simp
        exact hK _ _ ⟨_, rfl, Below.refl _ _, hR, rfl⟩
      refine Ord.each_cons (fun D xs w2 hD hC hP hR hA K hK => ?_) ?_
      · -- 4
        have q3 := Ord.ahead_get _ hA 3 (by decide)
        simp only [Rg4] at q3
        simp only [q3] at hK
        clear hA
        have c0 := hR.cell (p := ⟨B, 1, none⟩) HBB.out
        rw [D1.out] at c0
        go_simp
        exact hK _ _ ⟨_, rfl, Below.refl _ _, hR, rfl⟩
      refine Ord.each_cons (fun D xs w2 hD hC hP hR hA K hK => ?_) ?_
      · -- 5
        have q4 := Ord.ahead_get _ hA 4 (by decide)
        simp only [Rg4] at q4
        simp only [q4] at hK
        clear hA
        go_simp
        exact hK _ _ ⟨_, rfl, Below.refl _ _, hR, rfl⟩
      refine Ord.each_cons (fun D xs w2 hD hC hP hR hA K hK => ?_) ?_
      · -- 6
        have q5 := Ord.ahead_get _ hA 5 (by decide)
        simp only [Rg4] at q5
        simp only [q5] at hK
        clear hA
        go_simp
        rw [HWR.out]
        exact hK _ _ ⟨_, rfl, Below.refl _ _, hR, rfl⟩
      refine Ord.each_cons (fun D xs w2 hD hC hP hR hA K hK => ?_) ?_
      · -- 7
        have q6 := Ord.ahead_get _ hA 6 (by decide)
        simp only [Rg4] at q6
        simp only [q6] at hK
        clear hA
        go_simp
        refine (putUv_nil v.length w2 (by omega)).mono ?_
        rintro e w' ⟨u, rfl, hO, hb⟩
        exact hK _ _ ⟨_, rfl, hb, hR.trans (hb.mono hR.size), (hO.from (Nat.le_trans HBS.out hR.size)).sl⟩
      refine Ord.each_cons (fun D xs w2 hD hC hP hR hA K hK => ?_) ?_
      · -- 8
        have q2 := Ord.ahead_get _ hA 2 (by decide)
        simp only [Rg4] at q2
        clear hA
        go_simp
        exact hK _ _ ⟨_, rfl, Below.refl _ _, hR, q2⟩
      refine Ord.each_cons (fun D xs w2 hD hC hP hR hA K hK => ?_) ?_
      · -- 9
        have q7 := Ord.ahead_get _ hA 7 (by decide)
        simp only [Rg4] at q7
        clear hA
        go_simp
        exact hK _ _ ⟨_, rfl, Below.refl _ _, hR, q7⟩
      exact Ord.each_nil
    case hend =>
      intro D xs w2 hR hF
      have e0 := (hF 0 (by decide)).2
      have e1 := (hF 1 (by decide)).2
      have e3 := (hF 3 (by decide)).2
      have e4 := (hF 4 (by decide)).2
      have e5 := (hF 5 (by decide)).2
      have e6 := (hF 6 (by decide)).2
      have hK := (hF 8 (by decide)).2
      have hD := (hF 9 (by decide)).2
      simp only [Rg4] at e0 e1 e3 e4 e5 e6 hK hD
      rw [e0, e1, e3, e4, e5, e6]
      clear e0 e1 e3 e4 e5 e6 hF
      generalize xs 2 = x2
      generalize xs 7 = x7
      generalize xs 8 = vk at *
      generalize xs 9 = vd at *
      have HR2 := Lib.hid hR
      obtain ⟨⟨pk, nk, ck, rfl⟩, hK⟩ := hK
      obtain ⟨⟨pd, nd, cd, rfl⟩, hD⟩ := hD
      have HK2 := Lib.hid hK
      have HD2 := Lib.hid hD
      clear hR hK hD
      go_upto_region 5 with (fail)
      refine Ord.walk (Rg5 B k v m c1 p1 c2 p2 (.slice pk nk ck) (.slice pd nd cd)) (fun _ _ w' => Below w2.heap.size w2 w') (fun a b => Below a.heap.size a b)
        (by kernel_rfl) (by kernel_rfl) ?fr5 ?hfr5 rg5_later (fun xs => (Below.refl _ _).go1) ?he5 ?hend5
      case hfr5 =>
        intro xs
        simp only [Ord.fill, Act.put, List.setIfInBounds_toArray, List.set_cons_zero, List.set_cons_succ]
        rfl
      case he5 =>
        refine Ord.each_cons (fun D xs w3 hD hC hP hR hA K hK => ?_) ?_
        · -- 0
          clear hA
          go_simp
          exact hK _ _ ⟨_, rfl, Below.refl _ _, hR, rfl⟩
        refine Ord.each_cons (fun D xs w3 hD hC hP hR hA K hK => ?_) ?_
        · -- 1
          clear hA
          go_simp
          exact hK _ _ ⟨_, rfl, Below.refl _ _, hR, rfl⟩
        refine Ord.each_cons (fun D xs w3 hD hC hP hR hA K hK => ?_) ?_
        · -- 2
          clear hA
          go_simp
          exact hK _ _ ⟨_, rfl, Below.refl _ _, hR, rfl⟩
        refine Ord.each_cons (fun D xs w3 hD hC hP hR hA K hK => ?_) ?_
        · -- 3
          have q2 := Ord.ahead_get _ hA 2 (by decide)
          simp only [Rg5] at q2
          simp only [q2] at hK
          clear hA
          have c0 := (HR2.out.trans (hR.mono HR2.out.size)).cell (p := ⟨B, 1, none⟩) HBB.out
          rw [D1.out] at c0
          go_simp
          exact hK _ _ ⟨_, rfl, Below.refl _ _, hR, rfl⟩
        refine Ord.each_cons (fun D xs w3 hD hC hP hR hA K hK => ?_) ?_
        · -- 4
          have q3 := Ord.ahead_get _ hA 3 (by decide)
          simp only [Rg5] at q3
          simp only [q3] at hK
          clear hA
          go_simp
          refine (components_any _ v w3 ((HI1.out.below (HR2.out.trans (hR.mono HR2.out.size))).vec) (by omega)).mono ?_
          rintro e w' ⟨u, rfl, hP, hb⟩
          exact hK _ _ ⟨_, rfl, hb, hR.trans (hb.mono hR.size), hP⟩
        refine Ord.each_cons (fun D xs w3 hD hC hP hR hA K hK => ?_) ?_
        · -- 5
          have q4 := Ord.ahead_get _ hA 4 (by decide)
          simp only [Rg5] at q4
          clear hA
          go_simp
          refine (join_any _ _ w3 q4 (by rw [comps_flat, Itm.comps_length]; omega)).mono ?_
          rintro e w' ⟨u, rfl, hO, hb⟩
          rw [comps_flat] at hO
          exact hK _ _ ⟨_, rfl, hb, hR.trans (hb.mono hR.size), (hO.from (Nat.le_trans (Nat.le_trans HBS.out HR2.out.size) hR.size)).sl⟩
        refine Ord.each_cons (fun D xs w3 hD hC hP hR hA K hK => ?_) ?_
        · -- 6
          clear hA
          go_simp
          exact hK _ _ ⟨_, rfl, Below.refl _ _, hR, rfl⟩
        refine Ord.each_cons (fun D xs w3 hD hC hP hR hA K hK => ?_) ?_
        · -- 7
          have q6 := Ord.ahead_get _ hA 6 (by decide)
          simp only [Rg5] at q6
          simp only [q6] at hK
          clear hA
          have c0 := (HR2.out.trans (hR.mono HR2.out.size)).cell (p := ⟨B, 2, none⟩) HBB.out
          rw [D2.out] at c0
          go_simp
          exact hK _ _ ⟨_, rfl, Below.refl _ _, hR, rfl⟩
        refine Ord.each_cons (fun D xs w3 hD hC hP hR hA K hK => ?_) ?_
        · -- 8
          have q7 := Ord.ahead_get _ hA 7 (by decide)
          simp only [Rg5] at q7
          simp only [q7] at hK
          clear hA
          go_simp
          refine (putText_nil _ m w3 ((HI1.out.below (HR2.out.trans (hR.mono HR2.out.size))).bytes) (by omega)).mono ?_
          rintro e w' ⟨u, rfl, hO, hb⟩
          exact hK _ _ ⟨_, rfl, hb, hR.trans (hb.mono hR.size), (hO.from (Nat.le_trans (Nat.le_trans HBS.out HR2.out.size) hR.size)).sl⟩
        refine Ord.each_cons (fun D xs w3 hD hC hP hR hA K hK => ?_) ?_
        · -- 9
          have q0 := Ord.ahead_get _ hA 0 (by decide)
          simp only [Rg5] at q0
          have q1 := Ord.ahead_get _ hA 1 (by decide)
          simp only [Rg5] at q1
          have q5 := Ord.ahead_get _ hA 5 (by decide)
          simp only [Rg5] at q5
          obtain ⟨⟨p5, n5, c5, e5⟩, q5⟩ := q5
          have q8 := Ord.ahead_get _ hA 8 (by decide)
          simp only [Rg5] at q8
          obtain ⟨⟨p8, n8, c8, e8⟩, q8⟩ := q8
          simp only [q0, q1] at hK
          clear hA
          simp only [e5, e8] at hK q5 q8
          go_simp
          exact hK _ _ ⟨_, rfl, (Below.refl _ _).alloc (Nat.le_refl _) _, hR.alloc hR.size _, pcs_four _ _ (HK2.out.bts.below hR) (HD2.out.bts.below hR) q5.bts q8.bts⟩
        refine Ord.each_cons (fun D xs w3 hD hC hP hR hA K hK => ?_) ?_
        · -- 10
          have q9 := Ord.ahead_get _ hA 9 (by decide)
          simp only [Rg5] at q9
          clear hA
          go_simp
          refine (join_any _ _ w3 q9 (by rw [form_flat, Itm.form_length]; have := HU1.out; have := HU2.out; omega)).mono ?_
          rintro e w' ⟨u, rfl, hO, hb⟩
          rw [form_flat] at hO
          exact hK _ _ ⟨_, rfl, hb, hR.trans (hb.mono hR.size), hO.from (Nat.le_trans (Nat.le_trans HBS.out HR2.out.size) hR.size)⟩
        refine Ord.each_cons (fun D xs w3 hD hC hP hR hA K hK => ?_) ?_
        · -- 11
          have q10 := Ord.ahead_get _ hA 10 (by decide)
          simp only [Rg5] at q10
          clear hA
          go_simp
          exact hK _ _ ⟨_, rfl, Below.refl _ _, hR, q10⟩
        refine Ord.each_cons (fun D xs w3 hD hC hP hR hA K hK => ?_) ?_
        · -- 12
          clear hA
          go_simp
          exact hK _ _ ⟨_, rfl, Below.refl _ _, hR, rfl⟩
        exact Ord.each_nil
      case hend5 =>
        intro D xs w3 hR hF
        have e12 := (hF 12 (by decide)).2
        have hO := (hF 11 (by decide)).2
        simp only [Rg5] at e12 hO
        rw [e12]
        generalize xs 11 = u at *
        generalize hz : xs 0 = z0
        generalize hz : xs 1 = z1
        generalize hz : xs 2 = z2
        generalize hz : xs 3 = z3
        generalize hz : xs 4 = z4
        generalize hz : xs 5 = z5
        generalize hz : xs 6 = z6
        generalize hz : xs 7 = z7
        generalize hz : xs 8 = z8
        generalize hz : xs 9 = z9
        generalize hz : xs 10 = z10
        have HO := Lib.hid hO
        have HW := Lib.hid (HBW.out.trans ((HR2.out.trans (hR.mono HR2.out.size)).mono HBS.out))
        clear hO hR hF e12
        go_wp2_with fail
        refine bodyPost_ret (v := .tuple #[u, .int .i64 0]) (by simp [results, Try.results12, go_sem]) rfl ⟨u, by rw [HM.out]; rfl, ?_, ?_⟩
        · rw [if_pos HM.out, ← HEB.out]; exact HO.out
        · rw [← HEB.out]; exact HW.out
  · have hi : (if Itm.mayE v.length m.length = 0 then Itm.form k v m else []) = [] := if_neg hm
    have HIF := Lib.hid hi
    obtain ⟨e, he⟩ : ∃ e, Itm.mayE v.length m.length = e := ⟨_, rfl⟩
    rw [he] at hm
    have HE := Lib.hid he
    have hne : ((e : Nat) : Int) ≠ 0 := by omega
    have hne2 : ((e : Int) != 0) = true := by simp; omega
    have hne3 : ((e : Int) == 0) = false := by simp; omega
    clear hm hi he
    go_enter Try.func12, Try.ntmps12
    go_wp2_with fail
    refine (may_any _ _ _ _ _ _ _ _ h1 h2).mono ?_
    rintro en w1 ⟨rfl, hb1⟩
    have HBW := Lib.hid (((Below.refl w.heap.size w).alloc (Nat.le_refl _) (Obj.cells #[Value.int IntKind.u64 ↑k, Value.slice p1 v.length c1, Value.slice p2 m.length c2] 26)).trans (hb1.mono (by simp)))
    clear hb1
    rw [HE.out]
    go_wp2_with fail
    refine bodyPost_ret (v := .tuple #[.slice none 0 0, .int .i64 (e : Nat)]) (by simp [results, Try.results12, go_sem]) rfl ⟨_, by rw [HE.out], ?_, HBW.out⟩
    rw [HIF.out]
    exact own_nil _ _
end Go.Proofs.Ytpliogkcfhcfpaa
