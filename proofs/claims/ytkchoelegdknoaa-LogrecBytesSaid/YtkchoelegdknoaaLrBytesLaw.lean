/- What the law LogrecBytes answers, for every record. Conditions: the value reads as a record. -/
import Derived.Test.YtkchoelegdknoaaLrCopy
import Derived.Test.YtkchoelegdknoaaLrMayR
import Derived.Test.YtkchoelegdknoaaLrForm9
namespace Go.Proofs.Ytkchoelegdknoaa
open Go.RowKit

theorem bump_facts {base : Nat} {wr : World} {g4 k4 L i : Nat} {c : List Nat} (hcl : c.length = L) (hM : L ≤ 1600) (hO : Own base wr (.slice (some ⟨g4, 0, none⟩) L k4) c) (hlt : i < L) :
    wr.cell? ⟨g4, i, none⟩ = some (.int .u8 (c.getD i 0 : Nat)) ∧ wr.frozen? ⟨g4, i, none⟩ = false ∧ (i : Int) < (L : Int) ∧ (0 : Int) ≤ (i : Int) ∧ IntKind.i64.wrap ((i : Int) + 1) = (i : Int) + 1 ∧ IntKind.u8.wrap ((c.getD i 0 : Nat) + 1 : Int) = (((c.getD i 0 + 1) % 256 : Nat) : Int) ∧ c.getD i 0 < 256 := by
  have h := hO.own
  rw [hcl] at h
  obtain ⟨-, -, -, -, hcells⟩ := owns_cells h
  refine ⟨hcells i (by omega), World.ownsRow.frozenAt h i, by omega, by omega, IntWalk.i64_in _ (by omega), by rw [IntKind.wrap_u8]; omega, ?_⟩
  rw [List.getD_eq_getElem?_getD, List.getElem?_eq_getElem (by omega)]
  exact hO.small _ (List.getElem_mem _)
theorem bound_int {L : Nat} (h : L ≤ 1600) : ¬ (1600 : Int) < (L : Int) := by omega
theorem bump_own {base : Nat} {wr : World} {g4 k4 L : Nat} {c : List Nat} (hcl : c.length = L) (hO : Own base wr (.slice (some ⟨g4, 0, none⟩) L k4) c) (i : Nat) {b : Nat} (hb : b < 256) : Own base (wr.setCell ⟨g4, i, none⟩ (.int .u8 (b : Int))) (.slice (some ⟨g4, 0, none⟩) L k4) (c.set i b) := by
  obtain ⟨h1, -⟩ := World.ownsRow.stored (show wr.ownsRow base 5 1 (.slice (some ⟨g4, 0, none⟩) L k4) L (bytesV c) by have h := hO.own; rw [hcl] at h; exact h) i (.int .u8 (b : Int))
  refine ⟨?_, fun x hx => ?_, by rw [List.length_set]; exact hO.len⟩
  · rw [List.length_set, hcl, show bytesV (c.set i b) = (bytesV c).set i (.int .u8 (b : Int)) from List.map_set]
    exact h1
  · rcases List.mem_or_eq_of_mem_set hx with hx | rfl
    · exact hO.small x hx
    · exact hb
def LbF (iv : Value) (xv : Value) (b : Bool) (i : Nat) (v : Value) (_ : World) : Prop :=
  match i with
  | 0 => v = iv
  | 1 => v = .bool b
  | 2 => v = xv
  | 3 => v = .bool b
  | 4 => v = .bool false
  | _ => True
def LbP  (i : Nat) (_w : World) (_v : Value) : Prop :=
  match i with
  | _ => True
def LbT (i : Nat) : Option Nat :=
  match i with
  | _ => none
theorem LbS  : ∀ k w w' v, LbP  k w v → Below w.heap.size w w' → LbP  k w' v := by
  intro k w w' v _ _
  unfold LbP
  split
  · trivial
def LcF (xv : Value) (yv : Value) (bv : Value) (L : Nat) (S : ByteArray) (i : Nat) (v : Value) (_ : World) : Prop :=
  match i with
  | 0 => v = .int .i64 0
  | 1 => v = .bool false
  | 2 => v = .bool false
  | 3 => v = .int .i64 0
  | 4 => v = .bool false
  | 5 => v = .bool false
  | 6 => v = .bool false
  | 7 => v = .int .i64 (L : Int)
  | 8 => v = bv
  | 9 => v = .int .i64 (L : Int)
  | 10 => v = .bool false
  | 11 => v = .bool false
  | 12 => v = .bool false
  | 13 => v = .int .i64 (L : Int)
  | 14 => v = .int .i64 (L : Int)
  | 15 => v = .bool false
  | 16 => v = .bool false
  | 17 => v = .bool false
  | 18 => v = .int .i64 (L : Int)
  | 19 => v = .bool false
  | 20 => v = .bool false
  | 21 => v = .bool false
  | 22 => v = bv
  | 23 => v = .string S
  | 24 => v = xv
  | 26 => v = .string S
  | 27 => v = .bool false
  | 28 => v = .bool false
  | 29 => v = .bool false
  | 30 => v = xv
  | 31 => v = yv
  | 32 => v = .bool true
  | 33 => v = .bool false
  | 34 => v = .bool false
  | _ => True
def LcP (base : Nat) (fm : List Nat) (i : Nat) (w : World) (v : Value) : Prop :=
  match i with
  | 25 => Own base w v fm
  | _ => True
def LcT (i : Nat) : Option Nat :=
  match i with
  | _ => none
theorem LcS (base : Nat) (fm : List Nat) : ∀ k w w' v, LcP base fm k w v → Below w.heap.size w w' → LcP base fm k w' v := by
  intro k w w' v h hb
  unfold LcP at *
  split
  · exact h.below hb
  · trivial

set_option maxHeartbeats 6400000 in
set_option maxRecDepth 20000 in
theorem logrecBytes_any (x : Lr.R) (o n u c d : Value) (w : World) (h : RecAt w x o n u c d) :
    Calls Try.prog 3 #[RecV x o n u c d] w fun e w' => e = .returned (.bool true) ∧ Below w.heap.size w w' := by
  obtain ⟨W, hW⟩ : ∃ W, W = w.alloc (robj x o n u c d) := ⟨_, rfl⟩
  have hb := below_new1 w (robj x o n u c d)
  have hr := rblk w x o n u c d
  rw [← hW] at hb hr
  have HB := Lib.hid hb
  have HA := Lib.hid (h.below hb)
  obtain ⟨p1, p1c, p2, p2c, p3, p3c, p4, p4c, p5, p5c, rfl, rfl, rfl, rfl, rfl⟩ := rec_slices h
  clear h hb
  unfold robj at hW
  obtain ⟨la, hla⟩ : ∃ la, Lr.large x = la := ⟨_, rfl⟩
  have HLA := Lib.hid hla
  clear hla
  obtain ⟨P, hP⟩ : ∃ P, P = w.heap.size := ⟨_, rfl⟩
  rw [← hP] at hr
  have HROW := Lib.hid hr
  clear hr
  go_enter Try.func3, Try.ntmps3
  go_upto_region 1 with (fail)
  rw [← hW, ← hP]
  clear hW hP
  go_step
  refine wpList_load_rec rfl (.tmp 1) rfl P rfl _ HROW.out rfl ?_
  go_wp2_with fail
  refine (large_any x _ _ _ _ _ W HA.out).mono ?_
  rintro e w1 ⟨rfl, hb1⟩
  rw [HLA.out]
  have HB1 := Lib.hid (HB.out.trans (hb1.mono HB.out.size))
  have HA1 := Lib.hid (HA.out.below hb1)
  have HROW1 := Lib.hid ((hb1.block _ (lt_of_block HROW.out)).trans HROW.out)
  clear hb1
  cases la
  case true =>
    go_wp2_with fail
    refine (known_any _).mono ?_
    rintro e w' ⟨rfl, hb⟩
    have hb9 := HB1.out.trans (hb.mono HB1.out.size)
    clear hb
    go_wp2_with fail
    go_ret
    exact ⟨rfl, hb9⟩
  have HF := Lib.hid (Lr.few_of HLA.out)
  go_upto_region 3 with (fail)
  go_step
  refine wpList_load_rec rfl (.tmp 1) rfl P rfl _ HROW1.out rfl ?_
  go_wp2_with fail
  refine (refCopy_any x _ _ _ _ _ w1 HA1.out HF.out).mono ?_
  rintro e w2 ⟨oi, ni, ui, ci, di, rfl, hO2, hb2⟩
  obtain ⟨i1, i1c, i2, i2c, i3, i3c, i4, i4c, i5, i5c, rfl, rfl, rfl, rfl, rfl⟩ := rec_slices hO2.at
  have HI2 := Lib.hid hO2.at
  have HB2 := Lib.hid (HB1.out.trans (hb2.mono HB1.out.size))
  have HX2 := Lib.hid (HA1.out.below hb2)
  have HRX2 := Lib.hid ((hb2.block _ (lt_of_block HROW1.out)).trans HROW1.out)
  clear hO2 hb2
  go_upto_region 4 with (fail)
  obtain ⟨wb, hY⟩ : ∃ Y, Y = w2.alloc (.cells #[.int .i64 x.kind, .int .u64 (x.lsn : Int), .int .u32 (x.epoch : Int), .int .u64 (x.txn : Int), .int .u32 (x.page : Int), .int .u16 (x.off : Int), .slice i1 x.old.length i1c, .slice i2 x.new.length i2c, .slice i3 x.undo.length i3c, .int .u64 (x.prev : Int), .int .u64 (x.next : Int), .bool x.clr, .int .u64 (x.stamp : Int), .slice i4 x.opn.length i4c, .slice i5 x.dirt.length i5c] 30) := ⟨_, rfl⟩
  have hbY : Below w2.heap.size w2 wb := by rw [hY]; exact below_new1 _ _
  have hrY : wb.heap[w2.heap.size]? = some (.cells #[.int .i64 x.kind, .int .u64 (x.lsn : Int), .int .u32 (x.epoch : Int), .int .u64 (x.txn : Int), .int .u32 (x.page : Int), .int .u16 (x.off : Int), .slice i1 x.old.length i1c, .slice i2 x.new.length i2c, .slice i3 x.undo.length i3c, .int .u64 (x.prev : Int), .int .u64 (x.next : Int), .bool x.clr, .int .u64 (x.stamp : Int), .slice i4 x.opn.length i4c, .slice i5 x.dirt.length i5c] 30 (0, 0)) := by rw [hY]; exact heap_alloc_last _ _
  rw [← hY]
  obtain ⟨y3, hy⟩ : ∃ y, y = w2.heap.size := ⟨_, rfl⟩
  rw [← hy] at hrY ⊢
  have HRIb := Lib.hid hrY
  have HIb := Lib.hid (HI2.out.below hbY)
  have HXb := Lib.hid (HX2.out.below hbY)
  have HBb := Lib.hid (HB2.out.trans (hbY.mono HB2.out.size))
  have HRXb := Lib.hid ((hbY.block _ (lt_of_block HRX2.out)).trans HRX2.out)
  clear hY hbY hrY hy
  go_step
  refine wpList_load_rec rfl (.tmp 3) rfl y3 rfl _ HRIb.out rfl ?_
  go_wp2_with fail
  have hc := bytes_any x _ _ _ _ _ wb HIb.out HF.out
  obtain ⟨ee, hee⟩ : ∃ ee : Nat, Lr.ifP (Lr.May x) 0 2 = ee := ⟨_, rfl⟩
  obtain ⟨FF, hFF⟩ : ∃ FF : List Nat, Lr.ifP (Lr.May x) (Lr.form x) [] = FF := ⟨_, rfl⟩
  rw [hee, hFF] at hc
  refine hc.mono ?_
  rintro e w4 ⟨v4, rfl, hO4, hb4⟩
  clear hc
  obtain ⟨q4, k4, rfl⟩ := hO4.bts.slice
  obtain ⟨L, hL⟩ : ∃ L, L = FF.length := ⟨_, rfl⟩
  rw [← hL] at hO4 ⊢
  have HEE := Lib.hid hee
  have HFF := Lib.hid hFF
  have HLL := Lib.hid hL
  have HO4 := Lib.hid hO4
  have HK4 := Lib.hid hb4
  have HRI4 := Lib.hid ((hb4.block _ (lt_of_block HRIb.out)).trans HRIb.out)
  clear hO4 hb4 hee hFF hL
  go_upto_region 5 with (fail)
  go_step
  refine wpList_load_rec rfl (.tmp 3) rfl y3 rfl _ HRI4.out rfl ?_
  go_wp2_with fail
  have hc := size_any x _ _ _ _ _ w4 (HIb.out.below HK4.out) HF.out
  obtain ⟨nn, hnn⟩ : ∃ nn : Nat, Lr.ifP (Lr.May x) (Lr.form x).length 0 = nn := ⟨_, rfl⟩
  rw [hnn] at hc
  refine hc.mono ?_
  rintro e w5 ⟨rfl, hb5⟩
  clear hc
  have HNN := Lib.hid hnn
  have HK5 := Lib.hid (HK4.out.trans (hb5.mono HK4.out.size))
  have HO5 := Lib.hid (HO4.out.below hb5)
  clear hb5 hnn
  go_upto_region 6 with (fail)
  obtain ⟨W6, hW6⟩ : ∃ W, W = w5 := ⟨_, rfl⟩
  rw [← hW6] at HK5 HO5 ⊢
  clear hW6
  obtain ⟨mb, hmb⟩ : ∃ mb, Lr.may x = mb := ⟨_, rfl⟩
  have HMB := Lib.hid hmb
  clear hmb
  have HI6 := Lib.hid (HIb.out.below HK5.out)
  have HX6 := Lib.hid (HXb.out.below HK5.out)
  have HROWI6 := Lib.hid ((HK5.out.block _ (lt_of_block HRIb.out)).trans HRIb.out)
  have HROWX6 := Lib.hid ((HK5.out.block _ (lt_of_block HRXb.out)).trans HRXb.out)
  have HLI6 : Hid (y3 < W6.heap.size) := lt_of_block HROWI6.out
  have HLX6 : Hid (P < W6.heap.size) := lt_of_block HROWX6.out
  refine Ord.walk (LbF (RecV x (.slice i1 x.old.length i1c) (.slice i2 x.new.length i2c) (.slice i3 x.undo.length i3c) (.slice i4 x.opn.length i4c) (.slice i5 x.dirt.length i5c)) (RecV x (.slice p1 x.old.length p1c) (.slice p2 x.new.length p2c) (.slice p3 x.undo.length p3c) (.slice p4 x.opn.length p4c) (.slice p5 x.dirt.length p5c)) mb) (KeptR W6.heap.size W6 (LbP ) LbT) (fun _ _ => True)
    (by kernel_rfl) (by kernel_rfl) ?fr6 ?hfr6 (fun _ _ _ _ _ h => h) (fun xs => KeptR.first xs (Nat.le_refl _)) ?he6 ?hend6
  case hfr6 =>
    intro xs
    simp only [Ord.fill, Act.put, List.setIfInBounds_toArray, List.set_cons_zero, List.set_cons_succ]
    rfl
  case he6 =>
    refine Ord.each_cons (fun D xs w2 hD hC hP hR hA K hK => ?_) ?_
    · -- 0
      clear hA
      as_aux_lemma =>
        have hrow := (hR.below.block _ HLI6.out).trans HROWI6.out
        obtain ⟨e0, e1, e2, e3, e4, e5, e6, e7, e8, e9, e10, e11, e12, e13, e14⟩ := rec_cell hrow
        clear hrow
        go_simp
        exact hK _ _ ⟨_, rfl, trivial, hR.step 0 _ (LbS ) (Below.refl _ _) trivial, rfl⟩
    refine Ord.each_cons (fun D xs w2 hD hC hP hR hA K hK => ?_) ?_
    · -- 1
      have q0 := Ord.ahead_get _ hA 0 (by decide)
      simp only [LbF] at q0
      simp only [q0] at hK
      clear hA
      as_aux_lemma =>
        have hc := may_any x _ _ _ _ _ w2 (HI6.out.below hR.below) HF.out
        rw [HMB.out] at hc
        go_simp
        refine hc.mono ?_
        rintro e w' ⟨rfl, hb⟩
        exact hK _ _ ⟨_, rfl, trivial, hR.step 1 _ (LbS ) hb trivial, rfl⟩
    refine Ord.each_cons (fun D xs w2 hD hC hP hR hA K hK => ?_) ?_
    · -- 2
      clear hA
      as_aux_lemma =>
        have hrow := (hR.below.block _ HLX6.out).trans HROWX6.out
        obtain ⟨e0, e1, e2, e3, e4, e5, e6, e7, e8, e9, e10, e11, e12, e13, e14⟩ := rec_cell hrow
        clear hrow
        go_simp
        exact hK _ _ ⟨_, rfl, trivial, hR.step 2 _ (LbS ) (Below.refl _ _) trivial, rfl⟩
    refine Ord.each_cons (fun D xs w2 hD hC hP hR hA K hK => ?_) ?_
    · -- 3
      have q2 := Ord.ahead_get _ hA 2 (by decide)
      simp only [LbF] at q2
      simp only [q2] at hK
      clear hA
      as_aux_lemma =>
        have hc := refMay_any x _ _ _ _ _ w2 (HX6.out.below hR.below) HF.out
        rw [HMB.out] at hc
        go_simp
        refine hc.mono ?_
        rintro e w' ⟨rfl, hb⟩
        exact hK _ _ ⟨_, rfl, trivial, hR.step 3 _ (LbS ) hb trivial, rfl⟩
    refine Ord.each_cons (fun D xs w2 hD hC hP hR hA K hK => ?_) ?_
    · -- 4
      have q1 := Ord.ahead_get _ hA 1 (by decide)
      simp only [LbF] at q1
      have q3 := Ord.ahead_get _ hA 3 (by decide)
      simp only [LbF] at q3
      simp only [q1, q3] at hK
      clear hA
      as_aux_lemma =>
        go_simp
        exact hK _ _ ⟨_, rfl, trivial, hR.step 4 _ (LbS ) (Below.refl _ _) trivial, rfl⟩
    exact Ord.each_nil
  case hend6 =>
    intro D xs w9 hR hall
    have h8 := (hall 4 (by decide)).2
    simp only [LbF] at h8
    have HK7 := Lib.hid (HK5.out.trans (hR.below.mono HK5.out.size))
    have HO7 := Lib.hid (HO5.out.below hR.below)
    clear hR hall
    simp only [h8]
    clear h8
    generalize xs 3 = z3 at *
    generalize xs 2 = z2 at *
    generalize xs 1 = z1 at *
    generalize xs 0 = z0 at *
    go_upto_region 8 with (fail)
    go_step
    have HRX7 := Lib.hid ((HK7.out.block _ (lt_of_block HRXb.out)).trans HRXb.out)
    refine wpList_load_rec rfl (.tmp 1) rfl P rfl _ HRX7.out rfl ?_
    go_wp2_with fail
    refine (refMay_any x _ _ _ _ _ w9 (HXb.out.below HK7.out) HF.out).mono ?_
    rintro e wa ⟨rfl, hba⟩
    have HKa := Lib.hid (HK7.out.trans (hba.mono HK7.out.size))
    have HOa := Lib.hid (HO7.out.below hba)
    clear hba
    by_cases hM : Lr.May x
    case neg =>
      rw [Lr.may_false hM]
      obtain rfl : 2 = ee := by rw [← HEE.out, Lr.ifP_neg hM]
      obtain rfl : [] = FF := by rw [← HFF.out, Lr.ifP_neg hM]
      obtain rfl : 0 = nn := by rw [← HNN.out, Lr.ifP_neg hM]
      obtain rfl : L = 0 := HLL.out
      rw [show ((2 : Nat) : Int) = 2 from rfl, show ((0 : Nat) : Int) = 0 from rfl]
      have hri := (HKa.out.block _ (lt_of_block HRIb.out)).trans HRIb.out
      have hrx := (HKa.out.block _ (lt_of_block HRXb.out)).trans HRXb.out
      obtain ⟨e0, e1, e2, e3, e4, e5, e6, e7, e8, e9, e10, e11, e12, e13, e14⟩ := rec_cell hri
      obtain ⟨d0, d1, d2, d3, d4, d5, d6, d7, d8, d9, d10, d11, d12, d13, d14⟩ := rec_cell hrx
      clear hri hrx
      go_wp2_with fail
      have hc := refSame_any x x _ _ _ _ _ _ _ _ _ _ wa (HIb.out.below HKa.out) (HXb.out.below HKa.out) ⟨Nat.le_trans HF.out.opn (by decide), Nat.le_trans HF.out.dirt (by decide)⟩
      rw [Lr.same_true rfl] at hc
      refine hc.mono ?_
      rintro e wc ⟨rfl, hbc⟩
      clear hc e0 e1 e2 e3 e4 e5 e6 e7 e8 e9 e10 e11 e12 e13 e14 d0 d1 d2 d3 d4 d5 d6 d7 d8 d9 d10 d11 d12 d13 d14
      have HKc := Lib.hid (HKa.out.trans (hbc.mono HKa.out.size))
      clear hbc
      go_wp2_with fail
      refine (known_any _).mono ?_
      rintro e w' ⟨rfl, hb⟩
      have hb9 := HBb.out.trans ((HKc.out.trans (hb.mono HKc.out.size)).mono HBb.out.size)
      clear hb
      go_wp2_with fail
      go_ret
      exact ⟨rfl, hb9⟩
    rw [Lr.may_true hM]
    obtain rfl : 0 = ee := by rw [← HEE.out, Lr.ifP_pos hM]
    obtain rfl : Lr.form x = FF := by rw [← HFF.out, Lr.ifP_pos hM]
    obtain rfl : (Lr.form x).length = nn := by rw [← HNN.out, Lr.ifP_pos hM]
    rw [← HLL.out]
    have HM := Lib.hid hM
    have HLM := Lib.hid (show L ≤ 1600 by rw [HLL.out]; exact Lr.form_most hM.1)
    have HL0 := Lib.hid (show 0 < L by rw [HLL.out, Lr.form_length]; exact Nat.lt_of_lt_of_le (by decide) (Nat.le_add_right 19 _))
    have HOKX := Lib.hid HXb.out.ok
    clear hM
    go_wp2_with fail
    have hc := read_any _ (Lr.form x) wa HOa.out.bts (Nat.le_trans (by rw [← HLL.out]; exact HLM.out) (by decide))
    rw [Lr.readR_of (y := x) ⟨HM.out, HOKX.out, [], (List.append_nil _).symm⟩, ← HLL.out, show ((0 : Nat) : Int) = 0 from rfl] at hc
    refine hc.mono ?_
    rintro e wc ⟨oy, ny, uy, cy, dy, rfl, hOc, hbc⟩
    clear hc
    obtain ⟨y1, y1c, y2, y2c, y3, y3c, y4, y4c, y5, y5c, rfl, rfl, rfl, rfl, rfl⟩ := rec_slices hOc.at
    have HYc := Lib.hid hOc
    have HKc := Lib.hid (HKa.out.trans (hbc.mono HKa.out.size))
    have HOc := Lib.hid (HOa.out.below hbc)
    have HSZ := Lib.hid hbc.size
    clear hOc hbc
    go_upto_region 11 with (fail)
    obtain ⟨W7, hY⟩ : ∃ Y, Y = wc.alloc (.cells #[.int .i64 x.kind, .int .u64 (x.lsn : Int), .int .u32 (x.epoch : Int), .int .u64 (x.txn : Int), .int .u32 (x.page : Int), .int .u16 (x.off : Int), .slice y1 x.old.length y1c, .slice y2 x.new.length y2c, .slice y3 x.undo.length y3c, .int .u64 (x.prev : Int), .int .u64 (x.next : Int), .bool x.clr, .int .u64 (x.stamp : Int), .slice y4 x.opn.length y4c, .slice y5 x.dirt.length y5c] 30) := ⟨_, rfl⟩
    have hbY : Below wc.heap.size wc W7 := by rw [hY]; exact below_new1 _ _
    have hrY : W7.heap[wc.heap.size]? = some (.cells #[.int .i64 x.kind, .int .u64 (x.lsn : Int), .int .u32 (x.epoch : Int), .int .u64 (x.txn : Int), .int .u32 (x.page : Int), .int .u16 (x.off : Int), .slice y1 x.old.length y1c, .slice y2 x.new.length y2c, .slice y3 x.undo.length y3c, .int .u64 (x.prev : Int), .int .u64 (x.next : Int), .bool x.clr, .int .u64 (x.stamp : Int), .slice y4 x.opn.length y4c, .slice y5 x.dirt.length y5c] 30 (0, 0)) := by rw [hY]; exact heap_alloc_last _ _
    rw [← hY]
    obtain ⟨y7, hy⟩ : ∃ y, y = wc.heap.size := ⟨_, rfl⟩
    rw [← hy] at hrY ⊢
    have HROWY7 := Lib.hid hrY
    have HYY7 := Lib.hid (HYc.out.below hbY)
    have HY7 := Lib.hid HYY7.out.at
    have HK8 := Lib.hid (HKc.out.trans (hbY.mono HKc.out.size))
    have HO8 := Lib.hid (HOc.out.below hbY)
    have HY7S : Hid (wa.heap.size ≤ y7) := by rw [hy]; exact HSZ.out
    clear hY hbY hrY hy
    have HX7 := Lib.hid (HXb.out.below HK8.out)
    have HROWX7 := Lib.hid ((HK8.out.block _ (lt_of_block HRXb.out)).trans HRXb.out)
    have HLX7 : Hid (P < W7.heap.size) := lt_of_block HROWX7.out
    have HLY7 : Hid (y7 < W7.heap.size) := lt_of_block HROWY7.out
    obtain ⟨S, hS⟩ : ∃ S, S = strOfNums ((Lr.form x).map fun x : Nat => (x : Int)) := ⟨_, rfl⟩
    have HSF := Lib.hid hS
    have HSB : Hid (∀ W', Below W7.heap.size W7 W' → (convert 26 9 (.slice q4 L k4)).run Try.prog W' = .ok (.string S) W') := fun W' h => by rw [hS]; exact strOf_conv (HO8.out.bts.below h)
    clear hS
    refine Ord.walk (LcF (RecV x (.slice p1 x.old.length p1c) (.slice p2 x.new.length p2c) (.slice p3 x.undo.length p3c) (.slice p4 x.opn.length p4c) (.slice p5 x.dirt.length p5c)) (RecV x (.slice y1 x.old.length y1c) (.slice y2 x.new.length y2c) (.slice y3 x.undo.length y3c) (.slice y4 x.opn.length y4c) (.slice y5 x.dirt.length y5c)) (.slice q4 L k4) L S) (KeptR W7.heap.size W7 (LcP W7.heap.size (Lr.form x)) LcT) (fun _ _ => True)
      (by kernel_rfl) (by kernel_rfl) ?fr7 ?hfr7 (fun _ _ _ _ _ h => h) (fun xs => KeptR.first xs (Nat.le_refl _)) ?he7 ?hend7
    case hfr7 =>
      intro xs
      simp only [Ord.fill, Act.put, List.setIfInBounds_toArray, List.set_cons_zero, List.set_cons_succ]
      rfl
    case he7 =>
      refine Ord.each_cons (fun D xs w2 hD hC hP hR hA K hK => ?_) ?_
      · -- 0
        clear hA
        as_aux_lemma =>
          go_simp
          exact hK _ _ ⟨_, rfl, trivial, hR.step 0 _ (LcS W7.heap.size (Lr.form x)) (Below.refl _ _) trivial, rfl⟩
      refine Ord.each_cons (fun D xs w2 hD hC hP hR hA K hK => ?_) ?_
      · -- 1
        have q0 := Ord.ahead_get _ hA 0 (by decide)
        simp only [LcF] at q0
        simp only [q0] at hK
        clear hA
        as_aux_lemma =>
          go_simp
          exact hK _ _ ⟨_, rfl, trivial, hR.step 1 _ (LcS W7.heap.size (Lr.form x)) (Below.refl _ _) trivial, rfl⟩
      refine Ord.each_cons (fun D xs w2 hD hC hP hR hA K hK => ?_) ?_
      · -- 2
        have q1 := Ord.ahead_get _ hA 1 (by decide)
        simp only [LcF] at q1
        simp only [q1] at hK
        clear hA
        as_aux_lemma =>
          go_simp
          exact hK _ _ ⟨_, rfl, trivial, hR.step 2 _ (LcS W7.heap.size (Lr.form x)) (Below.refl _ _) trivial, rfl⟩
      refine Ord.each_cons (fun D xs w2 hD hC hP hR hA K hK => ?_) ?_
      · -- 3
        have q2 := Ord.ahead_get _ hA 2 (by decide)
        simp only [LcF] at q2
        simp only [q2] at hK
        clear hA
        as_aux_lemma =>
          go_simp
          exact hK _ _ ⟨_, rfl, trivial, hR.step 3 _ (LcS W7.heap.size (Lr.form x)) (Below.refl _ _) trivial, rfl⟩
      refine Ord.each_cons (fun D xs w2 hD hC hP hR hA K hK => ?_) ?_
      · -- 4
        have q2 := Ord.ahead_get _ hA 2 (by decide)
        simp only [LcF] at q2
        have q3 := Ord.ahead_get _ hA 3 (by decide)
        simp only [LcF] at q3
        simp only [q2, q3] at hK
        clear hA
        as_aux_lemma =>
          go_simp
          exact hK _ _ ⟨_, rfl, trivial, hR.step 4 _ (LcS W7.heap.size (Lr.form x)) (Below.refl _ _) trivial, rfl⟩
      refine Ord.each_cons (fun D xs w2 hD hC hP hR hA K hK => ?_) ?_
      · -- 5
        have q2 := Ord.ahead_get _ hA 2 (by decide)
        simp only [LcF] at q2
        have q4 := Ord.ahead_get _ hA 4 (by decide)
        simp only [LcF] at q4
        simp only [q2, q4] at hK
        clear hA
        as_aux_lemma =>
          go_simp
          exact hK _ _ ⟨_, rfl, trivial, hR.step 5 _ (LcS W7.heap.size (Lr.form x)) (Below.refl _ _) trivial, rfl⟩
      refine Ord.each_cons (fun D xs w2 hD hC hP hR hA K hK => ?_) ?_
      · -- 6
        have q5 := Ord.ahead_get _ hA 5 (by decide)
        simp only [LcF] at q5
        simp only [q5] at hK
        clear hA
        as_aux_lemma =>
          go_simp
          exact hK _ _ ⟨_, rfl, trivial, hR.step 6 _ (LcS W7.heap.size (Lr.form x)) (Below.refl _ _) trivial, rfl⟩
      refine Ord.each_cons (fun D xs w2 hD hC hP hR hA K hK => ?_) ?_
      · -- 7
        have q6 := Ord.ahead_get _ hA 6 (by decide)
        simp only [LcF] at q6
        simp only [q6] at hK
        clear hA
        as_aux_lemma =>
          go_simp
          exact hK _ _ ⟨_, rfl, trivial, hR.step 7 _ (LcS W7.heap.size (Lr.form x)) (Below.refl _ _) trivial, rfl⟩
      refine Ord.each_cons (fun D xs w2 hD hC hP hR hA K hK => ?_) ?_
      · -- 8
        have q6 := Ord.ahead_get _ hA 6 (by decide)
        simp only [LcF] at q6
        simp only [q6] at hK
        clear hA
        as_aux_lemma =>
          go_simp
          exact hK _ _ ⟨_, rfl, trivial, hR.step 8 _ (LcS W7.heap.size (Lr.form x)) (Below.refl _ _) trivial, rfl⟩
      refine Ord.each_cons (fun D xs w2 hD hC hP hR hA K hK => ?_) ?_
      · -- 9
        have q6 := Ord.ahead_get _ hA 6 (by decide)
        simp only [LcF] at q6
        have q8 := Ord.ahead_get _ hA 8 (by decide)
        simp only [LcF] at q8
        simp only [q6, q8] at hK
        clear hA
        as_aux_lemma =>
          go_simp
          exact hK _ _ ⟨_, rfl, trivial, hR.step 9 _ (LcS W7.heap.size (Lr.form x)) (Below.refl _ _) trivial, rfl⟩
      refine Ord.each_cons (fun D xs w2 hD hC hP hR hA K hK => ?_) ?_
      · -- 10
        have q6 := Ord.ahead_get _ hA 6 (by decide)
        simp only [LcF] at q6
        have q7 := Ord.ahead_get _ hA 7 (by decide)
        simp only [LcF] at q7
        have q9 := Ord.ahead_get _ hA 9 (by decide)
        simp only [LcF] at q9
        simp only [q6, q7, q9] at hK
        clear hA
        as_aux_lemma =>
          go_simp
          exact hK _ _ ⟨_, rfl, trivial, hR.step 10 _ (LcS W7.heap.size (Lr.form x)) (Below.refl _ _) trivial, rfl⟩
      refine Ord.each_cons (fun D xs w2 hD hC hP hR hA K hK => ?_) ?_
      · -- 11
        have q6 := Ord.ahead_get _ hA 6 (by decide)
        simp only [LcF] at q6
        have q10 := Ord.ahead_get _ hA 10 (by decide)
        simp only [LcF] at q10
        simp only [q6, q10] at hK
        clear hA
        as_aux_lemma =>
          go_simp
          exact hK _ _ ⟨_, rfl, trivial, hR.step 11 _ (LcS W7.heap.size (Lr.form x)) (Below.refl _ _) trivial, rfl⟩
      refine Ord.each_cons (fun D xs w2 hD hC hP hR hA K hK => ?_) ?_
      · -- 12
        have q11 := Ord.ahead_get _ hA 11 (by decide)
        simp only [LcF] at q11
        simp only [q11] at hK
        clear hA
        as_aux_lemma =>
          go_simp
          exact hK _ _ ⟨_, rfl, trivial, hR.step 12 _ (LcS W7.heap.size (Lr.form x)) (Below.refl _ _) trivial, rfl⟩
      refine Ord.each_cons (fun D xs w2 hD hC hP hR hA K hK => ?_) ?_
      · -- 13
        have q12 := Ord.ahead_get _ hA 12 (by decide)
        simp only [LcF] at q12
        simp only [q12] at hK
        clear hA
        as_aux_lemma =>
          go_simp
          exact hK _ _ ⟨_, rfl, trivial, hR.step 13 _ (LcS W7.heap.size (Lr.form x)) (Below.refl _ _) trivial, rfl⟩
      refine Ord.each_cons (fun D xs w2 hD hC hP hR hA K hK => ?_) ?_
      · -- 14
        have q12 := Ord.ahead_get _ hA 12 (by decide)
        simp only [LcF] at q12
        simp only [q12] at hK
        clear hA
        as_aux_lemma =>
          go_simp
          exact hK _ _ ⟨_, rfl, trivial, hR.step 14 _ (LcS W7.heap.size (Lr.form x)) (Below.refl _ _) trivial, rfl⟩
      refine Ord.each_cons (fun D xs w2 hD hC hP hR hA K hK => ?_) ?_
      · -- 15
        have q12 := Ord.ahead_get _ hA 12 (by decide)
        simp only [LcF] at q12
        have q13 := Ord.ahead_get _ hA 13 (by decide)
        simp only [LcF] at q13
        have q14 := Ord.ahead_get _ hA 14 (by decide)
        simp only [LcF] at q14
        simp only [q12, q13, q14] at hK
        clear hA
        as_aux_lemma =>
          go_simp
          exact hK _ _ ⟨_, rfl, trivial, hR.step 15 _ (LcS W7.heap.size (Lr.form x)) (Below.refl _ _) trivial, rfl⟩
      refine Ord.each_cons (fun D xs w2 hD hC hP hR hA K hK => ?_) ?_
      · -- 16
        have q12 := Ord.ahead_get _ hA 12 (by decide)
        simp only [LcF] at q12
        have q15 := Ord.ahead_get _ hA 15 (by decide)
        simp only [LcF] at q15
        simp only [q12, q15] at hK
        clear hA
        as_aux_lemma =>
          go_simp
          exact hK _ _ ⟨_, rfl, trivial, hR.step 16 _ (LcS W7.heap.size (Lr.form x)) (Below.refl _ _) trivial, rfl⟩
      refine Ord.each_cons (fun D xs w2 hD hC hP hR hA K hK => ?_) ?_
      · -- 17
        have q16 := Ord.ahead_get _ hA 16 (by decide)
        simp only [LcF] at q16
        simp only [q16] at hK
        clear hA
        as_aux_lemma =>
          go_simp
          exact hK _ _ ⟨_, rfl, trivial, hR.step 17 _ (LcS W7.heap.size (Lr.form x)) (Below.refl _ _) trivial, rfl⟩
      refine Ord.each_cons (fun D xs w2 hD hC hP hR hA K hK => ?_) ?_
      · -- 18
        have q17 := Ord.ahead_get _ hA 17 (by decide)
        simp only [LcF] at q17
        simp only [q17] at hK
        clear hA
        as_aux_lemma =>
          go_simp
          exact hK _ _ ⟨_, rfl, trivial, hR.step 18 _ (LcS W7.heap.size (Lr.form x)) (Below.refl _ _) trivial, rfl⟩
      refine Ord.each_cons (fun D xs w2 hD hC hP hR hA K hK => ?_) ?_
      · -- 19
        have q17 := Ord.ahead_get _ hA 17 (by decide)
        simp only [LcF] at q17
        have q18 := Ord.ahead_get _ hA 18 (by decide)
        simp only [LcF] at q18
        simp only [q17, q18] at hK
        clear hA
        as_aux_lemma =>
          have hle := bound_int HLM.out
          go_simp
          exact hK _ _ ⟨_, rfl, trivial, hR.step 19 _ (LcS W7.heap.size (Lr.form x)) (Below.refl _ _) trivial, rfl⟩
      refine Ord.each_cons (fun D xs w2 hD hC hP hR hA K hK => ?_) ?_
      · -- 20
        have q17 := Ord.ahead_get _ hA 17 (by decide)
        simp only [LcF] at q17
        have q19 := Ord.ahead_get _ hA 19 (by decide)
        simp only [LcF] at q19
        simp only [q17, q19] at hK
        clear hA
        as_aux_lemma =>
          go_simp
          exact hK _ _ ⟨_, rfl, trivial, hR.step 20 _ (LcS W7.heap.size (Lr.form x)) (Below.refl _ _) trivial, rfl⟩
      refine Ord.each_cons (fun D xs w2 hD hC hP hR hA K hK => ?_) ?_
      · -- 21
        have q20 := Ord.ahead_get _ hA 20 (by decide)
        simp only [LcF] at q20
        simp only [q20] at hK
        clear hA
        as_aux_lemma =>
          go_simp
          exact hK _ _ ⟨_, rfl, trivial, hR.step 21 _ (LcS W7.heap.size (Lr.form x)) (Below.refl _ _) trivial, rfl⟩
      refine Ord.each_cons (fun D xs w2 hD hC hP hR hA K hK => ?_) ?_
      · -- 22
        have q21 := Ord.ahead_get _ hA 21 (by decide)
        simp only [LcF] at q21
        simp only [q21] at hK
        clear hA
        as_aux_lemma =>
          go_simp
          exact hK _ _ ⟨_, rfl, trivial, hR.step 22 _ (LcS W7.heap.size (Lr.form x)) (Below.refl _ _) trivial, rfl⟩
      refine Ord.each_cons (fun D xs w2 hD hC hP hR hA K hK => ?_) ?_
      · -- 23
        have q21 := Ord.ahead_get _ hA 21 (by decide)
        simp only [LcF] at q21
        have q22 := Ord.ahead_get _ hA 22 (by decide)
        simp only [LcF] at q22
        simp only [q21, q22] at hK
        clear hA
        as_aux_lemma =>
          have cv := HSB.out w2 hR.below
          go_simp
          exact hK _ _ ⟨_, rfl, trivial, hR.step 23 _ (LcS W7.heap.size (Lr.form x)) (Below.refl _ _) trivial, rfl⟩
      refine Ord.each_cons (fun D xs w2 hD hC hP hR hA K hK => ?_) ?_
      · -- 24
        have q21 := Ord.ahead_get _ hA 21 (by decide)
        simp only [LcF] at q21
        simp only [q21] at hK
        clear hA
        as_aux_lemma =>
          have hrow := (hR.below.block _ HLX7.out).trans HROWX7.out
          obtain ⟨e0, e1, e2, e3, e4, e5, e6, e7, e8, e9, e10, e11, e12, e13, e14⟩ := rec_cell hrow
          clear hrow
          go_simp
          exact hK _ _ ⟨_, rfl, trivial, hR.step 24 _ (LcS W7.heap.size (Lr.form x)) (Below.refl _ _) trivial, rfl⟩
      refine Ord.each_cons (fun D xs w2 hD hC hP hR hA K hK => ?_) ?_
      · -- 25
        have q21 := Ord.ahead_get _ hA 21 (by decide)
        simp only [LcF] at q21
        have q24 := Ord.ahead_get _ hA 24 (by decide)
        simp only [LcF] at q24
        simp only [q21, q24] at hK
        clear hA
        as_aux_lemma =>
          go_simp
          refine (refForm_any x _ _ _ _ _ w2 (HX7.out.below hR.below) HM.out).mono ?_
          rintro e w' ⟨u, rfl, hO, hb⟩
          exact hK _ _ ⟨_, rfl, trivial, hR.step 25 _ (LcS W7.heap.size (Lr.form x)) hb (hO.from hR.size), trivial⟩
      refine Ord.each_cons (fun D xs w2 hD hC hP hR hA K hK => ?_) ?_
      · -- 26
        have q21 := Ord.ahead_get _ hA 21 (by decide)
        simp only [LcF] at q21
        simp only [q21] at hK
        clear hA
        have o25 : Own W7.heap.size w2 (xs 25) (Lr.form x) := hR.each 25 (hP { on := 25, ground := .data } (by simp) rfl) (fun i hi => by cases hi)
        as_aux_lemma =>
          obtain ⟨qf, kf, ev⟩ := o25.bts.slice
          have cv := strOf_conv o25.bts
          rw [ev, ← HSF.out] at cv
          simp only [ev] at hK
          go_simp
          exact hK _ _ ⟨_, rfl, trivial, hR.step 26 _ (LcS W7.heap.size (Lr.form x)) (Below.refl _ _) trivial, rfl⟩
      refine Ord.each_cons (fun D xs w2 hD hC hP hR hA K hK => ?_) ?_
      · -- 27
        have q21 := Ord.ahead_get _ hA 21 (by decide)
        simp only [LcF] at q21
        have q23 := Ord.ahead_get _ hA 23 (by decide)
        simp only [LcF] at q23
        have q26 := Ord.ahead_get _ hA 26 (by decide)
        simp only [LcF] at q26
        simp only [q21, q23, q26] at hK
        clear hA
        as_aux_lemma =>
          go_simp
          exact hK _ _ ⟨_, rfl, trivial, hR.step 27 _ (LcS W7.heap.size (Lr.form x)) (Below.refl _ _) trivial, rfl⟩
      refine Ord.each_cons (fun D xs w2 hD hC hP hR hA K hK => ?_) ?_
      · -- 28
        have q21 := Ord.ahead_get _ hA 21 (by decide)
        simp only [LcF] at q21
        have q27 := Ord.ahead_get _ hA 27 (by decide)
        simp only [LcF] at q27
        simp only [q21, q27] at hK
        clear hA
        as_aux_lemma =>
          go_simp
          exact hK _ _ ⟨_, rfl, trivial, hR.step 28 _ (LcS W7.heap.size (Lr.form x)) (Below.refl _ _) trivial, rfl⟩
      refine Ord.each_cons (fun D xs w2 hD hC hP hR hA K hK => ?_) ?_
      · -- 29
        have q28 := Ord.ahead_get _ hA 28 (by decide)
        simp only [LcF] at q28
        simp only [q28] at hK
        clear hA
        as_aux_lemma =>
          go_simp
          exact hK _ _ ⟨_, rfl, trivial, hR.step 29 _ (LcS W7.heap.size (Lr.form x)) (Below.refl _ _) trivial, rfl⟩
      refine Ord.each_cons (fun D xs w2 hD hC hP hR hA K hK => ?_) ?_
      · -- 30
        have q29 := Ord.ahead_get _ hA 29 (by decide)
        simp only [LcF] at q29
        simp only [q29] at hK
        clear hA
        as_aux_lemma =>
          have hrow := (hR.below.block _ HLX7.out).trans HROWX7.out
          obtain ⟨e0, e1, e2, e3, e4, e5, e6, e7, e8, e9, e10, e11, e12, e13, e14⟩ := rec_cell hrow
          clear hrow
          go_simp
          exact hK _ _ ⟨_, rfl, trivial, hR.step 30 _ (LcS W7.heap.size (Lr.form x)) (Below.refl _ _) trivial, rfl⟩
      refine Ord.each_cons (fun D xs w2 hD hC hP hR hA K hK => ?_) ?_
      · -- 31
        have q29 := Ord.ahead_get _ hA 29 (by decide)
        simp only [LcF] at q29
        simp only [q29] at hK
        clear hA
        as_aux_lemma =>
          have hrow := (hR.below.block _ HLY7.out).trans HROWY7.out
          obtain ⟨e0, e1, e2, e3, e4, e5, e6, e7, e8, e9, e10, e11, e12, e13, e14⟩ := rec_cell hrow
          clear hrow
          go_simp
          exact hK _ _ ⟨_, rfl, trivial, hR.step 31 _ (LcS W7.heap.size (Lr.form x)) (Below.refl _ _) trivial, rfl⟩
      refine Ord.each_cons (fun D xs w2 hD hC hP hR hA K hK => ?_) ?_
      · -- 32
        have q29 := Ord.ahead_get _ hA 29 (by decide)
        simp only [LcF] at q29
        have q30 := Ord.ahead_get _ hA 30 (by decide)
        simp only [LcF] at q30
        have q31 := Ord.ahead_get _ hA 31 (by decide)
        simp only [LcF] at q31
        simp only [q29, q30, q31] at hK
        clear hA
        as_aux_lemma =>
          have hc := refSame_any x x _ _ _ _ _ _ _ _ _ _ w2 (HX7.out.below hR.below) (HY7.out.below hR.below) ⟨Nat.le_trans HF.out.opn (by decide), Nat.le_trans HF.out.dirt (by decide)⟩
          rw [Lr.same_true rfl] at hc
          go_simp
          refine hc.mono ?_
          rintro e w' ⟨rfl, hb⟩
          exact hK _ _ ⟨_, rfl, trivial, hR.step 32 _ (LcS W7.heap.size (Lr.form x)) hb trivial, rfl⟩
      refine Ord.each_cons (fun D xs w2 hD hC hP hR hA K hK => ?_) ?_
      · -- 33
        have q29 := Ord.ahead_get _ hA 29 (by decide)
        simp only [LcF] at q29
        have q32 := Ord.ahead_get _ hA 32 (by decide)
        simp only [LcF] at q32
        simp only [q29, q32] at hK
        clear hA
        as_aux_lemma =>
          go_simp
          exact hK _ _ ⟨_, rfl, trivial, hR.step 33 _ (LcS W7.heap.size (Lr.form x)) (Below.refl _ _) trivial, rfl⟩
      refine Ord.each_cons (fun D xs w2 hD hC hP hR hA K hK => ?_) ?_
      · -- 34
        have q29 := Ord.ahead_get _ hA 29 (by decide)
        simp only [LcF] at q29
        have q33 := Ord.ahead_get _ hA 33 (by decide)
        simp only [LcF] at q33
        simp only [q29, q33] at hK
        clear hA
        as_aux_lemma =>
          go_simp
          exact hK _ _ ⟨_, rfl, trivial, hR.step 34 _ (LcS W7.heap.size (Lr.form x)) (Below.refl _ _) trivial, rfl⟩
      exact Ord.each_nil
    case hend7 =>
      intro D xs w9 hR hall
      have h8 := (hall 34 (by decide)).2
      simp only [LcF] at h8
      have HB7 := Lib.hid hR.below
      have HO9 := Lib.hid (HO8.out.below hR.below)
      clear hR hall
      simp only [h8]
      clear h8
      generalize xs 33 = u33 at *
      generalize xs 32 = u32 at *
      generalize xs 31 = u31 at *
      generalize xs 30 = u30 at *
      generalize xs 29 = u29 at *
      generalize xs 28 = u28 at *
      generalize xs 27 = u27 at *
      generalize xs 26 = u26 at *
      generalize xs 25 = u25 at *
      generalize xs 24 = u24 at *
      generalize xs 23 = u23 at *
      generalize xs 22 = u22 at *
      generalize xs 21 = u21 at *
      generalize xs 20 = u20 at *
      generalize xs 19 = u19 at *
      generalize xs 18 = u18 at *
      generalize xs 17 = u17 at *
      generalize xs 16 = u16 at *
      generalize xs 15 = u15 at *
      generalize xs 14 = u14 at *
      generalize xs 13 = u13 at *
      generalize xs 12 = u12 at *
      generalize xs 11 = u11 at *
      generalize xs 10 = u10 at *
      generalize xs 9 = u9 at *
      generalize xs 8 = u8 at *
      generalize xs 7 = u7 at *
      generalize xs 6 = u6 at *
      generalize xs 5 = u5 at *
      generalize xs 4 = u4 at *
      generalize xs 3 = u3 at *
      generalize xs 2 = u2 at *
      generalize xs 1 = u1 at *
      generalize xs 0 = u0 at *
      obtain ⟨g4, k5, hq4, hg4, hgl, -, -, -⟩ := own_some HOa.out (by rw [← HLL.out]; exact HL0.out)
      simp only [Value.slice.injEq] at hq4
      obtain ⟨rfl, -, -⟩ := hq4
      have HGW := Lib.hid hg4
      have HGL : Hid (g4 < wa.heap.size) := hgl
      clear hg4 hgl
      obtain ⟨wl, hwl⟩ : ∃ wl, wl = w9 := ⟨_, rfl⟩
      rw [← hwl] at HB7 HO9 ⊢
      clear hwl
      go_wp2_with fail
      go_loopw [10] (fun s wr => ∃ (i : Nat) (c : List Nat), i ≤ L ∧ s = .int .i64 (i : Int) ∧ c.length = L ∧ Own wb.heap.size wr (.slice (some ⟨g4, 0, none⟩) L k4) c ∧ wl.grownBy wr (some g4)) (fun s _ => L - (intOf s).toNat)
      case atStart => exact ⟨0, Lr.form x, Nat.zero_le _, rfl, HLL.out.symm, HO9.out, grownBy_refl _ _⟩
      case round =>
        obtain ⟨i, c, hi, rfl, hcl, hO, hG⟩ := hrel
        have HO := Lib.hid hO
        have HG := Lib.hid hG
        have HI := Lib.hid hi
        have HCL := Lib.hid hcl
        clear hO hG hi hcl
        by_cases hlt : i < L
        · have HLT := Lib.hid hlt
          obtain ⟨hcell, hfro, hix, hix0, hwi, hw8, hyl⟩ := bump_facts HCL.out HLM.out HO.out HLT.out
          clear hlt
          generalize hyy : c.getD i 0 = yy at hcell hw8 hyl
          have HYY := Lib.hid hyy
          have HY8 := Lib.hid hw8
          clear hyy hyl
          go_wp2_with fail
          go_roundw
          case rel => exact ⟨i + 1, c.set i ((yy + 1) % 256), HLT.out, by go_num, by rw [List.length_set]; exact HCL.out, bump_own HCL.out HO.out i (Nat.mod_lt _ (by decide)), grownBy_trans HG.out (grownBy_setCell _ _ _ _)⟩
          case measure => have := HLT.out; simp [intOf]; omega
        · obtain rfl : i = L := Nat.le_antisymm HI.out (Nat.le_of_not_lt hlt)
          clear hlt
          have hKz : Below wb.heap.size wb wr := below_grown (HK8.out.trans (HB7.out.mono HK8.out.size)) HG.out (Nat.le_trans HK8.out.size HB7.out.size) HGW.out
          have hry := (HG.out.block _ (Nat.lt_of_lt_of_le HLY7.out HB7.out.size) (fun e => by have h1 := Option.some.inj e; have h2 := HGL.out; have h3 := HY7S.out; omega)).trans ((HB7.out.block _ HLY7.out).trans HROWY7.out)
          have hri := (hKz.block _ (lt_of_block HRIb.out)).trans HRIb.out
          have hrx := (hKz.block _ (lt_of_block HRXb.out)).trans HRXb.out
          have HKz := Lib.hid hKz
          have hYl := HYY7.out.below HB7.out
          have HYz : Hid (RecAt wr x _ _ _ _ _) := ⟨(hYl.old.grown HG.out (own_neB hYl.old HGL.out)).bts, (hYl.new.grown HG.out (own_neB hYl.new HGL.out)).bts, (hYl.undo.grown HG.out (own_neB hYl.undo HGL.out)).bts, (hYl.opn.grown HG.out (Chr.own_neB hYl.opn HGL.out)).bts, (hYl.dirt.grown HG.out (Dir.own_neB hYl.dirt HGL.out)).bts, hYl.ok⟩
          have HRIz := Lib.hid hri
          have HRXz := Lib.hid hrx
          obtain ⟨d0, d1, d2, d3, d4, d5, d6, d7, d8, d9, d10, d11, d12, d13, d14⟩ := rec_cell hrx
          obtain ⟨e0, e1, e2, e3, e4, e5, e6, e7, e8, e9, e10, e11, e12, e13, e14⟩ := rec_cell hry
          clear hKz hry hri hrx hYl
          go_wp2_with fail
          have hc := refSame_any x x _ _ _ _ _ _ _ _ _ _ wr (HXb.out.below HKz.out) HYz.out ⟨Nat.le_trans HF.out.opn (by decide), Nat.le_trans HF.out.dirt (by decide)⟩
          rw [Lr.same_true rfl] at hc
          refine hc.mono ?_
          rintro e wx ⟨rfl, hbx⟩
          clear hc e0 e1 e2 e3 e4 e5 e6 e7 e8 e9 e10 e11 e12 e13 e14 d0 d1 d2 d3 d4 d5 d6 d7 d8 d9 d10 d11 d12 d13 d14
          have HKx := Lib.hid (HKz.out.trans (hbx.mono HKz.out.size))
          have hri := (hbx.block _ (lt_of_block HRIz.out)).trans HRIz.out
          have hrx := (hbx.block _ (lt_of_block HRXz.out)).trans HRXz.out
          obtain ⟨d0, d1, d2, d3, d4, d5, d6, d7, d8, d9, d10, d11, d12, d13, d14⟩ := rec_cell hrx
          obtain ⟨e0, e1, e2, e3, e4, e5, e6, e7, e8, e9, e10, e11, e12, e13, e14⟩ := rec_cell hri
          clear hri hrx hbx
          go_wp2_with fail
          have hc := refSame_any x x _ _ _ _ _ _ _ _ _ _ wx (HIb.out.below HKx.out) (HXb.out.below HKx.out) ⟨Nat.le_trans HF.out.opn (by decide), Nat.le_trans HF.out.dirt (by decide)⟩
          rw [Lr.same_true rfl] at hc
          refine hc.mono ?_
          rintro e wy ⟨rfl, hby⟩
          clear hc e0 e1 e2 e3 e4 e5 e6 e7 e8 e9 e10 e11 e12 e13 e14 d0 d1 d2 d3 d4 d5 d6 d7 d8 d9 d10 d11 d12 d13 d14
          have HKy := Lib.hid (HKx.out.trans (hby.mono HKx.out.size))
          clear hby
          go_wp2_with fail
          refine (known_any _).mono ?_
          rintro e w' ⟨rfl, hb⟩
          have hb9 := HBb.out.trans ((HKy.out.trans (hb.mono HKy.out.size)).mono HBb.out.size)
          clear hb
          go_wp2_with fail
          go_ret
          exact ⟨rfl, hb9⟩
end Go.Proofs.Ytkchoelegdknoaa
