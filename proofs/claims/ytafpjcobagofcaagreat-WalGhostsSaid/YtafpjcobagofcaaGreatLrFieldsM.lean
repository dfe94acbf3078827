/- What a record's kind has, as bytes, by the program (part 1). Conditions: the value reads as a record; the room. What a record's kind has, as bytes, by the program (part 3). Conditions: the value reads as a record; the room. What a record's kind has, as bytes, by the program (part 4). Conditions: the value reads as a record; the room. What a record's kind has, as bytes, by the program (part 2). Conditions: the value reads as a record; the room. What a record's kind has, as bytes, by the program (part 5). Conditions: the value reads as a record; the room. What a record's kind has, as bytes, by the program. Conditions: the value reads as a record; the room. -/
import Derived.Test.YtafpjcobagofcaaGreatLrEight
import Derived.Test.YtafpjcobagofcaaGreatLrWithin
import Derived.Test.YtafpjcobagofcaaGreatRecM
import Derived.Deep.RegionWith
namespace Go.Proofs.YtafpjcobagofcaaGreat
open Go.RowKit

def FaF (B : Nat) (pg : Nat) (off : Nat) (i : Nat) (v : Value) (_ : World) : Prop :=
  match i with
  | 0 => v = .pointer (some ⟨B, 4, none⟩)
  | 1 => v = .int .u32 (pg : Int)
  | 3 => v = .pointer (some ⟨B, 5, none⟩)
  | 4 => v = .int .u16 (off : Int)
  | _ => True
def FaP (pg : Nat) (off : Nat) (base : Nat) (i : Nat) (w : World) (v : Value) : Prop :=
  match i with
  | 2 => Own base w v (Cod.le 4 pg)
  | 5 => Own base w v (Cod.le 2 off)
  | 6 => Own base w v (Cod.le 4 pg ++ Cod.le 2 off)
  | 7 => Own base w v (Cod.le 4 pg ++ Cod.le 2 off)
  | _ => True
def FaT (i : Nat) : Option Nat :=
  match i with
  | 2 => some 6
  | 5 => some 6
  | 6 => some 7
  | _ => none
theorem FaS (pg : Nat) (off : Nat) (base : Nat) : ∀ k w w' v, FaP pg off base k w v → Below w.heap.size w w' → FaP pg off base k w' v := by
  intro k w w' v h hb
  unfold FaP at *
  split
  · exact h.below hb
  · exact h.below hb
  · exact h.below hb
  · exact h.below hb
  · trivial
def FbF (B : Nat) (u3 : Value) (ov : Value) (nv : Value) (i : Nat) (v : Value) (_ : World) : Prop :=
  match i with
  | 0 => v = u3
  | 1 => v = .pointer (some ⟨B, 6, none⟩)
  | 2 => v = ov
  | 4 => v = .pointer (some ⟨B, 7, none⟩)
  | 5 => v = nv
  | _ => True
def FbP (base : Nat) (L : List Nat) (ol : List Nat) (nw : List Nat) (i : Nat) (w : World) (v : Value) : Prop :=
  match i with
  | 3 => Own base w v (L ++ (Cod.uv ol.length ++ ol))
  | 6 => Own base w v ((L ++ (Cod.uv ol.length ++ ol)) ++ (Cod.uv nw.length ++ nw))
  | 7 => Own base w v ((L ++ (Cod.uv ol.length ++ ol)) ++ (Cod.uv nw.length ++ nw))
  | _ => True
def FbT (i : Nat) : Option Nat :=
  match i with
  | 3 => some 6
  | 6 => some 7
  | _ => none
theorem FbS (base : Nat) (L : List Nat) (ol : List Nat) (nw : List Nat) : ∀ k w w' v, FbP base L ol nw k w v → Below w.heap.size w w' → FbP base L ol nw k w' v := by
  intro k w w' v h hb
  unfold FbP at *
  split
  · exact h.below hb
  · exact h.below hb
  · exact h.below hb
  · trivial
set_option maxHeartbeats 6400000 in
set_option maxRecDepth 20000 in
theorem fields_k1 (x : Lr.R) (o n u c d : Value) (w : World) (h : RecAt w x o n u c d) (hf : Lr.Few x) (hk : x.kind = 1) :
    Calls Tryz.prog 47 #[RecV x o n u c d] w fun e w' => ∃ u, e = .returned u ∧ Own w.heap.size w' u (Lr.own x) ∧ Below w.heap.size w w' := by
  obtain ⟨W, hW⟩ : ∃ W, W = w.alloc (robj x o n u c d) := ⟨_, rfl⟩
  have hb := below_new1 w (robj x o n u c d)
  have hr := rblk w x o n u c d
  rw [← hW] at hb hr
  have HB := Lib.hid hb
  have HA := Lib.hid (h.below hb)
  have HS : Hid (w.heap.size < W.heap.size) := lt_of_block hr
  obtain ⟨q0, q1, q2, q3, q4, q5, q6, q7, q8, q9, q10, q11, q12, q13, q14⟩ := rec_cell hr
  obtain ⟨p1, c1, p2, c2, p3, c3, p4, c4, p5, c5, rfl, rfl, rfl, rfl, rfl⟩ := rec_slices h
  have HF := Lib.hid hf
  clear h hb hr hf
  unfold robj at hW
  obtain ⟨k, lsn, ep, txn, pg, off, ol, nw, un, pv, nx, cl, st, op, di⟩ := x
  dsimp only at *
  subst hk
  rw [show Lr.own ⟨1, lsn, ep, txn, pg, off, ol, nw, un, pv, nx, cl, st, op, di⟩ = Cod.le 4 pg ++ (Cod.le 2 off ++ (Lr.text ol ++ Lr.text nw)) from rfl]
  have HC0 := Lib.hid q0
  have HC1 := Lib.hid q1
  have HC2 := Lib.hid q2
  have HC3 := Lib.hid q3
  have HC4 := Lib.hid q4
  have HC5 := Lib.hid q5
  have HC6 := Lib.hid q6
  have HC7 := Lib.hid q7
  have HC8 := Lib.hid q8
  have HC9 := Lib.hid q9
  have HC10 := Lib.hid q10
  have HC11 := Lib.hid q11
  have HC12 := Lib.hid q12
  have HC13 := Lib.hid q13
  have HC14 := Lib.hid q14
  go_enter Tryz.func47, Tryz.ntmps47
  go_upto_region 1 with (fail)
  rw [← hW]
  clear hW
  go_upto_region 3 with (fail)
  obtain ⟨B, hBs⟩ : ∃ B, B = w.heap.size := ⟨_, rfl⟩
  rw [← hBs] at HB HS HC0 HC1 HC2 HC3 HC4 HC5 HC6 HC7 HC8 HC9 HC10 HC11 HC12 HC13 HC14 ⊢
  have HBS := Lib.hid hBs
  clear hBs q0 q1 q2 q3 q4 q5 q6 q7 q8 q9 q10 q11 q12 q13 q14
  refine Ord.walk (FaF B pg off) (KeptR W.heap.size W (FaP pg off W.heap.size) FaT) (fun _ _ => True)
    (by kernel_rfl) (by kernel_rfl) ?fr3 ?hfr3 (fun _ _ _ _ _ h => h) (fun xs => KeptR.first xs (Nat.le_refl _)) ?he3 ?hend3
  case hfr3 =>
    intro xs
    simp only [Ord.fill, Act.put, List.setIfInBounds_toArray, List.set_cons_zero, List.set_cons_succ]
    rfl
  case he3 =>
    refine Ord.each_cons (fun D xs w2 hD hC hP hR hA K hK => ?_) ?_
    · -- 0
      clear hA
      go_simp
      exact hK _ _ ⟨_, rfl, trivial, hR.step 0 _ (FaS pg off W.heap.size) (Below.refl _ _) trivial, rfl⟩
    refine Ord.each_cons (fun D xs w2 hD hC hP hR hA K hK => ?_) ?_
    · -- 1
      have q0 := Ord.ahead_get _ hA 0 (by decide)
      simp only [FaF] at q0
      simp only [q0] at hK
      clear hA
      have cc := hR.below.cell (p := ⟨B, 4, none⟩) HS.out
      rw [HC4.out] at cc
      go_simp
      exact hK _ _ ⟨_, rfl, trivial, hR.step 1 _ (FaS pg off W.heap.size) (Below.refl _ _) trivial, rfl⟩
    refine Ord.each_cons (fun D xs w2 hD hC hP hR hA K hK => ?_) ?_
    · -- 2
      have q1 := Ord.ahead_get _ hA 1 (by decide)
      simp only [FaF] at q1
      simp only [q1] at hK
      clear hA
      go_simp
      refine (Put32_any (.slice none 0 0) [] pg w2 (bts_none w2) (by decide)).mono ?_
      rintro e w' ⟨u, rfl, hO, hb⟩
      rw [List.nil_append] at hO
      exact hK _ _ ⟨_, rfl, trivial, hR.step 2 _ (FaS pg off W.heap.size) hb (hO.from hR.size), trivial⟩
    refine Ord.each_cons (fun D xs w2 hD hC hP hR hA K hK => ?_) ?_
    · -- 3
      clear hA
      go_simp
      exact hK _ _ ⟨_, rfl, trivial, hR.step 3 _ (FaS pg off W.heap.size) (Below.refl _ _) trivial, rfl⟩
    refine Ord.each_cons (fun D xs w2 hD hC hP hR hA K hK => ?_) ?_
    · -- 4
      have q3 := Ord.ahead_get _ hA 3 (by decide)
      simp only [FaF] at q3
      simp only [q3] at hK
      clear hA
      have cc := hR.below.cell (p := ⟨B, 5, none⟩) HS.out
      rw [HC5.out] at cc
      go_simp
      exact hK _ _ ⟨_, rfl, trivial, hR.step 4 _ (FaS pg off W.heap.size) (Below.refl _ _) trivial, rfl⟩
    refine Ord.each_cons (fun D xs w2 hD hC hP hR hA K hK => ?_) ?_
    · -- 5
      have q4 := Ord.ahead_get _ hA 4 (by decide)
      simp only [FaF] at q4
      simp only [q4] at hK
      clear hA
      go_simp
      refine (Put16_any (.slice none 0 0) [] off w2 (bts_none w2) (by decide)).mono ?_
      rintro e w' ⟨u, rfl, hO, hb⟩
      rw [List.nil_append] at hO
      exact hK _ _ ⟨_, rfl, trivial, hR.step 5 _ (FaS pg off W.heap.size) hb (hO.from hR.size), trivial⟩
    refine Ord.each_cons (fun D xs w2 hD hC hP hR hA K hK => ?_) ?_
    · -- 6
      clear hA
      have o2 : Own W.heap.size w2 (xs 2) (Cod.le 4 pg) := hR.each 2 (hP { on := 2, ground := .data } (by simp) rfl) (fun i hi => by rw [← Option.some.inj (show some 6 = some i from hi)]; exact hD)
      have o5 : Own W.heap.size w2 (xs 5) (Cod.le 2 off) := hR.each 5 (hP { on := 5, ground := .data } (by simp) rfl) (fun i hi => by rw [← Option.some.inj (show some 6 = some i from hi)]; exact hD)
      refine wp_append_Own _ _ rfl W.heap.size (xs 2) _ rfl o2 (xs 5) _ rfl o5.bts (by rw [Cod.le_length, Cod.le_length]; decide) hR.size ?_
      intro u w' hO hb _
      refine hK _ _ ⟨_, rfl, trivial, hR.append 6 _ hb (fun j hj hDj ha => ?_) hO, trivial⟩
      unfold FaP
      split
      · exact absurd (ha 6 rfl) (by rw [wth_at]; decide)
      · exact absurd (ha 6 rfl) (by rw [wth_at]; decide)
      · exact absurd rfl hj
      · exact absurd hDj (by cases hx : D 7 with | false => decide | true => exact absurd (Ord.closed_at hC 7 6 rfl hx) (by rw [hD]; decide))
      · trivial
    refine Ord.each_cons (fun D xs w2 hD hC hP hR hA K hK => ?_) ?_
    · -- 7
      clear hA
      have o6 : Own W.heap.size w2 (xs 6) (Cod.le 4 pg ++ Cod.le 2 off) := hR.each 6 (hP { on := 6, ground := .data } (by simp) rfl) (fun i hi => by rw [← Option.some.inj (show some 7 = some i from hi)]; exact hD)
      go_simp
      exact hK _ _ ⟨_, rfl, trivial, hR.step 7 _ (FaS pg off W.heap.size) (Below.refl _ _) o6, trivial⟩
    exact Ord.each_nil
  case hend3 =>
    intro D xs w9 hR hall
    have h7 := hR.each 7 (hall 7 (by decide)).1 (fun i hi => by cases hi)
    have HU : Hid (Own W.heap.size w9 (xs 7) (Cod.le 4 pg ++ Cod.le 2 off)) := h7
    have HB9 := Lib.hid hR.below
    clear h7 hR hall
    generalize xs 7 = u3 at *
    generalize xs 6 = x6 at *
    generalize xs 5 = x5 at *
    generalize xs 4 = x4 at *
    generalize xs 3 = x3 at *
    generalize xs 2 = x2 at *
    generalize xs 1 = x1 at *
    generalize xs 0 = x0 at *
    go_upto_region 4 with (fail)
    obtain ⟨W2, hW2⟩ : ∃ W2, W2 = w9 := ⟨_, rfl⟩
    rw [← hW2] at HB9 HU ⊢
    clear hW2
    have HA := Lib.hid (HA.out.below HB9.out)
    have HS2 : Hid (B < W2.heap.size) := Nat.lt_of_lt_of_le HS.out HB9.out.size
    have HC6 : Hid (W2.cell? ⟨B, 6, none⟩ = _) := (HB9.out.cell (p := ⟨B, 6, none⟩) HS.out).trans HC6.out
    have HC7 : Hid (W2.cell? ⟨B, 7, none⟩ = _) := (HB9.out.cell (p := ⟨B, 7, none⟩) HS.out).trans HC7.out
    have HS3 := HS
    have HS := HS2
    refine Ord.walk (FbF B u3 (.slice p1 ol.length c1) (.slice p2 nw.length c2)) (KeptR W2.heap.size W2 (FbP W2.heap.size (Cod.le 4 pg ++ Cod.le 2 off) ol nw) FbT) (fun _ _ => True)
      (by kernel_rfl) (by kernel_rfl) ?fr4 ?hfr4 (fun _ _ _ _ _ h => h) (fun xs => KeptR.first xs (Nat.le_refl _)) ?he4 ?hend4
    case hfr4 =>
      intro xs
      simp only [Ord.fill, Act.put, List.setIfInBounds_toArray, List.set_cons_zero, List.set_cons_succ]
      rfl
    case he4 =>
      refine Ord.each_cons (fun D xs w2 hD hC hP hR hA K hK => ?_) ?_
      · -- 0
        clear hA
        go_simp
        exact hK _ _ ⟨_, rfl, trivial, hR.step 0 _ (FbS W2.heap.size (Cod.le 4 pg ++ Cod.le 2 off) ol nw) (Below.refl _ _) trivial, rfl⟩
      refine Ord.each_cons (fun D xs w2 hD hC hP hR hA K hK => ?_) ?_
      · -- 1
        clear hA
        go_simp
        exact hK _ _ ⟨_, rfl, trivial, hR.step 1 _ (FbS W2.heap.size (Cod.le 4 pg ++ Cod.le 2 off) ol nw) (Below.refl _ _) trivial, rfl⟩
      refine Ord.each_cons (fun D xs w2 hD hC hP hR hA K hK => ?_) ?_
      · -- 2
        have q1 := Ord.ahead_get _ hA 1 (by decide)
        simp only [FbF] at q1
        simp only [q1] at hK
        clear hA
        have cc := hR.below.cell (p := ⟨B, 6, none⟩) HS.out
        rw [HC6.out] at cc
        go_simp
        exact hK _ _ ⟨_, rfl, trivial, hR.step 2 _ (FbS W2.heap.size (Cod.le 4 pg ++ Cod.le 2 off) ol nw) (Below.refl _ _) trivial, rfl⟩
      refine Ord.each_cons (fun D xs w2 hD hC hP hR hA K hK => ?_) ?_
      · -- 3
        have q0 := Ord.ahead_get _ hA 0 (by decide)
        simp only [FbF] at q0
        have q2 := Ord.ahead_get _ hA 2 (by decide)
        simp only [FbF] at q2
        simp only [q0, q2] at hK
        clear hA
        go_simp
        refine (PutText_any u3 (.slice p1 ol.length c1) _ ol w2 (HU.out.bts.below hR.below) (HA.out.old.below hR.below) (by rw [List.length_append, Cod.le_length, Cod.le_length]; have := HF.out.old; dsimp only at this; omega)).mono ?_
        rintro e w' ⟨u, rfl, hO, hb⟩
        exact hK _ _ ⟨_, rfl, trivial, hR.step 3 _ (FbS W2.heap.size (Cod.le 4 pg ++ Cod.le 2 off) ol nw) hb (hO.from hR.size), trivial⟩
      refine Ord.each_cons (fun D xs w2 hD hC hP hR hA K hK => ?_) ?_
      · -- 4
        clear hA
        go_simp
        exact hK _ _ ⟨_, rfl, trivial, hR.step 4 _ (FbS W2.heap.size (Cod.le 4 pg ++ Cod.le 2 off) ol nw) (Below.refl _ _) trivial, rfl⟩
      refine Ord.each_cons (fun D xs w2 hD hC hP hR hA K hK => ?_) ?_
      · -- 5
        have q4 := Ord.ahead_get _ hA 4 (by decide)
        simp only [FbF] at q4
        simp only [q4] at hK
        clear hA
        have cc := hR.below.cell (p := ⟨B, 7, none⟩) HS.out
        rw [HC7.out] at cc
        go_simp
        exact hK _ _ ⟨_, rfl, trivial, hR.step 5 _ (FbS W2.heap.size (Cod.le 4 pg ++ Cod.le 2 off) ol nw) (Below.refl _ _) trivial, rfl⟩
      refine Ord.each_cons (fun D xs w2 hD hC hP hR hA K hK => ?_) ?_
      · -- 6
        have q5 := Ord.ahead_get _ hA 5 (by decide)
        simp only [FbF] at q5
        simp only [q5] at hK
        clear hA
        have o3 : Own W2.heap.size w2 (xs 3) ((Cod.le 4 pg ++ Cod.le 2 off) ++ (Cod.uv ol.length ++ ol)) := hR.each 3 (hP { on := 3, ground := .data } (by simp) rfl) (fun i hi => by rw [← Option.some.inj (show some 6 = some i from hi)]; exact hD)
        go_simp
        refine (PutText_any (xs 3) (.slice p2 nw.length c2) _ nw w2 o3.bts (HA.out.new.below hR.below) (by have h1 := HF.out.old; have h2 := HF.out.new; have h3 := Cod.uv_ten (n := ol.length) (by dsimp only at h1; omega); simp only [List.length_append, Cod.le_length]; dsimp only at h1 h2; omega)).mono ?_
        rintro e w' ⟨u, rfl, hO, hb⟩
        exact hK _ _ ⟨_, rfl, trivial, hR.step 6 _ (FbS W2.heap.size (Cod.le 4 pg ++ Cod.le 2 off) ol nw) hb (hO.from hR.size), trivial⟩
      refine Ord.each_cons (fun D xs w2 hD hC hP hR hA K hK => ?_) ?_
      · -- 7
        clear hA
        have o6 : Own W2.heap.size w2 (xs 6) (((Cod.le 4 pg ++ Cod.le 2 off) ++ (Cod.uv ol.length ++ ol)) ++ (Cod.uv nw.length ++ nw)) := hR.each 6 (hP { on := 6, ground := .data } (by simp) rfl) (fun i hi => by rw [← Option.some.inj (show some 7 = some i from hi)]; exact hD)
        go_simp
        exact hK _ _ ⟨_, rfl, trivial, hR.step 7 _ (FbS W2.heap.size (Cod.le 4 pg ++ Cod.le 2 off) ol nw) (Below.refl _ _) o6, trivial⟩
      exact Ord.each_nil
    case hend4 =>
      intro D xs w9 hR hall
      have h7 := hR.each 7 (hall 7 (by decide)).1 (fun i hi => by cases hi)
      have HV := Lib.hid h7
      have HB10 := Lib.hid hR.below
      clear h7 hR hall
      generalize xs 7 = z7 at *
      generalize xs 6 = z6 at *
      generalize xs 5 = z5 at *
      generalize xs 4 = z4 at *
      generalize xs 3 = z3 at *
      generalize xs 2 = z2 at *
      generalize xs 1 = z1 at *
      generalize xs 0 = z0 at *
      go_wp2_with fail
      go_ret
      refine ⟨_, rfl, ?_, by rw [← HBS.out]; exact (HB.out.trans (HB9.out.mono (Nat.le_of_lt HS3.out))).trans (HB10.out.mono (Nat.le_of_lt HS2.out))⟩
      rw [← HBS.out]
      have h8 : Own W2.heap.size w9 z7 _ := HV.out
      rw [List.append_assoc, List.append_assoc] at h8
      exact h8.from (Nat.le_of_lt HS2.out)
    

end Go.Proofs.YtafpjcobagofcaaGreat

namespace Go.Proofs.YtafpjcobagofcaaGreat
open Go.RowKit

def FdF (B : Nat) (cv : Value) (dv : Value) (i : Nat) (v : Value) (_ : World) : Prop :=
  match i with
  | 0 => v = .pointer (some ⟨B, 13, none⟩)
  | 1 => v = cv
  | 3 => v = .pointer (some ⟨B, 14, none⟩)
  | 4 => v = dv
  | _ => True
def FdP (base : Nat) (op : List Lr.Ch) (di : List Lr.Di) (i : Nat) (w : World) (v : Value) : Prop :=
  match i with
  | 2 => Own base w v (Cod.uv op.length ++ Lr.chs op)
  | 5 => Own base w v (Cod.uv di.length ++ Lr.dis di)
  | 6 => Own base w v ((Cod.uv op.length ++ Lr.chs op) ++ (Cod.uv di.length ++ Lr.dis di))
  | 7 => Own base w v ((Cod.uv op.length ++ Lr.chs op) ++ (Cod.uv di.length ++ Lr.dis di))
  | _ => True
def FdT (i : Nat) : Option Nat :=
  match i with
  | 2 => some 6
  | 5 => some 6
  | 6 => some 7
  | _ => none
theorem FdS (base : Nat) (op : List Lr.Ch) (di : List Lr.Di) : ∀ k w w' v, FdP base op di k w v → Below w.heap.size w w' → FdP base op di k w' v := by
  intro k w w' v h hb
  unfold FdP at *
  split
  · exact h.below hb
  · exact h.below hb
  · exact h.below hb
  · exact h.below hb
  · trivial
set_option maxHeartbeats 6400000 in
set_option maxRecDepth 20000 in
theorem fields_k5 (x : Lr.R) (o n u c d : Value) (w : World) (h : RecAt w x o n u c d) (hf : Lr.Few x) (hk : x.kind = 5) :
    Calls Tryz.prog 47 #[RecV x o n u c d] w fun e w' => ∃ u, e = .returned u ∧ Own w.heap.size w' u (Lr.own x) ∧ Below w.heap.size w w' := by
  obtain ⟨W, hW⟩ : ∃ W, W = w.alloc (robj x o n u c d) := ⟨_, rfl⟩
  have hb := below_new1 w (robj x o n u c d)
  have hr := rblk w x o n u c d
  rw [← hW] at hb hr
  have HB := Lib.hid hb
  have HA := Lib.hid (h.below hb)
  have HS : Hid (w.heap.size < W.heap.size) := lt_of_block hr
  obtain ⟨q0, q1, q2, q3, q4, q5, q6, q7, q8, q9, q10, q11, q12, q13, q14⟩ := rec_cell hr
  obtain ⟨p1, c1, p2, c2, p3, c3, p4, c4, p5, c5, rfl, rfl, rfl, rfl, rfl⟩ := rec_slices h
  have HF := Lib.hid hf
  clear h hb hr hf
  unfold robj at hW
  obtain ⟨k, lsn, ep, txn, pg, off, ol, nw, un, pv, nx, cl, st, op, di⟩ := x
  dsimp only at *
  subst hk
  rw [show Lr.own ⟨5, lsn, ep, txn, pg, off, ol, nw, un, pv, nx, cl, st, op, di⟩ = (Cod.uv op.length ++ Lr.chs op) ++ (Cod.uv di.length ++ Lr.dis di) from rfl]
  have HC0 := Lib.hid q0
  have HC1 := Lib.hid q1
  have HC2 := Lib.hid q2
  have HC3 := Lib.hid q3
  have HC4 := Lib.hid q4
  have HC5 := Lib.hid q5
  have HC6 := Lib.hid q6
  have HC7 := Lib.hid q7
  have HC8 := Lib.hid q8
  have HC9 := Lib.hid q9
  have HC10 := Lib.hid q10
  have HC11 := Lib.hid q11
  have HC12 := Lib.hid q12
  have HC13 := Lib.hid q13
  have HC14 := Lib.hid q14
  go_enter Tryz.func47, Tryz.ntmps47
  go_upto_region 1 with (fail)
  rw [← hW]
  clear hW
  go_upto_region 15 with (fail)
  obtain ⟨B, hBs⟩ : ∃ B, B = w.heap.size := ⟨_, rfl⟩
  rw [← hBs] at HB HS HC0 HC1 HC2 HC3 HC4 HC5 HC6 HC7 HC8 HC9 HC10 HC11 HC12 HC13 HC14 ⊢
  have HBS := Lib.hid hBs
  clear hBs q0 q1 q2 q3 q4 q5 q6 q7 q8 q9 q10 q11 q12 q13 q14
  refine Ord.walk (FdF B (.slice p4 op.length c4) (.slice p5 di.length c5)) (KeptR W.heap.size W (FdP W.heap.size op di) FdT) (fun _ _ => True)
    (by kernel_rfl) (by kernel_rfl) ?fr15 ?hfr15 (fun _ _ _ _ _ h => h) (fun xs => KeptR.first xs (Nat.le_refl _)) ?he15 ?hend15
  case hfr15 =>
    intro xs
    simp only [Ord.fill, Act.put, List.setIfInBounds_toArray, List.set_cons_zero, List.set_cons_succ]
    rfl
  case he15 =>
    refine Ord.each_cons (fun D xs w2 hD hC hP hR hA K hK => ?_) ?_
    · -- 0
      clear hA
      go_simp
      exact hK _ _ ⟨_, rfl, trivial, hR.step 0 _ (FdS W.heap.size op di) (Below.refl _ _) trivial, rfl⟩
    refine Ord.each_cons (fun D xs w2 hD hC hP hR hA K hK => ?_) ?_
    · -- 1
      have q0 := Ord.ahead_get _ hA 0 (by decide)
      simp only [FdF] at q0
      simp only [q0] at hK
      clear hA
      have cc := hR.below.cell (p := ⟨B, 13, none⟩) HS.out
      rw [HC13.out] at cc
      go_simp
      exact hK _ _ ⟨_, rfl, trivial, hR.step 1 _ (FdS W.heap.size op di) (Below.refl _ _) trivial, rfl⟩
    refine Ord.each_cons (fun D xs w2 hD hC hP hR hA K hK => ?_) ?_
    · -- 2
      have q1 := Ord.ahead_get _ hA 1 (by decide)
      simp only [FdF] at q1
      simp only [q1] at hK
      clear hA
      go_simp
      refine (chains_any (.slice p4 op.length c4) op w2 (HA.out.opn.below hR.below) (by have := HF.out.opn; dsimp only at this; omega)).mono ?_
      rintro e w' ⟨u, rfl, hO, hb⟩
      exact hK _ _ ⟨_, rfl, trivial, hR.step 2 _ (FdS W.heap.size op di) hb (hO.from hR.size), trivial⟩
    refine Ord.each_cons (fun D xs w2 hD hC hP hR hA K hK => ?_) ?_
    · -- 3
      clear hA
      go_simp
      exact hK _ _ ⟨_, rfl, trivial, hR.step 3 _ (FdS W.heap.size op di) (Below.refl _ _) trivial, rfl⟩
    refine Ord.each_cons (fun D xs w2 hD hC hP hR hA K hK => ?_) ?_
    · -- 4
      have q3 := Ord.ahead_get _ hA 3 (by decide)
      simp only [FdF] at q3
      simp only [q3] at hK
      clear hA
      have cc := hR.below.cell (p := ⟨B, 14, none⟩) HS.out
      rw [HC14.out] at cc
      go_simp
      exact hK _ _ ⟨_, rfl, trivial, hR.step 4 _ (FdS W.heap.size op di) (Below.refl _ _) trivial, rfl⟩
    refine Ord.each_cons (fun D xs w2 hD hC hP hR hA K hK => ?_) ?_
    · -- 5
      have q4 := Ord.ahead_get _ hA 4 (by decide)
      simp only [FdF] at q4
      simp only [q4] at hK
      clear hA
      go_simp
      refine (dirts_any (.slice p5 di.length c5) di w2 (HA.out.dirt.below hR.below) (by have := HF.out.dirt; dsimp only at this; omega)).mono ?_
      rintro e w' ⟨u, rfl, hO, hb⟩
      exact hK _ _ ⟨_, rfl, trivial, hR.step 5 _ (FdS W.heap.size op di) hb (hO.from hR.size), trivial⟩
    refine Ord.each_cons (fun D xs w2 hD hC hP hR hA K hK => ?_) ?_
    · -- 6
      clear hA
      have o2 : Own W.heap.size w2 (xs 2) (Cod.uv op.length ++ Lr.chs op) := hR.each 2 (hP { on := 2, ground := .data } (by simp) rfl) (fun i hi => by rw [← Option.some.inj (show some 6 = some i from hi)]; exact hD)
      have o5 : Own W.heap.size w2 (xs 5) (Cod.uv di.length ++ Lr.dis di) := hR.each 5 (hP { on := 5, ground := .data } (by simp) rfl) (fun i hi => by rw [← Option.some.inj (show some 6 = some i from hi)]; exact hD)
      refine wp_append_Own _ _ rfl W.heap.size (xs 2) _ rfl o2 (xs 5) _ rfl o5.bts (by have h1 := HF.out.opn; have h2 := HF.out.dirt; dsimp only at h1 h2; have h3 := Cod.uv_ten (n := op.length) (by omega); have h4 := Cod.uv_ten (n := di.length) (by omega); simp only [List.length_append, Lr.chs_length, Lr.dis_length]; omega) hR.size ?_
      intro u w' hO hb _
      refine hK _ _ ⟨_, rfl, trivial, hR.append 6 _ hb (fun j hj hDj ha => ?_) hO, trivial⟩
      unfold FdP
      split
      · exact absurd (ha 6 rfl) (by rw [wth_at]; decide)
      · exact absurd (ha 6 rfl) (by rw [wth_at]; decide)
      · exact absurd rfl hj
      · exact absurd hDj (by cases hx : D 7 with | false => decide | true => exact absurd (Ord.closed_at hC 7 6 rfl hx) (by rw [hD]; decide))
      · trivial
    refine Ord.each_cons (fun D xs w2 hD hC hP hR hA K hK => ?_) ?_
    · -- 7
      clear hA
      have o6 : Own W.heap.size w2 (xs 6) ((Cod.uv op.length ++ Lr.chs op) ++ (Cod.uv di.length ++ Lr.dis di)) := hR.each 6 (hP { on := 6, ground := .data } (by simp) rfl) (fun i hi => by rw [← Option.some.inj (show some 7 = some i from hi)]; exact hD)
      go_simp
      exact hK _ _ ⟨_, rfl, trivial, hR.step 7 _ (FdS W.heap.size op di) (Below.refl _ _) o6, trivial⟩
    exact Ord.each_nil
  case hend15 =>
    intro D xs w9 hR hall
    have h7 := hR.each 7 (hall 7 (by decide)).1 (fun i hi => by cases hi)
    have HV := Lib.hid h7
    have HB10 := Lib.hid hR.below
    clear h7 hR hall
    generalize xs 7 = z7 at *
    generalize xs 6 = z6 at *
    generalize xs 5 = z5 at *
    generalize xs 4 = z4 at *
    generalize xs 3 = z3 at *
    generalize xs 2 = z2 at *
    generalize xs 1 = z1 at *
    generalize xs 0 = z0 at *
    go_wp2_with fail
    go_ret
    refine ⟨_, rfl, ?_, by rw [← HBS.out]; exact HB.out.trans (HB10.out.mono (Nat.le_of_lt HS.out))⟩
    rw [← HBS.out]
    have h8 : Own W.heap.size w9 z7 _ := HV.out
    exact h8.from (Nat.le_of_lt HS.out)

end Go.Proofs.YtafpjcobagofcaaGreat

namespace Go.Proofs.YtafpjcobagofcaaGreat
open Go.RowKit

set_option maxHeartbeats 6400000 in
set_option maxRecDepth 20000 in
theorem fields_k3 (x : Lr.R) (o n u c d : Value) (w : World) (h : RecAt w x o n u c d) (hf : Lr.Few x) (hk : x.kind = 3) :
    Calls Tryz.prog 47 #[RecV x o n u c d] w fun e w' => ∃ u, e = .returned u ∧ Own w.heap.size w' u (Lr.own x) ∧ Below w.heap.size w w' := by
  obtain ⟨W, hW⟩ : ∃ W, W = w.alloc (robj x o n u c d) := ⟨_, rfl⟩
  have hb := below_new1 w (robj x o n u c d)
  have hr := rblk w x o n u c d
  rw [← hW] at hb hr
  have HB := Lib.hid hb
  have HA := Lib.hid (h.below hb)
  have HS : Hid (w.heap.size < W.heap.size) := lt_of_block hr
  obtain ⟨q0, q1, q2, q3, q4, q5, q6, q7, q8, q9, q10, q11, q12, q13, q14⟩ := rec_cell hr
  obtain ⟨p1, c1, p2, c2, p3, c3, p4, c4, p5, c5, rfl, rfl, rfl, rfl, rfl⟩ := rec_slices h
  have HF := Lib.hid hf
  clear h hb hr hf
  unfold robj at hW
  obtain ⟨k, lsn, ep, txn, pg, off, ol, nw, un, pv, nx, cl, st, op, di⟩ := x
  dsimp only at *
  subst hk
  rw [show Lr.own ⟨3, lsn, ep, txn, pg, off, ol, nw, un, pv, nx, cl, st, op, di⟩ = Cod.le 8 txn ++ Cod.le 8 st from rfl]
  go_enter Tryz.func47, Tryz.ntmps47
  go_upto_region 1 with (fail)
  rw [← hW]
  clear hW
  go_wp2_with fail
  have hn := n64_new W [txn, st] 2 rfl #[.int .u64 (txn : Int), .int .u64 (st : Int)] 30 rfl
  have hbn := below_new1 W (.cells #[.int .u64 (txn : Int), .int .u64 (st : Int)] 30)
  generalize W.alloc (.cells #[.int .u64 (txn : Int), .int .u64 (st : Int)] 30) = wn at *
  refine (eights_any _ [txn, st] wn hn (show 2 ≤ 100 by decide)).mono ?_
  rintro e w1 ⟨u, rfl, hO1, hb1⟩
  have HO := Lib.hid (hO1.from (Nat.le_trans HB.out.size hbn.size))
  have HB1 := Lib.hid (HB.out.trans ((hbn.trans (hb1.mono hbn.size)).mono HB.out.size))
  clear hO1 hb1 hn hbn
  go_wp2_with fail
  go_ret
  refine ⟨_, rfl, ?_, HB1.out⟩
  have h8 := HO.out
  simpa [les] using h8
set_option maxHeartbeats 6400000 in
set_option maxRecDepth 20000 in
theorem fields_k4 (x : Lr.R) (o n u c d : Value) (w : World) (h : RecAt w x o n u c d) (hf : Lr.Few x) (hk : x.kind = 4) :
    Calls Tryz.prog 47 #[RecV x o n u c d] w fun e w' => ∃ u, e = .returned u ∧ Own w.heap.size w' u (Lr.own x) ∧ Below w.heap.size w w' := by
  obtain ⟨W, hW⟩ : ∃ W, W = w.alloc (robj x o n u c d) := ⟨_, rfl⟩
  have hb := below_new1 w (robj x o n u c d)
  have hr := rblk w x o n u c d
  rw [← hW] at hb hr
  have HB := Lib.hid hb
  have HA := Lib.hid (h.below hb)
  have HS : Hid (w.heap.size < W.heap.size) := lt_of_block hr
  obtain ⟨q0, q1, q2, q3, q4, q5, q6, q7, q8, q9, q10, q11, q12, q13, q14⟩ := rec_cell hr
  obtain ⟨p1, c1, p2, c2, p3, c3, p4, c4, p5, c5, rfl, rfl, rfl, rfl, rfl⟩ := rec_slices h
  have HF := Lib.hid hf
  clear h hb hr hf
  unfold robj at hW
  obtain ⟨k, lsn, ep, txn, pg, off, ol, nw, un, pv, nx, cl, st, op, di⟩ := x
  dsimp only at *
  subst hk
  rw [show Lr.own ⟨4, lsn, ep, txn, pg, off, ol, nw, un, pv, nx, cl, st, op, di⟩ = Cod.le 8 txn from rfl]
  go_enter Tryz.func47, Tryz.ntmps47
  go_upto_region 1 with (fail)
  rw [← hW]
  clear hW
  go_wp2_with fail
  have hn := n64_new W [txn] 1 rfl #[.int .u64 (txn : Int)] 30 rfl
  have hbn := below_new1 W (.cells #[.int .u64 (txn : Int)] 30)
  generalize W.alloc (.cells #[.int .u64 (txn : Int)] 30) = wn at *
  refine (eights_any _ [txn] wn hn (show 1 ≤ 100 by decide)).mono ?_
  rintro e w1 ⟨u, rfl, hO1, hb1⟩
  have HO := Lib.hid (hO1.from (Nat.le_trans HB.out.size hbn.size))
  have HB1 := Lib.hid (HB.out.trans ((hbn.trans (hb1.mono hbn.size)).mono HB.out.size))
  clear hO1 hb1 hn hbn
  go_wp2_with fail
  go_ret
  refine ⟨_, rfl, ?_, HB1.out⟩
  have h8 := HO.out
  simpa [les] using h8
set_option maxHeartbeats 6400000 in
set_option maxRecDepth 20000 in
theorem fields_k0 (x : Lr.R) (o n u c d : Value) (w : World) (h : RecAt w x o n u c d) (hf : Lr.Few x) (hk : ¬ x.kind = 1 ∧ ¬ x.kind = 2 ∧ ¬ x.kind = 3 ∧ ¬ x.kind = 4 ∧ ¬ x.kind = 5) :
    Calls Tryz.prog 47 #[RecV x o n u c d] w fun e w' => ∃ u, e = .returned u ∧ Own w.heap.size w' u (Lr.own x) ∧ Below w.heap.size w w' := by
  obtain ⟨W, hW⟩ : ∃ W, W = w.alloc (robj x o n u c d) := ⟨_, rfl⟩
  have hb := below_new1 w (robj x o n u c d)
  have hr := rblk w x o n u c d
  rw [← hW] at hb hr
  have HB := Lib.hid hb
  have HA := Lib.hid (h.below hb)
  have HS : Hid (w.heap.size < W.heap.size) := lt_of_block hr
  obtain ⟨q0, q1, q2, q3, q4, q5, q6, q7, q8, q9, q10, q11, q12, q13, q14⟩ := rec_cell hr
  obtain ⟨p1, c1, p2, c2, p3, c3, p4, c4, p5, c5, rfl, rfl, rfl, rfl, rfl⟩ := rec_slices h
  have HF := Lib.hid hf
  clear h hb hr hf
  unfold robj at hW
  obtain ⟨k, lsn, ep, txn, pg, off, ol, nw, un, pv, nx, cl, st, op, di⟩ := x
  dsimp only at *
  have h1 := hk.1
  have h2 := hk.2.1
  have h3 := hk.2.2.1
  have h4 := hk.2.2.2.1
  have h5 := hk.2.2.2.2
  rw [show Lr.own ⟨k, lsn, ep, txn, pg, off, ol, nw, un, pv, nx, cl, st, op, di⟩ = [] by unfold Lr.own; simp only [if_neg h1, if_neg h2, if_neg h3, if_neg h4, if_neg h5]]
  have k1 : (k == 1) = false := by rw [beq_eq_false_iff_ne]; exact h1
  have k2 : (k == 2) = false := by rw [beq_eq_false_iff_ne]; exact h2
  have k3 : (k == 3) = false := by rw [beq_eq_false_iff_ne]; exact h3
  have k4 : (k == 4) = false := by rw [beq_eq_false_iff_ne]; exact h4
  have k5 : (k == 5) = false := by rw [beq_eq_false_iff_ne]; exact h5
  clear hk h1 h2 h3 h4 h5
  go_enter Tryz.func47, Tryz.ntmps47
  go_upto_region 1 with (fail)
  rw [← hW]
  clear hW
  go_wp2_with fail
  go_ret
  exact ⟨_, rfl, own_nil _ _, HB.out⟩
end Go.Proofs.YtafpjcobagofcaaGreat

namespace Go.Proofs.YtafpjcobagofcaaGreat
open Go.RowKit

def FcF (B : Nat) (txn : Nat) (pv : Nat) (nx : Nat) (ci : Int) (uv : Value) (i : Nat) (v : Value) (_ : World) : Prop :=
  match i with
  | 0 => v = .pointer (some ⟨B, 3, none⟩)
  | 1 => v = .int .u64 (txn : Int)
  | 2 => v = .pointer (some ⟨B, 9, none⟩)
  | 3 => v = .int .u64 (pv : Int)
  | 4 => v = .pointer (some ⟨B, 10, none⟩)
  | 5 => v = .int .u64 (nx : Int)
  | 8 => v = .int .u8 ci
  | 11 => v = .pointer (some ⟨B, 8, none⟩)
  | 12 => v = uv
  | _ => True
def FcP (base : Nat) (txn : Nat) (pv : Nat) (nx : Nat) (c : Nat) (un : List Nat) (i : Nat) (w : World) (v : Value) : Prop :=
  match i with
  | 6 => N64 w v [txn, pv, nx]
  | 7 => Own base w v (les [txn, pv, nx])
  | 9 => Bts w v [c]
  | 10 => Own base w v (les [txn, pv, nx] ++ [c])
  | 13 => Own base w v ((les [txn, pv, nx] ++ [c]) ++ (Cod.uv un.length ++ un))
  | 14 => Own base w v ((les [txn, pv, nx] ++ [c]) ++ (Cod.uv un.length ++ un))
  | _ => True
def FcT (i : Nat) : Option Nat :=
  match i with
  | 6 => some 7
  | 7 => some 10
  | 9 => some 10
  | 10 => some 13
  | 13 => some 14
  | _ => none
theorem FcS (base : Nat) (txn : Nat) (pv : Nat) (nx : Nat) (c : Nat) (un : List Nat) : ∀ k w w' v, FcP base txn pv nx c un k w v → Below w.heap.size w w' → FcP base txn pv nx c un k w' v := by
  intro k w w' v h hb
  unfold FcP at *
  split
  · exact h.below hb
  · exact h.below hb
  · exact h.below hb
  · exact h.below hb
  · exact h.below hb
  · exact h.below hb
  · trivial
set_option maxHeartbeats 6400000 in
set_option maxRecDepth 20000 in
theorem fields_k2f (x : Lr.R) (o n u c d : Value) (w : World) (h : RecAt w x o n u c d) (hf : Lr.Few x) (hk : x.kind = 2) (hc : x.clr = false) :
    Calls Tryz.prog 47 #[RecV x o n u c d] w fun e w' => ∃ u, e = .returned u ∧ Own w.heap.size w' u (Lr.own x) ∧ Below w.heap.size w w' := by
  obtain ⟨W, hW⟩ : ∃ W, W = w.alloc (robj x o n u c d) := ⟨_, rfl⟩
  have hb := below_new1 w (robj x o n u c d)
  have hr := rblk w x o n u c d
  rw [← hW] at hb hr
  have HB := Lib.hid hb
  have HA := Lib.hid (h.below hb)
  have HS : Hid (w.heap.size < W.heap.size) := lt_of_block hr
  obtain ⟨q0, q1, q2, q3, q4, q5, q6, q7, q8, q9, q10, q11, q12, q13, q14⟩ := rec_cell hr
  obtain ⟨p1, c1, p2, c2, p3, c3, p4, c4, p5, c5, rfl, rfl, rfl, rfl, rfl⟩ := rec_slices h
  have HF := Lib.hid hf
  clear h hb hr hf
  unfold robj at hW
  obtain ⟨k, lsn, ep, txn, pg, off, ol, nw, un, pv, nx, cl, st, op, di⟩ := x
  dsimp only at *
  subst hk
  subst hc
  rw [show Lr.own ⟨2, lsn, ep, txn, pg, off, ol, nw, un, pv, nx, false, st, op, di⟩ = Cod.le 8 txn ++ (Cod.le 8 pv ++ (Cod.le 8 nx ++ (0 :: Lr.text un))) from rfl]
  have HC0 := Lib.hid q0
  have HC1 := Lib.hid q1
  have HC2 := Lib.hid q2
  have HC3 := Lib.hid q3
  have HC4 := Lib.hid q4
  have HC5 := Lib.hid q5
  have HC6 := Lib.hid q6
  have HC7 := Lib.hid q7
  have HC8 := Lib.hid q8
  have HC9 := Lib.hid q9
  have HC10 := Lib.hid q10
  have HC11 := Lib.hid q11
  have HC12 := Lib.hid q12
  have HC13 := Lib.hid q13
  have HC14 := Lib.hid q14
  go_enter Tryz.func47, Tryz.ntmps47
  go_upto_region 1 with (fail)
  rw [← hW]
  clear hW
  go_upto_region 9 with (fail)
  obtain ⟨B, hBs⟩ : ∃ B, B = w.heap.size := ⟨_, rfl⟩
  rw [← hBs] at HB HS HC0 HC1 HC2 HC3 HC4 HC5 HC6 HC7 HC8 HC9 HC10 HC11 HC12 HC13 HC14 ⊢
  have HBS := Lib.hid hBs
  clear hBs q0 q1 q2 q3 q4 q5 q6 q7 q8 q9 q10 q11 q12 q13 q14
  refine Ord.walk (FcF B txn pv nx 0 (.slice p3 un.length c3)) (KeptR W.heap.size W (FcP W.heap.size txn pv nx 0 un) FcT) (fun _ _ => True)
    (by kernel_rfl) (by kernel_rfl) ?fr9 ?hfr9 (fun _ _ _ _ _ h => h) (fun xs => KeptR.first xs (Nat.le_refl _)) ?he9 ?hend9
  case hfr9 =>
    intro xs
    simp only [Ord.fill, Act.put, List.setIfInBounds_toArray, List.set_cons_zero, List.set_cons_succ]
    rfl
  case he9 =>
    refine Ord.each_cons (fun D xs w2 hD hC hP hR hA K hK => ?_) ?_
    · -- 0
      clear hA
      go_simp
      exact hK _ _ ⟨_, rfl, trivial, hR.step 0 _ (FcS W.heap.size txn pv nx 0 un) (Below.refl _ _) trivial, rfl⟩
    refine Ord.each_cons (fun D xs w2 hD hC hP hR hA K hK => ?_) ?_
    · -- 1
      have q0 := Ord.ahead_get _ hA 0 (by decide)
      simp only [FcF] at q0
      simp only [q0] at hK
      clear hA
      have cc := hR.below.cell (p := ⟨B, 3, none⟩) HS.out
      rw [HC3.out] at cc
      go_simp
      exact hK _ _ ⟨_, rfl, trivial, hR.step 1 _ (FcS W.heap.size txn pv nx 0 un) (Below.refl _ _) trivial, rfl⟩
    refine Ord.each_cons (fun D xs w2 hD hC hP hR hA K hK => ?_) ?_
    · -- 2
      clear hA
      go_simp
      exact hK _ _ ⟨_, rfl, trivial, hR.step 2 _ (FcS W.heap.size txn pv nx 0 un) (Below.refl _ _) trivial, rfl⟩
    refine Ord.each_cons (fun D xs w2 hD hC hP hR hA K hK => ?_) ?_
    · -- 3
      have q2 := Ord.ahead_get _ hA 2 (by decide)
      simp only [FcF] at q2
      simp only [q2] at hK
      clear hA
      have cc := hR.below.cell (p := ⟨B, 9, none⟩) HS.out
      rw [HC9.out] at cc
      go_simp
      exact hK _ _ ⟨_, rfl, trivial, hR.step 3 _ (FcS W.heap.size txn pv nx 0 un) (Below.refl _ _) trivial, rfl⟩
    refine Ord.each_cons (fun D xs w2 hD hC hP hR hA K hK => ?_) ?_
    · -- 4
      clear hA
      go_simp
      exact hK _ _ ⟨_, rfl, trivial, hR.step 4 _ (FcS W.heap.size txn pv nx 0 un) (Below.refl _ _) trivial, rfl⟩
    refine Ord.each_cons (fun D xs w2 hD hC hP hR hA K hK => ?_) ?_
    · -- 5
      have q4 := Ord.ahead_get _ hA 4 (by decide)
      simp only [FcF] at q4
      simp only [q4] at hK
      clear hA
      have cc := hR.below.cell (p := ⟨B, 10, none⟩) HS.out
      rw [HC10.out] at cc
      go_simp
      exact hK _ _ ⟨_, rfl, trivial, hR.step 5 _ (FcS W.heap.size txn pv nx 0 un) (Below.refl _ _) trivial, rfl⟩
    refine Ord.each_cons (fun D xs w2 hD hC hP hR hA K hK => ?_) ?_
    · -- 6
      have q1 := Ord.ahead_get _ hA 1 (by decide)
      simp only [FcF] at q1
      have q3 := Ord.ahead_get _ hA 3 (by decide)
      simp only [FcF] at q3
      have q5 := Ord.ahead_get _ hA 5 (by decide)
      simp only [FcF] at q5
      simp only [q1, q3, q5] at hK
      clear hA
      go_simp
      exact hK _ _ ⟨_, rfl, trivial, hR.step 6 _ (FcS W.heap.size txn pv nx 0 un) (below_new1 _ _) (n64_new _ [txn, pv, nx] 3 rfl _ _ rfl), trivial⟩
    refine Ord.each_cons (fun D xs w2 hD hC hP hR hA K hK => ?_) ?_
    · -- 7
      clear hA
      have o6 : N64 w2 (xs 6) [txn, pv, nx] := hR.each 6 (hP { on := 6, ground := .data } (by simp) rfl) (fun i hi => by rw [← Option.some.inj (show some 7 = some i from hi)]; exact hD)
      go_simp
      refine (eights_any (xs 6) [txn, pv, nx] w2 o6 (show 3 ≤ 100 by decide)).mono ?_
      rintro e w' ⟨u, rfl, hO, hb⟩
      exact hK _ _ ⟨_, rfl, trivial, hR.step 7 _ (FcS W.heap.size txn pv nx 0 un) hb (hO.from hR.size), trivial⟩
    refine Ord.each_cons (fun D xs w2 hD hC hP hR hA K hK => ?_) ?_
    · -- 8
      clear hA
      go_simp
      exact hK _ _ ⟨_, rfl, trivial, hR.step 8 _ (FcS W.heap.size txn pv nx 0 un) (Below.refl _ _) trivial, rfl⟩
    refine Ord.each_cons (fun D xs w2 hD hC hP hR hA K hK => ?_) ?_
    · -- 9
      have q8 := Ord.ahead_get _ hA 8 (by decide)
      simp only [FcF] at q8
      simp only [q8] at hK
      clear hA
      go_simp
      exact hK _ _ ⟨_, rfl, trivial, hR.step 9 _ (FcS W.heap.size txn pv nx 0 un) (below_new1 _ _) (bts_alloc w2 [0] 1 (by simp) _ (0, 0) (by decide) (by simp)), trivial⟩
    refine Ord.each_cons (fun D xs w2 hD hC hP hR hA K hK => ?_) ?_
    · -- 10
      clear hA
      have o7 : Own W.heap.size w2 (xs 7) (les [txn, pv, nx]) := hR.each 7 (hP { on := 7, ground := .data } (by simp) rfl) (fun i hi => by rw [← Option.some.inj (show some 10 = some i from hi)]; exact hD)
      have o9 : Bts w2 (xs 9) [0] := hR.each 9 (hP { on := 9, ground := .data } (by simp) rfl) (fun i hi => by rw [← Option.some.inj (show some 10 = some i from hi)]; exact hD)
      refine wp_append_Own _ _ rfl W.heap.size (xs 7) _ rfl o7 (xs 9) _ rfl o9 (by rw [les_length]; show 8 * 3 + 1 ≤ 140737488355328; decide) hR.size ?_
      intro u w' hO hb _
      refine hK _ _ ⟨_, rfl, trivial, hR.append 10 _ hb (fun j hj hDj ha => ?_) hO, trivial⟩
      unfold FcP
      split
      · exact absurd (ha 7 rfl) (by rw [show Ord.wth D 10 7 = D 7 from if_neg (by decide), hP { on := 7, ground := .data } (by simp) rfl]; decide)
      · exact absurd (ha 10 rfl) (by rw [wth_at]; decide)
      · exact absurd (ha 10 rfl) (by rw [wth_at]; decide)
      · exact absurd rfl hj
      · exact absurd hDj (by cases hx : D 13 with | false => decide | true => exact absurd (Ord.closed_at hC 13 10 rfl hx) (by rw [hD]; decide))
      · exact absurd hDj (by cases hx : D 14 with | false => decide | true => exact absurd (Ord.closed_at hC 13 10 rfl (Ord.closed_at hC 14 13 rfl hx)) (by rw [hD]; decide))
      · trivial
    refine Ord.each_cons (fun D xs w2 hD hC hP hR hA K hK => ?_) ?_
    · -- 11
      clear hA
      go_simp
      exact hK _ _ ⟨_, rfl, trivial, hR.step 11 _ (FcS W.heap.size txn pv nx 0 un) (Below.refl _ _) trivial, rfl⟩
    refine Ord.each_cons (fun D xs w2 hD hC hP hR hA K hK => ?_) ?_
    · -- 12
      have q11 := Ord.ahead_get _ hA 11 (by decide)
      simp only [FcF] at q11
      simp only [q11] at hK
      clear hA
      have cc := hR.below.cell (p := ⟨B, 8, none⟩) HS.out
      rw [HC8.out] at cc
      go_simp
      exact hK _ _ ⟨_, rfl, trivial, hR.step 12 _ (FcS W.heap.size txn pv nx 0 un) (Below.refl _ _) trivial, rfl⟩
    refine Ord.each_cons (fun D xs w2 hD hC hP hR hA K hK => ?_) ?_
    · -- 13
      have q12 := Ord.ahead_get _ hA 12 (by decide)
      simp only [FcF] at q12
      simp only [q12] at hK
      clear hA
      have o10 : Own W.heap.size w2 (xs 10) (les [txn, pv, nx] ++ [0]) := hR.each 10 (hP { on := 10, ground := .data } (by simp) rfl) (fun i hi => by rw [← Option.some.inj (show some 13 = some i from hi)]; exact hD)
      go_simp
      refine (PutText_any (xs 10) (.slice p3 un.length c3) _ un w2 o10.bts (HA.out.undo.below hR.below) (by rw [List.length_append, les_length]; have := HF.out.undo; dsimp only at this; simp only [List.length_cons, List.length_nil]; omega)).mono ?_
      rintro e w' ⟨u, rfl, hO, hb⟩
      exact hK _ _ ⟨_, rfl, trivial, hR.step 13 _ (FcS W.heap.size txn pv nx 0 un) hb (hO.from hR.size), trivial⟩
    refine Ord.each_cons (fun D xs w2 hD hC hP hR hA K hK => ?_) ?_
    · -- 14
      clear hA
      have o13 : Own W.heap.size w2 (xs 13) ((les [txn, pv, nx] ++ [0]) ++ (Cod.uv un.length ++ un)) := hR.each 13 (hP { on := 13, ground := .data } (by simp) rfl) (fun i hi => by rw [← Option.some.inj (show some 14 = some i from hi)]; exact hD)
      go_simp
      exact hK _ _ ⟨_, rfl, trivial, hR.step 14 _ (FcS W.heap.size txn pv nx 0 un) (Below.refl _ _) o13, trivial⟩
    exact Ord.each_nil
  case hend9 =>
    intro D xs w9 hR hall
    have h7 := hR.each 14 (hall 14 (by decide)).1 (fun i hi => by cases hi)
    have HV := Lib.hid h7
    have HB10 := Lib.hid hR.below
    clear h7 hR hall
    generalize xs 14 = z14 at *
    generalize xs 13 = z13 at *
    generalize xs 12 = z12 at *
    generalize xs 11 = z11 at *
    generalize xs 10 = z10 at *
    generalize xs 9 = z9 at *
    generalize xs 8 = z8 at *
    generalize xs 7 = z7 at *
    generalize xs 6 = z6 at *
    generalize xs 5 = z5 at *
    generalize xs 4 = z4 at *
    generalize xs 3 = z3 at *
    generalize xs 2 = z2 at *
    generalize xs 1 = z1 at *
    generalize xs 0 = z0 at *
    go_wp2_with fail
    go_ret
    refine ⟨_, rfl, ?_, by rw [← HBS.out]; exact HB.out.trans (HB10.out.mono (Nat.le_of_lt HS.out))⟩
    rw [← HBS.out]
    have h8 : Own W.heap.size w9 z14 _ := HV.out
    have e : (les [txn, pv, nx] ++ [0]) ++ (Cod.uv un.length ++ un) = Cod.le 8 txn ++ (Cod.le 8 pv ++ (Cod.le 8 nx ++ (0 :: Lr.text un))) := by unfold les Lr.text; simp only [List.flatMap_cons, List.flatMap_nil, List.append_assoc, List.append_nil, List.cons_append, List.nil_append]
    rw [e] at h8
    exact h8.from (Nat.le_of_lt HS.out)

end Go.Proofs.YtafpjcobagofcaaGreat

namespace Go.Proofs.YtafpjcobagofcaaGreat
open Go.RowKit

set_option maxHeartbeats 6400000 in
set_option maxRecDepth 20000 in
theorem fields_k2t (x : Lr.R) (o n u c d : Value) (w : World) (h : RecAt w x o n u c d) (hf : Lr.Few x) (hk : x.kind = 2) (hc : x.clr = true) :
    Calls Tryz.prog 47 #[RecV x o n u c d] w fun e w' => ∃ u, e = .returned u ∧ Own w.heap.size w' u (Lr.own x) ∧ Below w.heap.size w w' := by
  obtain ⟨W, hW⟩ : ∃ W, W = w.alloc (robj x o n u c d) := ⟨_, rfl⟩
  have hb := below_new1 w (robj x o n u c d)
  have hr := rblk w x o n u c d
  rw [← hW] at hb hr
  have HB := Lib.hid hb
  have HA := Lib.hid (h.below hb)
  have HS : Hid (w.heap.size < W.heap.size) := lt_of_block hr
  obtain ⟨q0, q1, q2, q3, q4, q5, q6, q7, q8, q9, q10, q11, q12, q13, q14⟩ := rec_cell hr
  obtain ⟨p1, c1, p2, c2, p3, c3, p4, c4, p5, c5, rfl, rfl, rfl, rfl, rfl⟩ := rec_slices h
  have HF := Lib.hid hf
  clear h hb hr hf
  unfold robj at hW
  obtain ⟨k, lsn, ep, txn, pg, off, ol, nw, un, pv, nx, cl, st, op, di⟩ := x
  dsimp only at *
  subst hk
  subst hc
  rw [show Lr.own ⟨2, lsn, ep, txn, pg, off, ol, nw, un, pv, nx, true, st, op, di⟩ = Cod.le 8 txn ++ (Cod.le 8 pv ++ (Cod.le 8 nx ++ (1 :: Lr.text un))) from rfl]
  have HC0 := Lib.hid q0
  have HC1 := Lib.hid q1
  have HC2 := Lib.hid q2
  have HC3 := Lib.hid q3
  have HC4 := Lib.hid q4
  have HC5 := Lib.hid q5
  have HC6 := Lib.hid q6
  have HC7 := Lib.hid q7
  have HC8 := Lib.hid q8
  have HC9 := Lib.hid q9
  have HC10 := Lib.hid q10
  have HC11 := Lib.hid q11
  have HC12 := Lib.hid q12
  have HC13 := Lib.hid q13
  have HC14 := Lib.hid q14
  go_enter Tryz.func47, Tryz.ntmps47
  go_upto_region 1 with (fail)
  rw [← hW]
  clear hW
  go_upto_region 9 with (fail)
  obtain ⟨B, hBs⟩ : ∃ B, B = w.heap.size := ⟨_, rfl⟩
  rw [← hBs] at HB HS HC0 HC1 HC2 HC3 HC4 HC5 HC6 HC7 HC8 HC9 HC10 HC11 HC12 HC13 HC14 ⊢
  have HBS := Lib.hid hBs
  clear hBs q0 q1 q2 q3 q4 q5 q6 q7 q8 q9 q10 q11 q12 q13 q14
  refine Ord.walk (FcF B txn pv nx 1 (.slice p3 un.length c3)) (KeptR W.heap.size W (FcP W.heap.size txn pv nx 1 un) FcT) (fun _ _ => True)
    (by kernel_rfl) (by kernel_rfl) ?fr9 ?hfr9 (fun _ _ _ _ _ h => h) (fun xs => KeptR.first xs (Nat.le_refl _)) ?he9 ?hend9
  case hfr9 =>
    intro xs
    simp only [Ord.fill, Act.put, List.setIfInBounds_toArray, List.set_cons_zero, List.set_cons_succ]
    rfl
  case he9 =>
    refine Ord.each_cons (fun D xs w2 hD hC hP hR hA K hK => ?_) ?_
    · -- 0
      clear hA
      go_simp
      exact hK _ _ ⟨_, rfl, trivial, hR.step 0 _ (FcS W.heap.size txn pv nx 1 un) (Below.refl _ _) trivial, rfl⟩
    refine Ord.each_cons (fun D xs w2 hD hC hP hR hA K hK => ?_) ?_
    · -- 1
      have q0 := Ord.ahead_get _ hA 0 (by decide)
      simp only [FcF] at q0
      simp only [q0] at hK
      clear hA
      have cc := hR.below.cell (p := ⟨B, 3, none⟩) HS.out
      rw [HC3.out] at cc
      go_simp
      exact hK _ _ ⟨_, rfl, trivial, hR.step 1 _ (FcS W.heap.size txn pv nx 1 un) (Below.refl _ _) trivial, rfl⟩
    refine Ord.each_cons (fun D xs w2 hD hC hP hR hA K hK => ?_) ?_
    · -- 2
      clear hA
      go_simp
      exact hK _ _ ⟨_, rfl, trivial, hR.step 2 _ (FcS W.heap.size txn pv nx 1 un) (Below.refl _ _) trivial, rfl⟩
    refine Ord.each_cons (fun D xs w2 hD hC hP hR hA K hK => ?_) ?_
    · -- 3
      have q2 := Ord.ahead_get _ hA 2 (by decide)
      simp only [FcF] at q2
      simp only [q2] at hK
      clear hA
      have cc := hR.below.cell (p := ⟨B, 9, none⟩) HS.out
      rw [HC9.out] at cc
      go_simp
      exact hK _ _ ⟨_, rfl, trivial, hR.step 3 _ (FcS W.heap.size txn pv nx 1 un) (Below.refl _ _) trivial, rfl⟩
    refine Ord.each_cons (fun D xs w2 hD hC hP hR hA K hK => ?_) ?_
    · -- 4
      clear hA
      go_simp
      exact hK _ _ ⟨_, rfl, trivial, hR.step 4 _ (FcS W.heap.size txn pv nx 1 un) (Below.refl _ _) trivial, rfl⟩
    refine Ord.each_cons (fun D xs w2 hD hC hP hR hA K hK => ?_) ?_
    · -- 5
      have q4 := Ord.ahead_get _ hA 4 (by decide)
      simp only [FcF] at q4
      simp only [q4] at hK
      clear hA
      have cc := hR.below.cell (p := ⟨B, 10, none⟩) HS.out
      rw [HC10.out] at cc
      go_simp
      exact hK _ _ ⟨_, rfl, trivial, hR.step 5 _ (FcS W.heap.size txn pv nx 1 un) (Below.refl _ _) trivial, rfl⟩
    refine Ord.each_cons (fun D xs w2 hD hC hP hR hA K hK => ?_) ?_
    · -- 6
      have q1 := Ord.ahead_get _ hA 1 (by decide)
      simp only [FcF] at q1
      have q3 := Ord.ahead_get _ hA 3 (by decide)
      simp only [FcF] at q3
      have q5 := Ord.ahead_get _ hA 5 (by decide)
      simp only [FcF] at q5
      simp only [q1, q3, q5] at hK
      clear hA
      go_simp
      exact hK _ _ ⟨_, rfl, trivial, hR.step 6 _ (FcS W.heap.size txn pv nx 1 un) (below_new1 _ _) (n64_new _ [txn, pv, nx] 3 rfl _ _ rfl), trivial⟩
    refine Ord.each_cons (fun D xs w2 hD hC hP hR hA K hK => ?_) ?_
    · -- 7
      clear hA
      have o6 : N64 w2 (xs 6) [txn, pv, nx] := hR.each 6 (hP { on := 6, ground := .data } (by simp) rfl) (fun i hi => by rw [← Option.some.inj (show some 7 = some i from hi)]; exact hD)
      go_simp
      refine (eights_any (xs 6) [txn, pv, nx] w2 o6 (show 3 ≤ 100 by decide)).mono ?_
      rintro e w' ⟨u, rfl, hO, hb⟩
      exact hK _ _ ⟨_, rfl, trivial, hR.step 7 _ (FcS W.heap.size txn pv nx 1 un) hb (hO.from hR.size), trivial⟩
    refine Ord.each_cons (fun D xs w2 hD hC hP hR hA K hK => ?_) ?_
    · -- 8
      clear hA
      go_simp
      exact hK _ _ ⟨_, rfl, trivial, hR.step 8 _ (FcS W.heap.size txn pv nx 1 un) (Below.refl _ _) trivial, rfl⟩
    refine Ord.each_cons (fun D xs w2 hD hC hP hR hA K hK => ?_) ?_
    · -- 9
      have q8 := Ord.ahead_get _ hA 8 (by decide)
      simp only [FcF] at q8
      simp only [q8] at hK
      clear hA
      go_simp
      exact hK _ _ ⟨_, rfl, trivial, hR.step 9 _ (FcS W.heap.size txn pv nx 1 un) (below_new1 _ _) (bts_alloc w2 [1] 1 (by simp) _ (0, 0) (by decide) (by simp)), trivial⟩
    refine Ord.each_cons (fun D xs w2 hD hC hP hR hA K hK => ?_) ?_
    · -- 10
      clear hA
      have o7 : Own W.heap.size w2 (xs 7) (les [txn, pv, nx]) := hR.each 7 (hP { on := 7, ground := .data } (by simp) rfl) (fun i hi => by rw [← Option.some.inj (show some 10 = some i from hi)]; exact hD)
      have o9 : Bts w2 (xs 9) [1] := hR.each 9 (hP { on := 9, ground := .data } (by simp) rfl) (fun i hi => by rw [← Option.some.inj (show some 10 = some i from hi)]; exact hD)
      refine wp_append_Own _ _ rfl W.heap.size (xs 7) _ rfl o7 (xs 9) _ rfl o9 (by rw [les_length]; show 8 * 3 + 1 ≤ 140737488355328; decide) hR.size ?_
      intro u w' hO hb _
      refine hK _ _ ⟨_, rfl, trivial, hR.append 10 _ hb (fun j hj hDj ha => ?_) hO, trivial⟩
      unfold FcP
      split
      · exact absurd (ha 7 rfl) (by rw [show Ord.wth D 10 7 = D 7 from if_neg (by decide), hP { on := 7, ground := .data } (by simp) rfl]; decide)
      · exact absurd (ha 10 rfl) (by rw [wth_at]; decide)
      · exact absurd (ha 10 rfl) (by rw [wth_at]; decide)
      · exact absurd rfl hj
      · exact absurd hDj (by cases hx : D 13 with | false => decide | true => exact absurd (Ord.closed_at hC 13 10 rfl hx) (by rw [hD]; decide))
      · exact absurd hDj (by cases hx : D 14 with | false => decide | true => exact absurd (Ord.closed_at hC 13 10 rfl (Ord.closed_at hC 14 13 rfl hx)) (by rw [hD]; decide))
      · trivial
    refine Ord.each_cons (fun D xs w2 hD hC hP hR hA K hK => ?_) ?_
    · -- 11
      clear hA
      go_simp
      exact hK _ _ ⟨_, rfl, trivial, hR.step 11 _ (FcS W.heap.size txn pv nx 1 un) (Below.refl _ _) trivial, rfl⟩
    refine Ord.each_cons (fun D xs w2 hD hC hP hR hA K hK => ?_) ?_
    · -- 12
      have q11 := Ord.ahead_get _ hA 11 (by decide)
      simp only [FcF] at q11
      simp only [q11] at hK
      clear hA
      have cc := hR.below.cell (p := ⟨B, 8, none⟩) HS.out
      rw [HC8.out] at cc
      go_simp
      exact hK _ _ ⟨_, rfl, trivial, hR.step 12 _ (FcS W.heap.size txn pv nx 1 un) (Below.refl _ _) trivial, rfl⟩
    refine Ord.each_cons (fun D xs w2 hD hC hP hR hA K hK => ?_) ?_
    · -- 13
      have q12 := Ord.ahead_get _ hA 12 (by decide)
      simp only [FcF] at q12
      simp only [q12] at hK
      clear hA
      have o10 : Own W.heap.size w2 (xs 10) (les [txn, pv, nx] ++ [1]) := hR.each 10 (hP { on := 10, ground := .data } (by simp) rfl) (fun i hi => by rw [← Option.some.inj (show some 13 = some i from hi)]; exact hD)
      go_simp
      refine (PutText_any (xs 10) (.slice p3 un.length c3) _ un w2 o10.bts (HA.out.undo.below hR.below) (by rw [List.length_append, les_length]; have := HF.out.undo; dsimp only at this; simp only [List.length_cons, List.length_nil]; omega)).mono ?_
      rintro e w' ⟨u, rfl, hO, hb⟩
      exact hK _ _ ⟨_, rfl, trivial, hR.step 13 _ (FcS W.heap.size txn pv nx 1 un) hb (hO.from hR.size), trivial⟩
    refine Ord.each_cons (fun D xs w2 hD hC hP hR hA K hK => ?_) ?_
    · -- 14
      clear hA
      have o13 : Own W.heap.size w2 (xs 13) ((les [txn, pv, nx] ++ [1]) ++ (Cod.uv un.length ++ un)) := hR.each 13 (hP { on := 13, ground := .data } (by simp) rfl) (fun i hi => by rw [← Option.some.inj (show some 14 = some i from hi)]; exact hD)
      go_simp
      exact hK _ _ ⟨_, rfl, trivial, hR.step 14 _ (FcS W.heap.size txn pv nx 1 un) (Below.refl _ _) o13, trivial⟩
    exact Ord.each_nil
  case hend9 =>
    intro D xs w9 hR hall
    have h7 := hR.each 14 (hall 14 (by decide)).1 (fun i hi => by cases hi)
    have HV := Lib.hid h7
    have HB10 := Lib.hid hR.below
    clear h7 hR hall
    generalize xs 14 = z14 at *
    generalize xs 13 = z13 at *
    generalize xs 12 = z12 at *
    generalize xs 11 = z11 at *
    generalize xs 10 = z10 at *
    generalize xs 9 = z9 at *
    generalize xs 8 = z8 at *
    generalize xs 7 = z7 at *
    generalize xs 6 = z6 at *
    generalize xs 5 = z5 at *
    generalize xs 4 = z4 at *
    generalize xs 3 = z3 at *
    generalize xs 2 = z2 at *
    generalize xs 1 = z1 at *
    generalize xs 0 = z0 at *
    go_wp2_with fail
    go_ret
    refine ⟨_, rfl, ?_, by rw [← HBS.out]; exact HB.out.trans (HB10.out.mono (Nat.le_of_lt HS.out))⟩
    rw [← HBS.out]
    have h8 : Own W.heap.size w9 z14 _ := HV.out
    have e : (les [txn, pv, nx] ++ [1]) ++ (Cod.uv un.length ++ un) = Cod.le 8 txn ++ (Cod.le 8 pv ++ (Cod.le 8 nx ++ (1 :: Lr.text un))) := by unfold les Lr.text; simp only [List.flatMap_cons, List.flatMap_nil, List.append_assoc, List.append_nil, List.cons_append, List.nil_append]
    rw [e] at h8
    exact h8.from (Nat.le_of_lt HS.out)

end Go.Proofs.YtafpjcobagofcaaGreat

namespace Go.Proofs.YtafpjcobagofcaaGreat
open Go.RowKit

theorem fields_any (x : Lr.R) (o n u c d : Value) (w : World) (h : RecAt w x o n u c d) (hf : Lr.Few x) :
    Calls Tryz.prog 47 #[RecV x o n u c d] w fun e w' => ∃ u, e = .returned u ∧ Own w.heap.size w' u (Lr.own x) ∧ Below w.heap.size w w' := by
  by_cases h1 : x.kind = 1
  · exact fields_k1 x _ _ _ _ _ w h hf h1
  by_cases h2 : x.kind = 2
  · cases hc : x.clr
    · exact fields_k2f x _ _ _ _ _ w h hf h2 hc
    · exact fields_k2t x _ _ _ _ _ w h hf h2 hc
  by_cases h3 : x.kind = 3
  · exact fields_k3 x _ _ _ _ _ w h hf h3
  by_cases h4 : x.kind = 4
  · exact fields_k4 x _ _ _ _ _ w h hf h4
  by_cases h5 : x.kind = 5
  · exact fields_k5 x _ _ _ _ _ w h hf h5
  exact fields_k0 x _ _ _ _ _ w h hf ⟨h1, h2, h3, h4, h5⟩
end Go.Proofs.YtafpjcobagofcaaGreat
