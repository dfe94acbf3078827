/- A half as it is to be written, and its bytes, by the program. Conditions: what stands there is a half; the log's bytes that wait reach it. -/
import Derived.Test.YtafpjcobagofcaaGreatWlGood
namespace Go.Proofs.YtafpjcobagofcaaGreat
open Go.RowKit

namespace Wl
def fill1 (was : Hf) (old : Nat) : Hf := ⟨0, 0, 0, (List.replicate 52 0).take 0 ++ was.log.take old ++ (List.replicate 52 0).drop (0 + old)⟩
def fill2 (was : Hf) (wl : List Nat) (old sw fresh : Nat) : Hf := ⟨0, 0, 0, (fill1 was old).log.take old ++ (wl.drop sw).take fresh ++ (fill1 was old).log.drop (old + fresh)⟩
def fillHf (was : Hf) (wl : List Nat) (old sw fresh r ep : Nat) : Hf := ⟨r, ep, old + fresh, (fill2 was wl old sw fresh).log⟩
theorem fill1_length {was : Hf} (h : was.log.length = 52) {old : Nat} (ho : old ≤ 52) : (fill1 was old).log.length = 52 := by
  unfold fill1
  simp only [List.length_append, List.length_take, List.length_drop, List.length_replicate, h]
  omega
theorem fill2_length {was : Hf} (h : was.log.length = 52) {wl : List Nat} {old sw fresh : Nat} (ho : old + fresh ≤ 52) (hs : fresh ≤ wl.length - sw) : (fill2 was wl old sw fresh).log.length = 52 := by
  unfold fill2
  simp only [List.length_append, List.length_take, List.length_drop, fill1_length h (show old ≤ 52 by omega)]
  omega
theorem fill2_lt {was : Hf} (h : ∀ b ∈ was.log, b < 256) {wl : List Nat} (hw : ∀ b ∈ wl, b < 256) {old sw fresh : Nat} : ∀ b ∈ (fill2 was wl old sw fresh).log, b < 256 := by
  have hz : ∀ b ∈ List.replicate 52 0, b < 256 := fun b hb => by rw [List.eq_of_mem_replicate hb]; decide
  have h1 : ∀ b ∈ (fill1 was old).log, b < 256 := by
    intro b hb
    unfold fill1 at hb
    simp only [List.mem_append] at hb
    rcases hb with (hb | hb) | hb
    · exact hz b (List.mem_of_mem_take hb)
    · exact h b (List.mem_of_mem_take hb)
    · exact hz b (List.mem_of_mem_drop hb)
  intro b hb
  unfold fill2 at hb
  simp only [List.mem_append] at hb
  rcases hb with (hb | hb) | hb
  · exact h1 b (List.mem_of_mem_take hb)
  · exact hw b (List.mem_of_mem_drop (List.mem_of_mem_take hb))
  · exact h1 b (List.mem_of_mem_drop hb)
theorem fill2_at {was : Hf} (h : was.log.length = 52) {wl : List Nat} {old sw fresh : Nat} (ho : old + fresh ≤ 52) (hs : fresh ≤ wl.length - sw) {i : Nat} (hi : i < old + fresh) : (fill2 was wl old sw fresh).log.getD i 0 = if i < old then was.log.getD i 0 else wl.getD (sw + (i - old)) 0 := by
  have hl := fill1_length h (show old ≤ 52 by omega)
  have e : (fill2 was wl old sw fresh).log = (fill1 was old).log.take old ++ ((wl.drop sw).take fresh ++ (fill1 was old).log.drop (old + fresh)) := List.append_assoc ..
  have ht : ((fill1 was old).log.take old).length = old := by rw [List.length_take, hl]; omega
  rw [e, getD_app, ht]
  by_cases h1 : i < old
  · rw [if_pos h1, if_pos h1, getD_take h1]
    have e2 : (fill1 was old).log = was.log.take old ++ (List.replicate 52 0).drop (0 + old) := by unfold fill1; rw [List.take_zero, List.nil_append]
    rw [e2, getD_app, List.length_take, h, if_pos (by omega), getD_take h1]
  · rw [if_neg h1, if_neg h1]
    rw [getD_app, if_pos (by rw [List.length_take, List.length_drop]; omega), getD_take (by omega), getD_drop]
end Wl
theorem hfC_0 (x : Wl.Hf) : (HfC x)[0]? = some (.int .u32 (x.round : Int)) := rfl
theorem hfC_1 (x : Wl.Hf) (u : Value) : ((HfC x).setIfInBounds 0 u)[1]? = some (.int .u32 (x.epoch : Int)) := by rw [Array.getElem?_setIfInBounds_ne (by decide)]; rfl
theorem hfC_2 (x : Wl.Hf) (u v : Value) : (((HfC x).setIfInBounds 0 u).setIfInBounds 1 v)[2]? = some (.int .u32 (x.fill : Int)) := by rw [Array.getElem?_setIfInBounds_ne (by decide), Array.getElem?_setIfInBounds_ne (by decide)]; rfl
theorem hfC_head (x : Wl.Hf) (r e f : Nat) : (((HfC x).setIfInBounds 0 (.int .u32 (r : Int))).setIfInBounds 1 (.int .u32 (e : Int))).setIfInBounds 2 (.int .u32 (f : Int)) = HfC ⟨r, e, f, x.log⟩ := by
  unfold HfC
  simp
def HbF (x : Wl.Hf) (Q W : Nat) (i : Nat) (v : Value) (w : World) : Prop :=
  match i with
  | 0 => v = .pointer (some ⟨Q, 0, none⟩)
  | 1 => v = .pointer (some ⟨Q, 0, none⟩)
  | 2 => v = .int .u32 (x.round : Int)
  | 3 => Own W w v ([] ++ Cod.le 4 x.round)
  | 4 => v = .pointer (some ⟨Q, 0, none⟩)
  | 5 => v = .pointer (some ⟨Q, 1, none⟩)
  | 6 => v = .int .u32 (x.epoch : Int)
  | 7 => Own W w v (([] ++ Cod.le 4 x.round) ++ Cod.le 4 x.epoch)
  | 8 => v = .pointer (some ⟨Q, 0, none⟩)
  | 9 => v = .pointer (some ⟨Q, 2, none⟩)
  | 10 => v = .int .u32 (x.fill : Int)
  | 11 => Own W w v ((([] ++ Cod.le 4 x.round) ++ Cod.le 4 x.epoch) ++ Cod.le 4 x.fill)
  | 12 => Own W w v ((([] ++ Cod.le 4 x.round) ++ Cod.le 4 x.epoch) ++ Cod.le 4 x.fill)
  | _ => True
theorem HbF_later (x : Wl.Hf) (Q W : Nat) (i : Nat) (v : Value) (w w' : World) (hb : Below w.heap.size w w') (h : HbF x Q W i v w) : HbF x Q W i v w' := by
  unfold HbF at *
  split at h <;> first | exact h | exact h.below hb | trivial

def F4F (Q1 Q3 old : Nat) (i : Nat) (v : Value) (_ : World) : Prop :=
  match i with
  | 0 => v = .pointer (some ⟨Q3, 3, none⟩)
  | 1 => v = .int .u64 (old : Int)
  | 2 => v = .slice (some ⟨Q3, 3, none⟩) old 52
  | 3 => v = .pointer (some ⟨Q1, 3, none⟩)
  | 4 => v = .slice (some ⟨Q1, 3, none⟩) 52 52
  | _ => True
theorem F4F_later (Q1 Q3 old : Nat) {Qz : Nat} (i : Nat) (v : Value) (w w' : World) (_ : Touch (· = Qz) w w') (h : F4F Q1 Q3 old i v w) : F4F Q1 Q3 old i v w' := h

def F5F (L Q3 old place flushed p3 po s0 : Nat) (wa : Value) (gw sw nw cw : Nat) (i : Nat) (v : Value) (_ : World) : Prop :=
  match i with
  | 0 => v = .pointer (some ⟨Q3, 3, none⟩)
  | 1 => v = .int .u64 (old : Int)
  | 2 => v = .slice (some ⟨Q3, 3 + old, none⟩) (52 - old) (52 - old)
  | 3 => v = .pointer (some ⟨L, 0, none⟩)
  | 4 => v = .pointer (some ⟨L, 0, none⟩)
  | 5 => v = .pointer (some ⟨L, 8, none⟩)
  | 6 => v = wa
  | 7 => v = .int .u64 (place : Int)
  | 8 => v = .int .u64 (old : Int)
  | 9 => v = .int .u64 (po : Int)
  | 10 => v = .pointer (some ⟨L, 0, none⟩)
  | 11 => v = .pointer (some ⟨L, 0, none⟩)
  | 12 => v = .pointer (some ⟨L, 0, none⟩)
  | 13 => v = .pointer (some ⟨L, 1, none⟩)
  | 14 => v = .int .u64 (flushed : Int)
  | 15 => v = .int .u64 (s0 : Int)
  | 16 => v = .slice (some ⟨gw, sw, none⟩) nw cw
  | 17 => v = .int .i64 (p3 : Int)
  | 18 => v = .int .i64 (p3 : Int)
  | _ => True
theorem F5F_later (L Q3 old place flushed p3 po s0 : Nat) (wa : Value) (gw sw nw cw : Nat) {Qz : Nat} (i : Nat) (v : Value) (w w' : World) (_ : Touch (· = Qz) w w') (h : F5F L Q3 old place flushed p3 po s0 wa gw sw nw cw i v w) : F5F L Q3 old place flushed p3 po s0 wa gw sw nw cw i v w' := h

def F6F (L Q3 g r old fresh ep ff : Nat) (i : Nat) (v : Value) (_ : World) : Prop :=
  match i with
  | 0 => v = .pointer (some ⟨L, 0, none⟩)
  | 1 => v = .int .u64 (g : Int)
  | 2 => v = .int .u32 (r : Int)
  | 3 => v = .pointer (some ⟨L, 0, none⟩)
  | 4 => v = .pointer (some ⟨L, 0, none⟩)
  | 5 => v = .pointer (some ⟨L, 0, none⟩)
  | 6 => v = .pointer (some ⟨L, 3, none⟩)
  | 7 => v = .int .u32 (ep : Int)
  | 8 => v = .int .u64 (old : Int)
  | 9 => v = .int .u32 (old : Int)
  | 10 => v = .int .i64 (fresh : Int)
  | 11 => v = .int .u32 (fresh : Int)
  | 12 => v = .int .u32 (ff : Int)
  | 13 => v = .agg #[.int .u32 (r : Int), .int .u32 (ep : Int), .int .u32 (ff : Int)]
  | 14 => v = .pointer (some ⟨Q3, 0, none⟩)
  | _ => True
theorem F6F_later (L Q3 g r old fresh ep ff : Nat) {Qz : Nat} (i : Nat) (v : Value) (w w' : World) (_ : Touch (· = Qz) w w') (h : F6F L Q3 g r old fresh ep ff i v w) : F6F L Q3 g r old fresh ep ff i v w' := h

set_option maxHeartbeats 3200000 in
set_option maxRecDepth 20000 in
theorem hfBytes_any (x : Wl.Hf) (w : World) (hl : x.log.length = 52) (hs : ∀ b ∈ x.log, b < 256) :
    Calls Tryz.prog 92 #[HfV x] w fun e w' => ∃ u, e = .returned u ∧ Own w.heap.size w' u (Wl.hfB x) ∧ Below w.heap.size w w' := by
  obtain ⟨W, hW⟩ : ∃ W, W = w.alloc (.cells (HfC x) 93) := ⟨_, rfl⟩
  have hb0 : Below w.heap.size w W := by rw [hW]; exact below_new1 _ _
  have hrow : HfAt W w.heap.size x := by rw [hW]; exact heap_alloc_last _ _
  obtain ⟨Q, hQ⟩ : ∃ Q, Q = w.heap.size := ⟨_, rfl⟩
  rw [← hQ] at hrow
  have HROW := Lib.hid hrow
  have HQL : Hid (Q < W.heap.size) := lt_of_block hrow
  have C0 := Lib.hid hrow.c0
  have C1 := Lib.hid hrow.c1
  have C2 := Lib.hid hrow.c2
  have HB0 := Lib.hid hb0
  have HL := Lib.hid hl
  have HS := Lib.hid hs
  clear hb0 hrow hl hs
  go_enter Tryz.func92, Tryz.ntmps92
  go_upto_region 1 with (fail)
  rw [← hW, ← hQ]
  clear hW hQ
  refine Ord.walk (HbF x Q W.heap.size) (fun _ _ w' => Below W.heap.size W w') (fun a b => Below a.heap.size a b)
    (by kernel_rfl) (by kernel_rfl) ?fra ?hfra (fun i v w w' hb h => HbF_later _ _ _ i v w w' hb h) (fun xs => (Below.refl _ _).go1) ?hea ?henda
  case hfra =>
    intro xs
    simp only [Ord.fill, Act.put, List.setIfInBounds_toArray, List.set_cons_zero, List.set_cons_succ]
    rfl
  case hea =>
    refine Ord.each_cons (fun D xs w2 hD hC hP hR hA K hK => ?_) ?_
    · -- 0
      clear hA
      go_simp
      exact hK _ _ ⟨_, rfl, Below.refl _ _, hR, rfl⟩
    refine Ord.each_cons (fun D xs w2 hD hC hP hR hA K hK => ?_) ?_
    · -- 1
      have q0 := Ord.ahead_get _ hA 0 (by decide)
      simp only [HbF] at q0
      simp only [q0] at hK
      clear hA
      go_simp
      exact hK _ _ ⟨_, rfl, Below.refl _ _, hR, rfl⟩
    refine Ord.each_cons (fun D xs w2 hD hC hP hR hA K hK => ?_) ?_
    · -- 2
      have q1 := Ord.ahead_get _ hA 1 (by decide)
      simp only [HbF] at q1
      simp only [q1] at hK
      clear hA
      have cc := hR.cell (p := ⟨Q, 0, none⟩) HQL.out
      rw [C0.out] at cc
      go_simp
      exact hK _ _ ⟨_, rfl, Below.refl _ _, hR, rfl⟩
    refine Ord.each_cons (fun D xs w2 hD hC hP hR hA K hK => ?_) ?_
    · -- 3
      have q2 := Ord.ahead_get _ hA 2 (by decide)
      simp only [HbF] at q2
      simp only [q2] at hK
      clear hA
      go_simp
      refine (Put32_any (.slice none 0 0) [] x.round w2 (bts_none w2) (by decide)).mono ?_
      rintro e w' ⟨u, rfl, hO, hb⟩
      exact hK _ _ ⟨_, rfl, hb, hR.trans (hb.mono hR.size), hO.from hR.size⟩
    refine Ord.each_cons (fun D xs w2 hD hC hP hR hA K hK => ?_) ?_
    · -- 4
      clear hA
      go_simp
      exact hK _ _ ⟨_, rfl, Below.refl _ _, hR, rfl⟩
    refine Ord.each_cons (fun D xs w2 hD hC hP hR hA K hK => ?_) ?_
    · -- 5
      have q4 := Ord.ahead_get _ hA 4 (by decide)
      simp only [HbF] at q4
      simp only [q4] at hK
      clear hA
      go_simp
      exact hK _ _ ⟨_, rfl, Below.refl _ _, hR, rfl⟩
    refine Ord.each_cons (fun D xs w2 hD hC hP hR hA K hK => ?_) ?_
    · -- 6
      have q5 := Ord.ahead_get _ hA 5 (by decide)
      simp only [HbF] at q5
      simp only [q5] at hK
      clear hA
      have cc := hR.cell (p := ⟨Q, 1, none⟩) HQL.out
      rw [C1.out] at cc
      go_simp
      exact hK _ _ ⟨_, rfl, Below.refl _ _, hR, rfl⟩
    refine Ord.each_cons (fun D xs w2 hD hC hP hR hA K hK => ?_) ?_
    · -- 7
      have q6 := Ord.ahead_get _ hA 6 (by decide)
      simp only [HbF] at q6
      have q3 := Ord.ahead_get _ hA 3 (by decide)
      simp only [HbF] at q3
      simp only [q6] at hK
      clear hA
      go_simp
      refine (Put32_any (xs 3) _ x.epoch w2 q3.bts (by rw [List.length_append, Cod.le_length]; decide)).mono ?_
      rintro e w' ⟨u, rfl, hO, hb⟩
      exact hK _ _ ⟨_, rfl, hb, hR.trans (hb.mono hR.size), hO.from hR.size⟩
    refine Ord.each_cons (fun D xs w2 hD hC hP hR hA K hK => ?_) ?_
    · -- 8
      clear hA
      go_simp
      exact hK _ _ ⟨_, rfl, Below.refl _ _, hR, rfl⟩
    refine Ord.each_cons (fun D xs w2 hD hC hP hR hA K hK => ?_) ?_
    · -- 9
      have q8 := Ord.ahead_get _ hA 8 (by decide)
      simp only [HbF] at q8
      simp only [q8] at hK
      clear hA
      go_simp
      exact hK _ _ ⟨_, rfl, Below.refl _ _, hR, rfl⟩
    refine Ord.each_cons (fun D xs w2 hD hC hP hR hA K hK => ?_) ?_
    · -- 10
      have q9 := Ord.ahead_get _ hA 9 (by decide)
      simp only [HbF] at q9
      simp only [q9] at hK
      clear hA
      have cc := hR.cell (p := ⟨Q, 2, none⟩) HQL.out
      rw [C2.out] at cc
      go_simp
      exact hK _ _ ⟨_, rfl, Below.refl _ _, hR, rfl⟩
    refine Ord.each_cons (fun D xs w2 hD hC hP hR hA K hK => ?_) ?_
    · -- 11
      have q10 := Ord.ahead_get _ hA 10 (by decide)
      simp only [HbF] at q10
      have q7 := Ord.ahead_get _ hA 7 (by decide)
      simp only [HbF] at q7
      simp only [q10] at hK
      clear hA
      go_simp
      refine (Put32_any (xs 7) _ x.fill w2 q7.bts (by simp only [List.length_append, Cod.le_length]; decide)).mono ?_
      rintro e w' ⟨u, rfl, hO, hb⟩
      exact hK _ _ ⟨_, rfl, hb, hR.trans (hb.mono hR.size), hO.from hR.size⟩
    refine Ord.each_cons (fun D xs w2 hD hC hP hR hA K hK => ?_) ?_
    · -- 12
      have q11 := Ord.ahead_get _ hA 11 (by decide)
      simp only [HbF] at q11
      clear hA
      go_simp
      exact hK _ _ ⟨_, rfl, Below.refl _ _, hR, q11⟩
    exact Ord.each_nil
  case henda =>
    intro D xs w9 hR hF
    have e0 := (hF 0 (by decide)).2
    have e1 := (hF 1 (by decide)).2
    have e2 := (hF 2 (by decide)).2
    have e4 := (hF 4 (by decide)).2
    have e5 := (hF 5 (by decide)).2
    have e6 := (hF 6 (by decide)).2
    have e8 := (hF 8 (by decide)).2
    have e9 := (hF 9 (by decide)).2
    have e10 := (hF 10 (by decide)).2
    have hO12 := (hF 12 (by decide)).2
    simp only [HbF] at e0 e1 e2 e4 e5 e6 e8 e9 e10 hO12
    rw [e0]
    rw [e1]
    rw [e2]
    rw [e4]
    rw [e5]
    rw [e6]
    rw [e8]
    rw [e9]
    rw [e10]
    clear e0 e1 e2 e4 e5 e6 e8 e9 e10
    clear hF
    generalize xs 3 = x3 at *
    generalize xs 7 = x7 at *
    generalize xs 11 = x11 at *
    generalize xs 12 = x12 at *
    rw [List.nil_append] at hO12
    have HO1 := Lib.hid hO12
    have HB1 := Lib.hid hR
    have HR1 : Hid (HfAt w9 Q x) := (HB1.out.block Q (lt_of_block HROW.out)).trans HROW.out
    clear hR hO12
    go_upto_region 2 with (fail)
    iterate 10 go_step
    refine wpList_append_Own rfl (.tmp 16) (.tmp 18) rfl W.heap.size x12 _ rfl HO1.out _ _ rfl (HR1.out.bts HL.out HS.out) (by simp only [List.length_append, Cod.le_length, HL.out]; decide) HB1.out.size ?_
    intro u2 w2 hO2 hb2 _
    have HO2 := Lib.hid hO2
    have HE := Lib.hid (HB0.out.trans ((HB1.out.trans hb2).mono HB0.out.size))
    clear hO2 hb2
    go_wp2_with fail
    go_ret
    exact ⟨_, rfl, HO2.out.from HB0.out.size, HE.out⟩

set_option maxHeartbeats 6400000 in
set_option maxRecDepth 20000 in
theorem wlFilled_any {w : World} {L B a c : Nat} {k : Wl.Kn} {pl : Value} {dn : Bool} {gw ow nw cw : Nat} {wl : List Nat} (h : LogAt w L k B a c pl (.slice (some ⟨gw, ow, none⟩) nw cw) dn) (hB : Bts w (.slice (some ⟨gw, ow, none⟩) nw cw) wl) (hc1 : 1 ≤ c) (hc2 : c ≤ 8192)
    (g : Nat) (hr : g / (2 * c) < 4294967296) (was : Wl.Hf) (hwl : was.log.length = 52) (hws : ∀ b ∈ was.log, b < 256) {old sw fresh : Nat} (hg : g ≤ 10000000000000) (hfl : k.flushed ≤ 1000000000000000) (hold : old = max (g * 52) k.flushed - g * 52) (ho : old < 52) (hsw : sw = g * 52 + old - k.flushed) (hsl : sw < nw) (hfr : min (nw - sw) (52 - old) = fresh) :
    Calls Tryz.prog 91 #[.pointer (some ⟨L, 0, none⟩), .int .u64 (g : Int), HfV was] w fun e w' => e = .returned (HfV (Wl.fillHf was wl old sw fresh (g / (2 * c)) k.epoch)) ∧ Below w.heap.size w w' := by
  obtain ⟨W, hW⟩ : ∃ W, W = (w.alloc (.cells (HfC was) 93)).alloc (.cells HfZ 93) := ⟨_, rfl⟩
  have hb0 : Below w.heap.size w W := by rw [hW]; exact ((Below.refl _ _).alloc (Nat.le_refl _) _).alloc (by simp) _
  have hs0 : W.heap.size = w.heap.size + 1 + 1 := by rw [hW]; simp
  have hrow1 : HfAt W w.heap.size was := by
    rw [hW]
    show (World.alloc _ _).heap[_]? = _
    rw [Below.heap_alloc _ _ _ (by simp)]
    exact heap_alloc_last _ _
  have hrow2 : W.heap[w.heap.size + 1]? = some (.cells HfZ 93 (0, 0)) := by
    rw [hW]
    have := heap_alloc_last (w.alloc (.cells (HfC was) 93)) (.cells HfZ 93)
    rwa [show (w.alloc (.cells (HfC was) 93)).heap.size = w.heap.size + 1 by simp] at this
  obtain ⟨Q1, hQ⟩ : ∃ Q, Q = w.heap.size := ⟨_, rfl⟩
  rw [← hQ] at hrow1 hrow2
  obtain ⟨W3, hW3⟩ : ∃ W3, W3 = W.alloc (.cells HfZ 93) := ⟨_, rfl⟩
  have hb3 : Below W.heap.size W W3 := by rw [hW3]; exact below_new1 _ _
  have hrow3 : W3.heap[W.heap.size]? = some (.cells HfZ 93 (0, 0)) := by rw [hW3]; exact heap_alloc_last _ _
  obtain ⟨Q3, hQ3⟩ : ∃ Q, Q = W.heap.size := ⟨_, rfl⟩
  rw [← hQ3] at hrow3
  rw [hfZ_eq] at hrow3
  have hl0 := h.below hb0
  have hL := h.lt
  have hlog := hl0.below hb3
  obtain ⟨p, cap, hv, hcap, -, hp⟩ := hB.form
  simp only [Value.slice.injEq] at hv
  obtain ⟨-, hnw, rfl⟩ := hv
  have hcw1 := hcap.1
  have hcw2 := hcap.2
  have HR3 := Lib.hid hrow3
  have HR2 := Lib.hid ((hb3.block _ (lt_of_block hrow2)).trans hrow2)
  have HB0 := Lib.hid hb0
  have HB3 := Lib.hid (hb0.trans (hb3.mono hb0.size))
  have HQ := Lib.hid hQ
  have HLG := Lib.hid hlog
  have HLN : Hid (¬ L = Q3) := by show ¬ L = Q3; omega
  have HWB := Lib.hid ((hrow1.bts hwl hws).below hb3)
  have HQN : Hid (¬ Q1 = Q3) := by show ¬ Q1 = Q3; omega
  have HQ3 : Hid (w.heap.size ≤ Q3) := by show _ ≤ _; omega
  have HQ31 : Hid (Q1 + 1 ≠ Q3) := by show Q1 + 1 ≠ Q3; omega
  have HWL := Lib.hid hwl
  have HWS := Lib.hid hws
  have HBW := Lib.hid ((hB.below hb0).below hb3)
  have HGW : Hid (¬ gw = Q3) := by have h1 := hB.block_lt (by omega) gw rfl; show ¬ gw = Q3; omega
  have HR1 : Hid (g / (2 * c) < 4294967296) := hr
  have HC1 := Lib.hid hc1
  have HC2 := Lib.hid hc2
  have c1 := hl0.cell 1 (v := .int .u64 (k.flushed : Int)) rfl
  obtain ⟨place, hpl⟩ : ∃ p, p = g * 52 := ⟨_, rfl⟩
  rw [← hpl] at hold hsw
  have h1 : IntKind.u64.wrap ((g : Int) * 52) = (place : Int) := by rw [IntWalk.u64_in _ (by omega)]; omega
  obtain ⟨mx, hmx⟩ : ∃ m, m = max place k.flushed := ⟨_, rfl⟩
  have h2 : max (place : Int) (k.flushed : Int) = (mx : Int) := by omega
  have h3 : IntKind.u64.wrap ((mx : Int) - (place : Int)) = (old : Int) := by rw [IntWalk.u64_in _ (by omega)]; omega
  have HNO : Hid (¬ 52 = old) := by show ¬ 52 = old; omega
  have HO52 : Hid (old ≤ 52) := by show old ≤ 52; omega
  obtain ⟨po, hpo⟩ : ∃ n, n = place + old := ⟨_, rfl⟩
  have H5 : Hid (IntKind.u64.wrap ((place : Int) + (old : Int)) = (po : Int)) := by show _ = _; rw [IntWalk.u64_in _ (by omega)]; omega
  have H6 : Hid (IntKind.u64.wrap ((po : Int) - (k.flushed : Int)) = (sw : Int)) := by show _ = _; rw [IntWalk.u64_in _ (by omega)]; omega
  obtain ⟨ff, hff⟩ : ∃ n, n = old + fresh := ⟨_, rfl⟩
  have HFF := Lib.hid hff
  have HSL : Hid ((sw : Int) ≤ (nw : Int)) := by show (sw : Int) ≤ _; omega
  have HSC : Hid ((sw : Int) ≤ (cw : Int)) := by show (sw : Int) ≤ _; omega
  have HCN : Hid (¬ cw = sw) := by show ¬ cw = sw; omega
  have HFR1 : Hid (old + fresh ≤ 52) := by show _ ≤ _; omega
  have HFR2 : Hid (fresh ≤ nw - sw) := by show _ ≤ _; omega
  have HNW := Lib.hid hnw
  have HF1L := Lib.hid (Wl.fill1_length hwl (old := old) (by omega))
  have HF2L := Lib.hid (Wl.fill2_length hwl (wl := wl) (old := old) (sw := sw) (fresh := fresh) (by omega) (by omega))
  have HO5 : Hid (IntKind.u32.wrap (old : Int) = (old : Int)) := IntWalk.u32_in _ (by omega)
  have HF5 : Hid (IntKind.u32.wrap (fresh : Int) = (fresh : Int)) := IntWalk.u32_in _ (by omega)
  have HS5 : Hid (IntKind.u32.wrap ((old : Int) + (fresh : Int)) = (ff : Int)) := by show _ = _; rw [IntWalk.u32_in _ (by omega)]; omega
  have HFRM : Hid (min (nw - sw) (52 - old) = fresh) := hfr
  clear hpo hff hb0 hs0 hrow1 hrow2 hb3 hrow3 hl0 hL hlog hcap hp h hB hr hold ho hsw hsl hfr hmx hpl hwl hws hc1 hc2 hnw
  go_enter Tryz.func91, Tryz.ntmps91
  go_upto_region 1 with (fail)
  rw [← hW, ← hQ]
  clear hW hQ
  go_upto_region 4 with (fail)
  rw [← hW3, ← hQ3]
  clear hW3 hQ3 h1 h2 h3 c1
  refine Ord.walk (F4F Q1 Q3 old) (fun D _ w' => TR W3 Q3 93 (HfC ⟨0, 0, 0, List.replicate 52 0⟩) (HfC (Wl.fill1 was old)) 5 D w') (fun a b => Touch (· = Q3) a b)
    (by kernel_rfl) (by kernel_rfl) ?fra ?hfra (fun i v w w' hb h => F4F_later _ _ _  i v w w' hb h) (fun xs => TR.first HR3.out) ?hea ?henda
  case hfra =>
    intro xs
    simp only [Ord.fill, Act.put, List.setIfInBounds_toArray, List.set_cons_zero, List.set_cons_succ]
    rfl
  case hea =>
    refine Ord.each_cons (fun D xs w2 hD hC hP hR hA K hK => ?_) ?_
    · -- 0
      clear hA
      go_simp
      exact hK _ _ ⟨_, rfl, Touch.refl _ _, hR.skip 0 (by decide), rfl⟩
    refine Ord.each_cons (fun D xs w2 hD hC hP hR hA K hK => ?_) ?_
    · -- 1
      clear hA
      go_simp
      exact hK _ _ ⟨_, rfl, Touch.refl _ _, hR.skip 1 (by decide), rfl⟩
    refine Ord.each_cons (fun D xs w2 hD hC hP hR hA K hK => ?_) ?_
    · -- 2
      have q0 := Ord.ahead_get _ hA 0 (by decide)
      simp only [F4F] at q0
      have q1 := Ord.ahead_get _ hA 1 (by decide)
      simp only [F4F] at q1
      simp only [q0, q1] at hK
      clear hA
      have ho1 : (old : Int) ≤ 52 := by have := HO52.out; omega
      have ho2 : old ≤ 52 := HO52.out
      go_simp
      exact hK _ _ ⟨_, rfl, Touch.refl _ _, hR.skip 2 (by decide), rfl⟩
    refine Ord.each_cons (fun D xs w2 hD hC hP hR hA K hK => ?_) ?_
    · -- 3
      clear hA
      go_simp
      exact hK _ _ ⟨_, rfl, Touch.refl _ _, hR.skip 3 (by decide), rfl⟩
    refine Ord.each_cons (fun D xs w2 hD hC hP hR hA K hK => ?_) ?_
    · -- 4
      have q3 := Ord.ahead_get _ hA 3 (by decide)
      simp only [F4F] at q3
      simp only [q3] at hK
      clear hA
      go_simp
      exact hK _ _ ⟨_, rfl, Touch.refl _ _, hR.skip 4 (by decide), rfl⟩
    refine Ord.each_cons (fun D xs w2 hD hC hP hR hA K hK => ?_) ?_
    · -- 5
      have q2 := Ord.ahead_get _ hA 2 (by decide)
      simp only [F4F] at q2
      have q4 := Ord.ahead_get _ hA 4 (by decide)
      simp only [F4F] at q4
      simp only [q2, q4] at hK
      clear hA
      have hnow := hR.now hD
      obtain ⟨w8, hrun, hrow8, ht8⟩ := copy_half (o := 0) (dl := old) (dc := 52) (x := ⟨0, 0, 0, List.replicate 52 0⟩) hnow (by simp) (by have := HO52.out; omega) (hR.touch.bts HWB.out (fun _ g' e => by simp only [Value.ownBlock, Option.some.injEq] at e; subst e; exact HQN.out))
      rw [show min was.log.length old = old by rw [HWL.out]; have := HO52.out; omega] at hrun hrow8
      have hrun := hrun 3
      go_simp
      exact hK _ _ ⟨_, rfl, ht8, hR.put ht8 hrow8, trivial⟩
    exact Ord.each_nil
  case henda =>
    intro D xs w9 hR hF
    have hD5 := (hF 5 (by decide)).1
    have e0 := (hF 0 (by decide)).2
    have e1 := (hF 1 (by decide)).2
    have e2 := (hF 2 (by decide)).2
    have e3 := (hF 3 (by decide)).2
    have e4 := (hF 4 (by decide)).2
    simp only [F4F] at e0 e1 e2 e3 e4
    rw [e0]
    rw [e1]
    rw [e2]
    rw [e3]
    rw [e4]
    clear e0 e1 e2 e3 e4
    clear hF
    generalize xs 5 = x5 at *
    have hrow := hR.done hD5
    have HR4 := Lib.hid hrow
    have HT4 := Lib.hid hR.touch
    clear hrow hR hD5
    obtain ⟨W4, hW4⟩ : ∃ W4, W4 = w9 := ⟨_, rfl⟩
    rw [← hW4] at HR4 HT4 ⊢
    clear hW4
    have HLG := Lib.hid (HLG.out.touch HT4.out HLN.out)
    have hbw4 := HT4.out.bts HBW.out (fun _ g' e => by simp only [Value.ownBlock, Option.some.injEq] at e; subst e; exact HGW.out)
    have hws4 := (HNW.out ▸ hbw4 : Bts W4 (.slice (some ⟨gw, ow, none⟩) wl.length cw) wl).drop sw (by have h1 := HSL.out; have h2 := HNW.out; omega)
    rw [← HNW.out] at hws4
    have HWS4 := Lib.hid hws4
    have HGN : Hid (¬ gw = Q3) := HGW.out
    have HFR : Hid (min (wl.drop sw).length (52 - old) = fresh) := by show _ = _; rw [List.length_drop, ← HNW.out]; exact HFRM.out
    clear hbw4 hws4
    have HO52 : Hid (old ≤ 52) := HO52.out
    go_upto_region 5 with (fail)
    refine Ord.walk (F5F L Q3 old place k.flushed fresh po sw (.slice (some ⟨gw, ow, none⟩) nw cw) gw (ow + sw) (nw - sw) (cw - sw)) (fun D _ w' => TR W4 Q3 93 (HfC (Wl.fill1 was old)) (HfC (Wl.fill2 was wl old sw fresh)) 17 D w') (fun a b => Touch (· = Q3) a b)
      (by kernel_rfl) (by kernel_rfl) ?frb ?hfrb (fun i v w w' hb h => F5F_later _ _ _ _ _ _ _ _ _ _ _ _ _  i v w w' hb h) (fun xs => TR.first HR4.out) ?heb ?hendb
    case hfrb =>
      intro xs
      simp only [Ord.fill, Act.put, List.setIfInBounds_toArray, List.set_cons_zero, List.set_cons_succ]
      rfl
    case heb =>
      refine Ord.each_cons (fun D xs w2 hD hC hP hR hA K hK => ?_) ?_
      · -- 0
        clear hA
        go_simp
        exact hK _ _ ⟨_, rfl, Touch.refl _ _, hR.skip 0 (by decide), rfl⟩
      refine Ord.each_cons (fun D xs w2 hD hC hP hR hA K hK => ?_) ?_
      · -- 1
        clear hA
        go_simp
        exact hK _ _ ⟨_, rfl, Touch.refl _ _, hR.skip 1 (by decide), rfl⟩
      refine Ord.each_cons (fun D xs w2 hD hC hP hR hA K hK => ?_) ?_
      · -- 2
        have q0 := Ord.ahead_get _ hA 0 (by decide)
        simp only [F5F] at q0
        have q1 := Ord.ahead_get _ hA 1 (by decide)
        simp only [F5F] at q1
        simp only [q0, q1] at hK
        clear hA
        have ho1 : (old : Int) ≤ 52 := by have := HO52.out; omega
        have ho2 : old ≤ 52 := HO52.out
        go_simp
        rw [if_neg HNO.out]
        exact hK _ _ ⟨_, rfl, Touch.refl _ _, hR.skip 2 (by decide), rfl⟩
      refine Ord.each_cons (fun D xs w2 hD hC hP hR hA K hK => ?_) ?_
      · -- 3
        clear hA
        go_simp
        exact hK _ _ ⟨_, rfl, Touch.refl _ _, hR.skip 3 (by decide), rfl⟩
      refine Ord.each_cons (fun D xs w2 hD hC hP hR hA K hK => ?_) ?_
      · -- 4
        have q3 := Ord.ahead_get _ hA 3 (by decide)
        simp only [F5F] at q3
        simp only [q3] at hK
        clear hA
        go_simp
        exact hK _ _ ⟨_, rfl, Touch.refl _ _, hR.skip 4 (by decide), rfl⟩
      refine Ord.each_cons (fun D xs w2 hD hC hP hR hA K hK => ?_) ?_
      · -- 5
        have q4 := Ord.ahead_get _ hA 4 (by decide)
        simp only [F5F] at q4
        simp only [q4] at hK
        clear hA
        go_simp
        exact hK _ _ ⟨_, rfl, Touch.refl _ _, hR.skip 5 (by decide), rfl⟩
      refine Ord.each_cons (fun D xs w2 hD hC hP hR hA K hK => ?_) ?_
      · -- 6
        have q5 := Ord.ahead_get _ hA 5 (by decide)
        simp only [F5F] at q5
        simp only [q5] at hK
        clear hA
        have cc := (HLG.out.touch hR.touch HLN.out).cell 8 (v := .slice (some ⟨gw, ow, none⟩) nw cw) rfl
        go_simp
        exact hK _ _ ⟨_, rfl, Touch.refl _ _, hR.skip 6 (by decide), rfl⟩
      refine Ord.each_cons (fun D xs w2 hD hC hP hR hA K hK => ?_) ?_
      · -- 7
        clear hA
        go_simp
        exact hK _ _ ⟨_, rfl, Touch.refl _ _, hR.skip 7 (by decide), rfl⟩
      refine Ord.each_cons (fun D xs w2 hD hC hP hR hA K hK => ?_) ?_
      · -- 8
        clear hA
        go_simp
        exact hK _ _ ⟨_, rfl, Touch.refl _ _, hR.skip 8 (by decide), rfl⟩
      refine Ord.each_cons (fun D xs w2 hD hC hP hR hA K hK => ?_) ?_
      · -- 9
        have q7 := Ord.ahead_get _ hA 7 (by decide)
        simp only [F5F] at q7
        have q8 := Ord.ahead_get _ hA 8 (by decide)
        simp only [F5F] at q8
        simp only [q7, q8] at hK
        clear hA
        go_simp
        rw [H5.out]
        exact hK _ _ ⟨_, rfl, Touch.refl _ _, hR.skip 9 (by decide), rfl⟩
      refine Ord.each_cons (fun D xs w2 hD hC hP hR hA K hK => ?_) ?_
      · -- 10
        clear hA
        go_simp
        exact hK _ _ ⟨_, rfl, Touch.refl _ _, hR.skip 10 (by decide), rfl⟩
      refine Ord.each_cons (fun D xs w2 hD hC hP hR hA K hK => ?_) ?_
      · -- 11
        have q10 := Ord.ahead_get _ hA 10 (by decide)
        simp only [F5F] at q10
        simp only [q10] at hK
        clear hA
        go_simp
        exact hK _ _ ⟨_, rfl, Touch.refl _ _, hR.skip 11 (by decide), rfl⟩
      refine Ord.each_cons (fun D xs w2 hD hC hP hR hA K hK => ?_) ?_
      · -- 12
        have q11 := Ord.ahead_get _ hA 11 (by decide)
        simp only [F5F] at q11
        simp only [q11] at hK
        clear hA
        go_simp
        exact hK _ _ ⟨_, rfl, Touch.refl _ _, hR.skip 12 (by decide), rfl⟩
      refine Ord.each_cons (fun D xs w2 hD hC hP hR hA K hK => ?_) ?_
      · -- 13
        have q12 := Ord.ahead_get _ hA 12 (by decide)
        simp only [F5F] at q12
        simp only [q12] at hK
        clear hA
        go_simp
        exact hK _ _ ⟨_, rfl, Touch.refl _ _, hR.skip 13 (by decide), rfl⟩
      refine Ord.each_cons (fun D xs w2 hD hC hP hR hA K hK => ?_) ?_
      · -- 14
        have q13 := Ord.ahead_get _ hA 13 (by decide)
        simp only [F5F] at q13
        simp only [q13] at hK
        clear hA
        have cc := (HLG.out.touch hR.touch HLN.out).cell 1 (v := .int .u64 (k.flushed : Int)) rfl
        go_simp
        exact hK _ _ ⟨_, rfl, Touch.refl _ _, hR.skip 14 (by decide), rfl⟩
      refine Ord.each_cons (fun D xs w2 hD hC hP hR hA K hK => ?_) ?_
      · -- 15
        have q9 := Ord.ahead_get _ hA 9 (by decide)
        simp only [F5F] at q9
        have q14 := Ord.ahead_get _ hA 14 (by decide)
        simp only [F5F] at q14
        simp only [q9, q14] at hK
        clear hA
        go_simp
        rw [H6.out]
        exact hK _ _ ⟨_, rfl, Touch.refl _ _, hR.skip 15 (by decide), rfl⟩
      refine Ord.each_cons (fun D xs w2 hD hC hP hR hA K hK => ?_) ?_
      · -- 16
        have q6 := Ord.ahead_get _ hA 6 (by decide)
        simp only [F5F] at q6
        have q15 := Ord.ahead_get _ hA 15 (by decide)
        simp only [F5F] at q15
        simp only [q6, q15] at hK
        clear hA
        have hs1 := HSL.out
        have hs2 := HSC.out
        go_simp
        rw [if_neg HCN.out]
        exact hK _ _ ⟨_, rfl, Touch.refl _ _, hR.skip 16 (by decide), rfl⟩
      refine Ord.each_cons (fun D xs w2 hD hC hP hR hA K hK => ?_) ?_
      · -- 17
        have q2 := Ord.ahead_get _ hA 2 (by decide)
        simp only [F5F] at q2
        have q16 := Ord.ahead_get _ hA 16 (by decide)
        simp only [F5F] at q16
        simp only [q2, q16] at hK
        clear hA
        have hnow := hR.now hD
        obtain ⟨w8, hrun, hrow8, ht8⟩ := copy_half (o := old) (dl := 52 - old) (dc := 52 - old) hnow HF1L.out (by have := HO52.out; omega) (hR.touch.bts HWS4.out (fun _ g' e => by simp only [Value.ownBlock, Option.some.injEq] at e; subst e; exact HGN.out))
        rw [HFR.out] at hrun hrow8
        have hrun := hrun 3
        go_simp
        exact hK _ _ ⟨_, rfl, ht8, hR.put ht8 hrow8, rfl⟩
      refine Ord.each_cons (fun D xs w2 hD hC hP hR hA K hK => ?_) ?_
      · -- 18
        have q17 := Ord.ahead_get _ hA 17 (by decide)
        simp only [F5F] at q17
        simp only [q17] at hK
        clear hA
        go_simp
        exact hK _ _ ⟨_, rfl, Touch.refl _ _, hR.skip 18 (by decide), rfl⟩
      exact Ord.each_nil
    case hendb =>
      intro D xs w9 hR hF
      have hD17 := (hF 17 (by decide)).1
      have e0 := (hF 0 (by decide)).2
      have e1 := (hF 1 (by decide)).2
      have e2 := (hF 2 (by decide)).2
      have e3 := (hF 3 (by decide)).2
      have e4 := (hF 4 (by decide)).2
      have e5 := (hF 5 (by decide)).2
      have e6 := (hF 6 (by decide)).2
      have e7 := (hF 7 (by decide)).2
      have e8 := (hF 8 (by decide)).2
      have e9 := (hF 9 (by decide)).2
      have e10 := (hF 10 (by decide)).2
      have e11 := (hF 11 (by decide)).2
      have e12 := (hF 12 (by decide)).2
      have e13 := (hF 13 (by decide)).2
      have e14 := (hF 14 (by decide)).2
      have e15 := (hF 15 (by decide)).2
      have e16 := (hF 16 (by decide)).2
      have e17 := (hF 17 (by decide)).2
      have e18 := (hF 18 (by decide)).2
      simp only [F5F] at e0 e1 e2 e3 e4 e5 e6 e7 e8 e9 e10 e11 e12 e13 e14 e15 e16 e17 e18
      rw [e0]
      rw [e1]
      rw [e2]
      rw [e3]
      rw [e4]
      rw [e5]
      rw [e6]
      rw [e7]
      rw [e8]
      rw [e9]
      rw [e10]
      rw [e11]
      rw [e12]
      rw [e13]
      rw [e14]
      rw [e15]
      rw [e16]
      rw [e17]
      rw [e18]
      clear e0 e1 e2 e3 e4 e5 e6 e7 e8 e9 e10 e11 e12 e13 e14 e15 e16 e17 e18
      clear hF
      have hrow := hR.done hD17
      have HR5 := Lib.hid hrow
      have HT5 := Lib.hid hR.touch
      clear hrow hR hD17
      obtain ⟨W5, hW5⟩ : ∃ W5, W5 = w9 := ⟨_, rfl⟩
      rw [← hW5] at HR5 HT5 ⊢
      clear hW5
      have HLG5 := Lib.hid (HLG.out.touch HT5.out HLN.out)
      obtain ⟨r, hr2⟩ : ∃ r, r = g / (2 * c) := ⟨_, rfl⟩
      have HRR := Lib.hid hr2
      have hround := fun w2 (hl : LogAt w2 L k B a c pl (.slice (some ⟨gw, ow, none⟩) nw cw) dn) => wlRound_any hl g HC1.out HC2.out HR1.out
      rw [← hr2] at hround
      clear hr2
      go_upto_region 6 with (fail)
      refine Ord.walk (F6F L Q3 g r old fresh k.epoch ff) (fun D _ w' => TR W5 Q3 93 (HfC (Wl.fill2 was wl old sw fresh)) (HfC (Wl.fillHf was wl old sw fresh r k.epoch)) 15 D w') (fun a b => Touch (· = Q3) a b)
        (by kernel_rfl) (by kernel_rfl) ?frc ?hfrc (fun i v w w' hb h => F6F_later _ _ _ _ _ _ _ _  i v w w' hb h) (fun xs => TR.first HR5.out) ?hec ?hendc
      case hfrc =>
        intro xs
        simp only [Ord.fill, Act.put, List.setIfInBounds_toArray, List.set_cons_zero, List.set_cons_succ]
        rfl
      case hec =>
        refine Ord.each_cons (fun D xs w2 hD hC hP hR hA K hK => ?_) ?_
        · -- 0
          clear hA
          go_simp
          exact hK _ _ ⟨_, rfl, Touch.refl _ _, hR.skip 0 (by decide), rfl⟩
        refine Ord.each_cons (fun D xs w2 hD hC hP hR hA K hK => ?_) ?_
        · -- 1
          clear hA
          go_simp
          exact hK _ _ ⟨_, rfl, Touch.refl _ _, hR.skip 1 (by decide), rfl⟩
        refine Ord.each_cons (fun D xs w2 hD hC hP hR hA K hK => ?_) ?_
        · -- 2
          have q0 := Ord.ahead_get _ hA 0 (by decide)
          simp only [F6F] at q0
          have q1 := Ord.ahead_get _ hA 1 (by decide)
          simp only [F6F] at q1
          simp only [q0, q1] at hK
          clear hA
          go_simp
          refine (hround w2 (HLG5.out.touch hR.touch HLN.out)).mono ?_
          rintro e w' ⟨rfl, rfl⟩
          exact hK _ _ ⟨_, rfl, Touch.refl _ _, hR.skip 2 (by decide), rfl⟩
        refine Ord.each_cons (fun D xs w2 hD hC hP hR hA K hK => ?_) ?_
        · -- 3
          clear hA
          go_simp
          exact hK _ _ ⟨_, rfl, Touch.refl _ _, hR.skip 3 (by decide), rfl⟩
        refine Ord.each_cons (fun D xs w2 hD hC hP hR hA K hK => ?_) ?_
        · -- 4
          have q3 := Ord.ahead_get _ hA 3 (by decide)
          simp only [F6F] at q3
          simp only [q3] at hK
          clear hA
          go_simp
          exact hK _ _ ⟨_, rfl, Touch.refl _ _, hR.skip 4 (by decide), rfl⟩
        refine Ord.each_cons (fun D xs w2 hD hC hP hR hA K hK => ?_) ?_
        · -- 5
          have q4 := Ord.ahead_get _ hA 4 (by decide)
          simp only [F6F] at q4
          simp only [q4] at hK
          clear hA
          go_simp
          exact hK _ _ ⟨_, rfl, Touch.refl _ _, hR.skip 5 (by decide), rfl⟩
        refine Ord.each_cons (fun D xs w2 hD hC hP hR hA K hK => ?_) ?_
        · -- 6
          have q5 := Ord.ahead_get _ hA 5 (by decide)
          simp only [F6F] at q5
          simp only [q5] at hK
          clear hA
          go_simp
          exact hK _ _ ⟨_, rfl, Touch.refl _ _, hR.skip 6 (by decide), rfl⟩
        refine Ord.each_cons (fun D xs w2 hD hC hP hR hA K hK => ?_) ?_
        · -- 7
          have q6 := Ord.ahead_get _ hA 6 (by decide)
          simp only [F6F] at q6
          simp only [q6] at hK
          clear hA
          have cc := (HLG5.out.touch hR.touch HLN.out).cell 3 (v := .int .u32 (k.epoch : Int)) rfl
          go_simp
          exact hK _ _ ⟨_, rfl, Touch.refl _ _, hR.skip 7 (by decide), rfl⟩
        refine Ord.each_cons (fun D xs w2 hD hC hP hR hA K hK => ?_) ?_
        · -- 8
          clear hA
          go_simp
          exact hK _ _ ⟨_, rfl, Touch.refl _ _, hR.skip 8 (by decide), rfl⟩
        refine Ord.each_cons (fun D xs w2 hD hC hP hR hA K hK => ?_) ?_
        · -- 9
          have q8 := Ord.ahead_get _ hA 8 (by decide)
          simp only [F6F] at q8
          simp only [q8] at hK
          clear hA
          go_simp
          rw [HO5.out]
          exact hK _ _ ⟨_, rfl, Touch.refl _ _, hR.skip 9 (by decide), rfl⟩
        refine Ord.each_cons (fun D xs w2 hD hC hP hR hA K hK => ?_) ?_
        · -- 10
          clear hA
          go_simp
          exact hK _ _ ⟨_, rfl, Touch.refl _ _, hR.skip 10 (by decide), rfl⟩
        refine Ord.each_cons (fun D xs w2 hD hC hP hR hA K hK => ?_) ?_
        · -- 11
          have q10 := Ord.ahead_get _ hA 10 (by decide)
          simp only [F6F] at q10
          simp only [q10] at hK
          clear hA
          go_simp
          rw [HF5.out]
          exact hK _ _ ⟨_, rfl, Touch.refl _ _, hR.skip 11 (by decide), rfl⟩
        refine Ord.each_cons (fun D xs w2 hD hC hP hR hA K hK => ?_) ?_
        · -- 12
          have q9 := Ord.ahead_get _ hA 9 (by decide)
          simp only [F6F] at q9
          have q11 := Ord.ahead_get _ hA 11 (by decide)
          simp only [F6F] at q11
          simp only [q9, q11] at hK
          clear hA
          go_simp
          rw [HS5.out]
          exact hK _ _ ⟨_, rfl, Touch.refl _ _, hR.skip 12 (by decide), rfl⟩
        refine Ord.each_cons (fun D xs w2 hD hC hP hR hA K hK => ?_) ?_
        · -- 13
          have q2 := Ord.ahead_get _ hA 2 (by decide)
          simp only [F6F] at q2
          have q7 := Ord.ahead_get _ hA 7 (by decide)
          simp only [F6F] at q7
          have q12 := Ord.ahead_get _ hA 12 (by decide)
          simp only [F6F] at q12
          simp only [q2, q7, q12] at hK
          clear hA
          go_simp
          exact hK _ _ ⟨_, rfl, Touch.refl _ _, hR.skip 13 (by decide), rfl⟩
        refine Ord.each_cons (fun D xs w2 hD hC hP hR hA K hK => ?_) ?_
        · -- 14
          clear hA
          go_simp
          exact hK _ _ ⟨_, rfl, Touch.refl _ _, hR.skip 14 (by decide), rfl⟩
        refine Ord.each_cons (fun D xs w2 hD hC hP hR hA K hK => ?_) ?_
        · -- 15
          have q13 := Ord.ahead_get _ hA 13 (by decide)
          simp only [F6F] at q13
          have q14 := Ord.ahead_get _ hA 14 (by decide)
          simp only [F6F] at q14
          simp only [q13, q14] at hK
          clear hA
          have hnow := hR.now hD
          have f0 := blk_free hnow 0
          have s0 := blk_set (i := 0) hnow (.int .u32 (r : Int))
          have f1 := blk_free s0 1
          have s1 := blk_set (i := 1) s0 (.int .u32 (k.epoch : Int))
          have f2 := blk_free s1 2
          have s2 := blk_set (i := 2) s1 (.int .u32 (ff : Int))
          have g0 := blk_cell hnow 0 (hfC_0 _)
          have g1 := blk_cell s0 1 (hfC_1 _ _)
          have g2 := blk_cell s1 2 (hfC_2 _ _ _)
          rw [hfC_head, show HfC ⟨r, k.epoch, ff, (Wl.fill2 was wl old sw fresh).log⟩ = HfC (Wl.fillHf was wl old sw fresh r k.epoch) from by rw [HFF.out]; rfl] at s2
          have S2 := Lib.hid s2
          clear hnow s0 s1 s2
          go_simp
          exact hK _ _ ⟨undef, rfl, ((Touch.set (S := (· = Q3)) Q3 0 _ rfl).trans (.set Q3 1 _ rfl)).trans (.set Q3 2 _ rfl), hR.put (((Touch.set (S := (· = Q3)) Q3 0 _ rfl).trans (.set Q3 1 _ rfl)).trans (.set Q3 2 _ rfl)) S2.out, trivial⟩
        exact Ord.each_nil
      case hendc =>
        intro D xs w9 hR hF
        have hD15 := (hF 15 (by decide)).1
        have e0 := (hF 0 (by decide)).2
        have e1 := (hF 1 (by decide)).2
        have e2 := (hF 2 (by decide)).2
        have e3 := (hF 3 (by decide)).2
        have e4 := (hF 4 (by decide)).2
        have e5 := (hF 5 (by decide)).2
        have e6 := (hF 6 (by decide)).2
        have e7 := (hF 7 (by decide)).2
        have e8 := (hF 8 (by decide)).2
        have e9 := (hF 9 (by decide)).2
        have e10 := (hF 10 (by decide)).2
        have e11 := (hF 11 (by decide)).2
        have e12 := (hF 12 (by decide)).2
        have e13 := (hF 13 (by decide)).2
        have e14 := (hF 14 (by decide)).2
        simp only [F6F] at e0 e1 e2 e3 e4 e5 e6 e7 e8 e9 e10 e11 e12 e13 e14
        rw [e0]
        rw [e1]
        rw [e2]
        rw [e3]
        rw [e4]
        rw [e5]
        rw [e6]
        rw [e7]
        rw [e8]
        rw [e9]
        rw [e10]
        rw [e11]
        rw [e12]
        rw [e13]
        rw [e14]
        clear e0 e1 e2 e3 e4 e5 e6 e7 e8 e9 e10 e11 e12 e13 e14
        clear hF
        generalize xs 15 = x15 at *
        have hrow := hR.done hD15
        have HR6 := Lib.hid hrow
        have HT6 := Lib.hid ((HT4.out.trans HT5.out).trans hR.touch)
        clear hrow hR hD15 hround
        have hfl2 : (Wl.fillHf was wl old sw fresh r k.epoch).log.length = 52 := HF2L.out
        have HFL := Lib.hid hfl2
        have HQ2 := Lib.hid (HT6.out.row HR2.out HQ31.out)
        clear hfl2
        generalize hgy : Wl.fillHf was wl old sw fresh r k.epoch = y at *
        have HGY := Lib.hid hgy
        clear hgy
        go_upto_region 7 with (fail)
        go_step
        refine wpList_load_row rfl 93 (.tmp 9) rfl Q3 rfl _ _ _ _ HR6.out Tryz.underlying93 rfl (hf_info HFL.out) ?_
        refine wpList_store_row rfl 93 (.tmp 6) (.tmp 61) rfl (Q1 + 1) _ rfl rfl _ _ HQ2.out (hf_info HFL.out) (by rw [hfC_size, HFL.out]; rfl) (hfC_ones _) ?_
        have hrow10 := setRow_heap _ _ _ (HfC y) _ _ HQ2.out
        have hbl : Below w.heap.size w w9 := HB3.out.trans (HT6.out.below (base := w.heap.size) (fun i hi => by rw [hi]; exact HQ3.out) HB3.out.size)
        have HE := Lib.hid (hbl.trans ((setRow_touch (w := w9) (Q1 + 1) (HfC y)).below (base := w.heap.size) (fun i hi => by rw [hi, HQ.out]; exact Nat.le_succ _) hbl.size))
        clear hbl
        generalize w9.setRow (Q1 + 1) (HfC y) = w10 at hrow10 HE ⊢
        go_wp2_with fail
        refine bodyPost_ret (v := HfV y) ?_ rfl ⟨by rw [← HGY.out, HRR.out], HE.out⟩
        exact results_cell_row rfl _ _ (Q1 + 1) 93 _ _ _ rfl hrow10 Tryz.underlying93 rfl (hf_info HFL.out)
      
    
end Go.Proofs.YtafpjcobagofcaaGreat
