/- Append, by the program. Conditions: the log stands on its device. -/
import Derived.Test.YtafpjcobagofcaaGreatWlPL
import Derived.Test.YtafpjcobagofcaaGreatLrBytesM
import Derived.Test.YtafpjcobagofcaaGreatRecM
import Derived.Test.YtafpjcobagofcaaGreatAppAt
import Derived.Test.YtafpjcobagofcaaGreatRgn
namespace Go.Proofs.YtafpjcobagofcaaGreat
open Go.RowKit

section
variable {W w : World} {B k i : Nat} {A : Array Value} {T : TypeId} {S : List (Nat × Nat × Value)} {D : Nat → Bool}
theorem LayR.blk (h : LayR W B A T S D w) {i : Nat} {o : Obj} (hi : W.heap[i]? = some o) (hn : i ≠ B) : w.heap[i]? = some o := (h.grown.block i (lt_of_block hi) (fun e => hn (Option.some.inj e))).trans hi
theorem LayR.go (h : LayR W B A T S D w) (k : Nat) (hk : (S.all fun s => s.1 != k) = true) (n : Nat) : LayR W B A T S (Ord.wth D k) (w.drewN n) := ⟨grownBy_trans h.grown (Touch.grownBy ((Touch.refl _ _).drewN n)), by rw [lay_skip _ hk]; exact h.row⟩
end
/-- What a step of Append answers while its order floats. -/
def ApF (L Q st ep : Nat) (i : Nat) (v : Value) (_ : World) : Prop :=
  match i with
  | 0 => v = .pointer (some ⟨L, 0, none⟩)
  | 1 => v = .int .u64 (st : Int)
  | 2 => v = .pointer (some ⟨L, 0, none⟩)
  | 3 => v = .pointer (some ⟨L, 0, none⟩)
  | 4 => v = .pointer (some ⟨L, 0, none⟩)
  | 5 => v = .pointer (some ⟨L, 3, none⟩)
  | 6 => v = .int .u32 (ep : Int)
  | 7 => v = .pointer (some ⟨Q, 1, none⟩)
  | 9 => v = .pointer (some ⟨Q, 2, none⟩)
  | _ => True
def PlF (L Q st base : Nat) (pl : Value) (i : Nat) (v : Value) (w : World) : Prop :=
  match i with
  | 0 => v = .pointer (some ⟨L, 0, none⟩)
  | 1 => v = .pointer (some ⟨L, 0, none⟩)
  | 2 => v = .pointer (some ⟨L, 0, none⟩)
  | 3 => v = .pointer (some ⟨L, 7, none⟩)
  | 4 => v = pl
  | 5 => v = .pointer (some ⟨Q, 1, none⟩)
  | 6 => v = .int .u64 (st : Int)
  | 7 => ∃ gx, v = .slice (some ⟨gx, 0, none⟩) 1 1 ∧ w.cell? ⟨gx, 0, none⟩ = some (.int .u64 (st : Int)) ∧ base ≤ gx
  | 9 => v = .pointer (some ⟨L, 0, none⟩)
  | 10 => v = .pointer (some ⟨L, 7, none⟩)
  | _ => True

theorem Touch.grew {S : Nat → Prop} {a b : World} {r : Option Nat} (h : a.grownBy b r) (hs : ∀ g, r = some g → S g) : Touch S a b := ⟨h.os, h.tape, h.output, h.size, fun i hi hn => h.block i hi fun e => hn (hs i e.symm)⟩
theorem plF_later {W : World} {L Q st : Nat} {pl : Value} (hT : ∀ i, (i = L ∨ pl.ownBlock = some i) → i < W.heap.size) (i : Nat) (v : Value) (w w' : World) (hb : Touch (fun i => i = L ∨ pl.ownBlock = some i) w w') (h : PlF L Q st W.heap.size pl i v w) : PlF L Q st W.heap.size pl i v w' := by
  unfold PlF at *
  split at h <;> first | exact h | skip
  obtain ⟨gx, h1, h2, h3⟩ := h
  refine ⟨gx, h1, hb.cell h2 (fun hh => ?_), h3⟩
  have := hT gx hh
  omega
theorem new_cell (w : World) (v : Value) (T : TypeId) : (w.alloc (.cells #[v] T)).cell? ⟨w.heap.size, 0, none⟩ = some v := by
  rw [cell_of_row _ w.heap.size 0 #[v] T (0, 0) (heap_alloc_last _ _)]; rfl
/-- What stands while the places' last one is put behind them. -/
structure PlR (W : World) (L : Nat) (k : Wl.Kn) (B a c : Nat) (pl wa : Value) (l : List Nat) (y : Nat) (D : Nat → Bool) (xs : Nat → Value) (w : World) : Prop where
  t : Touch (fun i => i = L ∨ pl.ownBlock = some i) W w
  q : D 8 = false → QO 0 w pl l
  r : D 8 = true → QO 0 w (xs 8) (l ++ [y]) ∧ ((xs 8).ownBlock = pl.ownBlock ∨ ∃ i, (xs 8).ownBlock = some i ∧ W.heap.size ≤ i)
  at_ : D 11 = false → LogAt w L k B a c pl wa false
  put_ : D 11 = true → LogAt w L k B a c (xs 8) wa false
section
variable {W w w' : World} {L B a c y : Nat} {k : Wl.Kn} {pl wa : Value} {l : List Nat} {D : Nat → Bool} {xs : Nat → Value}
theorem PlR.first (hq : QO 0 W pl l) (hl : LogAt W L k B a c pl wa false) : PlR W L k B a c pl wa l y (fun _ => false) xs W.drew :=
  ⟨(Touch.refl _ _).drew, fun _ => hq.below ((Below.refl _ _).go1), (fun h => by cases h), fun _ => hl, (fun h => by cases h)⟩
theorem PlR.skip (h : PlR W L k B a c pl wa l y D xs w) (j : Nat) (h8 : 8 ≠ j) (h11 : 11 ≠ j) (v : Value) (hb : Below w.heap.size w w') : PlR W L k B a c pl wa l y (Ord.wth D j) (Ord.set xs j v) w' := by
  have e8 : Ord.wth D j 8 = D 8 := if_neg h8
  have e11 : Ord.wth D j 11 = D 11 := if_neg h11
  have ex : Ord.set xs j v 8 = xs 8 := if_neg h8
  refine ⟨h.t.trans (Touch.of_new hb), fun hd => (h.q (e8 ▸ hd)).below hb, fun hd => ?_, fun hd => (h.at_ (e11 ▸ hd)).below hb, fun hd => ?_⟩
  · rw [ex]
    exact ⟨(h.r (e8 ▸ hd)).1.below hb, (h.r (e8 ▸ hd)).2⟩
  · rw [ex]
    exact (h.put_ (e11 ▸ hd)).below hb
theorem PlR.app {v : Value} (h : PlR W L k B a c pl wa l y D xs w) (_ : D 8 = false) (hd2 : D 11 = false) (hn : pl.ownBlock ≠ some L) (hq : QO 0 w' v (l ++ [y])) (ht : Touch (fun i => pl.ownBlock = some i) w w') (hat : v.ownBlock = pl.ownBlock ∨ ∃ i, v.ownBlock = some i ∧ w.heap.size ≤ i) : PlR W L k B a c pl wa l y (Ord.wth D 8) (Ord.set xs 8 v) w' := by
  refine ⟨h.t.trans (ht.mono fun i _ hi => Or.inr hi), fun he => ?_, fun _ => ⟨hq, hat.imp id fun ⟨i, h1, h2⟩ => ⟨i, h1, Nat.le_trans h.t.size h2⟩⟩, fun _ => (h.at_ hd2).touch ht hn, fun he => ?_⟩
  · rw [show Ord.wth D 8 8 = true from if_pos rfl] at he; cases he
  · rw [show Ord.wth D 8 11 = D 11 from if_neg (by decide), hd2] at he; cases he
theorem PlR.put (h : PlR W L k B a c pl wa l y D xs w) (hd : D 8 = true) (hd2 : D 11 = false) (hn : pl.ownBlock ≠ some L) (hL : L < W.heap.size) (v : Value) : PlR W L k B a c pl wa l y (Ord.wth D 11) (Ord.set xs 11 v) (w.setCell ⟨L, 7, none⟩ (xs 8)) := by
  have ht : Touch (fun i => i = L) w (w.setCell ⟨L, 7, none⟩ (xs 8)) := .set L 7 _ rfl
  have e8 : Ord.wth D 11 8 = D 8 := if_neg (by decide)
  have ex : Ord.set xs 11 v 8 = xs 8 := if_neg (by decide)
  refine ⟨h.t.trans (ht.mono fun i _ hi => Or.inl hi), fun he => ?_, fun _ => ?_, fun he => ?_, fun _ => ?_⟩
  · rw [e8, hd] at he; cases he
  · rw [ex]
    refine ⟨(h.r hd).1.touch ht fun i hi e => ?_, (h.r hd).2⟩
    rcases (h.r hd).2 with h1 | ⟨j, h1, h2⟩
    · exact hn (by rw [← h1, hi, e])
    · rw [hi] at h1
      have := Option.some.inj h1
      omega
  · rw [show Ord.wth D 11 11 = true from if_pos rfl] at he; cases he
  · rw [ex]
    exact blk_set (i := 7) (h.at_ hd2) _
end
theorem Wl.room_small {s : Wl.S} (h : Wl.Ex s) : s.stop ≤ s.start + 851968 := by
  have h1 := h.room
  have h2 := h.high
  have h3 : s.start / 52 * 52 ≤ s.start := Nat.div_mul_le_self _ _
  omega
theorem Wl.chain_many : ∀ {l : List Lr.R} {p q : Nat}, Wl.chain p l q → p + 19 * l.length ≤ q
  | [], p, q, h => by
    have : p = q := h
    simp only [List.length_nil]; omega
  | x :: l, p, q, h => by
    have h1 := Wl.chain_many h.2
    have h2 := Wl.size_pos x
    simp only [List.length_cons]; omega
theorem Wl.places_few {s : Wl.S} (h : Wl.Ex s) : (Wl.places s).length ≤ 50000 := by
  have h1 := Wl.chain_many h.good.chain
  have h2 := Wl.room_small h
  unfold Wl.places
  rw [List.length_map]; omega
theorem Wl.waits_app {s : Wl.S} (h : Wl.Good s) (x : Lr.R) : Wl.waits (Wl.app s x) = Wl.waits s ++ Lr.form (Wl.stamp s x) := by
  have h1 := Wl.bytes_length h
  have h2 := h.high
  have h3 := h.low
  have e : Wl.bytes (Wl.app s x) = Wl.bytes s ++ Lr.form (Wl.stamp s x) := by
    show (s.recs ++ [Wl.stamp s x]).flatMap Lr.form = _
    rw [List.flatMap_append]
    simp [Wl.bytes]
  unfold Wl.waits
  rw [e]
  show (Wl.bytes s ++ _).drop (s.flushed - s.start) = _
  rw [List.drop_append_of_le_length (by omega)]
theorem Wl.places_app (s : Wl.S) (x : Lr.R) : Wl.places (Wl.app s x) = Wl.places s ++ [s.stop] := by
  show (s.recs ++ [Wl.stamp s x]).map _ = _
  rw [List.map_append]; rfl
set_option maxHeartbeats 6400000 in
set_option maxRecDepth 20000 in
theorem wl_append {U V : Nat → Prop} {w : World} {B L : Nat} {d : Dk.Dev} {s : Wl.S} (x : Lr.R) (o n u c t : Value) (h : WlPL U V w B L d s) (hr : RecAt w x o n u c t) (hf : Lr.Few x) (hs : s.stop ≤ 1000000000000) :
    Calls Tryz.prog 10 #[.pointer (some ⟨L, 0, none⟩), RecV x o n u c t] w fun e w' =>
      e = .returned (.tuple #[.int .u64 ((Wl.appendR s x).2.1 : Nat), .int .i64 ((Wl.appendR s x).2.2 : Nat)]) ∧ ∃ V', WlPL U V' w' B L d (Wl.appendR s x).1 ∧ Touch V w w' ∧ Grew V V' w := by
  have HPL := Lib.hid h
  obtain ⟨m1, m2, pl, wa, hm, rfl, hp, rfl, haw, said, hsd, hd⟩ := h
  obtain ⟨p, cap, rfl⟩ := wa_slice hm.owa
  obtain ⟨W, hW⟩ : ∃ W, W = w.alloc (robj x o n u c t) := ⟨_, rfl⟩
  have hb := below_new1 w (robj x o n u c t)
  have hrow := rblk w x o n u c t
  rw [← hW] at hb hrow
  obtain ⟨Q, hQ⟩ : ∃ Q, Q = w.heap.size := ⟨_, rfl⟩
  rw [← hQ] at hrow
  have HQ := Lib.hid hQ
  have HB := Lib.hid hb
  have HLM := Lib.hid (hm.below hb)
  have HRA := Lib.hid hr
  have HROW := Lib.hid hrow
  have HF := Lib.hid hf
  have HOK : Hid (Lr.Ok x) := hr.ok
  have HS := Lib.hid hs
  have HSD := Lib.hid hsd
  have HD := Lib.hid hd
  have HP := Lib.hid hp
  have HAW := Lib.hid haw
  have HNV : Hid (∀ i, LogV L pl (.slice p (Wl.waits s).length cap) i → ¬ i = Q) := fun i hi e => by
    have := hm.lt i hi
    omega
  have HNQ : Hid (L ≠ Q) := HNV.out L (Or.inl rfl)
  have he := hm.end_
  have HFE : Hid ((Wl.kn s).flushed + (Wl.waits s).length = s.stop) := he
  have HFS : Hid ((Wl.kn s).flushed + (Wl.waits s).length < 18446744073709551616) := by show _ < _; rw [HFE.out]; omega
  have HS64 : Hid (s.stop < 18446744073709551616) := by show _ < _; omega
  have HE32 : Hid (s.epoch < 4294967296) := hm.ex.ep
  have HLR : Hid ((Wl.kn s).flushed + (Wl.waits s).length ≤ ((Wl.kn s).start / 52 + 2 * s.count) * 52) := by show _ ≤ _; rw [HFE.out]; exact hm.ex.room
  have HRM : Hid (s.stop ≤ (s.start / 52 + 2 * s.count) * 52) := hm.ex.room
  have HLB : Hid ((Wl.kn s).start ≤ 1000000000000000) := by have h1 := hm.ex.good.low; have h2 := hm.ex.good.high; show s.start ≤ _; omega
  have HLC : Hid (s.count ≤ 8192) := hm.ex.high
  have HLE : Hid ((((Wl.kn s).start / 52 + 2 * s.count) * 52 - ((Wl.kn s).flushed + (Wl.waits s).length) : Nat) = (s.start / 52 + 2 * s.count) * 52 - s.stop) := by show _ = _; rw [HFE.out]; rfl
  have hrd := wlReady_any HLM.out.log
  clear hb hrow hm hr hf hs hsd hd hp haw he
  unfold robj at hW
  go_enter Tryz.func10, Tryz.ntmps10
  go_upto_region 1 with (fail)
  rw [← hW, ← hQ]
  clear hW hQ
  go_upto_region 4 with (go_at_call 26; refine hrd.mono ?_; rintro e w' ⟨rfl, rfl⟩)
  clear hrd
  refine Ord.walk (ApF L Q s.stop s.epoch) (fun D _ w' => LayR W Q #[.int .i64 x.kind, .int .u64 (x.lsn : Int), .int .u32 (x.epoch : Int), .int .u64 (x.txn : Int), .int .u32 (x.page : Int), .int .u16 (x.off : Int), o, n, u, .int .u64 (x.prev : Int), .int .u64 (x.next : Int), .bool x.clr, .int .u64 (x.stamp : Int), c, t] 40 [(8, 1, .int .u64 (s.stop : Int)), (10, 2, .int .u32 (s.epoch : Int))] D w') (fun _ _ => True)
    (by kernel_rfl) (by kernel_rfl) ?fr ?hfr (fun _ _ _ _ _ h => h) (fun xs => LayR.first HROW.out) ?he ?hend
  case hfr =>
    intro xs
    simp only [Ord.fill, Act.put, List.setIfInBounds_toArray, List.set_cons_zero, List.set_cons_succ]
    rfl
  case he =>
    refine Ord.each_cons (fun D xs w2 hD hC hP hR hA K hK => ?_) ?_
    · -- 0
      clear hA
      go_simp
      exact hK _ _ ⟨_, rfl, trivial, hR.skip rfl, rfl⟩
    refine Ord.each_cons (fun D xs w2 hD hC hP hR hA K hK => ?_) ?_
    · -- 1
      have q0 := Ord.ahead_get _ hA 0 (by decide)
      simp only [ApF] at q0
      simp only [q0] at hK
      clear hA
      have hl := LayR.blk hR HLM.out.log HNQ.out
      have hc := wlEnd_any (w := w2) hl HFS.out
      rw [HFE.out] at hc
      go_simp
      refine hc.mono ?_
      rintro e w' ⟨rfl, q, rfl⟩
      exact hK _ _ ⟨_, rfl, trivial, LayR.go hR 1 rfl q, rfl⟩
    refine Ord.each_cons (fun D xs w2 hD hC hP hR hA K hK => ?_) ?_
    · -- 2
      clear hA
      go_simp
      exact hK _ _ ⟨_, rfl, trivial, hR.skip rfl, rfl⟩
    refine Ord.each_cons (fun D xs w2 hD hC hP hR hA K hK => ?_) ?_
    · -- 3
      have q2 := Ord.ahead_get _ hA 2 (by decide)
      simp only [ApF] at q2
      simp only [q2] at hK
      clear hA
      go_simp
      exact hK _ _ ⟨_, rfl, trivial, hR.skip rfl, rfl⟩
    refine Ord.each_cons (fun D xs w2 hD hC hP hR hA K hK => ?_) ?_
    · -- 4
      have q3 := Ord.ahead_get _ hA 3 (by decide)
      simp only [ApF] at q3
      simp only [q3] at hK
      clear hA
      go_simp
      exact hK _ _ ⟨_, rfl, trivial, hR.skip rfl, rfl⟩
    refine Ord.each_cons (fun D xs w2 hD hC hP hR hA K hK => ?_) ?_
    · -- 5
      have q4 := Ord.ahead_get _ hA 4 (by decide)
      simp only [ApF] at q4
      simp only [q4] at hK
      clear hA
      go_simp
      exact hK _ _ ⟨_, rfl, trivial, hR.skip rfl, rfl⟩
    refine Ord.each_cons (fun D xs w2 hD hC hP hR hA K hK => ?_) ?_
    · -- 6
      have q5 := Ord.ahead_get _ hA 5 (by decide)
      simp only [ApF] at q5
      simp only [q5] at hK
      clear hA
      have hl := LayR.blk hR HLM.out.log HNQ.out
      have cc := blk_cell hl 3 (v := .int .u32 (s.epoch : Int)) rfl
      go_simp
      exact hK _ _ ⟨_, rfl, trivial, hR.skip rfl, rfl⟩
    refine Ord.each_cons (fun D xs w2 hD hC hP hR hA K hK => ?_) ?_
    · -- 7
      clear hA
      go_simp
      exact hK _ _ ⟨_, rfl, trivial, hR.skip rfl, rfl⟩
    refine Ord.each_cons (fun D xs w2 hD hC hP hR hA K hK => ?_) ?_
    · -- 8
      have q7 := Ord.ahead_get _ hA 7 (by decide)
      simp only [ApF] at q7
      have q1 := Ord.ahead_get _ hA 1 (by decide)
      simp only [ApF] at q1
      simp only [q7, q1] at hK
      clear hA
      obtain ⟨uu, cu⟩ := hR.there 1 (show 1 < 15 by decide)
      have ff := hR.free 1
      go_simp
      exact hK _ _ ⟨undef, rfl, trivial, hR.put 8 1 _ (by rfl) (by simp) hD, trivial⟩
    refine Ord.each_cons (fun D xs w2 hD hC hP hR hA K hK => ?_) ?_
    · -- 9
      clear hA
      go_simp
      exact hK _ _ ⟨_, rfl, trivial, hR.skip rfl, rfl⟩
    refine Ord.each_cons (fun D xs w2 hD hC hP hR hA K hK => ?_) ?_
    · -- 10
      have q9 := Ord.ahead_get _ hA 9 (by decide)
      simp only [ApF] at q9
      have q6 := Ord.ahead_get _ hA 6 (by decide)
      simp only [ApF] at q6
      simp only [q9, q6] at hK
      clear hA
      obtain ⟨uu, cu⟩ := hR.there 2 (show 2 < 15 by decide)
      have ff := hR.free 2
      go_simp
      exact hK _ _ ⟨undef, rfl, trivial, hR.put 10 2 _ (by rfl) (by simp) hD, trivial⟩
    exact Ord.each_nil
  case hend =>
    intro D xs Z hR hall
    have r0 := (hall 0 (by decide)).2
    have r1 := (hall 1 (by decide)).2
    have r2 := (hall 2 (by decide)).2
    have r3 := (hall 3 (by decide)).2
    have r4 := (hall 4 (by decide)).2
    have r5 := (hall 5 (by decide)).2
    have r6 := (hall 6 (by decide)).2
    have r7 := (hall 7 (by decide)).2
    have r9 := (hall 9 (by decide)).2
    simp only [ApF] at r0 r1 r2 r3 r4 r5 r6 r7 r9
    have hrow := hR.row
    rw [lay_all _ (by intro s hs; simp only [List.mem_cons, List.not_mem_nil, or_false] at hs; rcases hs with rfl | rfl; exact (hall 8 (by decide)).1; exact (hall 10 (by decide)).1)] at hrow
    simp only [Lay, if_true, List.setIfInBounds_toArray, List.set_cons_zero, List.set_cons_succ] at hrow
    have hgZ := hR.grown
    simp only [r0, r1, r2, r3, r4, r5, r6, r7, r9]
    clear hR hall r0 r1 r2 r3 r4 r5 r6 r7 r9
    have htz : Touch (· = Q) W Z := .of_grown hgZ rfl
    have hbZ : Below w.heap.size w Z := HB.out.trans (htz.below (fun i hi => by rw [hi, HQ.out]; exact Nat.le_refl _) HB.out.size)
    have hlz := HLM.out.keep htz (fun i hi => HNV.out i hi)
    have hrz := HRA.out.below hbZ
    have HROWZ := Lib.hid hrow
    have HBZ := Lib.hid hbZ
    have HLMZ := Lib.hid hlz
    clear hgZ htz hbZ hlz hrow
    have hby : Calls Tryz.prog 27 #[.agg #[.int .i64 x.kind, .int .u64 (s.stop : Int), .int .u32 (s.epoch : Int), .int .u64 (x.txn : Int), .int .u32 (x.page : Int), .int .u16 (x.off : Int), o, n, u, .int .u64 (x.prev : Int), .int .u64 (x.next : Int), .bool x.clr, .int .u64 (x.stamp : Int), c, t]] Z fun e w' => ∃ v, e = .returned (.tuple #[v, .int .i64 ((Lr.ifP (Lr.May (Wl.stamp s x)) 0 2 : Nat) : Int)]) ∧ Own Z.heap.size w' v (Lr.ifP (Lr.May (Wl.stamp s x)) (Lr.form (Wl.stamp s x)) []) ∧ Below Z.heap.size Z w' :=
      recBytes_any (Wl.stamp s x) o n u c t Z ⟨hrz.old, hrz.new, hrz.undo, hrz.opn, hrz.dirt, Wl.stamp_ok hrz.ok HS64.out HE32.out⟩ (show Lr.Few (Wl.stamp s x) from ⟨HF.out.1, HF.out.2, HF.out.3, HF.out.4, HF.out.5⟩)
    have HBY := Lib.hid hby
    clear hby hrz
    go_upto_region 5 with (fail)
    go_step
    refine wpList_load_rec rfl (.tmp 3) rfl Q rfl _ HROWZ.out rfl ?_
    by_cases hM : Lr.May (Wl.stamp s x)
    case neg =>
      have hby := HBY.out
      rw [Lr.ifP_neg hM, Lr.ifP_neg hM, show ((2 : Nat) : Int) = 2 from rfl] at hby
      have HBY2 := Lib.hid hby
      have HAP : Hid (Wl.appendR s x = (s, 0, 2)) := by show _ = _; unfold Wl.appendR; exact Lr.ifP_neg hM _ _
      clear hby HBY hM
      go_wp2_with fail
      refine HBY2.out.mono ?_
      rintro e w3 ⟨v, rfl, hO, hb3⟩
      have HB3 := Lib.hid (HBZ.out.trans (hb3.mono HBZ.out.size))
      clear hO hb3
      go_wp2_with fail
      go_ret2
      exact ⟨by rw [HAP.out]; rfl, _, by rw [HAP.out]; exact wl_pkeep HPL.out (T := fun _ => False) (.of_new HB3.out) (fun _ _ h => h), .of_new HB3.out, fun i hi => Or.inl hi⟩
    case pos =>
      have hby := HBY.out
      rw [Lr.ifP_pos hM, Lr.ifP_pos hM, show ((0 : Nat) : Int) = 0 from rfl] at hby
      have HBY2 := Lib.hid hby
      have HM := Lib.hid hM
      clear hby HBY hM
      go_wp2_with fail
      refine HBY2.out.mono ?_
      rintro e w3 ⟨v, rfl, hO, hb3⟩
      have HB3 := Lib.hid (HBZ.out.trans (hb3.mono HBZ.out.size))
      have HLM3 := Lib.hid (HLMZ.out.below hb3)
      have HROW3 := Lib.hid ((hb3.block _ (lt_of_block HROWZ.out)).trans HROWZ.out)
      have HV := Lib.hid hO
      obtain ⟨pv, cv, rfl⟩ := hO.bts.slice
      have hlf := wlLeft_any HLM3.out.log HLR.out HLB.out HLC.out
      rw [HLE.out] at hlf
      have HLF := Lib.hid hlf
      obtain ⟨sz, hsz⟩ : ∃ z, z = (Lr.form (Wl.stamp s x)).length := ⟨_, rfl⟩
      rw [← hsz]
      have HSZ := Lib.hid hsz
      clear hO hb3 HBY2 hlf hsz
      by_cases hfit : (sz : Int) ≤ Wl.left s
      case neg =>
        have hlt : ((((s.start / 52 + 2 * s.count) * 52 - s.stop : Nat) : Int) < (sz : Int)) := by
          have h1 := HRM.out
          unfold Wl.left at hfit
          omega
        have HAP : Hid (Wl.appendR s x = (s, 0, 5)) := by
          refine Wl.append_full HM.out ?_
          unfold Wl.size
          rw [← HSZ.out]; exact hfit
        generalize ((s.start / 52 + 2 * s.count) * 52 - s.stop) = lf at *
        clear hfit
        go_wp2_with fail
        refine HLF.out.mono ?_
        rintro e w4 ⟨rfl, q, rfl⟩
        have HB4 := Lib.hid (HB3.out.trans (below_drewN _ w3 q))
        go_wp2_with fail
        go_ret2
        exact ⟨by rw [HAP.out]; rfl, _, by rw [HAP.out]; exact wl_pkeep HPL.out (T := fun _ => False) (.of_new HB4.out) (fun _ _ h => h), .of_new HB4.out, fun i hi => Or.inl hi⟩
      case pos =>
        have hlt : ¬ ((((s.start / 52 + 2 * s.count) * 52 - s.stop : Nat) : Int) < (sz : Int)) := by
          have h1 := HRM.out
          unfold Wl.left at hfit
          omega
        have hfit2 : (Wl.size (Wl.stamp s x) : Int) ≤ Wl.left s := by
          unfold Wl.size
          rw [← HSZ.out]; exact hfit
        have HAP : Hid (Wl.appendR s x = (Wl.app s x, s.stop, 0)) := Wl.append_fine HM.out hfit2
        have HFT := Lib.hid hfit2
        have HFI := Lib.hid hfit
        generalize ((s.start / 52 + 2 * s.count) * 52 - s.stop) = lf at *
        clear hfit hfit2
        go_wp2_with fail
        refine HLF.out.mono ?_
        rintro e w4 ⟨rfl, q, rfl⟩
        have HB4 := Lib.hid (HB3.out.trans (below_drewN _ w3 q))
        have HLM4 : Hid (LogM (w3.drewN q) L B s pl (.slice p (Wl.waits s).length cap)) := HLM3.out.below (below_drewN _ w3 q)
        have HV4 := Lib.hid (HV.out.below (below_drewN _ w3 q))
        have HROW4 : Hid ((w3.drewN q).heap[Q]? = _) := HROW3.out
        generalize w3.drewN q = w4 at *
        have hw0 := HLM4.out.log.cell 8 (v := .slice p (Wl.waits s).length cap) rfl
        clear HLF
        go_upto_region 10 with (fail)
        iterate 19 go_step
        have hvb := HV4.out.bts
        rw [← HSZ.out] at hvb
        have HWN : Hid ((Wl.waits s).length + sz ≤ 2000000) := by
          have h1 : s.flushed + (Wl.waits s).length = s.stop := HFE.out
          have h2 : s.start / 52 * 52 ≤ s.start := Nat.div_mul_le_self _ _
          have h3 := HLM4.out.ex.good.low
          have h4 := HLC.out
          have h5 := HFI.out
          unfold Wl.left at h5
          show _ ≤ _
          omega
        refine wpList_plain rfl fun K hK => wp_append_At (.tmp 40) (.tmp 41) rfl 0 (.slice p (Wl.waits s).length cap) (Wl.waits s) rfl HLM4.out.owa (.slice pv sz cv) (Lr.form (Wl.stamp s x)) rfl hvb (by rw [← HSZ.out]; have := HWN.out; omega) (Nat.zero_le _) fun v5 w5 hO5 hb5 hg5 hat5 => hK _ _ ?_
        clear hK hvb hw0
        have ht5 : Touch (fun i => (Value.slice p (Wl.waits s).length cap).ownBlock = some i) w4 w5 := Touch.grew hg5 fun g hg => hg
        rw [← Wl.waits_app HLM4.out.ex.good] at hO5
        obtain ⟨p5, c5, rfl⟩ := hO5.bts.slice
        obtain ⟨n5, hn5d⟩ : ∃ n, n = (Wl.waits (Wl.app s x)).length := ⟨_, rfl⟩
        rw [← hn5d] at hO5 hat5 ⊢
        obtain ⟨v5, hv5⟩ : ∃ v, v = Value.slice p5 n5 c5 := ⟨_, rfl⟩
        rw [← hv5] at hO5 hat5
        have hl5 := HLM4.out.log.touch ht5 HLM4.out.nwa
        have hq5 := HLM4.out.qpl.touch ht5 fun i hi => HLM4.out.apart i hi
        have hr5 := ht5.row HROW4.out (fun h => HNV.out Q (Or.inr (Or.inr h)) rfl)
        have hn5 : v5.ownBlock = (Value.slice p (Wl.waits s).length cap).ownBlock ∨ ∃ i, v5.ownBlock = some i ∧ w4.heap.size ≤ i := hat5.imp id fun h => ⟨_, h, Nat.le_refl _⟩
        have hT5 : Touch (LogV L pl (.slice p (Wl.waits s).length cap)) w w5 := (Touch.of_new HB4.out).trans (ht5.mono fun i _ hi => Or.inr (Or.inr hi))
        have f8 := blk_free hl5 8
        have g8 := LogAt.cell hl5 8 (v := .slice p (Wl.waits s).length cap) rfl
        have s8 : LogAt (w5.setCell ⟨L, 8, none⟩ v5) L (Wl.kn s) B s.at_ s.count pl v5 false := blk_set (i := 8) hl5 _
        have t8 : Touch (fun i => i = L) w5 (w5.setCell ⟨L, 8, none⟩ v5) := .set L 8 _ rfl
        have HNV5 : Hid (v5.ownBlock ≠ some L) := fun h => by
          rcases hn5 with h1 | ⟨i, h1, h2⟩
          · exact HLM4.out.nwa (h1 ▸ h)
          · rw [h] at h1
            have h3 := HLM4.out.log.lt
            have : L = i := Option.some.inj h1
            omega
        have HO8 := Lib.hid (hO5.keep t8 fun i hi e => HNV5.out (e ▸ hi))
        have HQ8 := Lib.hid (hq5.touch t8 fun i hi e => HLM4.out.npl (e ▸ hi))
        have HR8 := Lib.hid (t8.row hr5 (fun h => HNQ.out h.symm))
        have HT8 := Lib.hid (hT5.trans (t8.mono fun i _ hi => Or.inl hi))
        have HN8 := Lib.hid hn5
        have HL8 := Lib.hid s8
        have HWL := Lib.hid HB4.out.size
        have HEX := Lib.hid HLM4.out.ex
        have HNP := Lib.hid HLM4.out.npl
        have HAPT := Lib.hid HLM4.out.apart
        have HLT := Lib.hid HLM4.out.lt
        have HW4 : Hid (w4.heap.size ≤ (w5.setCell ⟨L, 8, none⟩ v5).heap.size) := Nat.le_trans ht5.size t8.size
        subst hv5
        clear hn5d
        go_upto_region 11 with (fail)
        clear f8 g8 s8 t8 hl5 hq5 hr5 hT5 hO5 hb5 hg5 hat5 hn5 ht5 HLM4 HROW4 HV4 HV HLM3 HROW3 HLMZ HLM HRA HROW HROWZ
        generalize w5.setCell ⟨L, 8, none⟩ (.slice p5 n5 c5) = W8 at *
        have HNS : Hid (¬ (Q = L ∨ pl.ownBlock = some Q)) := fun h => h.elim (fun h => HNQ.out h.symm) fun h => HNV.out Q (Or.inr (Or.inl h)) rfl
        have HTL : Hid (∀ i, (i = L ∨ pl.ownBlock = some i) → i < W8.heap.size) := fun i hi => by
          have h1 := HLT.out i (hi.elim Or.inl fun h => Or.inr (Or.inl h))
          have h2 := HW4.out
          omega
        refine Ord.walk (PlF L Q s.stop W8.heap.size pl) (fun D xs w' => PlR W8 L (Wl.kn s) B s.at_ s.count pl (.slice p5 n5 c5) (Wl.places s) s.stop D xs w') (Touch (fun i => i = L ∨ pl.ownBlock = some i))
          (by kernel_rfl) (by kernel_rfl) ?fr2 ?hfr2 (fun i v w w' hb h => plF_later HTL.out i v w w' hb h) (fun xs => PlR.first HQ8.out HL8.out) ?he2 ?hend2
        case hfr2 =>
          intro xs
          simp only [Ord.fill, Act.put, List.setIfInBounds_toArray, List.set_cons_zero, List.set_cons_succ]
          rfl
        case he2 =>
          refine Ord.each_cons (fun D xs w2 hD hC hP hR hA K hK => ?_) ?_
          · -- 0
            clear hA
            go_simp
            exact hK _ _ ⟨_, rfl, Touch.refl _ _, PlR.skip hR 0 (by decide) (by decide) _ (Below.refl _ _), rfl⟩
          refine Ord.each_cons (fun D xs w2 hD hC hP hR hA K hK => ?_) ?_
          · -- 1
            clear hA
            go_simp
            exact hK _ _ ⟨_, rfl, Touch.refl _ _, PlR.skip hR 1 (by decide) (by decide) _ (Below.refl _ _), rfl⟩
          refine Ord.each_cons (fun D xs w2 hD hC hP hR hA K hK => ?_) ?_
          · -- 2
            have q1 := Ord.ahead_get _ hA 1 (by decide)
            simp only [PlF] at q1
            simp only [q1] at hK
            clear hA
            go_simp
            exact hK _ _ ⟨_, rfl, Touch.refl _ _, PlR.skip hR 2 (by decide) (by decide) _ (Below.refl _ _), rfl⟩
          refine Ord.each_cons (fun D xs w2 hD hC hP hR hA K hK => ?_) ?_
          · -- 3
            have q2 := Ord.ahead_get _ hA 2 (by decide)
            simp only [PlF] at q2
            simp only [q2] at hK
            clear hA
            go_simp
            exact hK _ _ ⟨_, rfl, Touch.refl _ _, PlR.skip hR 3 (by decide) (by decide) _ (Below.refl _ _), rfl⟩
          refine Ord.each_cons (fun D xs w2 hD hC hP hR hA K hK => ?_) ?_
          · -- 4
            have q3 := Ord.ahead_get _ hA 3 (by decide)
            simp only [PlF] at q3
            simp only [q3] at hK
            clear hA
            have h8 : D 8 = false := by
              cases hx : D 8 with
              | false => rfl
              | true => exact absurd (Ord.closed_at hC 8 4 rfl hx) (by rw [hD]; decide)
            have h11 : D 11 = false := by
              cases hx : D 11 with
              | false => rfl
              | true => exact absurd (Ord.closed_at hC 11 8 rfl hx) (by rw [h8]; decide)
            have cc := PlR.at_ hR h11
            have cc := LogAt.cell cc 7 (v := pl) rfl
            go_simp
            exact hK _ _ ⟨_, rfl, Touch.refl _ _, PlR.skip hR 4 (by decide) (by decide) _ (Below.refl _ _), rfl⟩
          refine Ord.each_cons (fun D xs w2 hD hC hP hR hA K hK => ?_) ?_
          · -- 5
            clear hA
            go_simp
            exact hK _ _ ⟨_, rfl, Touch.refl _ _, PlR.skip hR 5 (by decide) (by decide) _ (Below.refl _ _), rfl⟩
          refine Ord.each_cons (fun D xs w2 hD hC hP hR hA K hK => ?_) ?_
          · -- 6
            have q5 := Ord.ahead_get _ hA 5 (by decide)
            simp only [PlF] at q5
            simp only [q5] at hK
            clear hA
            have cc := hR.t.row HR8.out HNS.out
            have cc := (rec_cell cc).2.1
            go_simp
            exact hK _ _ ⟨_, rfl, Touch.refl _ _, PlR.skip hR 6 (by decide) (by decide) _ (Below.refl _ _), rfl⟩
          refine Ord.each_cons (fun D xs w2 hD hC hP hR hA K hK => ?_) ?_
          · -- 7
            have q6 := Ord.ahead_get _ hA 6 (by decide)
            simp only [PlF] at q6
            simp only [q6] at hK
            clear hA
            go_simp
            exact hK _ _ ⟨_, rfl, Touch.of_new (below_new1 _ _), PlR.skip hR 7 (by decide) (by decide) _ (below_new1 _ _), _, rfl, new_cell _ _ _, hR.t.size⟩
          refine Ord.each_cons (fun D xs w2 hD hC hP hR hA K hK => ?_) ?_
          · -- 8
            have q4 := Ord.ahead_get _ hA 4 (by decide)
            simp only [PlF] at q4
            have q7 := Ord.ahead_get _ hA 7 (by decide)
            simp only [PlF] at q7
            obtain ⟨gx, q7, hgx, -⟩ := q7
            clear hA
            have h11 : D 11 = false := by
              cases hx : D 11 with
              | false => rfl
              | true => exact absurd (Ord.closed_at hC 11 8 rfl hx) (by rw [hD]; decide)
            simp only [Region.wanted, if_true]
            refine wp_append_Qo (.tmp 49) (.tmp 52) rfl q4 (hR.q hD) s.stop gx q7 hgx (Nat.le_trans (Wl.places_few HEX.out) (by decide)) (Nat.zero_le _) fun v' w' hq hg hat => ?_
            have ht : Touch (fun i => pl.ownBlock = some i) w2 w' := Touch.grew hg fun g hg => hg
            exact hK _ _ ⟨_, rfl, ht.mono (fun i _ hi => Or.inr hi), PlR.app hR hD h11 HNP.out hq ht hat, trivial⟩
          refine Ord.each_cons (fun D xs w2 hD hC hP hR hA K hK => ?_) ?_
          · -- 9
            have q0 := Ord.ahead_get _ hA 0 (by decide)
            simp only [PlF] at q0
            simp only [q0] at hK
            clear hA
            go_simp
            exact hK _ _ ⟨_, rfl, Touch.refl _ _, PlR.skip hR 9 (by decide) (by decide) _ (Below.refl _ _), rfl⟩
          refine Ord.each_cons (fun D xs w2 hD hC hP hR hA K hK => ?_) ?_
          · -- 10
            have q9 := Ord.ahead_get _ hA 9 (by decide)
            simp only [PlF] at q9
            simp only [q9] at hK
            clear hA
            go_simp
            exact hK _ _ ⟨_, rfl, Touch.refl _ _, PlR.skip hR 10 (by decide) (by decide) _ (Below.refl _ _), rfl⟩
          refine Ord.each_cons (fun D xs w2 hD hC hP hR hA K hK => ?_) ?_
          · -- 11
            have q10 := Ord.ahead_get _ hA 10 (by decide)
            simp only [PlF] at q10
            simp only [q10] at hK
            clear hA
            have h8 := hP { on := 8, ground := .data } (by simp) rfl
            obtain ⟨p8, c8, e8⟩ := (hR.r h8).1.qu.slice
            obtain ⟨n8, hn8⟩ : ∃ n, n = (Wl.places s ++ [s.stop]).length := ⟨_, rfl⟩
            rw [← hn8] at e8
            have hput := PlR.put hR h8 hD HNP.out (HTL.out L (Or.inl rfl)) undef
            rw [e8] at hput
            simp only [e8] at hK ⊢
            clear e8 hn8
            have ff := blk_free (hR.at_ hD) 7
            have cc := LogAt.cell (hR.at_ hD) 7 (v := pl) rfl
            go_simp
            exact hK _ _ ⟨undef, rfl, .set L 7 _ (Or.inl rfl), hput, trivial⟩
          exact Ord.each_nil
        case hend2 =>
          intro D xs Z2 hR hall
          have h8 := (hall 8 (by decide)).1
          have h11 := (hall 11 (by decide)).1
          obtain ⟨hq, hat⟩ := hR.r h8
          have hl := hR.put_ h11
          have ht := hR.t
          clear hR hall
          have hrow := ht.row HR8.out HNS.out
          have c1 := (rec_cell hrow).2.1
          have hpl : ∀ i, pl.ownBlock = some i → i < w4.heap.size := fun i h => HLT.out i (Or.inr (Or.inl h))
          have hv5 : ∀ i, (Value.slice p5 n5 c5).ownBlock = some i → i < W8.heap.size := fun i h => HO8.out.blk_lt i h
          have h5pl : ∀ i, pl.ownBlock = some i → (Value.slice p5 n5 c5).ownBlock ≠ some i := fun i h1 h2 => by
            rcases HN8.out with h3 | ⟨j, h3, h4⟩
            · exact HAPT.out i h1 (h3 ▸ h2)
            · rw [h2] at h3
              have h5 := Option.some.inj h3
              have h6 := hpl i h1
              omega
          have hO := HO8.out.keep ht (fun i hi h => by
            rcases h with h | h
            · exact HNV5.out (h ▸ hi)
            · exact h5pl i h hi)
          generalize xs 8 = v8 at *
          have hap : ∀ i, v8.ownBlock = some i → (Value.slice p5 n5 c5).ownBlock ≠ some i := fun i h1 h2 => by
            rcases hat with h3 | ⟨j, h3, h4⟩
            · exact h5pl i (h3 ▸ h1) h2
            · rw [h1] at h3
              have h5 := Option.some.inj h3
              have h6 := hv5 i h2
              omega
          have hnp : v8.ownBlock ≠ some L := fun h => by
            rcases hat with h3 | ⟨j, h3, h4⟩
            · exact HNP.out (h3 ▸ h)
            · rw [h] at h3
              have h5 := Option.some.inj h3
              have h6 := HTL.out L (Or.inl rfl)
              omega
          have hT : Touch (LogV L pl (.slice p (Wl.waits s).length cap)) w Z2 := HT8.out.trans (ht.mono fun i _ hi => hi.elim Or.inl fun h => Or.inr (Or.inl h))
          have hgr : ∀ i, LogV L v8 (.slice p5 n5 c5) i → LogV L pl (.slice p (Wl.waits s).length cap) i ∨ w.heap.size ≤ i := fun i hi => by
            have h1 := HWL.out
            have h2 := HW4.out
            rcases hi with hi | hi | hi
            · exact Or.inl (Or.inl hi)
            · rcases hat with h3 | ⟨j, h3, h4⟩
              · exact Or.inl (Or.inr (Or.inl (h3 ▸ hi)))
              · rw [hi] at h3
                have h5 := Option.some.inj h3
                exact Or.inr (by omega)
            · rcases HN8.out with h3 | ⟨j, h3, h4⟩
              · exact Or.inl (Or.inr (Or.inr (h3 ▸ hi)))
              · rw [hi] at h3
                have h5 := Option.some.inj h3
                exact Or.inr (by omega)
          have hM : LogM Z2 L B (Wl.app s x) v8 (.slice p5 n5 c5) := ⟨Wl.ex_app HEX.out HM.out (Wl.stamp_ok HOK.out HS64.out HE32.out) HFT.out, hl, by rw [Wl.places_app]; exact hq, hO, hnp, HNV5.out, hap⟩
          have HMM := Lib.hid hM
          have HTT := Lib.hid hT
          have HGR := Lib.hid hgr
          clear hM hT hgr hap hnp hO h5pl hv5 hpl ht hl hq hat h8 h11 hrow
          go_wp2_with fail
          go_ret2
          refine ⟨by rw [HAP.out]; rfl, LogV L v8 (.slice p5 n5 c5), ?_, HTT.out, HGR.out⟩
          rw [HAP.out]
          refine ⟨m1, m2, v8, .slice p5 n5 c5, HMM.out, rfl, HP.out.keep HTT.out (fun i hi hv => HAW.out i hi hv), rfl, fun i hi hv => ?_, said, Nat.le_trans HSD.out (Nat.le_add_right _ _), HD.out.app HEX.out.good x⟩
          rcases HGR.out i hv with h | h
          · exact HAW.out i hi h
          · have h2 := HP.out.lt i hi
            omega
    
end Go.Proofs.YtafpjcobagofcaaGreat
