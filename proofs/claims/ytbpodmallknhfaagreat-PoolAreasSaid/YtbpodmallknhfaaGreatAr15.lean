/- Parts of a proof. Conditions: as each row says. -/
import Derived.Test.YtbpodmallknhfaaGreatAr03
import Derived.Test.YtbpodmallknhfaaGreatAr10
import Derived.Test.YtbpodmallknhfaaGreatAr13
import Derived.Test.YtbpodmallknhfaaGreatAr07
import Derived.Test.YtbpodmallknhfaaGreatAr06
import Derived.Test.YtbpodmallknhfaaGreatAr08
import Derived.Test.YtbpodmallknhfaaGreatAr09
import Derived.Test.YtbpodmallknhfaaGreatAr11
import Derived.Deep.RegionWith
import Derived.Laws.StructEq
namespace Go.Proofs.YtbpodmallknhfaaGreat
open Go.RowKit
def RbF (B n : Nat) (m : Value) (i : Nat) (v : Value) (_ : World) : Prop :=
  match i with
  | 0 => v = .pointer (some ⟨B, 0, none⟩)
  | 1 => v = .int .u64 (n : Int)
  | 3 => v = .pointer (some ⟨B, 1, none⟩)
  | 4 => v = m
  | _ => True
structure RbR (base n : Nat) (l : List Nat) (W : World) (D : Nat → Bool) (xs : Nat → Value) (w : World) : Prop where
  below : Below base W w
  size : base ≤ w.heap.size
  two : D 2 = true → D 5 = false → Own base w (xs 2) (Cod.le 8 n)
  five : D 5 = true → Own base w (xs 5) (Pg.rest n l)
  six : D 6 = true → Own base w (xs 6) (Pg.rest n l)
theorem wth_self (D : Nat → Bool) (k : Nat) : Ord.wth D k k = true := if_pos rfl
theorem wth_ne (D : Nat → Bool) {k j : Nat} (h : j ≠ k) : Ord.wth D k j = D j := if_neg h
theorem oset_self (xs : Nat → Value) (k : Nat) (v : Value) : Ord.set xs k v k = v := if_pos rfl
theorem oset_ne (xs : Nat → Value) {k j : Nat} (v : Value) (h : j ≠ k) : Ord.set xs k v j = xs j := if_neg h
theorem rbf_later {B n : Nat} {m : Value} (k : Nat) (v : Value) (w w' : World) (_ : True) (h : RbF B n m k v w) : RbF B n m k v w' := h
theorem RbR.quiet {base n : Nat} {l : List Nat} {W : World} {D : Nat → Bool} {xs : Nat → Value} {w : World} (h : RbR base n l W D xs w) (k : Nat) (v : Value) (h2 : k ≠ 2) (h5 : k ≠ 5) (h6 : k ≠ 6) : RbR base n l W (Ord.wth D k) (Ord.set xs k v) w := by
  refine ⟨h.below, h.size, ?_, ?_, ?_⟩
  · rw [wth_ne _ (Ne.symm h2), wth_ne _ (Ne.symm h5), oset_ne _ _ (Ne.symm h2)]; exact h.two
  · rw [wth_ne _ (Ne.symm h5), oset_ne _ _ (Ne.symm h5)]; exact h.five
  · rw [wth_ne _ (Ne.symm h6), oset_ne _ _ (Ne.symm h6)]; exact h.six
theorem RbR.at2 {base n : Nat} {l : List Nat} {W : World} {D : Nat → Bool} {xs : Nat → Value} {w w' : World} {v : Value} (h : RbR base n l W D xs w) (hb : Below w.heap.size w w') (hO : Own w.heap.size w' v (Cod.le 8 n)) : RbR base n l W (Ord.wth D 2) (Ord.set xs 2 v) w' := by
  refine ⟨h.below.trans (hb.mono h.size), Nat.le_trans h.size hb.size, ?_, ?_, ?_⟩
  · intro _ _; rw [oset_self]; exact hO.from h.size
  · rw [wth_ne _ (by decide), oset_ne _ _ (by decide)]; exact fun h5 => (h.five h5).below hb
  · rw [wth_ne _ (by decide), oset_ne _ _ (by decide)]; exact fun h6 => (h.six h6).below hb
theorem RbR.at5 {base n : Nat} {l : List Nat} {W : World} {D : Nat → Bool} {xs : Nat → Value} {w w' : World} {v : Value} (h : RbR base n l W D xs w) (hb : Below base w w') (hO : Own base w' v (Pg.rest n l)) (h6 : D 6 = false) : RbR base n l W (Ord.wth D 5) (Ord.set xs 5 v) w' := by
  refine ⟨h.below.trans hb, Nat.le_trans h.size hb.size, ?_, ?_, ?_⟩
  · intro _ h5; rw [wth_self] at h5; cases h5
  · intro _; rw [oset_self]; exact hO
  · rw [wth_ne _ (by decide), h6]; intro h; cases h
theorem RbR.at6 {base n : Nat} {l : List Nat} {W : World} {D : Nat → Bool} {xs : Nat → Value} {w : World} (h : RbR base n l W D xs w) (h5 : D 5 = true) : RbR base n l W (Ord.wth D 6) (Ord.set xs 6 (xs 5)) w := by
  refine ⟨h.below, h.size, ?_, ?_, ?_⟩
  · rw [wth_ne _ (by decide), wth_ne _ (by decide), oset_ne _ _ (by decide)]; exact h.two
  · rw [wth_ne _ (by decide), oset_ne _ _ (by decide)]; exact h.five
  · intro _; rw [oset_self]; exact h.five h5
theorem RbR.first (base n : Nat) (l : List Nat) (W : World) (xs : Nat → Value) (hs : base ≤ W.heap.size) : RbR base n l W (fun _ => false) xs W.drew := ⟨(Below.refl _ _).go1, hs, fun h => (by cases h), fun h => (by cases h), fun h => (by cases h)⟩
end Go.Proofs.YtbpodmallknhfaaGreat
namespace Go.Proofs.YtbpodmallknhfaaGreat
open Go.RowKit
theorem Bts.congr_drop {w : World} {b off cap k : Nat} {l : List Nat} (h : Bts w (.slice (some ⟨b, off, none⟩) k cap) l) (n : Nat) (hk : l.length = k) (hn : n ≤ k := by decide) : Bts w (.slice (some ⟨b, off + n, none⟩) (k - n) (cap - n)) (l.drop n) := by
  subst hk
  exact h.drop n hn
structure Opn (w W : World) (B : Nat) : Prop where
  blk : W.heap[B]? = some (.cells #[.int .u64 0, .slice none 0 0] 59 (0, 0))
  low : B = w.heap.size
  below : Below w.heap.size w W
theorem Opn.later {w W W' : World} {B : Nat} (h : Opn w W B) (hb : Below W.heap.size W W') : Opn w W' B :=
  ⟨by rw [hb.block _ (lt_of_block h.blk)]; exact h.blk, h.low, h.below.trans (hb.mono h.below.size)⟩
theorem Opn.grown {w W W' : World} {B g : Nat} (h : Opn w W B) (hb : W.grownBy W' (some g)) (hg : B < g) : Opn w W' B :=
  ⟨by rw [hb.block _ (lt_of_block h.blk) (by simp; omega)]; exact h.blk, h.low, below_grown h.below hb h.below.size (by have := h.low; omega)⟩
theorem Opn.lt {w W : World} {B : Nat} (h : Opn w W B) : B < W.heap.size := lt_of_block h.blk
theorem Opn.done {w W : World} {B : Nat} (h : Opn w W B) (x y : Value) :
    ((W.setCell ⟨B, 0, none⟩ x).setCell ⟨B, 1, none⟩ y).heap[B]? = some (.cells #[x, y] 59 (0, 0)) ∧ W.grownBy ((W.setCell ⟨B, 0, none⟩ x).setCell ⟨B, 1, none⟩ y) (some B) ∧ Below w.heap.size w ((W.setCell ⟨B, 0, none⟩ x).setCell ⟨B, 1, none⟩ y) := by
  obtain ⟨h1, h2⟩ := set2 (x := x) (y := y) h.blk
  exact ⟨h1, h2, below_grown h.below h2 h.below.size (Nat.le_of_eq h.low.symm)⟩
end Go.Proofs.YtbpodmallknhfaaGreat
namespace Go.Proofs.YtbpodmallknhfaaGreat
open Go.RowKit
structure PgApi : Prop where
  bytes : ∀ (n : Nat) (m : Value) (l : List Nat) (w : World), n < 18446744073709551616 → Bts w m l →
    Calls Tryz.prog 146 #[PgV n m] w fun e w' => ∃ u, e = .returned (.tuple #[u, .int .i64 ((if l.length = 500 then 0 else 2 : Nat) : Int)]) ∧ Own w.heap.size w' u (if l.length = 500 then Pg.form n l else []) ∧ Below w.heap.size w w'
  opens : ∀ (m : Value) (b : List Nat) (w : World), Bts w m b →
    Calls Tryz.prog 104 #[m] w fun e w' => ∃ u, e = .returned (.tuple #[PgV (Pg.openN b) u, .int .i64 (Pg.openE b : Nat)]) ∧ Own w.heap.size w' u (Pg.openL b) ∧ Below w.heap.size w w'
  blank : ∀ w : World, Calls Tryz.prog 143 #[] w fun e w' => ∃ v, e = .returned (PgV 0 v) ∧ Own w.heap.size w' v (Pg.zeros 500) ∧ Below w.heap.size w w'
end Go.Proofs.YtbpodmallknhfaaGreat
namespace Go.Proofs.YtbpodmallknhfaaGreat
open Go.RowKit
set_option maxHeartbeats 1600000 in
set_option maxRecDepth 20000 in
theorem bytes_any (n : Nat) (m : Value) (l : List Nat) (w : World) (hB : Bts w m l) :
    Calls Tryz.prog 146 #[PgV n m] w fun e w' => ∃ u, e = .returned (.tuple #[u, .int .i64 ((if l.length = 500 then 0 else 2 : Nat) : Int)]) ∧ Own w.heap.size w' u (if l.length = 500 then Pg.form n l else []) ∧ Below w.heap.size w w' := by
  have hb0 : Below w.heap.size w (w.alloc (.cells #[.int .u64 (n : Int), m] 59)) := (Below.refl _ _).alloc (Nat.le_refl _) _
  have HB := Lib.hid (hB.below hb0)
  have HB0 := Lib.hid hb0
  have hrow : (w.alloc (.cells #[.int .u64 (n : Int), m] 59)).heap[w.heap.size]? = some (.cells #[.int .u64 (n : Int), m] 59 (0, 0)) := heap_alloc_last _ _
  obtain ⟨p, cap, rfl, -, -, -⟩ := hB.form
  have hlen := hB.len
  clear hB hb0
  by_cases hl : l.length = 500
  · rw [if_pos hl, if_pos hl]
    have HL := Lib.hid hl
    rw [hl] at HB HB0 hrow
    have HR := Lib.hid hrow
    clear hrow
    go_enter Tryz.func146, Tryz.ntmps146
    go_upto_region 3 with (fail)
    obtain ⟨W, hW⟩ : ∃ W, W = w.alloc (.cells #[.int .u64 (n : Int), .slice p 500 cap] 59) := ⟨_, rfl⟩
    rw [← hW] at HB HB0 HR ⊢
    have HS : Hid (w.heap.size < W.heap.size) := lt_of_block HR.out
    have c0 := cell2_0 HR.out
    have c1 := cell2_1 HR.out
    have D0 := Lib.hid c0
    have D1 := Lib.hid c1
    clear hW c0 c1
    obtain ⟨B, hBs⟩ : ∃ B, B = w.heap.size := ⟨_, rfl⟩
    rw [← hBs] at HB0 HR HS D0 D1 ⊢
    have HBS := Lib.hid hBs
    clear hBs hl
    refine Ord.walk (RbF B n (.slice p 500 cap)) (RbR W.heap.size n l W) (fun _ _ => True)
      (by kernel_rfl) (by kernel_rfl) ?fr ?hfr rbf_later (fun xs => RbR.first _ _ _ _ _ (Nat.le_refl _)) ?he ?hend
    case hfr =>
      intro xs
      simp only [Ord.fill, Act.put, List.setIfInBounds_toArray, List.set_cons_zero, List.set_cons_succ]
      rfl
    case he =>
      refine Ord.each_cons (fun D xs w2 hD hC hP hR hA K hK => ?_) ?_
      ·
        clear hA
        go_simp
        exact hK _ _ ⟨_, rfl, trivial, hR.quiet _ _ (by decide) (by decide) (by decide), rfl⟩
      refine Ord.each_cons (fun D xs w2 hD hC hP hR hA K hK => ?_) ?_
      ·
        have q0 := Ord.ahead_get _ hA 0 (by decide)
        simp only [RbF] at q0
        simp only [q0] at hK
        clear hA
        have c0 := hR.below.cell (p := ⟨B, 0, none⟩) HS.out
        rw [D0.out] at c0
        go_simp
        exact hK _ _ ⟨_, rfl, trivial, hR.quiet _ _ (by decide) (by decide) (by decide), rfl⟩
      refine Ord.each_cons (fun D xs w2 hD hC hP hR hA K hK => ?_) ?_
      ·
        have q1 := Ord.ahead_get _ hA 1 (by decide)
        simp only [RbF] at q1
        simp only [q1] at hK
        clear hA
        go_simp
        refine (Put64_any (.slice none 0 0) [] n w2 (bts_none w2) (by decide)).mono ?_
        rintro e w' ⟨u, rfl, hO, hb⟩
        rw [List.nil_append] at hO
        exact hK _ _ ⟨_, rfl, trivial, hR.at2 hb hO, trivial⟩
      refine Ord.each_cons (fun D xs w2 hD hC hP hR hA K hK => ?_) ?_
      ·
        clear hA
        go_simp
        exact hK _ _ ⟨_, rfl, trivial, hR.quiet _ _ (by decide) (by decide) (by decide), rfl⟩
      refine Ord.each_cons (fun D xs w2 hD hC hP hR hA K hK => ?_) ?_
      ·
        have q3 := Ord.ahead_get _ hA 3 (by decide)
        simp only [RbF] at q3
        simp only [q3] at hK
        clear hA
        have c0 := hR.below.cell (p := ⟨B, 1, none⟩) HS.out
        rw [D1.out] at c0
        go_simp
        exact hK _ _ ⟨_, rfl, trivial, hR.quiet _ _ (by decide) (by decide) (by decide), rfl⟩
      refine Ord.each_cons (fun D xs w2 hD hC hP hR hA K hK => ?_) ?_
      ·
        have q4 := Ord.ahead_get _ hA 4 (by decide)
        simp only [RbF] at q4
        clear hA
        have h6 : D 6 = false := by
          cases h : D 6 with
          | false => rfl
          | true => have := Ord.closed_at hC 6 5 rfl h; rw [hD] at this; cases this
        have h2 : D 2 = true := hP { on := 2, ground := .data } (by simp) rfl
        have hO := hR.two h2 hD
        refine wp_append_Own _ _ rfl W.heap.size (xs 2) (Cod.le 8 n) rfl hO (.slice p 500 cap) l (by rw [← q4]; rfl) (HB.out.below hR.below) (by rw [Cod.le_length, HL.out]; decide) hR.size ?_
        intro u w' hO2 hb2 _
        exact hK _ _ ⟨_, rfl, trivial, hR.at5 hb2 hO2 h6, trivial⟩
      refine Ord.each_cons (fun D xs w2 hD hC hP hR hA K hK => ?_) ?_
      ·
        clear hA
        have h5 : D 5 = true := hP { on := 5, ground := .data } (by simp) rfl
        go_simp
        exact hK _ _ ⟨_, rfl, trivial, hR.at6 h5, trivial⟩
      exact Ord.each_nil
    case hend =>
      intro D xs w2 hR hF
      have h6 := hR.six (hF 6 (by decide)).1
      have HR6 := Lib.hid h6
      have HB2 := Lib.hid hR.below
      have HZ2 := Lib.hid hR.size
      clear hR hF
      generalize xs 6 = x6 at *
      generalize xs 5 = x5 at *
      generalize xs 4 = x4 at *
      generalize xs 3 = x3 at *
      generalize xs 2 = x2 at *
      generalize xs 1 = x1 at *
      generalize xs 0 = x0 at *
      go_wp2_with fail
      clear h6
      refine (sum_any x6 _ _ HR6.out.bts).mono ?_
      rintro e w3 ⟨rfl, hb3⟩
      obtain ⟨S, hS⟩ : ∃ S, S = Crc.more 0 (Pg.rest n l) := ⟨_, rfl⟩
      rw [← hS]
      have HS2 := Lib.hid hS
      have HB3 := Lib.hid hb3
      clear hS hb3
      go_wp2_with fail
      refine (Put32_any (.slice none 0 0) [] S w3 (bts_none w3) (by decide)).mono ?_
      rintro e w4 ⟨x7, rfl, hO, hb⟩
      rw [List.nil_append] at hO
      have HB4 := Lib.hid (HB3.out.trans (hb.mono HB3.out.size))
      have HO := Lib.hid (hO.from (Nat.le_trans HZ2.out HB3.out.size))
      clear hO hb HB3
      dsimp only
      iterate 4 go_step
      refine wpList_append_Own rfl (.tmp 17) (.tmp 18) rfl W.heap.size x7 _ rfl HO.out x6 _ rfl (HR6.out.bts.below HB4.out) (by rw [Cod.le_length, Pg.rest_length, HL.out]; decide) (Nat.le_trans HZ2.out HB4.out.size) ?_
      intro x8 w5 hO5 hb5 _
      rw [HS2.out] at hO5
      have HO5 := Lib.hid hO5
      have HB5 := Lib.hid hb5
      clear hO5 hb5
      go_wp2_with fail
      go_ret2
      have hs : B ≤ W.heap.size := Nat.le_of_lt HS.out
      rw [← HBS.out]
      exact ⟨_, rfl, HO5.out.from hs, HB0.out.trans (((HB2.out.trans (HB4.out.mono HZ2.out)).trans HB5.out).mono hs)⟩
  · rw [if_neg hl, if_neg hl]
    have hi : ¬ (l.length : Int) = 500 := by omega
    have h2 : ((l.length : Int) != 500) = true := by simp; omega
    clear hrow
    go_enter Tryz.func146, Tryz.ntmps146
    go_wp2_with fail
    go_ret2
    exact ⟨_, rfl, own_nil _ _, HB0.out⟩
end Go.Proofs.YtbpodmallknhfaaGreat
namespace Go.Proofs.YtbpodmallknhfaaGreat
open Go.RowKit
set_option maxHeartbeats 400000 in
set_option maxRecDepth 20000 in
theorem blank_page (w : World) : Calls Tryz.prog 143 #[] w fun e w' => ∃ v, e = .returned (PgV 0 v) ∧ Own w.heap.size w' v (Pg.zeros 500) ∧ Below w.heap.size w w' := by
  obtain ⟨W, hW⟩ : ∃ W, W = w.alloc (.cells #[.int .u64 0, .slice none 0 0] 59) := ⟨_, rfl⟩
  have hmk : (Instr.makeSlice 57 (.int .i64 500) (.int .i64 500)).run Tryz.prog (w.alloc (.cells #[.int .u64 0, .slice none 0 0] 59)) = .ok (.slice (some ⟨(w.alloc (.cells #[.int .u64 0, .slice none 0 0] 59)).heap.size, 0, none⟩) 500 500) _ := made_bytes 500 (by decide) _
  have HO := Lib.hid (made_own 500 (by decide) W)
  have hr : W.heap[w.heap.size]? = some (.cells #[.int .u64 0, .slice none 0 0] 59 (0, 0)) := by rw [hW]; exact heap_alloc_last _ _
  have hb : Below w.heap.size w W := by rw [hW]; exact (Below.refl _ _).alloc (Nat.le_refl _) _
  have hsz := lt_of_block hr
  rw [← hW] at hmk
  obtain ⟨W1, hW1⟩ : ∃ W1, W1 = W.alloc (.cells ((Pg.zeros 500).map bv).toArray 5) := ⟨_, rfl⟩
  have hb1 : Below W.heap.size W W1 := by rw [hW1]; exact (Below.refl _ _).alloc (Nat.le_refl _) _
  have hr1 : W1.heap[w.heap.size]? = some (.cells #[.int .u64 0, .slice none 0 0] 59 (0, 0)) := by rw [hb1.block _ (lt_of_block hr)]; exact hr
  rw [← hW1] at hmk HO
  obtain ⟨h2, hg2⟩ := set2 (x := .int .u64 0) (y := .slice (some ⟨W.heap.size, 0, none⟩) 500 500) hr1
  have q0 := cell2_0 h2
  have q1 := cell2_1 h2
  have HG := Lib.hid hg2
  have HQ0 := Lib.hid q0
  have HQ1 := Lib.hid q1
  clear h2 hg2 q0 q1
  go_enter Tryz.func143, Tryz.ntmps143
  go_wp2_with fail
  rw [← hW, hmk]
  have c0 := cell2_0 hr1
  have c1 := cell2_1 hr1
  have f0 := free2 hr1 0
  have f1 := free2 hr1 1
  clear hW1 hmk hr hr1 hW
  go_wp2_with fail
  have q0 := HQ0.out
  have q1 := HQ1.out
  refine bodyPost_ret (v := PgV 0 (.slice (some ⟨W.heap.size, 0, none⟩) 500 500)) (by simp [results, Tryz.results143, go_sem, q0, q1]) rfl ⟨_, rfl, ?_, ?_⟩
  · exact (HO.out.from (Nat.le_of_lt hsz)).grown HG.out (Or.inr (by simp [Value.ownBlock]; omega))
  · exact below_grown (hb.trans (hb1.mono hb.size)) HG.out (by have := hb1.size; omega) (Nat.le_refl _)
end Go.Proofs.YtbpodmallknhfaaGreat
namespace Go.Proofs.YtbpodmallknhfaaGreat
open Go.RowKit
set_option maxHeartbeats 1600000 in
set_option maxRecDepth 20000 in
theorem btEqual_any (va vb : Value) (a b : List Nat) (w : World) (hA : Bts w va a) (hB : Bts w vb b) :
    Calls Tryz.prog 99 #[va, vb] w fun e w' => e = .returned (.bool (decide (a = b))) ∧ w = w' := by
  have hc1 := strOf_conv hA
  have hc2 := strOf_conv hB
  have hi := fun h => str_inj hA.small hB.small h
  obtain ⟨pa, ca, rfl, -, -, -⟩ := hA.form
  obtain ⟨pb, cb, rfl, -, -, -⟩ := hB.form
  clear hA hB
  by_cases h : a = b
  · subst h
    rw [decide_eq_true rfl]
    clear hi
    generalize strOfNums (a.map fun x : Nat => (x : Int)) = S at *
    go_enter Tryz.func99, Tryz.ntmps99
    go_wp2
    go_ret
    exact ⟨rfl, rfl⟩
  · rw [decide_eq_false h]
    have hne := fun e => h (hi e)
    clear hi
    generalize strOfNums (a.map fun x : Nat => (x : Int)) = S at *
    generalize strOfNums (b.map fun x : Nat => (x : Int)) = T at *
    have hb : (S.toList == T.toList) = false := by
      rw [beq_eq_false_iff_ne]
      intro e
      rw [ByteArray.toList_eq, ByteArray.toList_eq] at e
      exact hne (Go.WideShapes.bytes_inj e)
    go_enter Tryz.func99, Tryz.ntmps99
    go_wp2
    go_ret
    exact ⟨rfl, rfl⟩
def OpF (Q g off cap N M : Nat) (r : Bool) (i : Nat) (v : Value) (_ : World) : Prop :=
  match i with
  | 0 => v = .pointer (some ⟨Q, 0, none⟩)
  | 1 => v = .int .u32 (N : Int)
  | 2 => v = .slice (some ⟨g, off, none⟩) 512 cap
  | 3 => v = .slice (some ⟨g, off + 4, none⟩) 508 (cap - 4)
  | 4 => v = .int .u32 (M : Int)
  | _ => v = .bool r
theorem opf_later {Q g off cap N M : Nat} {r : Bool} (k : Nat) (v : Value) (w w' : World) (_ : True) (h : OpF Q g off cap N M r k v w) : OpF Q g off cap N M r k v w' := h
structure OpR (w : World) (R lo Q g off cap : Nat) (b : List Nat) (D : Nat → Bool) (w' : World) : Prop where
  opn : Opn w w' R
  bts : Bts w' (.slice (some ⟨g, off, none⟩) 512 cap) b
  r0 : D 1 = false → Rd 217 (fun i => lo ≤ i ∧ i < Q) w' Q (b.take 12) 0
  r1 : D 1 = true → Rd 217 (fun i => lo ≤ i ∧ i < Q) w' Q ((b.drop 4).take 8) 0
theorem Opn.drew {w W : World} {B : Nat} (h : Opn w W B) : Opn w W.drew B := ⟨h.blk, h.low, h.below.go1⟩
section
variable {w w' w2 : World} {R lo Q g off cap : Nat} {b : List Nat} {D : Nat → Bool}
theorem OpR.skip (h : OpR w R lo Q g off cap b D w') (k : Nat) (hk : (k != 1) = true) : OpR w R lo Q g off cap b (Ord.wth D k) w' := by
  have hk := (bne_iff_ne ..).1 hk
  refine ⟨h.opn, h.bts, ?_, ?_⟩
  · rw [wth_ne _ (Ne.symm hk)]; exact h.r0
  · rw [wth_ne _ (Ne.symm hk)]; exact h.r1
theorem OpR.later (h : OpR w R lo Q g off cap b D w') (hb : Below w'.heap.size w' w2) : OpR w R lo Q g off cap b D w2 := ⟨h.opn.later hb, h.bts.below hb, fun a => (h.r0 a).below hb, fun a => (h.r1 a).below hb⟩
theorem OpR.one (h : OpR w R lo Q g off cap b D w') (hq : R < lo ∧ g < lo ∧ lo ≤ Q) (hr : Rd 217 (fun i => lo ≤ i ∧ i < Q) w2 Q ((b.drop 4).take 8) 0) (hg : w'.grownBy w2 (some Q)) : OpR w R lo Q g off cap b (Ord.wth D 1) w2 := by
  refine ⟨h.opn.grown hg (by omega), h.bts.grown hg (fun _ e => ?_), fun a => ?_, fun _ => hr⟩
  · simp only [Value.ownBlock, Option.some.injEq] at e; omega
  · rw [wth_self] at a; cases a
end
def O8F (Q g off cap n : Nat) (i : Nat) (v : Value) (_ : World) : Prop :=
  match i with
  | 0 => v = .pointer (some ⟨Q, 0, none⟩)
  | 1 => v = .int .u64 (n : Int)
  | 2 => v = .slice (some ⟨g, off, none⟩) 512 cap
  | 3 => v = .slice (some ⟨g, off + 12, none⟩) 500 (cap - 12)
  | 7 => v = .int .i64 0
  | _ => True
theorem o8f_later {Q g off cap n : Nat} (k : Nat) (v : Value) (w w' : World) (_ : True) (h : O8F Q g off cap n k v w) : O8F Q g off cap n k v w' := h
structure O8R (w : World) (R lo Q g off cap : Nat) (b : List Nat) (D : Nat → Bool) (xs : Nat → Value) (w' : World) : Prop where
  sz : lo ≤ w'.heap.size
  opn : D 6 = false → Opn w w' R
  bts : D 6 = false → Bts w' (.slice (some ⟨g, off, none⟩) 512 cap) b
  rd : D 1 = false → Rd 217 (fun i => lo ≤ i ∧ i < Q) w' Q ((b.drop 4).take 8) 0
  a4 : D 4 = true → D 6 = false → ∃ p c, xs 4 = .slice p 500 c ∧ Own lo w' (xs 4) (b.drop 12)
  a5 : D 5 = true → xs 5 = .agg #[.int .u64 (Pg.openN b : Int), xs 4]
  a6 : D 6 = true → ∃ u, w'.heap[R]? = some (.cells #[.int .u64 (Pg.openN b : Int), u] 59 (0, 0)) ∧ Own lo w' u (b.drop 12) ∧ (∃ p c, u = .slice p 500 c) ∧ Below w.heap.size w w'
section
variable {w w' w2 : World} {R lo Q g off cap : Nat} {b : List Nat} {D : Nat → Bool} {xs : Nat → Value} {u : Value}
theorem O8R.first (xs : Nat → Value) (h1 : Opn w w' R) (h2 : Bts w' (.slice (some ⟨g, off, none⟩) 512 cap) b) (h3 : Rd 217 (fun i => lo ≤ i ∧ i < Q) w' Q ((b.drop 4).take 8) 0) (h4 : lo ≤ w'.heap.size) : O8R w R lo Q g off cap b (fun _ => false) xs w'.drew :=
  ⟨h4, fun _ => h1.drew, fun _ => h2.below (below_drew _ _), fun _ => h3.below (below_drew _ _), fun h => (by cases h), fun h => (by cases h), fun h => (by cases h)⟩
theorem O8R.skip (h : O8R w R lo Q g off cap b D xs w') (k : Nat) (u : Value) (hk : (k != 1 && k != 4 && k != 5 && k != 6) = true) : O8R w R lo Q g off cap b (Ord.wth D k) (Ord.set xs k u) w' := by
  simp only [Bool.and_eq_true, bne_iff_ne] at hk
  obtain ⟨⟨⟨n1, n4⟩, n5⟩, n6⟩ := hk
  refine ⟨h.sz, ?_, ?_, ?_, ?_, ?_, ?_⟩
  · rw [wth_ne _ (Ne.symm n6)]; exact h.opn
  · rw [wth_ne _ (Ne.symm n6)]; exact h.bts
  · rw [wth_ne _ (Ne.symm n1)]; exact h.rd
  · rw [wth_ne _ (Ne.symm n6), wth_ne _ (Ne.symm n4), oset_ne _ _ (Ne.symm n4)]; exact h.a4
  · rw [wth_ne _ (Ne.symm n5), oset_ne _ _ (Ne.symm n4), oset_ne _ _ (Ne.symm n5)]; exact h.a5
  · rw [wth_ne _ (Ne.symm n6)]; exact h.a6
theorem O8R.one (h : O8R w R lo Q g off cap b D xs w') (u : Value) (hq : R < lo ∧ g < lo ∧ lo ≤ Q) (h4 : D 4 = false) (h6 : D 6 = false) (hg : w'.grownBy w2 (some Q)) : O8R w R lo Q g off cap b (Ord.wth D 1) (Ord.set xs 1 u) w2 := by
  refine ⟨Nat.le_trans h.sz hg.size, ?_, ?_, ?_, ?_, ?_, ?_⟩
  · rw [wth_ne _ (by decide)]; exact fun a => (h.opn a).grown hg (by omega)
  · rw [wth_ne _ (by decide)]; exact fun a => (h.bts a).grown hg (fun _ e => by simp only [Value.ownBlock, Option.some.injEq] at e; omega)
  · rw [wth_self]; intro a; cases a
  · rw [wth_ne _ (by decide), h4]; intro a; cases a
  · rw [wth_ne _ (by decide), oset_ne _ _ (by decide), oset_ne _ _ (by decide)]; exact h.a5
  · rw [wth_ne _ (by decide), h6]; intro a; cases a
theorem O8R.four (h : O8R w R lo Q g off cap b D xs w') (h5 : D 5 = false) (h6 : D 6 = false) (hl : (b.drop 12).length = 500) (hO : Own w'.heap.size w2 u (b.drop 12)) (hb : Below w'.heap.size w' w2) : O8R w R lo Q g off cap b (Ord.wth D 4) (Ord.set xs 4 u) w2 := by
  refine ⟨Nat.le_trans h.sz hb.size, ?_, ?_, ?_, ?_, ?_, ?_⟩
  · rw [wth_ne _ (by decide)]; exact fun a => (h.opn a).later hb
  · rw [wth_ne _ (by decide)]; exact fun a => (h.bts a).below hb
  · rw [wth_ne _ (by decide)]; exact fun a => (h.rd a).below hb
  · rw [oset_self]
    intro _ _
    obtain ⟨p, c, e, -⟩ := hO.bts.form
    rw [hl] at e
    exact ⟨p, c, e, hO.from h.sz⟩
  · rw [wth_ne _ (by decide), h5]; intro a; cases a
  · rw [wth_ne _ (by decide), h6]; intro a; cases a
theorem O8R.five (h : O8R w R lo Q g off cap b D xs w') (hu : u = .agg #[.int .u64 (Pg.openN b : Int), xs 4]) : O8R w R lo Q g off cap b (Ord.wth D 5) (Ord.set xs 5 u) w' := by
  refine ⟨h.sz, ?_, ?_, ?_, ?_, ?_, ?_⟩
  · rw [wth_ne _ (by decide)]; exact h.opn
  · rw [wth_ne _ (by decide)]; exact h.bts
  · rw [wth_ne _ (by decide)]; exact h.rd
  · rw [wth_ne _ (by decide), wth_ne _ (by decide), oset_ne _ _ (by decide)]; exact h.a4
  · rw [oset_self, oset_ne _ _ (by decide)]; exact fun _ => hu
  · rw [wth_ne _ (by decide)]; exact h.a6
theorem O8R.six (h : O8R w R lo Q g off cap b D xs w') (hq : R < lo ∧ g < lo ∧ lo ≤ Q) (h4 : D 4 = true) (h6 : D 6 = false) :
    O8R w R lo Q g off cap b (Ord.wth D 6) (Ord.set xs 6 u) ((w'.setCell ⟨R, 0, none⟩ (.int .u64 (Pg.openN b : Int))).setCell ⟨R, 1, none⟩ (xs 4)) := by
  obtain ⟨d1, d2, d3⟩ := (h.opn h6).done (.int .u64 (Pg.openN b : Int)) (xs 4)
  obtain ⟨p, c, e, hO⟩ := h.a4 h4 h6
  refine ⟨Nat.le_trans h.sz d2.size, ?_, ?_, ?_, ?_, ?_, ?_⟩
  · rw [wth_self]; intro a; cases a
  · rw [wth_self]; intro a; cases a
  · rw [wth_ne _ (by decide)]
    exact fun a => (h.rd a).grown d2 (fun g2 e2 => by simp only [Option.some.injEq] at e2; omega)
  · rw [wth_self]; intro _ a; cases a
  · rw [wth_ne _ (by decide), oset_ne _ _ (by decide), oset_ne _ _ (by decide)]; exact h.a5
  · intro _
    refine ⟨xs 4, d1, hO.grown d2 (Or.inr fun hh => ?_), ⟨p, c, e⟩, d3⟩
    have := (hO.own.lt R hh).1
    omega
end
set_option maxHeartbeats 1600000 in
set_option maxRecDepth 20000 in
theorem open_any (m : Value) (b : List Nat) (w : World) (hB : Bts w m b) :
    Calls Tryz.prog 104 #[m] w fun e w' => ∃ u, e = .returned (.tuple #[PgV (Pg.openN b) u, .int .i64 (Pg.openE b : Nat)]) ∧ Own w.heap.size w' u (Pg.openL b) ∧ Below w.heap.size w w' := by
  obtain ⟨W, hW⟩ : ∃ W, W = w.alloc (.cells #[.int .u64 0, .slice none 0 0] 59) := ⟨_, rfl⟩
  obtain ⟨R, hR⟩ : ∃ R, R = w.heap.size := ⟨_, rfl⟩
  have hO : Opn w W R := ⟨by rw [hW, hR]; exact heap_alloc_last _ _, hR, by rw [hW]; exact (Below.refl _ _).alloc (Nat.le_refl _) _⟩
  have HB := Lib.hid (hB.below hO.below)
  have HO := Lib.hid hO
  have HR := Lib.hid hR
  obtain ⟨p, cap, rfl, hcap, -, hp⟩ := hB.form
  have hlen := hB.len
  by_cases hl : b.length = 512
  · rw [hl] at HB ⊢
    have HL := Lib.hid hl
    obtain ⟨g, off, rfl, -⟩ := hp (by omega)
    clear hp hB hO
    have hmk : (Instr.makeSlice 57 (.int .i64 512) (.int .i64 512)).run Tryz.prog W = .ok (.slice (some ⟨W.heap.size, 0, none⟩) 512 512) (W.alloc (.cells ((Pg.zeros 512).map bv).toArray 5)) := made_bytes 512 (by decide) W
    have hmo := made_own 512 (by decide) W
    obtain ⟨W1, hW1⟩ : ∃ W1, W1 = W.alloc (.cells ((Pg.zeros 512).map bv).toArray 5) := ⟨_, rfl⟩
    have hb1 : Below W.heap.size W W1 := by rw [hW1]; exact (Below.refl _ _).alloc (Nat.le_refl _) _
    rw [← hW1] at hmk hmo
    have HB1 := Lib.hid (HB.out.below hb1)
    have HO1 := Lib.hid (HO.out.later hb1)
    have heq := btEqual_any _ _ _ _ W1 HB1.out hmo.bts
    clear hW1 hmo hb1
    by_cases hz : b = Pg.zeros 512
    · subst hz
      rw [decide_eq_true rfl] at heq
      rw [Pg.openE_zeros, Pg.openN_zeros, Pg.openL_zeros]
      have HEQ := Lib.hid heq
      clear heq
      go_enter Tryz.func104, Tryz.ntmps104
      go_wp2_with fail
      rw [← hW, ← HR.out, hmk]
      clear hW hmk hR
      go_wp2_with fail
      refine HEQ.out.mono ?_
      rintro e w2 ⟨rfl, rfl⟩
      go_wp2_with fail
      refine (blank_page W1).mono ?_
      rintro e w3 ⟨v, rfl, hO3, hb3⟩
      obtain ⟨p3, c3, rfl, -, -, -⟩ := hO3.bts.form
      have HV := Lib.hid hO3
      have HO3 := Lib.hid (HO1.out.later hb3)
      have HB3 := Lib.hid hb3
      have hne : ∀ g3, (Value.slice p3 (Pg.zeros 500).length c3).ownBlock = some g3 → R < g3 := by
        intro g3 hg3
        rcases hO3.form with ⟨h1, h2⟩ | ⟨g4, c4, h1, h2, -⟩
        · rw [h1] at hg3; cases hg3
        · rw [h1] at hg3
          simp only [Value.ownBlock, Option.some.injEq] at hg3
          have := HO1.out.lt
          omega
      have HNE := Lib.hid hne
      clear hO3 hb3 hne
      rw [Pg.zeros_length] at HV HNE ⊢
      have c0 := cell2_0 HO3.out.blk
      have c1 := cell2_1 HO3.out.blk
      have f0 := free2 HO3.out.blk 0
      have f1 := free2 HO3.out.blk 1
      obtain ⟨d1, d2, d3⟩ := HO3.out.done (.int .u64 0) (.slice p3 500 c3)
      have q0 := cell2_0 d1
      have q1 := cell2_1 d1
      have D2 := Lib.hid d2
      have D3 := Lib.hid d3
      clear d1 d2 d3
      go_wp2_with fail
      refine bodyPost_ret (v := .tuple #[PgV 0 (.slice p3 500 c3), .int .i64 0]) (by simp [results, Tryz.results104, go_sem, q0, q1]) rfl ⟨_, rfl, ?_, D3.out⟩
      refine (HV.out.from (by have := HO1.out.lt; have := HR.out; omega)).grown D2.out (Or.inr fun h => ?_)
      exact absurd (HNE.out _ h) (Nat.lt_irrefl _)
    · rw [decide_eq_false hz] at heq
      have HEQ := Lib.hid heq
      clear heq
      go_enter Tryz.func104, Tryz.ntmps104
      go_wp2_with fail
      rw [← hW, ← HR.out, hmk]
      clear hW hmk hR
      go_wp2_with fail
      refine HEQ.out.mono ?_
      rintro e w2 ⟨rfl, rfl⟩
      go_wp2_with fail
      have htk : Bts W1 (.slice (some ⟨g, off, none⟩) 12 cap) (b.take 12) := by
        have h := HB1.out
        rw [← HL.out] at h
        exact h.take 12 (by have := HL.out; omega)
      refine (newReader_any _ (b.take 12) W1 htk).mono ?_
      rintro e w2 ⟨Q, rfl, hrd, hQ, hb2⟩
      have HO2 := Lib.hid (HO1.out.later hb2)
      have HB2 := Lib.hid (HB1.out.below hb2)
      have HQ := Lib.hid hQ
      have hrn : Cod.rdNum 4 (b.take 12) 0 = (Cod.num (b.take 4), (b.drop 4).take 8, 0) := by
        have := HL.out
        unfold Cod.rdNum
        rw [if_neg (by simp), if_neg (by simp; omega), List.take_take, List.drop_take]
        rfl
      have HU : Hid (∀ W2, Rd 217 (fun i => W1.heap.size ≤ i ∧ i < Q) W2 Q (b.take 12) 0 → Calls Tryz.prog 144 #[.pointer (some ⟨Q, 0, none⟩)] W2 fun en w' => en = .returned (.int .u32 ((Cod.num (b.take 4) : Nat) : Int)) ∧ Rd 217 (fun i => W1.heap.size ≤ i ∧ i < Q) w' Q ((b.drop 4).take 8) 0 ∧ W2.grownBy w' (some Q)) := fun W2 h => by
        have hc1 := U32_any _ _ 0 _ _ h
        rw [hrn] at hc1
        exact hc1
      have HQ1 : Hid (R < W1.heap.size ∧ g < W1.heap.size ∧ W1.heap.size ≤ Q) := ⟨HO1.out.lt, HB1.out.block_lt (by have := HL.out; omega) g rfl, hQ⟩
      have HF0 : Hid (OpR w R W1.heap.size Q g off cap b (fun _ => false) w2.drew) := ⟨HO2.out.drew, HB2.out.below (below_drew _ _), fun _ => hrd.below (below_drew _ _), fun h => (by cases h)⟩
      have HC4 : Hid (¬ cap = 4) := by show ¬ _; have := hcap.1; omega
      have HC12 : Hid (¬ cap = 12) := by show ¬ _; have := hcap.1; omega
      have HE3 := Lib.hid (show Pg.openE b = if Cod.num (b.take 4) ≠ Crc.more 0 (b.drop 4) then 14 else 0 by unfold Pg.openE; rw [if_neg (by have := HL.out; omega), if_neg hz])
      clear htk hrd hQ hb2 hrn
      generalize Cod.num (b.take 4) = N at *
      obtain ⟨M, hM2⟩ : ∃ M, M = Crc.more 0 (b.drop 4) := ⟨_, rfl⟩
      rw [← hM2] at HE3
      have HM := Lib.hid hM2
      clear hM2
      by_cases hs : N = M
      · subst hs
        have he : Pg.openE b = 0 := by rw [HE3.out, if_neg (by simp)]
        have HN := Lib.hid (show Pg.openN b = Cod.num ((b.drop 4).take 8) from if_pos he)
        have HLL := Lib.hid (show Pg.openL b = b.drop 12 from if_pos he)
        have HLN := Lib.hid (Pg.openL_length he)
        have HEE := Lib.hid he
        have HC : Hid (((N : Int) != (N : Int)) = false) := bne_self_eq_false _
        have HC2 : Hid (((N : Int) == (N : Int)) = true) := beq_self_eq_true _
        clear he HE3
        go_upto_region 6 with (fail)
        refine Ord.walk (OpF Q g off cap N N false) (fun D _ w' => OpR w R W1.heap.size Q g off cap b D w') (fun _ _ => True)
          (by kernel_rfl) (by kernel_rfl) ?fr1 ?hfr1 opf_later (fun xs => HF0.out) ?he1 ?hend1
        case hfr1 =>
          intro xs
          simp only [Ord.fill, Act.put, List.setIfInBounds_toArray, List.set_cons_zero, List.set_cons_succ]
          rfl
        case he1 =>
          refine Ord.each_cons (fun D xs w2 hD hC hP hR hA K hK => ?_) ?_
          ·
            clear hA
            go_simp
            exact hK _ _ ⟨_, rfl, trivial, hR.skip _ (by decide), rfl⟩
          refine Ord.each_cons (fun D xs w2 hD hC hP hR hA K hK => ?_) ?_
          ·
            have q0 := Ord.ahead_get _ hA 0 (by decide)
            simp only [OpF] at q0
            simp only [q0] at hK
            clear hA
            go_simp
            refine (HU.out w2 (hR.r0 hD)).mono ?_
            rintro e w' ⟨rfl, hr, hg⟩
            exact hK _ _ ⟨_, rfl, trivial, hR.one HQ1.out hr hg, rfl⟩
          refine Ord.each_cons (fun D xs w2 hD hC hP hR hA K hK => ?_) ?_
          ·
            clear hA
            go_simp
            exact hK _ _ ⟨_, rfl, trivial, hR.skip _ (by decide), rfl⟩
          refine Ord.each_cons (fun D xs w2 hD hC hP hR hA K hK => ?_) ?_
          ·
            have q2 := Ord.ahead_get _ hA 2 (by decide)
            simp only [OpF] at q2
            simp only [q2] at hK
            clear hA
            have hc4 := HC4.out
            go_simp
            exact hK _ _ ⟨_, rfl, trivial, hR.skip _ (by decide), rfl⟩
          refine Ord.each_cons (fun D xs w2 hD hC hP hR hA K hK => ?_) ?_
          ·
            have q3 := Ord.ahead_get _ hA 3 (by decide)
            simp only [OpF] at q3
            simp only [q3] at hK
            clear hA
            go_simp
            refine (sum_any _ _ _ (hR.bts.congr_drop 4 HL.out)).mono ?_
            rintro e w' ⟨rfl, hb⟩
            rw [← HM.out]
            exact hK _ _ ⟨_, rfl, trivial, (hR.later hb).skip _ (by decide), rfl⟩
          refine Ord.each_cons (fun D xs w2 hD hC hP hR hA K hK => ?_) ?_
          ·
            have q1 := Ord.ahead_get _ hA 1 (by decide)
            simp only [OpF] at q1
            have q4 := Ord.ahead_get _ hA 4 (by decide)
            simp only [OpF] at q4
            simp only [q1, q4] at hK
            clear hA
            have hc := HC.out
            have hc2 := HC2.out
            go_simp
            all_goals exact hK _ _ ⟨_, rfl, trivial, hR.skip _ (by decide), rfl⟩
          exact Ord.each_nil
        case hend1 =>
          intro D xs w3 hR2 hF
          have e5 := (hF 5 (by decide)).2
          have hd1 := (hF 1 (by decide)).1
          simp only [OpF] at e5
          rw [e5]
          have HR3 := Lib.hid (hR2.r1 hd1)
          have HO3 := Lib.hid hR2.opn
          have HB3 := Lib.hid hR2.bts
          clear e5 hF hR2 hd1
          have HU8 : Hid (∀ W2, Rd 217 (fun i => W1.heap.size ≤ i ∧ i < Q) W2 Q ((b.drop 4).take 8) 0 → Calls Tryz.prog 145 #[.pointer (some ⟨Q, 0, none⟩)] W2 fun en w' => en = .returned (.int .u64 ((Pg.openN b : Nat) : Int)) ∧ Rd 217 (fun i => W1.heap.size ≤ i ∧ i < Q) w' Q (((b.drop 4).take 8).drop 8) 0 ∧ W2.grownBy w' (some Q)) := fun W2 h => by
            have hc1 := U64_any _ _ 0 _ _ h
            have hrn : Cod.rdNum 8 ((b.drop 4).take 8) 0 = (Pg.openN b, ((b.drop 4).take 8).drop 8, 0) := by
              have := HL.out
              unfold Cod.rdNum
              rw [if_neg (by simp), if_neg (by simp; omega), HN.out, List.take_take]
              rfl
            rw [hrn] at hc1
            exact hc1
          have HLD : Hid ((b.drop 12).length = 500) := by show _ = _; have := HL.out; simp; omega
          have HZ3 : Hid (W1.heap.size ≤ w3.heap.size) := by show _ ≤ _; have h1 := HR3.out.lt; have h2 := HQ1.out; omega
          generalize xs 0 = x0 at *
          generalize xs 1 = x1 at *
          generalize xs 2 = x2 at *
          generalize xs 3 = x3 at *
          generalize xs 4 = x4 at *
          go_upto_region 8 with (fail)
          refine Ord.walk (O8F Q g off cap (Pg.openN b)) (O8R w R W1.heap.size Q g off cap b) (fun _ _ => True)
            (by kernel_rfl) (by kernel_rfl) ?fr8 ?hfr8 o8f_later (fun xs => O8R.first xs HO3.out HB3.out HR3.out HZ3.out) ?he8 ?hend8
          case hfr8 =>
            intro xs
            simp only [Ord.fill, Act.put, List.setIfInBounds_toArray, List.set_cons_zero, List.set_cons_succ]
            rfl
          case he8 =>
            refine Ord.each_cons (fun D xs w2 hD hC hP hR hA K hK => ?_) ?_
            ·
              clear hA
              go_simp
              exact hK _ _ ⟨_, rfl, trivial, hR.skip _ _ (by decide), rfl⟩
            refine Ord.each_cons (fun D xs w2 hD hC hP hR hA K hK => ?_) ?_
            ·
              have q0 := Ord.ahead_get _ hA 0 (by decide)
              simp only [O8F] at q0
              simp only [q0] at hK
              clear hA
              have h6 : D 6 = false := by
                cases h : D 6 with
                | false => rfl
                | true => have := Ord.closed_at hC 6 1 rfl h; rw [hD] at this; cases this
              have h4 : D 4 = false := by
                cases h : D 4 with
                | false => rfl
                | true => have := Ord.closed_at hC 4 1 rfl h; rw [hD] at this; cases this
              go_simp
              refine (HU8.out w2 (hR.rd hD)).mono ?_
              rintro e w' ⟨rfl, -, hg⟩
              exact hK _ _ ⟨_, rfl, trivial, hR.one _ HQ1.out h4 h6 hg, rfl⟩
            refine Ord.each_cons (fun D xs w2 hD hC hP hR hA K hK => ?_) ?_
            ·
              clear hA
              go_simp
              exact hK _ _ ⟨_, rfl, trivial, hR.skip _ _ (by decide), rfl⟩
            refine Ord.each_cons (fun D xs w2 hD hC hP hR hA K hK => ?_) ?_
            ·
              have q2 := Ord.ahead_get _ hA 2 (by decide)
              simp only [O8F] at q2
              simp only [q2] at hK
              clear hA
              have hc4 := HC12.out
              go_simp
              exact hK _ _ ⟨_, rfl, trivial, hR.skip _ _ (by decide), rfl⟩
            refine Ord.each_cons (fun D xs w2 hD hC hP hR hA K hK => ?_) ?_
            ·
              have q3 := Ord.ahead_get _ hA 3 (by decide)
              simp only [O8F] at q3
              simp only [q3] at hK
              clear hA
              have h6 : D 6 = false := by
                cases h : D 6 with
                | false => rfl
                | true => have := Ord.closed_at hC 6 4 rfl h; rw [hD] at this; cases this
              have h5 : D 5 = false := by
                cases h : D 5 with
                | false => rfl
                | true => have := Ord.closed_at hC 5 4 rfl h; rw [hD] at this; cases this
              go_simp
              refine (clone_any _ (b.drop 12) _ ((hR.bts h6).congr_drop 12 HL.out)).mono ?_
              rintro e w' ⟨u, rfl, hO, hb⟩
              exact hK _ _ ⟨_, rfl, trivial, hR.four h5 h6 HLD.out hO hb, trivial⟩
            refine Ord.each_cons (fun D xs w2 hD hC hP hR hA K hK => ?_) ?_
            ·
              have q1 := Ord.ahead_get _ hA 1 (by decide)
              simp only [O8F] at q1
              simp only [q1] at hK
              clear hA
              have h6 : D 6 = false := by
                cases h : D 6 with
                | false => rfl
                | true => have := Ord.closed_at hC 6 5 rfl h; rw [hD] at this; cases this
              have h4 : D 4 = true := hP { on := 4, ground := .data } (by simp) rfl
              obtain ⟨p4, c4, e4, -⟩ := hR.a4 h4 h6
              have he := e4
              simp only [e4] at hK
              go_simp
              exact hK _ _ ⟨_, rfl, trivial, hR.five (by rw [he]), trivial⟩
            refine Ord.each_cons (fun D xs w2 hD hC hP hR hA K hK => ?_) ?_
            ·
              clear hA
              have h5 : D 5 = true := hP { on := 5, ground := .data } (by simp) rfl
              have h4 : D 4 = true := hP { on := 4, ground := .chain } (by simp) rfl
              obtain ⟨p4, c4, e4, -⟩ := hR.a4 h4 hD
              have e5 := hR.a5 h5
              have hzz := (hR.opn hD).blk
              have c0 := cell2_0 hzz
              have c1 := cell2_1 hzz
              have f0 := free2 hzz 0
              have f1 := free2 hzz 1
              have hst := hR.six (u := undef) HQ1.out h4 hD
              rw [e4] at e5
              rw [e4] at hst
              simp only [e4, e5] at hK
              go_simp
              exact hK _ _ ⟨_, rfl, trivial, hst, trivial⟩
            refine Ord.each_cons (fun D xs w2 hD hC hP hR hA K hK => ?_) ?_
            ·
              clear hA
              go_simp
              exact hK _ _ ⟨_, rfl, trivial, hR.skip _ _ (by decide), rfl⟩
            exact Ord.each_nil
          case hend8 =>
            intro D2 xs2 w4 hR2 hF
            have e7 := (hF 7 (by decide)).2
            simp only [O8F] at e7
            rw [e7]
            obtain ⟨u, hblk, hown, ⟨p5, c5, rfl⟩, hbel⟩ := hR2.a6 (hF 6 (by decide)).1
            have HV := Lib.hid hown
            have D3 := Lib.hid hbel
            have q0 := cell2_0 hblk
            have q1 := cell2_1 hblk
            clear e7 hF hR2 hblk hown hbel
            generalize xs2 0 = y0 at *
            generalize xs2 1 = y1 at *
            generalize xs2 2 = y2 at *
            generalize xs2 3 = y3 at *
            generalize xs2 4 = y4 at *
            generalize xs2 5 = y5 at *
            generalize xs2 6 = y6 at *
            go_wp2_with fail
            refine bodyPost_ret (v := .tuple #[PgV (Pg.openN b) (.slice p5 500 c5), .int .i64 0]) (by simp [results, Tryz.results104, go_sem, q0, q1]) rfl ⟨_, by rw [HEE.out]; rfl, ?_, D3.out⟩
            rw [HLL.out]
            exact HV.out.from (by have := HQ1.out; have := HR.out; omega)
      · have he : Pg.openE b = 14 := by rw [HE3.out, if_pos hs]
        have HEE := Lib.hid he
        have HNN := Lib.hid (Pg.openN_bad (b := b) (by rw [he]; decide))
        have HLL := Lib.hid (Pg.openL_bad (b := b) (by rw [he]; decide))
        have HC : Hid (((N : Int) != (M : Int)) = true) := by show _ = _; simp; omega
        have HC2 : Hid (((N : Int) == (M : Int)) = false) := by show _ = _; rw [beq_eq_false_iff_ne]; omega
        clear he HE3 hs
        go_upto_region 6 with (fail)
        refine Ord.walk (OpF Q g off cap N M true) (fun D _ w' => OpR w R W1.heap.size Q g off cap b D w') (fun _ _ => True)
          (by kernel_rfl) (by kernel_rfl) ?fr2 ?hfr2 opf_later (fun xs => HF0.out) ?he2 ?hend2
        case hfr2 =>
          intro xs
          simp only [Ord.fill, Act.put, List.setIfInBounds_toArray, List.set_cons_zero, List.set_cons_succ]
          rfl
        case he2 =>
          refine Ord.each_cons (fun D xs w2 hD hC hP hR hA K hK => ?_) ?_
          ·
            clear hA
            go_simp
            exact hK _ _ ⟨_, rfl, trivial, hR.skip _ (by decide), rfl⟩
          refine Ord.each_cons (fun D xs w2 hD hC hP hR hA K hK => ?_) ?_
          ·
            have q0 := Ord.ahead_get _ hA 0 (by decide)
            simp only [OpF] at q0
            simp only [q0] at hK
            clear hA
            go_simp
            refine (HU.out w2 (hR.r0 hD)).mono ?_
            rintro e w' ⟨rfl, hr, hg⟩
            exact hK _ _ ⟨_, rfl, trivial, hR.one HQ1.out hr hg, rfl⟩
          refine Ord.each_cons (fun D xs w2 hD hC hP hR hA K hK => ?_) ?_
          ·
            clear hA
            go_simp
            exact hK _ _ ⟨_, rfl, trivial, hR.skip _ (by decide), rfl⟩
          refine Ord.each_cons (fun D xs w2 hD hC hP hR hA K hK => ?_) ?_
          ·
            have q2 := Ord.ahead_get _ hA 2 (by decide)
            simp only [OpF] at q2
            simp only [q2] at hK
            clear hA
            have hc4 := HC4.out
            go_simp
            exact hK _ _ ⟨_, rfl, trivial, hR.skip _ (by decide), rfl⟩
          refine Ord.each_cons (fun D xs w2 hD hC hP hR hA K hK => ?_) ?_
          ·
            have q3 := Ord.ahead_get _ hA 3 (by decide)
            simp only [OpF] at q3
            simp only [q3] at hK
            clear hA
            go_simp
            refine (sum_any _ _ _ (hR.bts.congr_drop 4 HL.out)).mono ?_
            rintro e w' ⟨rfl, hb⟩
            rw [← HM.out]
            exact hK _ _ ⟨_, rfl, trivial, (hR.later hb).skip _ (by decide), rfl⟩
          refine Ord.each_cons (fun D xs w2 hD hC hP hR hA K hK => ?_) ?_
          ·
            have q1 := Ord.ahead_get _ hA 1 (by decide)
            simp only [OpF] at q1
            have q4 := Ord.ahead_get _ hA 4 (by decide)
            simp only [OpF] at q4
            simp only [q1, q4] at hK
            clear hA
            have hc := HC.out
            have hc2 := HC2.out
            go_simp
            all_goals exact hK _ _ ⟨_, rfl, trivial, hR.skip _ (by decide), rfl⟩
          exact Ord.each_nil
        case hend2 =>
          intro D xs w3 hR2 hF
          have e5 := (hF 5 (by decide)).2
          have hd1 := (hF 1 (by decide)).1
          simp only [OpF] at e5
          rw [e5]
          have HR3 := Lib.hid (hR2.r1 hd1)
          have HO3 := Lib.hid hR2.opn
          have HB3 := Lib.hid hR2.bts
          clear e5 hF hR2 hd1
          have c0 := cell2_0 HO3.out.blk
          have c1 := cell2_1 HO3.out.blk
          have f0 := free2 HO3.out.blk 0
          have f1 := free2 HO3.out.blk 1
          obtain ⟨d1, d2, d3⟩ := HO3.out.done (.int .u64 0) (.slice none 0 0)
          have q0 := cell2_0 d1
          have q1 := cell2_1 d1
          have D2 := Lib.hid d2
          have D3 := Lib.hid d3
          clear d1 d2 d3
          go_wp2_with fail
          refine bodyPost_ret (v := .tuple #[PgV 0 (.slice none 0 0), .int .i64 14]) (by simp [results, Tryz.results104, go_sem, q0, q1]) rfl ⟨_, by rw [HEE.out, HNN.out]; rfl, by rw [HLL.out]; exact own_nil _ _, D3.out⟩
  · have he : Pg.openE b = 2 := by unfold Pg.openE; rw [if_pos hl]
    have hi : ¬ (b.length : Int) = 512 := by omega
    have h2 : ((b.length : Int) != 512) = true := by simp; omega
    rw [he, Pg.openN_bad (by rw [he]; decide), Pg.openL_bad (by rw [he]; decide)]
    clear hp hB hR he hl
    go_enter Tryz.func104, Tryz.ntmps104
    go_upto_region 1 with (fail)
    rw [← hW, ← HR.out]
    have c0 := cell2_0 hO.blk
    have c1 := cell2_1 hO.blk
    have f0 := free2 hO.blk 0
    have f1 := free2 hO.blk 1
    obtain ⟨d1, d2, d3⟩ := hO.done (.int .u64 0) (.slice none 0 0)
    have q0 := cell2_0 d1
    have q1 := cell2_1 d1
    have D3 := Lib.hid d3
    clear hO d1 d2 d3 hW
    go_wp2_with fail
    refine bodyPost_ret (v := .tuple #[PgV 0 (.slice none 0 0), .int .i64 2]) (by simp [results, Tryz.results104, go_sem, q0, q1]) rfl ⟨_, rfl, own_nil _ _, D3.out⟩
end Go.Proofs.YtbpodmallknhfaaGreat
namespace Go.Proofs.YtbpodmallknhfaaGreat
open Go.RowKit
theorem pgApi : PgApi where
  bytes := fun n m l w _ hB => bytes_any n m l w hB
  opens := fun m b w hB => open_any m b w hB
  blank := fun w => blank_page w
end Go.Proofs.YtbpodmallknhfaaGreat
namespace Go.Proofs.YtbpodmallknhfaaGreat
open Go.RowKit
theorem none_nil (w : World) : Calls Tryz.prog 58 #[.pointer none] w fun e w' => e = .returned (.bool true) ∧ w' = w := by
  go_enter Tryz.func58, Tryz.ntmps58
  go_wp2
  go_ret
  exact ⟨rfl, rfl⟩
theorem sectors_nil (w : World) : Calls Tryz.prog 66 #[.pointer none] w fun e w' => e = .returned (.int .i64 0) ∧ w' = w := by
  have hn := none_nil w
  go_enter Tryz.func66, Tryz.ntmps66
  go_wp2_with (go_at_call 58; refine hn.mono ?_; rintro e w' ⟨rfl, rfl⟩)
  go_ret
  exact ⟨rfl, rfl⟩
theorem lies_four {s base n : Int} (h0 : 0 ≤ base) (h1 : 0 ≤ n) (h2 : base ≤ s - 4) : Pg.lies s base n = decide (n ≤ (s - 4 - base) / 4) := by
  unfold Pg.lies
  by_cases h3 : base ≤ s
  · rw [Int.tdiv_eq_ediv_of_nonneg (by omega)]
    by_cases h : n ≤ (s - 4 - base) / 4
    · rw [decide_eq_true h]; exact decide_eq_true ⟨h0, h1, h3, by omega⟩
    · rw [decide_eq_false h]; exact decide_eq_false fun ⟨_, _, _, h5⟩ => h (by omega)
  · omega
set_option maxHeartbeats 1600000 in
set_option maxRecDepth 20000 in
theorem place_any {B m1 m2 : Nat} {d : Dk.Dev} {w : World} (h : PDev w B m1 m2 d) (base n : Int) (hn : n ≤ 9223372036854775807) :
    Calls Tryz.prog 106 #[.pointer (some ⟨B, 0, none⟩), .int .i64 base, .int .i64 n] w fun e w' => (Pg.lies (Dk.size d) base n = true → e = .returned (.tuple #[.int .i64 (base + 4 * n), .int .i64 0])) ∧ (Pg.lies (Dk.size d) base n = false → e = .returned (.tuple #[.int .i64 0, .int .i64 2])) ∧ w' = w := by
  have hs := Lib.hid (sectors_any h)
  have h1 := h.own.one
  have h2 := h.own.size
  clear h
  obtain ⟨s, hsz⟩ : ∃ s, s = Dk.size d := ⟨_, rfl⟩
  rw [← hsz] at hs h1 h2 ⊢
  clear hsz
  have hs1 : ¬ (s : Int) = 0 := by omega
  have hs2 : ((s : Int) == 0) = false := by rw [beq_eq_false_iff_ne]; omega
  have hw := IntWalk.i64_in ((s : Int) - 4) (by omega)
  have H2 := Lib.hid h2
  have H1 := Lib.hid h1
  by_cases k1 : base < 0
  · have hl := lies_false (s := s) (base := base) (n := n) (fun h => by omega)
    rw [hl]
    go_enter Tryz.func106, Tryz.ntmps106
    go_wp2_with (go_at_call 66; refine hs.out.mono ?_; rintro e w' ⟨rfl, rfl⟩)
    go_ret2
    exact ⟨fun h => (by cases h), fun _ => rfl, rfl⟩
  by_cases k2 : n < 0
  · have hl := lies_false (s := s) (base := base) (n := n) (fun h => by omega)
    rw [hl]
    go_enter Tryz.func106, Tryz.ntmps106
    go_wp2_with (go_at_call 66; refine hs.out.mono ?_; rintro e w' ⟨rfl, rfl⟩)
    go_ret2
    exact ⟨fun h => (by cases h), fun _ => rfl, rfl⟩
  by_cases k3 : (s : Int) - 4 < base
  · have hl := lies_false (s := s) (base := base) (n := n) (fun ⟨a1, a2, a3, a4⟩ => by
      rw [Int.tdiv_eq_ediv_of_nonneg (by omega)] at a4
      omega)
    rw [hl]
    go_enter Tryz.func106, Tryz.ntmps106
    go_wp2_with (go_at_call 66; refine hs.out.mono ?_; rintro e w' ⟨rfl, rfl⟩)
    go_ret2
    exact ⟨fun h => (by cases h), fun _ => rfl, rfl⟩
  have hl := lies_four (s := s) (base := base) (n := n) (by omega) (by omega) (by omega)
  have hw2 := IntWalk.i64_in ((s : Int) - 4 - base) (by omega)
  have hq : wrap64 (((s : Int) - 4 - base).tdiv 4) = ((s : Int) - 4 - base) / 4 := by
    rw [Int.tdiv_eq_ediv_of_nonneg (by omega)]
    unfold wrap64
    omega
  rw [hl]
  by_cases k4 : ((s : Int) - 4 - base) / 4 < n
  · rw [decide_eq_false (by omega)]
    have HK := Lib.hid k4
    clear hl
    go_enter Tryz.func106, Tryz.ntmps106
    go_wp2_with (go_at_call 66; refine hs.out.mono ?_; rintro e w' ⟨rfl, rfl⟩)
    go_ret2
    exact ⟨fun h => (by cases h), fun _ => rfl, rfl⟩
  · rw [decide_eq_true (by omega)]
    have HK := Lib.hid k4
    have hw3 := IntWalk.i64_in (4 * n) (by omega)
    have hw4 := IntWalk.i64_in (base + 4 * n) (by omega)
    clear hl
    go_enter Tryz.func106, Tryz.ntmps106
    go_wp2_with (go_at_call 66; refine hs.out.mono ?_; rintro e w' ⟨rfl, rfl⟩)
    go_ret2
    exact ⟨fun _ => rfl, fun h => (by cases h), rfl⟩
end Go.Proofs.YtbpodmallknhfaaGreat
namespace Go.Proofs.YtbpodmallknhfaaGreat.Dk
structure Calm (n : Nat) (d : Dev) : Prop where
  own : Own d
  off : d.off = false
  armed : d.armed = 0
  sz : size d = n
  most : d.most = n
theorem calm_fresh {n : Nat} (h1 : 1 ≤ n) (h2 : n ≤ 65536) : Calm n (fresh n n) := ⟨own_fresh h1 h2 (Nat.le_refl _), rfl, rfl, by show (List.replicate n blank).length = n; rw [List.length_replicate], rfl⟩
def sv (d : Dev) (i : Nat) : List Nat := (d.waits.getD i none).getD (d.lasts.getD i [])
def secs (b : List Nat) : List (List Nat) := [b.take 128, (b.drop 128).take 128, (b.drop 256).take 128, (b.drop 384).take 128]
def wrs : Dev → Nat → List (List Nat) → Dev × Nat
  | d, _, [] => (d, 0)
  | d, a, b :: r => if (Dk.write d (a : Int) b).2 ≠ 0 then Dk.write d (a : Int) b else wrs (Dk.write d (a : Int) b).1 (a + 1) r
def rds : Dev → Nat → Nat → List Nat × Nat
  | _, _, 0 => ([], 0)
  | d, a, k + 1 => if (Dk.read d (a : Int)).2 ≠ 0 then ([], (Dk.read d (a : Int)).2) else if (rds d (a + 1) k).2 ≠ 0 then ([], (rds d (a + 1) k).2) else ((Dk.read d (a : Int)).1 ++ (rds d (a + 1) k).1, 0)
def puts : Dev → Nat → List (List Nat) → Dev
  | d, _, [] => d
  | d, a, b :: r => puts (put d a b) (a + 1) r
def pv (d : Dev) (a : Nat) : List Nat := sv d a ++ (sv d (a + 1) ++ (sv d (a + 2) ++ sv d (a + 3)))
theorem secs_length (b : List Nat) : (secs b).length = 4 := rfl
theorem secs_join {b : List Nat} (h : b.length = 512) : b.take 128 ++ ((b.drop 128).take 128 ++ ((b.drop 256).take 128 ++ (b.drop 384).take 128)) = b := by
  have e4 : (b.drop 384).take 128 = b.drop 384 := List.take_of_length_le (by simp; omega)
  have e3 : (b.drop 256).take 128 ++ b.drop 384 = b.drop 256 := by
    have := List.take_append_drop 128 (b.drop 256)
    rwa [List.drop_drop] at this
  have e2 : (b.drop 128).take 128 ++ b.drop 256 = b.drop 128 := by
    have := List.take_append_drop 128 (b.drop 128)
    rwa [List.drop_drop] at this
  rw [e4, e3, e2, List.take_append_drop]
theorem secs_sec {b : List Nat} (h : b.length = 512) (hs : ∀ x ∈ b, x < 256) : ∀ s ∈ secs b, Sec s := by
  intro s hm
  simp only [secs, List.mem_cons, List.not_mem_nil, or_false] at hm
  have ht : ∀ n, n + 128 ≤ 512 → Sec ((b.drop n).take 128) := fun n hn => ⟨by simp; omega, fun x hx => hs x (List.mem_of_mem_drop (List.mem_of_mem_take hx))⟩
  rcases hm with rfl | rfl | rfl | rfl
  · exact ⟨by simp; omega, fun x hx => hs x (List.mem_of_mem_take hx)⟩
  · exact ht 128 (by omega)
  · exact ht 256 (by omega)
  · exact ht 384 (by omega)
end Go.Proofs.YtbpodmallknhfaaGreat.Dk
namespace Go.Proofs.YtbpodmallknhfaaGreat.Pg
def place (base n : Int) : Nat := (base + 4 * n).toNat
def write (d : Dk.Dev) (base n : Int) (k : Nat) (l : List Nat) : Dk.Dev × Nat :=
  if l.length ≠ 500 then (d, 2) else if lies (Dk.size d) base n = false then (d, 2) else Dk.wrs d (place base n) (Dk.secs (form k l))
def read (d : Dk.Dev) (base n : Int) : (Nat × List Nat) × Nat :=
  if lies (Dk.size d) base n = false then ((0, []), 2) else if (Dk.rds d (place base n) 4).2 ≠ 0 then ((0, []), (Dk.rds d (place base n) 4).2) else
    ((openN (Dk.rds d (place base n) 4).1, openL (Dk.rds d (place base n) 4).1), openE (Dk.rds d (place base n) 4).1)
theorem lies_place {s : Nat} {base n : Int} (h : lies s base n = true) : place base n + 4 ≤ s := by
  have h := of_decide_eq_true h
  obtain ⟨h1, h2, h3, h4⟩ := h
  rw [Int.tdiv_eq_ediv_of_nonneg (by omega)] at h4
  unfold place
  omega
theorem write_not {d : Dk.Dev} {base m : Int} {k : Nat} {l : List Nat} (h : l.length ≠ 500 ∨ lies (Dk.size d) base m = false) : write d base m k l = (d, 2) := by
  unfold write
  by_cases h1 : l.length ≠ 500
  · rw [if_pos h1]
  · rw [if_neg h1, if_pos (h.resolve_left h1)]
theorem read_not {d : Dk.Dev} {base m : Int} (h : lies (Dk.size d) base m = false) : read d base m = ((0, []), 2) := if_pos h
end Go.Proofs.YtbpodmallknhfaaGreat.Pg
namespace Go.Proofs.YtbpodmallknhfaaGreat
open Go.RowKit
theorem Bts.sector {w : World} {g cap : Nat} {l : List Nat} (h : Bts w (.slice (some ⟨g, 0, none⟩) 512 cap) l) (hl : l.length = 512) (i : Nat) (hi : i < 4) : Bts w (.slice (some ⟨g, i * 128, none⟩) 128 (cap - i * 128)) ((l.drop (i * 128)).take 128) := by
  have h1 := h.congr_drop (i * 128) hl (by omega)
  rw [Nat.zero_add] at h1
  have hd : (l.drop (i * 128)).length = 512 - i * 128 := by simp; omega
  rw [← hd] at h1
  exact h1.take 128 (by rw [hd]; omega)
theorem Dk.secs_at (b : List Nat) {i : Nat} (hi : i < 4) : (Dk.secs b).drop i = (b.drop (i * 128)).take 128 :: (Dk.secs b).drop (i + 1) := by
  rcases i with _ | _ | _ | _ | i
  · rfl
  · rfl
  · rfl
  · rfl
  · omega
theorem Dk.wrs_go {d : Dk.Dev} {a : Nat} {x : List Nat} {r : List (List Nat)} (h : (Dk.write d (a : Int) x).2 = 0) : Dk.wrs d a (x :: r) = Dk.wrs (Dk.write d (a : Int) x).1 (a + 1) r := by
  show (if (Dk.write d (a : Int) x).2 ≠ 0 then _ else _) = _
  rw [if_neg (by omega)]
theorem Dk.wrs_stop {d : Dk.Dev} {a : Nat} {x : List Nat} {r : List (List Nat)} (h : (Dk.write d (a : Int) x).2 ≠ 0) : Dk.wrs d a (x :: r) = Dk.write d (a : Int) x := by
  show (if (Dk.write d (a : Int) x).2 ≠ 0 then _ else _) = _
  rw [if_pos h]
set_option maxHeartbeats 1600000 in
set_option maxRecDepth 20000 in
theorem pgWrite_any {B m1 m2 : Nat} {d : Dk.Dev} {w : World} (h : PDev w B m1 m2 d) (base n : Int) (k : Nat) (m : Value) (l : List Nat) (hn : n ≤ 9223372036854775807) (hk : k < 18446744073709551616) (hB : Bts w m l) :
    Calls Tryz.prog 105 #[.pointer (some ⟨B, 0, none⟩), .int .i64 base, .int .i64 n, PgV k m] w fun e w' => e = .returned (.int .i64 ((Pg.write d base n k l).2 : Nat)) ∧ PDev w' B m1 m2 (Pg.write d base n k l).1 ∧ Touch (DS B m1 m2) w w' := by
  obtain ⟨W, hW⟩ : ∃ W, W = w.alloc (.cells #[.int .u64 (k : Int), m] 59) := ⟨_, rfl⟩
  have hb0 : Below w.heap.size w W := by rw [hW]; exact (Below.refl _ _).alloc (Nat.le_refl _) _
  have HB0 := Lib.hid hb0
  have HH := Lib.hid (h.below hb0)
  have HLT := Lib.hid h.lt
  have hcb := pgApi.bytes k m l W hk (hB.below hb0)
  have hrow : W.heap[w.heap.size]? = some (.cells #[.int .u64 (k : Int), m] 59 (0, 0)) := by rw [hW]; exact heap_alloc_last _ _
  have q0 := cell2_0 hrow
  have q1 := cell2_1 hrow
  by_cases hl : l.length = 500
  · rw [if_pos hl, if_pos hl] at hcb
    have hfl : (Pg.form k l).length = 512 := by rw [Pg.form_length, hl]
    obtain ⟨pm, cm, rfl, -, -, -⟩ := hB.form
    have HCB := Lib.hid hcb
    have HFL := Lib.hid hfl
    have HL := Lib.hid hl
    have HPL : Hid (∀ w1, Below W.heap.size W w1 → _) := fun w1 hb => place_any (HH.out.below hb) base n hn
    have hsz := h.own.size
    clear hcb hfl h hB hrow hb0
    by_cases hlies : Pg.lies (Dk.size d) base n = true
    · have hpl := Pg.lies_place hlies
      have hpa : base + 4 * n = ((Pg.place base n : Nat) : Int) := by
        have := of_decide_eq_true hlies
        unfold Pg.place
        omega
      have hwr : Pg.write d base n k l = Dk.wrs d (Pg.place base n) (Dk.secs (Pg.form k l)) := by
        unfold Pg.write
        rw [if_neg (by rw [hl]; decide), if_neg (by rw [hlies]; decide)]
      rw [hwr]
      have HLS := Lib.hid hlies
      generalize Pg.place base n = a at *
      have HA : Hid (a + 4 ≤ 65536) := by show _ ≤ _; omega
      have HPA := Lib.hid hpa
      generalize Pg.form k l = f at *
      rw [hl] at hW q1 HCB ⊢
      clear hwr hlies hpl hpa hsz hl
      go_enter Tryz.func105, Tryz.ntmps105
      go_upto_region 1 with (fail)
      rw [← hW]
      clear hW
      go_wp2_with fail
      refine HCB.out.mono ?_
      rintro e w1 ⟨u, rfl, hO, hb1⟩
      obtain ⟨g, c, hu, hg0, glt, hc1, hc2, -⟩ := own_some hO (by rw [HFL.out]; decide)
      rw [HFL.out] at hu hc1
      subst hu
      have HP1 := Lib.hid (HH.out.below hb1)
      have HG : Hid (W.heap.size ≤ g ∧ g < w1.heap.size) := ⟨hg0, glt⟩
      have HO := Lib.hid hO.bts
      have HB1 := Lib.hid hb1
      clear hO hg0 glt hb1 HCB
      go_wp2_with fail
      refine (HPL.out w1 HB1.out).mono ?_
      rintro e w2 ⟨h1, -, rfl⟩
      have h1 := h1 HLS.out
      rw [HPA.out] at h1
      subst h1
      clear HPL
      go_wp2_with fail
      clear h1
      go_loopw [32] (fun i wr => ∃ (K : Nat) (d1 : Dk.Dev), K ≤ 4 ∧ i = .int .i64 K ∧ PDev wr B m1 m2 d1 ∧ Touch (DS B m1 m2) w2 wr ∧ Dk.wrs d a (Dk.secs f) = Dk.wrs d1 (a + K) ((Dk.secs f).drop K)) (fun i _ => 4 - (intOf i).toNat)
      case atStart => exact ⟨0, d, Nat.zero_le _, rfl, HP1.out, .refl _ _, rfl⟩
      case round =>
        obtain ⟨K, d1, hK, rfl, hP, hT, he⟩ := hrel
        have HP := Lib.hid hP
        have HT := Lib.hid hT
        have HE := Lib.hid he
        clear hP hT he
        by_cases hlt : K < 4
        · have HK := Lib.hid hlt
          have hi : (K : Int) < 4 := by omega
          have hm1 := IntWalk.i64_in ((K : Int) * 128) (by omega)
          have hm2 := IntWalk.i64_in ((K : Int) + 1) (by omega)
          have hm3 := IntWalk.i64_in (((K : Int) + 1) * 128) (by omega)
          have hm4 := IntWalk.i64_in ((a : Int) + (K : Int)) (by have := HA.out; omega)
          have hnd : ¬ DS B m1 m2 g := fun hd => by
            have h1 := HLT.out g hd
            have h2 := HG.out.1
            have h3 := HB0.out.size
            omega
          have hx := (HT.out.bts HO.out (fun _ g' e hd => by
            simp only [Value.ownBlock, Option.some.injEq] at e
            subst e
            exact hnd hd)).sector HFL.out K hlt
          have hwa := write_any HP.out ((a + K : Nat) : Int) _ _ hx (fun _ g' e hd => by
            simp only [Value.ownBlock, Option.some.injEq] at e
            subst e
            exact hnd hd)
          have HWA := Lib.hid hwa
          clear hx hwa hnd hK
          go_wp2_with fail
          rw [show (K + 1) * 128 - K * 128 = 128 by omega, show (a : Int) + (K : Int) = ((a + K : Nat) : Int) by omega]
          refine HWA.out.mono ?_
          have hsx := Dk.secs_at f HK.out
          have hon := Dk.wrs_go (d := d1) (a := a + K) (x := (f.drop (K * 128)).take 128) (r := (Dk.secs f).drop (K + 1))
          have hend := Dk.wrs_stop (d := d1) (a := a + K) (x := (f.drop (K * 128)).take 128) (r := (Dk.secs f).drop (K + 1))
          rw [← hsx, ← HE.out] at hon hend
          generalize Dk.write d1 ((a + K : Nat) : Int) ((f.drop (K * 128)).take 128) = dw at *
          obtain ⟨d2, e2⟩ := dw
          dsimp only at hon hend ⊢
          rintro e w3 ⟨rfl, hP3, hT3⟩
          have HP3 := Lib.hid hP3
          have HT3 := Lib.hid (HT.out.trans hT3)
          clear hP3 hT3 hsx hm1 hm2 hm3 hm4 HWA
          by_cases he : e2 = 0
          · subst he
            have HON := Lib.hid (hon rfl)
            have hm2 := IntWalk.i64_in ((K : Int) + 1) (by omega)
            clear hon hend
            go_wp2_with fail
            go_roundw
            case rel => exact ⟨K + 1, d2, by omega, by go_num, HP3.out, HT3.out, HON.out⟩
            case measure => simp [intOf]; omega
          · have HEN := Lib.hid (hend he)
            have h1 : ¬ (e2 : Int) = 0 := by omega
            have h2 : ((e2 : Int) != 0) = true := by simp; omega
            clear hon hend he
            go_wp2_with fail
            go_ret
            rw [HEN.out]
            exact ⟨rfl, HP3.out, (Touch.of_new (HB0.out.trans (HB1.out.mono HB0.out.size))).trans HT3.out⟩
        · obtain rfl : K = 4 := by omega
          go_wp2_with fail
          go_ret
          rw [HE.out]
          exact ⟨rfl, HP.out, (Touch.of_new (HB0.out.trans (HB1.out.mono HB0.out.size))).trans HT.out⟩
    · have hlf : Pg.lies (Dk.size d) base n = false := by cases h : Pg.lies (Dk.size d) base n <;> simp_all
      have HLS := Lib.hid hlf
      rw [Pg.write_not (Or.inr hlf)]
      rw [hl] at hW q1 HCB ⊢
      clear hlies hlf hsz hl
      go_enter Tryz.func105, Tryz.ntmps105
      go_upto_region 1 with (fail)
      rw [← hW]
      clear hW
      go_wp2_with fail
      refine HCB.out.mono ?_
      rintro e w1 ⟨u, rfl, hO, hb1⟩
      obtain ⟨pu, cu, rfl, -, -, -⟩ := hO.bts.form
      have HP1 := Lib.hid (HH.out.below hb1)
      have HB1 := Lib.hid hb1
      clear hO hb1 HCB
      go_wp2_with fail
      refine (HPL.out w1 HB1.out).mono ?_
      rintro e w2 ⟨-, h2, rfl⟩
      have h2 := h2 HLS.out
      subst h2
      clear HPL
      go_wp2_with fail
      go_ret
      exact ⟨rfl, HP1.out, .of_new (HB0.out.trans (HB1.out.mono HB0.out.size))⟩
  · rw [if_neg hl, if_neg hl] at hcb
    rw [Pg.write_not (Or.inl hl)]
    obtain ⟨pm, cm, rfl, -, -, -⟩ := hB.form
    have HCB := Lib.hid hcb
    clear hcb h hB hrow hb0 hl
    generalize (l.length : Int) = z at *
    go_enter Tryz.func105, Tryz.ntmps105
    go_upto_region 1 with (fail)
    rw [← hW]
    clear hW
    go_wp2_with fail
    refine HCB.out.mono ?_
    rintro e w1 ⟨u, rfl, hO, hb1⟩
    obtain ⟨pu, cu, rfl, -, -, -⟩ := hO.bts.form
    have HP1 := Lib.hid (HH.out.below hb1)
    have HB1 := Lib.hid hb1
    clear hO hb1 HCB
    go_wp2_with fail
    go_ret
    exact ⟨rfl, HP1.out, .of_new (HB0.out.trans (HB1.out.mono HB0.out.size))⟩
end Go.Proofs.YtbpodmallknhfaaGreat
namespace Go.Proofs.YtbpodmallknhfaaGreat
open Go.RowKit
def Dk.Rest (d : Dk.Dev) (a K : Nat) (acc : List Nat) : Prop :=
  Dk.rds d a 4 = if (Dk.rds d (a + K) (4 - K)).2 ≠ 0 then ([], (Dk.rds d (a + K) (4 - K)).2) else (acc ++ (Dk.rds d (a + K) (4 - K)).1, 0)
theorem Dk.rds_next {d : Dk.Dev} {a j : Nat} {x : List Nat} {e : Nat} (h : Dk.read d (a : Int) = (x, e)) :
    Dk.rds d a (j + 1) = if e ≠ 0 then ([], e) else if (Dk.rds d (a + 1) j).2 ≠ 0 then ([], (Dk.rds d (a + 1) j).2) else (x ++ (Dk.rds d (a + 1) j).1, 0) := by
  show (if (Dk.read d (a : Int)).2 ≠ 0 then _ else _) = _
  rw [h]
theorem Dk.rds_bad {d : Dk.Dev} {a : Nat} : ∀ k : Nat, (Dk.rds d a k).2 ≠ 0 → (Dk.rds d a k).1 = []
  | 0, h => absurd rfl h
  | k + 1, h => by
    obtain ⟨x, e, hx⟩ : ∃ x e, Dk.read d (a : Int) = (x, e) := ⟨_, _, rfl⟩
    rw [Dk.rds_next hx] at h ⊢
    by_cases he : e ≠ 0
    · rw [if_pos he]
    · rw [if_neg he] at h ⊢
      by_cases hr : (Dk.rds d (a + 1) k).2 ≠ 0
      · rw [if_pos hr]
      · rw [if_neg hr] at h; exact absurd rfl h
theorem Dk.rest_first (d : Dk.Dev) (a : Nat) : Dk.Rest d a 0 [] := by
  show Dk.rds d a 4 = if (Dk.rds d a 4).2 ≠ 0 then ([], (Dk.rds d a 4).2) else ([] ++ (Dk.rds d a 4).1, 0)
  split
  · next h => rw [← Dk.rds_bad 4 h]
  · next h =>
    have h : (Dk.rds d a 4).2 = 0 := by simpa using h
    rw [List.nil_append, ← h]
theorem Dk.Rest.next {d : Dk.Dev} {a K : Nat} {acc x : List Nat} (h : Dk.Rest d a K acc) (hK : K < 4) (hx : Dk.read d ((a + K : Nat) : Int) = (x, 0)) : Dk.Rest d a (K + 1) (acc ++ x) := by
  unfold Dk.Rest at h ⊢
  rw [show 4 - K = (4 - (K + 1)) + 1 by omega, Dk.rds_next hx, if_neg (show ¬ (0 : Nat) ≠ 0 by simp), show a + K + 1 = a + (K + 1) by omega] at h
  rw [h]
  generalize Dk.rds d (a + (K + 1)) (4 - (K + 1)) = r
  by_cases hr : r.2 ≠ 0
  · rw [if_pos hr, if_pos hr, if_pos hr]
  · rw [if_neg hr, if_neg hr, if_neg (by simp), List.append_assoc]
theorem Dk.Rest.stop {d : Dk.Dev} {a K : Nat} {acc x : List Nat} {e : Nat} (h : Dk.Rest d a K acc) (hK : K < 4) (he : e ≠ 0) (hx : Dk.read d ((a + K : Nat) : Int) = (x, e)) : Dk.rds d a 4 = ([], e) := by
  unfold Dk.Rest at h
  rw [show 4 - K = (4 - (K + 1)) + 1 by omega, Dk.rds_next hx, if_pos he, if_pos he] at h
  exact h
theorem Dk.Rest.last {d : Dk.Dev} {a : Nat} {acc : List Nat} (h : Dk.Rest d a 4 acc) : Dk.rds d a 4 = (acc, 0) := by
  have h : Dk.rds d a 4 = (acc ++ [], 0) := h
  rw [List.append_nil] at h
  exact h
theorem Dk.read_len {d : Dk.Dev} (h : Dk.Ok d) (a : Int) : (Dk.read d a).1.length ≤ 128 := by
  unfold Dk.read
  split
  · exact Nat.zero_le _
  · split
    · exact Nat.zero_le _
    · next hb =>
      have hi : a.toNat < Dk.size d := by unfold Dk.bad at hb; omega
      cases hw : d.waits.getD a.toNat none with
      | some b =>
        have hm : some b ∈ d.waits := by
          rw [List.getD_eq_getElem?_getD, List.getElem?_eq_getElem (by rw [h.w]; exact hi), Option.getD_some] at hw
          rw [← hw]
          exact List.getElem_mem _
        exact Nat.le_of_eq (h.w1 b hm).1
      | none =>
        have hm : d.lasts.getD a.toNat [] ∈ d.lasts := by
          rw [List.getD_eq_getElem?_getD, List.getElem?_eq_getElem hi, Option.getD_some]
          exact List.getElem_mem _
        exact Nat.le_of_eq (h.l1 _ hm).1
set_option maxHeartbeats 1600000 in
set_option maxRecDepth 20000 in
theorem pgRead_any {B m1 m2 : Nat} {d : Dk.Dev} {w : World} (h : PDev w B m1 m2 d) (base n : Int) (hn : n ≤ 9223372036854775807) :
    Calls Tryz.prog 75 #[.pointer (some ⟨B, 0, none⟩), .int .i64 base, .int .i64 n] w fun e w' => ∃ u, e = .returned (.tuple #[PgV (Pg.read d base n).1.1 u, .int .i64 ((Pg.read d base n).2 : Nat)]) ∧ Own w.heap.size w' u (Pg.read d base n).1.2 ∧ Below w.heap.size w w' := by
  obtain ⟨W, hW⟩ : ∃ W, W = w.alloc (.cells #[.int .u64 0, .slice none 0 0] 59) := ⟨_, rfl⟩
  obtain ⟨R, hR⟩ : ∃ R, R = w.heap.size := ⟨_, rfl⟩
  have hO : Opn w W R := ⟨by rw [hW, hR]; exact heap_alloc_last _ _, hR, by rw [hW]; exact (Below.refl _ _).alloc (Nat.le_refl _) _⟩
  have HP := Lib.hid (h.below hO.below)
  have HO := Lib.hid hO
  have HR := Lib.hid hR
  have HPL := Lib.hid (place_any HP.out base n hn)
  have hok := h.own.ok
  have hsz := h.own.size
  by_cases hlies : Pg.lies (Dk.size d) base n = true
  · have hpl := Pg.lies_place hlies
    have hpa : base + 4 * n = ((Pg.place base n : Nat) : Int) := by
      have := of_decide_eq_true hlies
      unfold Pg.place
      omega
    have hrd : Pg.read d base n = if (Dk.rds d (Pg.place base n) 4).2 ≠ 0 then ((0, []), (Dk.rds d (Pg.place base n) 4).2) else ((Pg.openN (Dk.rds d (Pg.place base n) 4).1, Pg.openL (Dk.rds d (Pg.place base n) 4).1), Pg.openE (Dk.rds d (Pg.place base n) 4).1) := by
      unfold Pg.read
      rw [if_neg (by rw [hlies]; decide)]
    rw [hrd]
    obtain ⟨rr, hrr⟩ : ∃ rr, rr = if (Dk.rds d (Pg.place base n) 4).2 ≠ 0 then (((0, []), (Dk.rds d (Pg.place base n) 4).2) : (Nat × List Nat) × Nat) else ((Pg.openN (Dk.rds d (Pg.place base n) 4).1, Pg.openL (Dk.rds d (Pg.place base n) 4).1), Pg.openE (Dk.rds d (Pg.place base n) 4).1) := ⟨_, rfl⟩
    rw [← hrr]
    have HRR := Lib.hid hrr
    have HLS := Lib.hid hlies
    have HOK := Lib.hid hok
    generalize Pg.place base n = a at *
    have HA : Hid (a + 4 ≤ 65536) := by show _ ≤ _; omega
    have HPA := Lib.hid hpa
    clear hrd hrr hlies hpl hpa hsz hok h hO
    go_enter Tryz.func75, Tryz.ntmps75
    go_upto_region 1 with (fail)
    rw [← hW, ← HR.out]
    clear hW hR
    go_wp2_with fail
    refine HPL.out.mono ?_
    rintro e w2 ⟨h1, -, rfl⟩
    have h1 := h1 HLS.out
    rw [HPA.out] at h1
    subst h1
    clear HPL
    go_wp2_with fail
    clear h1
    go_loopw [10, 25] (fun v i wr => ∃ (K : Nat) (acc : List Nat), K ≤ 4 ∧ i = .int .i64 K ∧ Own w2.heap.size wr v acc ∧ acc.length ≤ 128 * K ∧ Below w2.heap.size w2 wr ∧ Dk.Rest d a K acc) (fun _ i _ => 4 - (intOf i).toNat)
    case atStart => exact ⟨0, [], Nat.zero_le _, rfl, own_nil _ _, Nat.zero_le _, Below.refl _ _, Dk.rest_first d a⟩
    case round =>
      obtain ⟨K, acc, hK, rfl, hv, hal, hb, hrest⟩ := hrel
      have HV := Lib.hid hv
      have HAL := Lib.hid hal
      have HB := Lib.hid hb
      have HRS := Lib.hid hrest
      obtain ⟨pv, cv, rfl, -, -, -⟩ := hv.bts.form
      clear hv hal hb hrest
      by_cases hlt : K < 4
      · have HK := Lib.hid hlt
        have hi : (K : Int) < 4 := by omega
        have hm4 := IntWalk.i64_in ((a : Int) + (K : Int)) (by have := HA.out; omega)
        have hrd := read_any (HP.out.below HB.out) ((a + K : Nat) : Int)
        have hlen := Dk.read_len HOK.out ((a + K : Nat) : Int)
        have hnext := fun x (hx : Dk.read d ((a + K : Nat) : Int) = (x, 0)) => HRS.out.next HK.out hx
        have hstop := fun x e (he : e ≠ 0) (hx : Dk.read d ((a + K : Nat) : Int) = (x, e)) => HRS.out.stop HK.out he hx
        generalize Dk.read d ((a + K : Nat) : Int) = rr at *
        obtain ⟨x, e0⟩ := rr
        dsimp only at hrd hlen
        have HRD := Lib.hid hrd
        have HLEN := Lib.hid hlen
        have HNX := Lib.hid hnext
        have HST := Lib.hid hstop
        clear hrd hlen hnext hstop hK
        go_wp2_with fail
        rw [show (a : Int) + (K : Int) = ((a + K : Nat) : Int) by omega]
        refine HRD.out.mono ?_
        rintro e w3 ⟨u, rfl, hM, hb3⟩
        obtain ⟨pu, cu, rfl, -, -, -⟩ := hM.bts.form
        have HM := Lib.hid hM
        have HB3 := Lib.hid hb3
        clear hM hb3 HRD hm4
        by_cases he : e0 = 0
        · subst he
          have HR2 := Lib.hid (HNX.out x rfl)
          have hm2 := IntWalk.i64_in ((K : Int) + 1) (by omega)
          clear HNX HST
          go_upto_region 11 with (fail)
          iterate 7 go_step
          refine wpList_append_Own rfl (.tmp 40) (.tmp 41) rfl w2.heap.size _ acc rfl (HV.out.below HB3.out) _ x rfl HM.out.bts (by have h1 := HAL.out; have h2 := HLEN.out; have h3 := HK.out; omega) (Nat.le_trans HB.out.size HB3.out.size) ?_
          intro v' w4 hO4 hb4 _
          have HO4 := Lib.hid hO4
          have HB4 := Lib.hid ((HB.out.trans (HB3.out.mono HB.out.size)).trans hb4)
          have HL4 : Hid ((acc ++ x).length ≤ 128 * (K + 1)) := by show _ ≤ _; have h1 := HAL.out; have h2 := HLEN.out; rw [List.length_append]; omega
          clear hO4 hb4
          go_wp2_with fail
          go_roundw
          case rel => exact ⟨K + 1, acc ++ x, by omega, by go_num, HO4.out, HL4.out, HB4.out, HR2.out⟩
          case measure => simp [intOf]; omega
        · have HEN := Lib.hid (HST.out x e0 he rfl)
          have HE0 := Lib.hid he
          have h1 : ¬ (e0 : Int) = 0 := by omega
          have h2 : ((e0 : Int) != 0) = true := by simp; omega
          have HO3 := Lib.hid (HO.out.later (HB.out.trans (HB3.out.mono HB.out.size)))
          clear HNX HST he
          have c0 := cell2_0 HO3.out.blk
          have c1 := cell2_1 HO3.out.blk
          have f0 := free2 HO3.out.blk 0
          have f1 := free2 HO3.out.blk 1
          obtain ⟨d1, d2, d3⟩ := HO3.out.done (.int .u64 0) (.slice none 0 0)
          have q0 := cell2_0 d1
          have q1 := cell2_1 d1
          have D2 := Lib.hid d2
          have D3 := Lib.hid d3
          clear d1 d2 d3
          go_wp2_with fail
          refine bodyPost_ret (v := .tuple #[PgV 0 (.slice none 0 0), .int .i64 (e0 : Int)]) (by simp [results, Tryz.results75, go_sem, q0, q1]) rfl ⟨_, by rw [HRR.out, HEN.out, if_pos HE0.out], by rw [HRR.out, HEN.out, if_pos HE0.out]; exact own_nil _ _, D3.out⟩
      · obtain rfl : K = 4 := by omega
        have hrr := HRR.out
        rw [HRS.out.last, if_neg (by simp)] at hrr
        have HRE := Lib.hid hrr
        clear hrr
        have hop := pgApi.opens _ _ wr HV.out.bts
        have HOP := Lib.hid hop
        clear hop
        go_wp2_with fail
        refine HOP.out.mono ?_
        rintro e w3 ⟨u, rfl, hO3, hb3⟩
        obtain ⟨pu, cu, hu, -, -, -⟩ := hO3.bts.form
        have hne : ∀ g3, u.ownBlock = some g3 → R < g3 := by
          intro g3 hg3
          rcases hO3.form with ⟨h1, h2⟩ | ⟨g4, c4, h1, h2, -⟩
          · rw [h1] at hg3; cases hg3
          · rw [h1] at hg3
            simp only [Value.ownBlock, Option.some.injEq] at hg3
            have := HO.out.lt
            have := HB.out.size
            omega
        have HNE := Lib.hid hne
        have HV3 := Lib.hid hO3
        have HO3 := Lib.hid (HO.out.later (HB.out.trans (hb3.mono HB.out.size)))
        have HZ : Hid (w.heap.size ≤ wr.heap.size) := by show _ ≤ _; have h1 := HO.out.below.size; have h2 := HB.out.size; omega
        subst hu
        generalize (Pg.openL acc).length = z at *
        clear hO3 hb3 hne HOP
        have c0 := cell2_0 HO3.out.blk
        have c1 := cell2_1 HO3.out.blk
        have f0 := free2 HO3.out.blk 0
        have f1 := free2 HO3.out.blk 1
        obtain ⟨d1, d2, d3⟩ := HO3.out.done (.int .u64 (Pg.openN acc : Int)) (.slice pu z cu)
        have q0 := cell2_0 d1
        have q1 := cell2_1 d1
        have D2 := Lib.hid d2
        have D3 := Lib.hid d3
        clear d1 d2 d3
        go_wp2_with fail
        refine bodyPost_ret (v := .tuple #[PgV (Pg.openN acc) (.slice pu z cu), .int .i64 (Pg.openE acc : Nat)]) (by simp [results, Tryz.results75, go_sem, q0, q1]) rfl ⟨_, by rw [HRE.out], ?_, D3.out⟩
        rw [HRE.out]
        refine (HV3.out.from HZ.out).grown D2.out (Or.inr fun h => ?_)
        exact absurd (HNE.out _ h) (Nat.lt_irrefl _)
  · have hlf : Pg.lies (Dk.size d) base n = false := by cases h : Pg.lies (Dk.size d) base n <;> simp_all
    have HLS := Lib.hid hlf
    rw [Pg.read_not hlf]
    clear hlies hlf hsz hok h hO
    go_enter Tryz.func75, Tryz.ntmps75
    go_upto_region 1 with (fail)
    rw [← hW, ← HR.out]
    clear hW hR
    go_wp2_with fail
    refine HPL.out.mono ?_
    rintro e w2 ⟨-, h2, rfl⟩
    have h2 := h2 HLS.out
    subst h2
    clear HPL
    have c0 := cell2_0 HO.out.blk
    have c1 := cell2_1 HO.out.blk
    have f0 := free2 HO.out.blk 0
    have f1 := free2 HO.out.blk 1
    obtain ⟨d1, d2, d3⟩ := HO.out.done (.int .u64 0) (.slice none 0 0)
    have q0 := cell2_0 d1
    have q1 := cell2_1 d1
    have D2 := Lib.hid d2
    have D3 := Lib.hid d3
    clear d1 d2 d3
    go_wp2_with fail
    refine bodyPost_ret (v := .tuple #[PgV 0 (.slice none 0 0), .int .i64 2]) (by simp [results, Tryz.results75, go_sem, q0, q1]) rfl ⟨_, rfl, own_nil _ _, D3.out⟩
end Go.Proofs.YtbpodmallknhfaaGreat
namespace Go.Proofs.YtbpodmallknhfaaGreat.Wl
open Go.Proofs.YtbpodmallknhfaaGreat
def bytes (s : S) : List Nat := s.recs.flatMap Lr.form
def byteAt (s : S) (p : Nat) : Nat := (bytes s).getD (p - s.start) 0
theorem flat_length : ∀ {l : List Lr.R} {p q : Nat}, chain p l q → p + (l.flatMap Lr.form).length = q
  | [], _, _, h => h
  | x :: l, p, q, h => by
    have := flat_length h.2
    rw [List.flatMap_cons, List.length_append]
    unfold size at this
    omega
theorem bytes_length {s : S} (h : Good s) : s.start + (bytes s).length = s.stop := flat_length h.chain
def plc (l : List Lr.R) (q k : Nat) : Nat := match l[k]? with
  | some x => x.lsn
  | none => q
theorem placeOf_eq (s : S) (k : Nat) : placeOf s k = plc s.recs s.stop k := rfl
theorem plc_all (s : S) : placeOf s s.recs.length = s.stop := by
  rw [placeOf_eq]
  unfold plc
  rw [List.getElem?_eq_none (Nat.le_refl _)]
structure Kn where
  start : Nat
  flushed : Nat
  point : Nat
  epoch : Nat
def headB (a c : Nat) (k : Kn) : List Nat := ((((Cod.le 4 a ++ Cod.le 4 c) ++ Cod.le 8 k.start) ++ Cod.le 8 k.flushed) ++ Cod.le 8 k.point) ++ Cod.le 4 k.epoch
def head (a c : Nat) (k : Kn) : List Nat := (Cod.le 4 (Crc.more 0 (headB a c k)) ++ headB a c k) ++ List.replicate 88 0
theorem headB_length (a c : Nat) (k : Kn) : (headB a c k).length = 36 := by
  unfold headB
  simp only [List.length_append, Cod.le_length]
theorem head_length (a c : Nat) (k : Kn) : (head a c k).length = 128 := by
  unfold head
  simp only [List.length_append, Cod.le_length, headB_length, List.length_replicate]
theorem headB_lt (a c : Nat) (k : Kn) : ∀ x ∈ headB a c k, x < 256 :=
  Lr.app_lt (Lr.app_lt (Lr.app_lt (Lr.app_lt (Lr.app_lt (Cod.le_lt _ _) (Cod.le_lt _ _)) (Cod.le_lt _ _)) (Cod.le_lt _ _)) (Cod.le_lt _ _)) (Cod.le_lt _ _)
theorem head_sec (a c : Nat) (k : Kn) : Dk.Sec (head a c k) :=
  ⟨head_length a c k, Lr.app_lt (Lr.app_lt (Cod.le_lt _ _) (headB_lt a c k)) (fun x hx => by rw [List.eq_of_mem_replicate hx]; decide)⟩
structure Hf where
  round : Nat
  epoch : Nat
  fill : Nat
  log : List Nat
def hfOf (b : List Nat) : Hf := ⟨Cod.num (b.take 4), Cod.num ((b.drop 4).take 4), Cod.num ((b.drop 8).take 4), b.drop 12⟩
def hfB (x : Hf) : List Nat := ((Cod.le 4 x.round ++ Cod.le 4 x.epoch) ++ Cod.le 4 x.fill) ++ x.log
def hf (b : List Nat) (k : Nat) : List Nat := (b.drop (64 * k)).take 64
theorem hf_length {b : List Nat} (h : b.length = 128) {k : Nat} (hk : k < 2) : (hf b k).length = 64 := by
  unfold hf
  rw [List.length_take, List.length_drop]
  omega
theorem hfB_length (x : Hf) : (hfB x).length = 12 + x.log.length := by
  unfold hfB
  simp only [List.length_append, Cod.le_length]
theorem num_four {n : Nat} (h : n < 4294967296) : Cod.num (Cod.le 4 n) = n := by
  rw [Cod.num_le, Nat.mod_eq_of_lt (Nat.lt_of_lt_of_le h (by decide))]
theorem hfOf_hfB {x : Hf} (h1 : x.round < 4294967296) (h2 : x.epoch < 4294967296) (h3 : x.fill < 4294967296) : hfOf (hfB x) = x := by
  have e1 : (hfB x).take 4 = Cod.le 4 x.round := by
    unfold hfB
    rw [List.append_assoc, List.append_assoc]
    exact List.take_left' (Cod.le_length 4 _)
  have e2 : (hfB x).drop 4 = Cod.le 4 x.epoch ++ (Cod.le 4 x.fill ++ x.log) := by
    unfold hfB
    rw [List.append_assoc, List.append_assoc]
    exact List.drop_left' (Cod.le_length 4 _)
  have e3 : (hfB x).drop 8 = Cod.le 4 x.fill ++ x.log := by
    unfold hfB
    rw [List.append_assoc]
    exact List.drop_left' (by rw [List.length_append, Cod.le_length, Cod.le_length])
  have e4 : (hfB x).drop 12 = x.log := by
    unfold hfB
    exact List.drop_left' (by rw [List.length_append, List.length_append, Cod.le_length, Cod.le_length, Cod.le_length])
  unfold hfOf
  rw [e1, e2, e3, e4, List.take_left' (Cod.le_length 4 _), List.take_left' (Cod.le_length 4 _), num_four h1, num_four h2, num_four h3]
def good (said ep n2 h : Nat) (x : Hf) : Nat :=
  if x.round ≠ h / n2 then 0 else if x.epoch ≠ ep then min (min x.fill 52) (max (h * 52) said - h * 52) else min x.fill 52
structure HOk (s : S) (said q : Nat) (x : Hf) : Prop where
  ep : x.epoch ≤ s.epoch
  in_ : ∀ h, s.start / 52 ≤ h → h % (2 * s.count) = q → 0 < good said s.epoch (2 * s.count) h x → h * 52 + good said s.epoch (2 * s.count) h x ≤ s.stop
  is : ∀ h i, s.start / 52 ≤ h → h % (2 * s.count) = q → i < good said s.epoch (2 * s.count) h x → s.start ≤ h * 52 + i → x.log.getD i 0 = byteAt s (h * 52 + i)
  lo : ∀ h, s.start / 52 ≤ h → h % (2 * s.count) = q → min 52 (s.flushed - h * 52) ≤ good said s.epoch (2 * s.count) h x
theorem HOk.flushed {s : S} {said q : Nat} {x : Hf} (h : HOk s said q x) {f : Nat} (hlo : ∀ g, s.start / 52 ≤ g → g % (2 * s.count) = q → min 52 (f - g * 52) ≤ good said s.epoch (2 * s.count) g x) : HOk { s with flushed := f } said q x :=
  ⟨h.ep, h.in_, h.is, hlo⟩
theorem hok_new {s : S} {said q h : Nat} {x : Hf} (h1 : s.start / 52 ≤ h) (h2 : h < s.start / 52 + 2 * s.count) (hq : h % (2 * s.count) = q) (hr : x.round = h / (2 * s.count)) (he : x.epoch = s.epoch) (hf : x.fill = min 52 (s.stop - h * 52)) (hpos : h * 52 < s.stop)
    (hby : ∀ i, i < x.fill → s.start ≤ h * 52 + i → x.log.getD i 0 = byteAt s (h * 52 + i)) (hroom : s.stop ≤ (s.start / 52 + 2 * s.count) * 52) (hfl : s.flushed ≤ s.stop) : HOk s said q x := by
  have hn : 0 < 2 * s.count := by omega
  have key : ∀ g, s.start / 52 ≤ g → g % (2 * s.count) = q → g ≠ h → good said s.epoch (2 * s.count) g x = 0 ∧ s.stop ≤ g * 52 := by
    intro g hg hgq hne
    have hd1 := Nat.div_add_mod g (2 * s.count)
    have hd2 := Nat.div_add_mod h (2 * s.count)
    have hdd : g / (2 * s.count) ≠ h / (2 * s.count) := fun e => hne (by rw [← hd1, ← hd2, e, hgq, hq])
    have hlt : h < g := by
      rcases Nat.lt_or_ge h g with h3 | h3
      · exact h3
      · exfalso
        have h4 : g / (2 * s.count) < h / (2 * s.count) := Nat.lt_of_le_of_ne (Nat.div_le_div_right h3) hdd
        have h5 : 2 * s.count * (g / (2 * s.count) + 1) ≤ 2 * s.count * (h / (2 * s.count)) := Nat.mul_le_mul_left _ h4
        rw [Nat.mul_succ] at h5
        omega
    have h4 : h / (2 * s.count) < g / (2 * s.count) := Nat.lt_of_le_of_ne (Nat.div_le_div_right (Nat.le_of_lt hlt)) (Ne.symm hdd)
    have h5 : 2 * s.count * (h / (2 * s.count) + 1) ≤ 2 * s.count * (g / (2 * s.count)) := Nat.mul_le_mul_left _ h4
    rw [Nat.mul_succ] at h5
    refine ⟨?_, ?_⟩
    · unfold good
      rw [if_pos (by rw [hr]; exact Ne.symm hdd)]
    · refine Nat.le_trans hroom (Nat.mul_le_mul_right _ ?_)
      omega
  have hgood : good said s.epoch (2 * s.count) h x = x.fill := by
    unfold good
    rw [if_neg (by rw [hr]; simp), if_neg (by rw [he]; simp)]
    omega
  refine ⟨by rw [he]; exact Nat.le_refl _, fun g h3 h4 h5 => ?_, fun g i h3 h4 h5 h6 => ?_, fun g h3 h4 => ?_⟩
  · by_cases e : g = h
    · subst e; rw [hgood]; omega
    · rw [(key g h3 h4 e).1] at h5; exact absurd h5 (Nat.lt_irrefl 0)
  · by_cases e : g = h
    · subst e; rw [hgood] at h5; exact hby i h5 h6
    · rw [(key g h3 h4 e).1] at h5; exact absurd h5 (Nat.not_lt_zero _)
  · by_cases e : g = h
    · subst e; rw [hgood]; omega
    · have := (key g h3 h4 e).2; omega
theorem hok_blank {s : S} {said q : Nat} {x : Hf} (hf : x.fill = 0) (he : x.epoch ≤ s.epoch) (hfl : s.flushed ≤ s.start / 52 * 52) : HOk s said q x := by
  have hg : ∀ g, good said s.epoch (2 * s.count) g x = 0 := by
    intro g
    unfold good
    rw [hf]
    split
    · rfl
    split
    · omega
    · omega
  refine ⟨he, fun g _ _ h => ?_, fun g i _ _ h _ => ?_, fun g h _ => ?_⟩
  · rw [hg] at h; exact absurd h (Nat.lt_irrefl 0)
  · rw [hg] at h; exact absurd h (Nat.not_lt_zero _)
  · have : s.start / 52 * 52 ≤ g * 52 := Nat.mul_le_mul_right _ h
    omega
end Go.Proofs.YtbpodmallknhfaaGreat.Wl
namespace Go.Proofs.YtbpodmallknhfaaGreat.Wl
open Go.Proofs.YtbpodmallknhfaaGreat
structure Ex (s : S) : Prop where
  good : Good s
  low : 16 ≤ s.count
  high : s.count ≤ 8192
  room : s.stop ≤ (s.start / 52 + 2 * s.count) * 52
  edge : ∃ k, k ≤ s.recs.length ∧ placeOf s k = s.flushed
  ep : s.epoch < 4294967296
  pt : s.point < 18446744073709551616
def eff (d : Dk.Dev) (i : Nat) : List Nat := (d.waits.getD i none).getD (d.lasts.getD i [])
def half (s : S) (d : Dk.Dev) (h : Nat) : Hf := hfOf (hf (eff d (s.at_ + 2 + h % (2 * s.count) / 2)) (h % 2))
def SecOk (s : S) (said j : Nat) (b : List Nat) : Prop := HOk s said (2 * j) (hfOf (hf b 0)) ∧ HOk s said (2 * j + 1) (hfOf (hf b 1))
theorem SecOk.hf {s : S} {said j : Nat} {b : List Nat} (h : SecOk s said j b) {k : Nat} (hk : k < 2) : HOk s said (2 * j + k) (hfOf (hf b k)) := by
  obtain rfl | rfl : k = 0 ∨ k = 1 := by omega
  · exact h.1
  · exact h.2
structure Dv (s : S) (said : Nat) (d : Dk.Dev) : Prop where
  ok : Dk.Ok d
  fits : s.at_ + s.count + 2 ≤ Dk.size d
  hl : ∀ i, i < 2 → d.lasts.getD (s.at_ + i) [] = head s.at_ s.count ⟨s.start, said, s.point, s.epoch⟩
  hw : ∀ i b, i < 2 → d.waits.getD (s.at_ + i) none = some b → b = head s.at_ s.count ⟨s.start, said, s.point, s.epoch⟩
  sl : ∀ j, j < s.count → SecOk s said j (d.lasts.getD (s.at_ + 2 + j) [])
  sw : ∀ j b, j < s.count → d.waits.getD (s.at_ + 2 + j) none = some b → SecOk s said j b
theorem Dv.eff {s : S} {said : Nat} {d : Dk.Dev} (h : Dv s said d) {j : Nat} (hj : j < s.count) : SecOk s said j (eff d (s.at_ + 2 + j)) := by
  unfold Wl.eff
  cases hw : d.waits.getD (s.at_ + 2 + j) none with
  | none => exact h.sl j hj
  | some b => exact h.sw j b hj hw
theorem Dv.effh {s : S} {said : Nat} {d : Dk.Dev} (h : Dv s said d) {i : Nat} (hi : i < 2) : Wl.eff d (s.at_ + i) = head s.at_ s.count ⟨s.start, said, s.point, s.epoch⟩ := by
  unfold Wl.eff
  cases hw : d.waits.getD (s.at_ + i) none with
  | none => exact h.hl i hi
  | some b => exact h.hw i b hi hw
theorem sec_at {n h : Nat} : h % (2 * n) = 2 * (h % (2 * n) / 2) + h % 2 := by
  have h1 : h % (2 * n) % 2 = h % 2 := Nat.mod_mod_of_dvd h (Nat.dvd_mul_right 2 n)
  have := Nat.div_add_mod (h % (2 * n)) 2
  omega
theorem sec_lt {n h : Nat} (hn : 0 < n) : h % (2 * n) / 2 < n := by
  have := Nat.mod_lt h (show 0 < 2 * n by omega)
  omega
theorem Dv.half {s : S} {said : Nat} {d : Dk.Dev} (h : Dv s said d) (hc : 0 < s.count) (g : Nat) : HOk s said (g % (2 * s.count)) (half s d g) := by
  have h1 := (h.eff (sec_lt (h := g) hc)).hf (k := g % 2) (by omega)
  rw [← sec_at] at h1
  exact h1
theorem eff_sec {d : Dk.Dev} (h : Dk.Ok d) {i : Nat} (hi : i < Dk.size d) : Dk.Sec (eff d i) := by
  unfold eff
  cases hw : d.waits.getD i none with
  | none =>
    rw [Option.getD_none, List.getD_eq_getElem?_getD, List.getElem?_eq_getElem hi, Option.getD_some]
    exact h.l1 _ (List.getElem_mem _)
  | some b =>
    rw [List.getD_eq_getElem?_getD, List.getElem?_eq_getElem (by rw [h.w]; exact hi), Option.getD_some] at hw
    exact h.w1 b (by rw [← hw]; exact List.getElem_mem _)
theorem hf_pick {a b : List Nat} (ha : a.length = 128) (hb : b.length = 128) (p : Nat) {k : Nat} (hk : k < 2) : hf (Dk.pick p a b) k = hf a k ∨ hf (Dk.pick p a b) k = hf b k := by
  have mix : ∀ u v : List Nat, u.length = 128 → v.length = 128 → hf (u.take 64 ++ v.drop 64) k = hf u k ∨ hf (u.take 64 ++ v.drop 64) k = hf v k := by
    intro u v hu hv
    have hl : (u.take 64).length = 64 := by rw [List.length_take]; omega
    obtain rfl | rfl : k = 0 ∨ k = 1 := by omega
    · refine Or.inl ?_
      unfold hf
      rw [Nat.mul_zero, List.drop_zero, List.drop_zero, List.take_left' hl]
    · refine Or.inr ?_
      unfold hf
      rw [Nat.mul_one, List.drop_left' hl]
  unfold Dk.pick
  split
  · exact Or.inl rfl
  split
  · exact Or.inr rfl
  split
  · exact (mix b a hb ha).symm
  · exact mix a b ha hb
theorem SecOk.pick {s : S} {said j : Nat} {a b : List Nat} (ha : SecOk s said j a) (hb : SecOk s said j b) (la : a.length = 128) (lb : b.length = 128) (p : Nat) : SecOk s said j (Dk.pick p a b) := by
  refine ⟨?_, ?_⟩
  · rcases hf_pick la lb p (k := 0) (by decide) with e | e
    · rw [e]; exact ha.1
    · rw [e]; exact hb.1
  · rcases hf_pick la lb p (k := 1) (by decide) with e | e
    · rw [e]; exact ha.2
    · rw [e]; exact hb.2
theorem pick_same (p : Nat) (a : List Nat) : Dk.pick p a a = a := by
  unfold Dk.pick
  split
  · rfl
  split
  · rfl
  split
  · exact List.take_append_drop 64 a
  · exact List.take_append_drop 64 a
theorem lasts_len {d : Dk.Dev} (h : Dk.Ok d) {i : Nat} (hi : i < Dk.size d) : (d.lasts.getD i []).length = 128 := by
  rw [List.getD_eq_getElem?_getD, List.getElem?_eq_getElem hi, Option.getD_some]
  exact (h.l1 _ (List.getElem_mem _)).1
theorem waits_len {d : Dk.Dev} (h : Dk.Ok d) {i : Nat} {b : List Nat} (hw : d.waits.getD i none = some b) : b.length = 128 := by
  rw [List.getD_eq_getElem?_getD] at hw
  cases h1 : d.waits[i]? with
  | none => rw [h1] at hw; cases hw
  | some x =>
    rw [h1] at hw
    obtain rfl : x = some b := hw
    exact (h.w1 b (List.mem_of_getElem? h1)).1
theorem none_at (n i : Nat) : (List.replicate n (none : Option (List Nat))).getD i none = none := Dk.getD_replicate _ _ _
theorem Dv.crash {s : S} {said : Nat} {d : Dk.Dev} (h : Dv s said d) (ps : List Nat) : Dv s said (Dk.crash d ps) := by
  have hz := Dk.crashed_size h.ok ps
  refine ⟨Dk.ok_crash h.ok ps, by rw [hz]; exact h.fits, fun i hi => ?_, fun i b hi hw => ?_, fun j hj => ?_, fun j b hj hw => ?_⟩
  · have := h.fits
    rw [Dk.crash_lasts h.ok ps (by omega)]
    cases hw : d.waits.getD (s.at_ + i) none with
    | none => exact h.hl i hi
    | some b =>
      show Dk.pick _ _ _ = _
      rw [h.hl i hi, h.hw i b hi hw, pick_same]
  · rw [show (Dk.crash d ps).waits = Dk.none_ d from rfl] at hw
    unfold Dk.none_ at hw
    rw [none_at] at hw; cases hw
  · have := h.fits
    rw [Dk.crash_lasts h.ok ps (by omega)]
    cases hw : d.waits.getD (s.at_ + 2 + j) none with
    | none => exact h.sl j hj
    | some b => exact (h.sl j hj).pick (h.sw j b hj hw) (lasts_len h.ok (by omega)) (waits_len h.ok hw) _
  · rw [show (Dk.crash d ps).waits = Dk.none_ d from rfl] at hw
    unfold Dk.none_ at hw
    rw [none_at] at hw; cases hw
theorem Dv.last {s : S} {said : Nat} {d : Dk.Dev} (h : Dv s said d) : Dv s said (Dk.last d) := by
  have hz := Dk.last_size2 h.ok
  have hf := h.fits
  refine ⟨Dk.ok_last h.ok, by rw [hz]; exact hf, fun i hi => ?_, fun i b hi hw => ?_, fun j hj => ?_, fun j b hj hw => ?_⟩
  · rw [Dk.last_lasts h.ok (by omega)]
    exact h.effh hi
  · rw [show (Dk.last d).waits = Dk.none_ d from rfl] at hw
    unfold Dk.none_ at hw
    rw [none_at] at hw; cases hw
  · rw [Dk.last_lasts h.ok (by omega)]
    exact h.eff hj
  · rw [show (Dk.last d).waits = Dk.none_ d from rfl] at hw
    unfold Dk.none_ at hw
    rw [none_at] at hw; cases hw
theorem Dv.same {s : S} {said : Nat} {d d' : Dk.Dev} (h : Dv s said d) (ok : Dk.Ok d') (hl : d'.lasts = d.lasts) (hw : d'.waits = d.waits) : Dv s said d' := by
  refine ⟨ok, ?_, ?_, ?_, ?_, ?_⟩
  · have := h.fits
    unfold Dk.size at *
    rw [hl]; exact this
  · rw [hl]; exact h.hl
  · rw [hw]; exact h.hw
  · rw [hl]; exact h.sl
  · rw [hw]; exact h.sw
theorem Dv.goes {s : S} {said : Nat} {d : Dk.Dev} (h : Dv s said d) : Dv s said (Dk.goes d) := by
  obtain ⟨h1, h2, -, -⟩ := Dk.goes_same d
  exact h.same (Dk.ok_goes h.ok) h1 h2
theorem waits_put {d : Dk.Dev} {i k : Nat} {b : List Nat} (hi : i < d.waits.length) : (Dk.put d i b).waits.getD k none = if i = k then some b else d.waits.getD k none := by
  show (d.waits.set i (some b)).getD k none = _
  by_cases e : i = k
  · subst e
    rw [if_pos rfl, Dk.getD_set_self hi]
  · rw [if_neg e, Dk.getD_set_ne e]
theorem Dv.put {s : S} {said : Nat} {d : Dk.Dev} (h : Dv s said d) {j : Nat} {b : List Nat} (hj : j < s.count) (hb : Dk.Sec b) (hs : SecOk s said j b) : Dv s said (Dk.put d (s.at_ + 2 + j) b) := by
  have hf := h.fits
  have hi : s.at_ + 2 + j < d.waits.length := by rw [h.ok.w]; omega
  refine ⟨Dk.ok_put h.ok _ hb, h.fits, h.hl, fun i c hi2 hw => ?_, h.sl, fun k c hk hw => ?_⟩
  · rw [waits_put hi, if_neg (by omega)] at hw
    exact h.hw i c hi2 hw
  · rw [waits_put hi] at hw
    by_cases e : j = k
    · subst e
      rw [if_pos rfl] at hw
      cases hw
      exact hs
    · rw [if_neg (by omega)] at hw
      exact h.sw k c hk hw
theorem eff_put {d : Dk.Dev} {i k : Nat} {b : List Nat} (hi : i < d.waits.length) : eff (Dk.put d i b) k = if i = k then b else eff d k := by
  unfold eff
  rw [waits_put hi]
  by_cases e : i = k
  · rw [if_pos e, if_pos e]; rfl
  · rw [if_neg e, if_neg e]; rfl
def told (d : Dk.Dev) (a : Nat) (b : List Nat) : Dk.Dev := Dk.last (Dk.put (Dk.put d a b) (a + 1) b)
theorem told_ok {d : Dk.Dev} (h : Dk.Ok d) {a : Nat} {b : List Nat} (hb : Dk.Sec b) : Dk.Ok (told d a b) := Dk.ok_last (Dk.ok_put (Dk.ok_put h _ hb) _ hb)
theorem told_size {d : Dk.Dev} (h : Dk.Ok d) {a : Nat} {b : List Nat} (hb : Dk.Sec b) : Dk.size (told d a b) = Dk.size d := Dk.last_size2 (Dk.ok_put (Dk.ok_put h _ hb) _ hb)
theorem told_waits (d : Dk.Dev) (a i : Nat) (b : List Nat) : (told d a b).waits.getD i none = none := none_at _ _
theorem told_lasts {d : Dk.Dev} (h : Dk.Ok d) {a i : Nat} {b : List Nat} (hb : Dk.Sec b) (ha : a + 1 < Dk.size d) (hi : i < Dk.size d) : (told d a b).lasts.getD i [] = if i = a ∨ i = a + 1 then b else eff d i := by
  have h1 : Dk.Ok (Dk.put (Dk.put d a b) (a + 1) b) := Dk.ok_put (Dk.ok_put h _ hb) _ hb
  have h2 : a < d.waits.length := by rw [h.w]; omega
  have h3 : a + 1 < (Dk.put d a b).waits.length := by
    have := (Dk.ok_put h a hb).w
    rw [this]
    exact ha
  unfold told
  rw [Dk.last_lasts h1 hi]
  show eff (Dk.put (Dk.put d a b) (a + 1) b) i = _
  rw [eff_put h3, eff_put h2]
  by_cases e1 : a + 1 = i
  · rw [if_pos e1, if_pos (Or.inr e1.symm)]
  · rw [if_neg e1]
    by_cases e2 : a = i
    · rw [if_pos e2, if_pos (Or.inl e2.symm)]
    · rw [if_neg e2, if_neg (by omega)]
theorem calm_told {n : Nat} {d : Dk.Dev} (h : Calm n d) (ok : Dk.Ok d) {a : Nat} {b : List Nat} (hb : Dk.Sec b) : Calm n (told d a b) := ⟨h.off, h.armed, by rw [told_size ok hb]; exact h.sz, h.most⟩
theorem dv_fresh {d : Dk.Dev} {a c : Nat} (ok : Dk.Ok d) (hfit : a + c + 2 ≤ Dk.size d) (hz : ∀ i, i < Dk.size d → eff d i = Dk.blank) : Dv (fresh a c) 52 (told d a (head a c ⟨52, 52, 0, 1⟩)) := by
  have hb := head_sec a c ⟨52, 52, 0, 1⟩
  have h0 : ∀ k, k < 2 → ∀ q, HOk (fresh a c) 52 q (hfOf (hf Dk.blank k)) := by
    intro k hk q
    refine hok_blank ?_ ?_ (show 52 ≤ 52 / 52 * 52 by decide)
    · obtain rfl | rfl : k = 0 ∨ k = 1 := by omega
      · decide
      · decide
    · obtain rfl | rfl : k = 0 ∨ k = 1 := by omega
      · show (hfOf (hf Dk.blank 0)).epoch ≤ 1
        decide
      · show (hfOf (hf Dk.blank 1)).epoch ≤ 1
        decide
  refine ⟨told_ok ok hb, by rw [told_size ok hb]; exact hfit, fun i hi => ?_, fun i b hi hw => ?_, fun j hj => ?_, fun j b hj hw => ?_⟩
  · show (Wl.told d a _).lasts.getD (a + i) [] = _
    rw [told_lasts ok hb (by omega) (by omega), if_pos (by omega)]
    rfl
  · rw [told_waits] at hw; cases hw
  · have hj : j < c := hj
    show SecOk _ _ _ ((Wl.told d a _).lasts.getD (a + 2 + j) [])
    rw [told_lasts ok hb (by omega) (by omega), if_neg (by omega), hz _ (by omega)]
    exact ⟨h0 0 (by decide) _, h0 1 (by decide) _⟩
  · rw [told_waits] at hw; cases hw
theorem ex_fresh {a c : Nat} (h1 : 16 ≤ c) (h2 : c ≤ 8192) : Ex (fresh a c) := by
  refine ⟨good_fresh a c, h1, h2, ?_, ⟨0, Nat.zero_le _, rfl⟩, (show 1 < 4294967296 by decide), (show 0 < 18446744073709551616 by decide)⟩
  show 52 ≤ (52 / 52 + 2 * c) * 52
  omega
structure Ls (s : S) (said : Nat) (d : Dk.Dev) (h : Nat) (acc : List Nat) : Prop where
  low : s.start / 52 ≤ h
  high : h ≤ s.start / 52 + 2 * s.count
  len : acc.length = 52 * (h - s.start / 52)
  is : ∀ i, i < acc.length → s.start ≤ s.start / 52 * 52 + i → acc.getD i 0 = byteAt s (s.start / 52 * 52 + i)
  full : ∀ g, s.start / 52 ≤ g → g < h → good said s.epoch (2 * s.count) g (half s d g) = 52
theorem getD_app {a b : List Nat} (i : Nat) : (a ++ b).getD i 0 = if i < a.length then a.getD i 0 else b.getD (i - a.length) 0 := by
  rw [List.getD_eq_getElem?_getD]
  by_cases h : i < a.length
  · rw [if_pos h, List.getElem?_append_left h, List.getD_eq_getElem?_getD]
  · rw [if_neg h, List.getElem?_append_right (by omega), List.getD_eq_getElem?_getD]
theorem getD_take {a : List Nat} {n i : Nat} (h : i < n) : (a.take n).getD i 0 = a.getD i 0 := by
  rw [List.getD_eq_getElem?_getD, List.getElem?_take, if_pos h, List.getD_eq_getElem?_getD]
theorem getD_drop {a : List Nat} {n i : Nat} : (a.drop n).getD i 0 = a.getD (n + i) 0 := by
  rw [List.getD_eq_getElem?_getD, List.getElem?_drop, List.getD_eq_getElem?_getD]
def Hd (d : Dk.Dev) (s : S) : Prop := Ex s ∧ ∃ said, said ≤ s.stop ∧ Dv s said d
theorem Hd.crash {d : Dk.Dev} {s : S} (h : Hd d s) (ps : List Nat) : Hd (Dk.crash d ps) s := by
  obtain ⟨h1, said, h3, h2⟩ := h
  exact ⟨h1, said, h3, h2.crash ps⟩
theorem ex_flush {s : S} (h : Ex s) : Ex (flush s) := ⟨good_flush h.good, h.low, h.high, h.room, ⟨s.recs.length, Nat.le_refl _, plc_all (flush s)⟩, h.ep, h.pt⟩
end Go.Proofs.YtbpodmallknhfaaGreat.Wl
namespace Go.Proofs.YtbpodmallknhfaaGreat.Wl
open Go.Proofs.YtbpodmallknhfaaGreat
def kn (s : S) : Kn := ⟨s.start, s.flushed, s.point, s.epoch⟩
def waits (s : S) : List Nat := (bytes s).drop (s.flushed - s.start)
theorem waits_length {s : S} (h : Good s) : (waits s).length = s.stop - s.flushed := by
  have h1 := bytes_length h
  have h2 := h.low
  unfold waits
  rw [List.length_drop]; omega
end Go.Proofs.YtbpodmallknhfaaGreat.Wl
namespace Go.Proofs.YtbpodmallknhfaaGreat.Wl
open Go.Proofs.YtbpodmallknhfaaGreat
def Oth (at_ count : Nat) (d d' : Dk.Dev) : Prop := ∀ i, (i < at_ ∨ at_ + count + 2 ≤ i) → d.waits.getD i none = none → d'.waits.getD i none = none ∧ d'.lasts.getD i [] = d.lasts.getD i []
theorem Oth.refl (a c : Nat) (d : Dk.Dev) : Oth a c d d := fun _ _ h => ⟨h, rfl⟩
theorem Oth.goes {a c : Nat} {d e : Dk.Dev} (h : Oth a c d e) : Oth a c d (Dk.goes e) := fun i hi hw => by
  obtain ⟨g1, g2, -, -⟩ := Dk.goes_same e
  rw [g1, g2]
  exact h i hi hw
theorem getD_set_ne {α : Type} (l : List α) {i j : Nat} (h : i ≠ j) (x z : α) : (l.set i x).getD j z = l.getD j z := by
  rw [List.getD_eq_getElem?_getD, List.getD_eq_getElem?_getD, List.getElem?_set_ne h]
theorem Oth.put {a c : Nat} {d e : Dk.Dev} (h : Oth a c d e) {i : Nat} (hi : a ≤ i ∧ i < a + c + 2) (b : List Nat) : Oth a c d (Dk.put e i b) := fun j hj hw => by
  have h1 := h j hj hw
  refine ⟨?_, h1.2⟩
  show (e.waits.set i (some b)).getD j none = none
  rw [getD_set_ne _ (by omega)]
  exact h1.1
theorem Oth.last {a c : Nat} {d e : Dk.Dev} (h : Oth a c d e) (ho : Dk.Ok e) : Oth a c d (Dk.last e) := fun j hj hw => by
  have h1 := h j hj hw
  refine ⟨?_, ?_⟩
  · show (Dk.none_ e).getD j none = none
    unfold Dk.none_
    exact Dk.getD_replicate _ _ _
  · by_cases hl : j < Dk.size e
    · rw [Dk.last_lasts ho hl, h1.1]
      exact h1.2
    · rw [← h1.2]
      have h2 : (Dk.last e).lasts.length ≤ j := by have := Dk.last_size2 ho; unfold Dk.size at this hl; omega
      have h3 : e.lasts.length ≤ j := by unfold Dk.size at hl; omega
      rw [List.getD_eq_getElem?_getD, List.getD_eq_getElem?_getD, List.getElem?_eq_none h2, List.getElem?_eq_none h3]
theorem Oth.told {a c : Nat} {d : Dk.Dev} {b : List Nat} (ho : Dk.Ok d) (hb : Dk.Sec b) : Oth a c d (told d a b) :=
  (((Oth.refl a c d).put (i := a) ⟨Nat.le_refl _, by omega⟩ b).put (i := a + 1) ⟨by omega, by omega⟩ b).last (Dk.ok_put (Dk.ok_put ho _ hb) _ hb)
end Go.Proofs.YtbpodmallknhfaaGreat.Wl
