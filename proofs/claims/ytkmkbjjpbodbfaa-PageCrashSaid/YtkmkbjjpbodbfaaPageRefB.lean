/- What the document's Bytes answers of a page. Conditions: the body's cells hold what they tell. -/
import Derived.Test.YtkmkbjjpbodbfaaPageRef
import Derived.Test.YtkmkbjjpbodbfaaCodeRef
import Derived.Test.YtkmkbjjpbodbfaaCrcSumB
import Derived.Test.YtkmkbjjpbodbfaaOff
import Derived.Test.YtkmkbjjpbodbfaaOrd
import Derived.Deep.RegionWith
namespace Go.Proofs.Ytkmkbjjpbodbfaa
open Go.RowKit

/-- Where a page's bytes are put together: what the operations left. -/
def RbF (B n : Nat) (m : Value) (i : Nat) (v : Value) (_ : World) : Prop :=
  match i with
  | 0 => v = .pointer (some ⟨B, 0, none⟩)
  | 1 => v = .int .u64 (n : Int)
  | 3 => v = .pointer (some ⟨B, 1, none⟩)
  | 4 => v = m
  | _ => True
structure RbR (base n : Nat) (l : List Nat) (W : World) (D : Nat → Bool) (xs : Nat → Value) (w : World) : Prop where
  below : Below base W w
  size : base ≤ w.heap.size
  two : D 2 = true → D 5 = false → Own base w (xs 2) (Cod.le 8 n)
  five : D 5 = true → Own base w (xs 5) (Pg.rest n l)
  six : D 6 = true → Own base w (xs 6) (Pg.rest n l)
theorem wth_self (D : Nat → Bool) (k : Nat) : Ord.wth D k k = true := if_pos rfl
theorem wth_ne (D : Nat → Bool) {k j : Nat} (h : j ≠ k) : Ord.wth D k j = D j := if_neg h
theorem oset_self (xs : Nat → Value) (k : Nat) (v : Value) : Ord.set xs k v k = v := if_pos rfl
theorem oset_ne (xs : Nat → Value) {k j : Nat} (v : Value) (h : j ≠ k) : Ord.set xs k v j = xs j := if_neg h
theorem rbf_later {B n : Nat} {m : Value} (k : Nat) (v : Value) (w w' : World) (_ : True) (h : RbF B n m k v w) : RbF B n m k v w' := h
theorem RbR.quiet {base n : Nat} {l : List Nat} {W : World} {D : Nat → Bool} {xs : Nat → Value} {w : World} (h : RbR base n l W D xs w) (k : Nat) (v : Value) (h2 : k ≠ 2) (h5 : k ≠ 5) (h6 : k ≠ 6) : RbR base n l W (Ord.wth D k) (Ord.set xs k v) w := by
  refine ⟨h.below, h.size, ?_, ?_, ?_⟩
  · rw [wth_ne _ (Ne.symm h2), wth_ne _ (Ne.symm h5), oset_ne _ _ (Ne.symm h2)]; exact h.two
  · rw [wth_ne _ (Ne.symm h5), oset_ne _ _ (Ne.symm h5)]; exact h.five
  · rw [wth_ne _ (Ne.symm h6), oset_ne _ _ (Ne.symm h6)]; exact h.six
theorem RbR.at2 {base n : Nat} {l : List Nat} {W : World} {D : Nat → Bool} {xs : Nat → Value} {w w' : World} {v : Value} (h : RbR base n l W D xs w) (hb : Below w.heap.size w w') (hO : Own w.heap.size w' v (Cod.le 8 n)) : RbR base n l W (Ord.wth D 2) (Ord.set xs 2 v) w' := by
  refine ⟨h.below.trans (hb.mono h.size), Nat.le_trans h.size hb.size, ?_, ?_, ?_⟩
  · intro _ _; rw [oset_self]; exact hO.from h.size
  · rw [wth_ne _ (by decide), oset_ne _ _ (by decide)]; exact fun h5 => (h.five h5).below hb
  · rw [wth_ne _ (by decide), oset_ne _ _ (by decide)]; exact fun h6 => (h.six h6).below hb
theorem RbR.at5 {base n : Nat} {l : List Nat} {W : World} {D : Nat → Bool} {xs : Nat → Value} {w w' : World} {v : Value} (h : RbR base n l W D xs w) (hb : Below base w w') (hO : Own base w' v (Pg.rest n l)) (h6 : D 6 = false) : RbR base n l W (Ord.wth D 5) (Ord.set xs 5 v) w' := by
  refine ⟨h.below.trans hb, Nat.le_trans h.size hb.size, ?_, ?_, ?_⟩
  · intro _ h5; rw [wth_self] at h5; cases h5
  · intro _; rw [oset_self]; exact hO
  · rw [wth_ne _ (by decide), h6]; intro h; cases h
theorem RbR.at6 {base n : Nat} {l : List Nat} {W : World} {D : Nat → Bool} {xs : Nat → Value} {w : World} (h : RbR base n l W D xs w) (h5 : D 5 = true) : RbR base n l W (Ord.wth D 6) (Ord.set xs 6 (xs 5)) w := by
  refine ⟨h.below, h.size, ?_, ?_, ?_⟩
  · rw [wth_ne _ (by decide), wth_ne _ (by decide), oset_ne _ _ (by decide)]; exact h.two
  · rw [wth_ne _ (by decide), oset_ne _ _ (by decide)]; exact h.five
  · intro _; rw [oset_self]; exact h.five h5
theorem RbR.first (base n : Nat) (l : List Nat) (W : World) (xs : Nat → Value) (hs : base ≤ W.heap.size) : RbR base n l W (fun _ => false) xs W.drew := ⟨(Below.refl _ _).go1, hs, fun h => (by cases h), fun h => (by cases h), fun h => (by cases h)⟩

set_option maxHeartbeats 1600000 in
set_option maxRecDepth 20000 in
theorem refBytes_any (n : Nat) (m : Value) (l : List Nat) (w : World) (hB : Bts w m l) :
    Calls Try.prog 9 #[PgV n m] w fun e w' => ∃ u, e = .returned (.tuple #[u, .int .i64 ((if l.length = 500 then 0 else 2 : Nat) : Int)]) ∧ Own w.heap.size w' u (if l.length = 500 then Pg.form n l else []) ∧ Below w.heap.size w w' := by
  have hb0 : Below w.heap.size w (w.alloc (.cells #[.int .u64 (n : Int), m] 25)) := (Below.refl _ _).alloc (Nat.le_refl _) _
  have HB := Lib.hid (hB.below hb0)
  have HB0 := Lib.hid hb0
  have hrow : (w.alloc (.cells #[.int .u64 (n : Int), m] 25)).heap[w.heap.size]? = some (.cells #[.int .u64 (n : Int), m] 25 (0, 0)) := heap_alloc_last _ _
  obtain ⟨p, cap, rfl, -, -, -⟩ := hB.form
  have hlen := hB.len
  clear hB hb0
  by_cases hl : l.length = 500
  · rw [if_pos hl, if_pos hl]
    have HL := Lib.hid hl
    rw [hl] at HB HB0 hrow
    have HR := Lib.hid hrow
    clear hrow
    go_enter Try.func9, Try.ntmps9
    go_upto_region 3 with (fail)
    obtain ⟨W, hW⟩ : ∃ W, W = w.alloc (.cells #[.int .u64 (n : Int), .slice p 500 cap] 25) := ⟨_, rfl⟩
    rw [← hW] at HB HB0 HR ⊢
    have HS : Hid (w.heap.size < W.heap.size) := lt_of_block HR.out
    have c0 := cell2_0 HR.out
    have c1 := cell2_1 HR.out
    have D0 := Lib.hid c0
    have D1 := Lib.hid c1
    clear hW c0 c1
    obtain ⟨B, hBs⟩ : ∃ B, B = w.heap.size := ⟨_, rfl⟩
    rw [← hBs] at HB0 HR HS D0 D1 ⊢
    have HBS := Lib.hid hBs
    clear hBs hl
    refine Ord.walk (RbF B n (.slice p 500 cap)) (RbR W.heap.size n l W) (fun _ _ => True)
      (by kernel_rfl) (by kernel_rfl) ?fr ?hfr rbf_later (fun xs => RbR.first _ _ _ _ _ (Nat.le_refl _)) ?he ?hend
    case hfr =>
      intro xs
      simp only [Ord.fill, Act.put, List.setIfInBounds_toArray, List.set_cons_zero, List.set_cons_succ]
      rfl
    case he =>
      refine Ord.each_cons (fun D xs w2 hD hC hP hR hA K hK => ?_) ?_
      · -- 0
        clear hA
        go_simp
        exact hK _ _ ⟨_, rfl, trivial, hR.quiet _ _ (by decide) (by decide) (by decide), rfl⟩
      refine Ord.each_cons (fun D xs w2 hD hC hP hR hA K hK => ?_) ?_
      · -- 1
        have q0 := Ord.ahead_get _ hA 0 (by decide)
        simp only [RbF] at q0
        simp only [q0] at hK
        clear hA
        have c0 := hR.below.cell (p := ⟨B, 0, none⟩) HS.out
        rw [D0.out] at c0
        go_simp
        exact hK _ _ ⟨_, rfl, trivial, hR.quiet _ _ (by decide) (by decide) (by decide), rfl⟩
      refine Ord.each_cons (fun D xs w2 hD hC hP hR hA K hK => ?_) ?_
      · -- 2
        have q1 := Ord.ahead_get _ hA 1 (by decide)
        simp only [RbF] at q1
        simp only [q1] at hK
        clear hA
        go_simp
        refine (refFixed_any n 8 w2 (by decide)).mono ?_
        rintro e w' ⟨u, rfl, hO, hb⟩
        exact hK _ _ ⟨_, rfl, trivial, hR.at2 hb hO, trivial⟩
      refine Ord.each_cons (fun D xs w2 hD hC hP hR hA K hK => ?_) ?_
      · -- 3
        clear hA
        go_simp
        exact hK _ _ ⟨_, rfl, trivial, hR.quiet _ _ (by decide) (by decide) (by decide), rfl⟩
      refine Ord.each_cons (fun D xs w2 hD hC hP hR hA K hK => ?_) ?_
      · -- 4
        have q3 := Ord.ahead_get _ hA 3 (by decide)
        simp only [RbF] at q3
        simp only [q3] at hK
        clear hA
        have c0 := hR.below.cell (p := ⟨B, 1, none⟩) HS.out
        rw [D1.out] at c0
        go_simp
        exact hK _ _ ⟨_, rfl, trivial, hR.quiet _ _ (by decide) (by decide) (by decide), rfl⟩
      refine Ord.each_cons (fun D xs w2 hD hC hP hR hA K hK => ?_) ?_
      · -- 5
        have q4 := Ord.ahead_get _ hA 4 (by decide)
        simp only [RbF] at q4
        clear hA
        have h6 : D 6 = false := by
          cases h : D 6 with
          | false => rfl
          | true => have := Ord.closed_at hC 6 5 rfl h; rw [hD] at this; cases this
        have h2 : D 2 = true := hP { on := 2, ground := .data } (by simp) rfl
        have hO := hR.two h2 hD
        refine wp_append_Own _ _ rfl W.heap.size (xs 2) (Cod.le 8 n) rfl hO (.slice p 500 cap) l (by rw [← q4]; rfl) (HB.out.below hR.below) (by rw [Cod.le_length, HL.out]; decide) hR.size ?_
        intro u w' hO2 hb2 _
        exact hK _ _ ⟨_, rfl, trivial, hR.at5 hb2 hO2 h6, trivial⟩
      refine Ord.each_cons (fun D xs w2 hD hC hP hR hA K hK => ?_) ?_
      · -- 6
        clear hA
        have h5 : D 5 = true := hP { on := 5, ground := .data } (by simp) rfl
        go_simp
        exact hK _ _ ⟨_, rfl, trivial, hR.at6 h5, trivial⟩
      exact Ord.each_nil
    case hend =>
      intro D xs w2 hR hF
      have h6 := hR.six (hF 6 (by decide)).1
      have HR6 := Lib.hid h6
      have HB2 := Lib.hid hR.below
      have HZ2 := Lib.hid hR.size
      clear hR hF
      generalize xs 6 = x6 at *
      generalize xs 5 = x5 at *
      generalize xs 4 = x4 at *
      generalize xs 3 = x3 at *
      generalize xs 2 = x2 at *
      generalize xs 1 = x1 at *
      generalize xs 0 = x0 at *
      go_wp2_with fail
      clear h6
      refine (refSum_any x6 _ _ HR6.out.bts).mono ?_
      rintro e w' ⟨rfl, rfl⟩
      obtain ⟨S, hS⟩ : ∃ S, S = Crc.more 0 (Pg.rest n l) := ⟨_, rfl⟩
      rw [← hS]
      have HS2 := Lib.hid hS
      have hw64 : IntKind.u64.wrap (S : Int) = (S : Int) := by
        have := Pg.sum_lt (l := Pg.rest n l) HR6.out.small
        rw [← hS] at this
        rw [show IntKind.u64.wrap (S : Int) = (S : Int) % 18446744073709551616 by simp [IntKind.wrap, IntKind.bits, IntKind.signed]]
        omega
      clear hS
      go_wp2_with fail
      refine (refFixed_any S 4 w2 (by decide)).mono ?_
      rintro e w3 ⟨x7, rfl, hO, hb⟩
      have HO := Lib.hid (hO.from HZ2.out)
      have HB3 := Lib.hid hb
      clear hO hb
      go_upto_region 5 with (fail)
      iterate 7 go_step
      refine wpList_append_Own rfl (.tmp 20) (.tmp 21) rfl W.heap.size x7 _ rfl HO.out x6 _ rfl (HR6.out.bts.below HB3.out) (by rw [Cod.le_length, Pg.rest_length, HL.out]; decide) (Nat.le_trans HZ2.out HB3.out.size) ?_
      intro x8 w4 hO4 hb4 _
      rw [HS2.out] at hO4
      have HO4 := Lib.hid hO4
      have HB4 := Lib.hid hb4
      clear hO4 hb4
      go_wp2_with fail
      go_ret2
      have hs : B ≤ W.heap.size := Nat.le_of_lt HS.out
      rw [← HBS.out]
      exact ⟨_, rfl, HO4.out.from hs, HB0.out.trans (((HB2.out.trans (HB3.out.mono HZ2.out)).trans HB4.out).mono hs)⟩
  · rw [if_neg hl, if_neg hl]
    have hi : ¬ (l.length : Int) = 500 := by omega
    have h2 : ((l.length : Int) != 500) = true := by simp; omega
    clear hrow
    go_enter Try.func9, Try.ntmps9
    go_wp2_with fail
    go_ret2
    exact ⟨_, rfl, own_nil _ _, HB0.out⟩
end Go.Proofs.Ytkmkbjjpbodbfaa
