/- What the program's Bytes answers of a page. Conditions: the body's cells hold what they tell. -/
import Derived.Test.YtkmkbjjpbodbfaaPageRefB
import Derived.Test.YtkmkbjjpbodbfaaCodeFix
import Derived.Test.YtkmkbjjpbodbfaaCrcMoreB
import Derived.Test.YtkmkbjjpbodbfaaDkBase
namespace Go.Proofs.Ytkmkbjjpbodbfaa
open Go.RowKit

set_option maxHeartbeats 1600000 in
set_option maxRecDepth 20000 in
theorem bytes_any (n : Nat) (m : Value) (l : List Nat) (w : World) (hB : Bts w m l) :
    Calls Try.prog 8 #[PgV n m] w fun e w' => ∃ u, e = .returned (.tuple #[u, .int .i64 ((if l.length = 500 then 0 else 2 : Nat) : Int)]) ∧ Own w.heap.size w' u (if l.length = 500 then Pg.form n l else []) ∧ Below w.heap.size w w' := by
  have hb0 : Below w.heap.size w (w.alloc (.cells #[.int .u64 (n : Int), m] 25)) := (Below.refl _ _).alloc (Nat.le_refl _) _
  have HB := Lib.hid (hB.below hb0)
  have HB0 := Lib.hid hb0
  have hrow : (w.alloc (.cells #[.int .u64 (n : Int), m] 25)).heap[w.heap.size]? = some (.cells #[.int .u64 (n : Int), m] 25 (0, 0)) := heap_alloc_last _ _
  obtain ⟨p, cap, rfl, -, -, -⟩ := hB.form
  have hlen := hB.len
  clear hB hb0
  by_cases hl : l.length = 500
  · rw [if_pos hl, if_pos hl]
    have HL := Lib.hid hl
    rw [hl] at HB HB0 hrow
    have HR := Lib.hid hrow
    clear hrow
    go_enter Try.func8, Try.ntmps8
    go_upto_region 3 with (fail)
    obtain ⟨W, hW⟩ : ∃ W, W = w.alloc (.cells #[.int .u64 (n : Int), .slice p 500 cap] 25) := ⟨_, rfl⟩
    rw [← hW] at HB HB0 HR ⊢
    have HS : Hid (w.heap.size < W.heap.size) := lt_of_block HR.out
    have c0 := cell2_0 HR.out
    have c1 := cell2_1 HR.out
    have D0 := Lib.hid c0
    have D1 := Lib.hid c1
    clear hW c0 c1
    obtain ⟨B, hBs⟩ : ∃ B, B = w.heap.size := ⟨_, rfl⟩
    rw [← hBs] at HB0 HR HS D0 D1 ⊢
    have HBS := Lib.hid hBs
    clear hBs hl
    refine Ord.walk (RbF B n (.slice p 500 cap)) (RbR W.heap.size n l W) (fun _ _ => True)
      (by kernel_rfl) (by kernel_rfl) ?fr ?hfr rbf_later (fun xs => RbR.first _ _ _ _ _ (Nat.le_refl _)) ?he ?hend
    case hfr =>
      intro xs
      simp only [Ord.fill, Act.put, List.setIfInBounds_toArray, List.set_cons_zero, List.set_cons_succ]
      rfl
    case he =>
      refine Ord.each_cons (fun D xs w2 hD hC hP hR hA K hK => ?_) ?_
      · -- 0
        clear hA
        go_simp
        exact hK _ _ ⟨_, rfl, trivial, hR.quiet _ _ (by decide) (by decide) (by decide), rfl⟩
      refine Ord.each_cons (fun D xs w2 hD hC hP hR hA K hK => ?_) ?_
      · -- 1
        have q0 := Ord.ahead_get _ hA 0 (by decide)
        simp only [RbF] at q0
        simp only [q0] at hK
        clear hA
        have c0 := hR.below.cell (p := ⟨B, 0, none⟩) HS.out
        rw [D0.out] at c0
        go_simp
        exact hK _ _ ⟨_, rfl, trivial, hR.quiet _ _ (by decide) (by decide) (by decide), rfl⟩
      refine Ord.each_cons (fun D xs w2 hD hC hP hR hA K hK => ?_) ?_
      · -- 2
        have q1 := Ord.ahead_get _ hA 1 (by decide)
        simp only [RbF] at q1
        simp only [q1] at hK
        clear hA
        go_simp
        refine (Put64_any (.slice none 0 0) [] n w2 (bts_none w2) (by decide)).mono ?_
        rintro e w' ⟨u, rfl, hO, hb⟩
        rw [List.nil_append] at hO
        exact hK _ _ ⟨_, rfl, trivial, hR.at2 hb hO, trivial⟩
      refine Ord.each_cons (fun D xs w2 hD hC hP hR hA K hK => ?_) ?_
      · -- 3
        clear hA
        go_simp
        exact hK _ _ ⟨_, rfl, trivial, hR.quiet _ _ (by decide) (by decide) (by decide), rfl⟩
      refine Ord.each_cons (fun D xs w2 hD hC hP hR hA K hK => ?_) ?_
      · -- 4
        have q3 := Ord.ahead_get _ hA 3 (by decide)
        simp only [RbF] at q3
        simp only [q3] at hK
        clear hA
        have c0 := hR.below.cell (p := ⟨B, 1, none⟩) HS.out
        rw [D1.out] at c0
        go_simp
        exact hK _ _ ⟨_, rfl, trivial, hR.quiet _ _ (by decide) (by decide) (by decide), rfl⟩
      refine Ord.each_cons (fun D xs w2 hD hC hP hR hA K hK => ?_) ?_
      · -- 5
        have q4 := Ord.ahead_get _ hA 4 (by decide)
        simp only [RbF] at q4
        clear hA
        have h6 : D 6 = false := by
          cases h : D 6 with
          | false => rfl
          | true => have := Ord.closed_at hC 6 5 rfl h; rw [hD] at this; cases this
        have h2 : D 2 = true := hP { on := 2, ground := .data } (by simp) rfl
        have hO := hR.two h2 hD
        refine wp_append_Own _ _ rfl W.heap.size (xs 2) (Cod.le 8 n) rfl hO (.slice p 500 cap) l (by rw [← q4]; rfl) (HB.out.below hR.below) (by rw [Cod.le_length, HL.out]; decide) hR.size ?_
        intro u w' hO2 hb2 _
        exact hK _ _ ⟨_, rfl, trivial, hR.at5 hb2 hO2 h6, trivial⟩
      refine Ord.each_cons (fun D xs w2 hD hC hP hR hA K hK => ?_) ?_
      · -- 6
        clear hA
        have h5 : D 5 = true := hP { on := 5, ground := .data } (by simp) rfl
        go_simp
        exact hK _ _ ⟨_, rfl, trivial, hR.at6 h5, trivial⟩
      exact Ord.each_nil
    case hend =>
      intro D xs w2 hR hF
      have h6 := hR.six (hF 6 (by decide)).1
      have HR6 := Lib.hid h6
      have HB2 := Lib.hid hR.below
      have HZ2 := Lib.hid hR.size
      clear hR hF
      generalize xs 6 = x6 at *
      generalize xs 5 = x5 at *
      generalize xs 4 = x4 at *
      generalize xs 3 = x3 at *
      generalize xs 2 = x2 at *
      generalize xs 1 = x1 at *
      generalize xs 0 = x0 at *
      go_wp2_with fail
      clear h6
      refine (sum_any x6 _ _ HR6.out.bts).mono ?_
      rintro e w3 ⟨rfl, hb3⟩
      obtain ⟨S, hS⟩ : ∃ S, S = Crc.more 0 (Pg.rest n l) := ⟨_, rfl⟩
      rw [← hS]
      have HS2 := Lib.hid hS
      have HB3 := Lib.hid hb3
      clear hS hb3
      go_wp2_with fail
      refine (Put32_any (.slice none 0 0) [] S w3 (bts_none w3) (by decide)).mono ?_
      rintro e w4 ⟨x7, rfl, hO, hb⟩
      rw [List.nil_append] at hO
      have HB4 := Lib.hid (HB3.out.trans (hb.mono HB3.out.size))
      have HO := Lib.hid (hO.from (Nat.le_trans HZ2.out HB3.out.size))
      clear hO hb HB3
      dsimp only
      iterate 4 go_step
      refine wpList_append_Own rfl (.tmp 17) (.tmp 18) rfl W.heap.size x7 _ rfl HO.out x6 _ rfl (HR6.out.bts.below HB4.out) (by rw [Cod.le_length, Pg.rest_length, HL.out]; decide) (Nat.le_trans HZ2.out HB4.out.size) ?_
      intro x8 w5 hO5 hb5 _
      rw [HS2.out] at hO5
      have HO5 := Lib.hid hO5
      have HB5 := Lib.hid hb5
      clear hO5 hb5
      go_wp2_with fail
      go_ret2
      have hs : B ≤ W.heap.size := Nat.le_of_lt HS.out
      rw [← HBS.out]
      exact ⟨_, rfl, HO5.out.from hs, HB0.out.trans (((HB2.out.trans (HB4.out.mono HZ2.out)).trans HB5.out).mono hs)⟩
  · rw [if_neg hl, if_neg hl]
    have hi : ¬ (l.length : Int) = 500 := by omega
    have h2 : ((l.length : Int) != 500) = true := by simp; omega
    clear hrow
    go_enter Try.func8, Try.ntmps8
    go_wp2_with fail
    go_ret2
    exact ⟨_, rfl, own_nil _ _, HB0.out⟩
end Go.Proofs.Ytkmkbjjpbodbfaa
