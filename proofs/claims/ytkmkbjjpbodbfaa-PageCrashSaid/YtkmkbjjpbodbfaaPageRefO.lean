/- What the document's Open answers of bytes. Conditions: the bytes' cells hold what they tell. -/
import Derived.Test.YtkmkbjjpbodbfaaPageRefB
import Derived.Test.YtkmkbjjpbodbfaaCodeRRd
namespace Go.Proofs.Ytkmkbjjpbodbfaa
open Go.RowKit

/-- Where bytes are compared with noughts: what the operations left. -/
def RoF (m : Value) (s : ByteArray) (z : ByteArray) (r : Bool) (i : Nat) (v : Value) (w : World) : Prop :=
  match i with
  | 0 => v = m
  | 1 => v = .string s
  | 2 => Bts w v (Pg.zeros 512)
  | 3 => v = .string z
  | _ => v = .bool r
theorem rof_later {m : Value} {s z : ByteArray} {r : Bool} (k : Nat) (v : Value) (w w' : World) (h : Below w.heap.size w w') (hF : RoF m s z r k v w) : RoF m s z r k v w' := by
  rcases k with _ | _ | _ | _ | k
  · exact hF
  · exact hF
  · exact Bts.below hF h
  · exact hF
  · exact hF

/-- What is behind the first n of the bytes, where the slice is told by its number of bytes. -/
theorem Bts.congr_drop {w : World} {b off cap k : Nat} {l : List Nat} (h : Bts w (.slice (some ⟨b, off, none⟩) k cap) l) (n : Nat) (hk : l.length = k) (hn : n ≤ k := by decide) : Bts w (.slice (some ⟨b, off + n, none⟩) (k - n) (cap - n)) (l.drop n) := by
  subst hk
  exact h.drop n hn

/-- The result's block, and what is behind it. -/
structure Opn (w W : World) (B : Nat) : Prop where
  blk : W.heap[B]? = some (.cells #[.int .u64 0, .slice none 0 0] 25 (0, 0))
  low : B = w.heap.size
  below : Below w.heap.size w W
theorem Opn.later {w W W' : World} {B : Nat} (h : Opn w W B) (hb : Below W.heap.size W W') : Opn w W' B :=
  ⟨by rw [hb.block _ (lt_of_block h.blk)]; exact h.blk, h.low, h.below.trans (hb.mono h.below.size)⟩
theorem Opn.grown {w W W' : World} {B g : Nat} (h : Opn w W B) (hb : W.grownBy W' (some g)) (hg : B < g) : Opn w W' B :=
  ⟨by rw [hb.block _ (lt_of_block h.blk) (by simp; omega)]; exact h.blk, h.low, below_grown h.below hb h.below.size (by have := h.low; omega)⟩
theorem Opn.lt {w W : World} {B : Nat} (h : Opn w W B) : B < W.heap.size := lt_of_block h.blk
/-- The result is written. -/
theorem Opn.done {w W : World} {B : Nat} (h : Opn w W B) (x y : Value) : 
    ((W.setCell ⟨B, 0, none⟩ x).setCell ⟨B, 1, none⟩ y).heap[B]? = some (.cells #[x, y] 25 (0, 0)) ∧ W.grownBy ((W.setCell ⟨B, 0, none⟩ x).setCell ⟨B, 1, none⟩ y) (some B) ∧ Below w.heap.size w ((W.setCell ⟨B, 0, none⟩ x).setCell ⟨B, 1, none⟩ y) := by
  obtain ⟨h1, h2⟩ := set2 (x := x) (y := y) h.blk
  exact ⟨h1, h2, below_grown h.below h2 h.below.size (Nat.le_of_eq h.low.symm)⟩

set_option maxHeartbeats 1600000 in
set_option maxRecDepth 20000 in
theorem refOpen_any (m : Value) (b : List Nat) (w : World) (hB : Bts w m b) :
    Calls Try.prog 12 #[m] w fun e w' => ∃ u, e = .returned (.tuple #[PgV (Pg.openN b) u, .int .i64 (Pg.openE b : Nat)]) ∧ Own w.heap.size w' u (Pg.openL b) ∧ Below w.heap.size w w' := by
  obtain ⟨W, hW⟩ : ∃ W, W = w.alloc (.cells #[.int .u64 0, .slice none 0 0] 25) := ⟨_, rfl⟩
  obtain ⟨R, hR⟩ : ∃ R, R = w.heap.size := ⟨_, rfl⟩
  have hO : Opn w W R := ⟨by rw [hW, hR]; exact heap_alloc_last _ _, hR, by rw [hW]; exact (Below.refl _ _).alloc (Nat.le_refl _) _⟩
  have HB := Lib.hid (hB.below hO.below)
  have HO := Lib.hid hO
  have HR := Lib.hid hR
  obtain ⟨p, cap, rfl, hcap, -, hp⟩ := hB.form
  have hlen := hB.len
  by_cases hl : b.length = 512
  · rw [hl] at HB ⊢
    have HL := Lib.hid hl
    obtain ⟨g, off, rfl, -⟩ := hp (by omega)
    clear hp hB hO
    by_cases hz : b = Pg.zeros 512
    · subst hz
      rw [Pg.openE_zeros, Pg.openN_zeros, Pg.openL_zeros]
      have HEQ : Hid (true = true) := rfl
      have hs1 := fun W' (hb : Below W.heap.size W W') => strOf_conv (HB.out.below hb)
      have HS1 := Lib.hid hs1
      have HMK := Lib.hid (fun W => made_bytes 512 (by decide) W)
      have HMO := Lib.hid (fun W => made_own 512 (by decide) W)
      obtain ⟨Z, hZ⟩ : ∃ Z, Z = strOfNums ((Pg.zeros 512).map fun x : Nat => (x : Int)) := ⟨_, rfl⟩
      have HZ := Lib.hid hZ
      obtain ⟨S, hS⟩ : ∃ S, S = Z := ⟨_, rfl⟩
      have hcmp : (S.toList == Z.toList) = true := by rw [hS]; simp
      have HS1' : Hid (∀ W' (_ : Below W.heap.size W W'), (convert 23 9 (.slice (some ⟨g, off, none⟩) 512 cap)).run Try.prog W' = .ok (.string S) W') := fun W' hb => by rw [hS, hZ]; exact hs1 W' hb
      have HC := Lib.hid hcmp
      clear hs1 hS hcmp hZ HS1
      go_enter Try.func12, Try.ntmps12
      go_upto_region 3 with (fail)
      rw [← hW, ← HR.out]
      clear hW hR
      refine Ord.walk (RoF (.slice (some ⟨g, off, none⟩) 512 cap) S Z true) (fun _ _ w' => Below W.heap.size W w') (fun a b => Below a.heap.size a b)
        (by kernel_rfl) (by kernel_rfl) ?fr ?hfr rof_later (fun xs => (Below.refl _ _).go1) ?he ?hend
      case hfr =>
        intro xs
        simp only [Ord.fill, Act.put, List.setIfInBounds_toArray, List.set_cons_zero, List.set_cons_succ]
        try rfl
      case he =>
        refine Ord.each_cons (fun D xs w2 hD hC hP hR hA K hK => ?_) ?_
        · -- 0
          clear hA
          go_simp
          exact hK _ _ ⟨_, rfl, Below.refl _ _, hR, rfl⟩
        refine Ord.each_cons (fun D xs w2 hD hC hP hR hA K hK => ?_) ?_
        · -- 1
          have q0 := Ord.ahead_get _ hA 0 (by decide)
          simp only [RoF] at q0
          simp only [q0] at hK
          clear hA
          have hcv := HS1'.out w2 hR
          go_simp
          exact hK _ _ ⟨_, rfl, Below.refl _ _, hR, rfl⟩
        refine Ord.each_cons (fun D xs w2 hD hC hP hR hA K hK => ?_) ?_
        · -- 2
          clear hA
          have hmk : (Instr.makeSlice 23 (.int .i64 512) (.int .i64 512)).run Try.prog w2 = .ok (.slice (some ⟨w2.heap.size, 0, none⟩) 512 512) _ := HMK.out w2
          go_simp
          exact hK _ _ ⟨_, rfl, (Below.refl _ _).alloc (Nat.le_refl _) _, hR.alloc hR.size _, (HMO.out w2).bts⟩
        refine Ord.each_cons (fun D xs w2 hD hC hP hR hA K hK => ?_) ?_
        · -- 3
          have q2 := Ord.ahead_get _ hA 2 (by decide)
          simp only [RoF] at q2
          clear hA
          have hcv := strOf_conv q2
          rw [← HZ.out] at hcv
          obtain ⟨p2, n2, c2, e2⟩ : ∃ p2 n2 c2, xs 2 = .slice p2 n2 c2 := by
            obtain ⟨p2, c2, e2, -⟩ := q2.form
            exact ⟨_, _, _, e2⟩
          rw [e2] at hcv
          simp only [e2] at hK
          go_simp
          exact hK _ _ ⟨_, rfl, Below.refl _ _, hR, rfl⟩
        refine Ord.each_cons (fun D xs w2 hD hC hP hR hA K hK => ?_) ?_
        · -- 4
          have q1 := Ord.ahead_get _ hA 1 (by decide)
          simp only [RoF] at q1
          have q3 := Ord.ahead_get _ hA 3 (by decide)
          simp only [RoF] at q3
          simp only [q1, q3] at hK
          clear hA
          have hc := HC.out
          go_simp
          all_goals exact hK _ _ ⟨_, rfl, Below.refl _ _, hR, rfl⟩
        exact Ord.each_nil
      case hend =>
        intro D xs w2 hR2 hF
        have e4 := (hF 4 (by decide)).2
        simp only [RoF] at e4
        rw [e4]
        clear e4 hF
        have hO2 := HO.out.later hR2
        have HO2 := Lib.hid hO2
        have HB2 := Lib.hid (HB.out.below hR2)
        clear hR2 hO2
        go_wp2_with fail
        refine (refBlank_any w2).mono ?_
        rintro e w3 ⟨v, rfl, hO3, hb3⟩
        obtain ⟨p3, c3, rfl, -, -, -⟩ := hO3.bts.form
        have HV := Lib.hid hO3
        have HO3 := Lib.hid (HO2.out.later hb3)
        have HB3 := Lib.hid hb3
        have hne : ∀ g3, (Value.slice p3 (Pg.zeros 500).length c3).ownBlock = some g3 → R < g3 := by
          intro g3 hg3
          have hof := hO3.form
          rcases hof with ⟨h1, h2⟩ | ⟨g4, c4, h1, h2, -⟩
          · rw [h1] at hg3; cases hg3
          · rw [h1] at hg3
            simp only [Value.ownBlock, Option.some.injEq] at hg3
            have := HO2.out.lt
            omega
        have HNE := Lib.hid hne
        clear hO3 hb3 hne
        rw [Pg.zeros_length] at HV HNE ⊢
        have c0 := cell2_0 HO3.out.blk
        have c1 := cell2_1 HO3.out.blk
        have f0 := free2 HO3.out.blk 0
        have f1 := free2 HO3.out.blk 1
        obtain ⟨d1, d2, d3⟩ := HO3.out.done (.int .u64 0) (.slice p3 500 c3)
        have q0 := cell2_0 d1
        have q1 := cell2_1 d1
        have D2 := Lib.hid d2
        have D3 := Lib.hid d3
        clear d1 d2 d3
        go_wp2_with fail
        refine bodyPost_ret (v := .tuple #[PgV 0 (.slice p3 500 c3), .int .i64 0]) (by simp [results, Try.results12, go_sem, q0, q1]) rfl ⟨_, rfl, ?_, D3.out⟩
        refine (HV.out.from (by have := HO2.out.lt; have := HR.out; omega)).grown D2.out (Or.inr fun h => ?_)
        exact absurd (HNE.out _ h) (Nat.lt_irrefl _)
    · have HEQ := Lib.hid hz
      have hs1 := fun W' (hb : Below W.heap.size W W') => strOf_conv (HB.out.below hb)
      have HS1 := Lib.hid hs1
      have HMK := Lib.hid (fun W => made_bytes 512 (by decide) W)
      have HMO := Lib.hid (fun W => made_own 512 (by decide) W)
      obtain ⟨Z, hZ⟩ : ∃ Z, Z = strOfNums ((Pg.zeros 512).map fun x : Nat => (x : Int)) := ⟨_, rfl⟩
      have HZ := Lib.hid hZ
      obtain ⟨S, hS⟩ : ∃ S, S = strOfNums (b.map fun x : Nat => (x : Int)) := ⟨_, rfl⟩
      have hcmp : (S.toList == Z.toList) = false := by rw [hS, hZ]; exact str_ne HB.out.small (Pg.zeros_lt _) hz
      have HS1' : Hid (∀ W' (_ : Below W.heap.size W W'), (convert 23 9 (.slice (some ⟨g, off, none⟩) 512 cap)).run Try.prog W' = .ok (.string S) W') := fun W' hb => by rw [hS]; exact hs1 W' hb
      have HC := Lib.hid hcmp
      clear hs1 hS hcmp hZ HS1
      go_enter Try.func12, Try.ntmps12
      go_upto_region 3 with (fail)
      rw [← hW, ← HR.out]
      clear hW hR
      refine Ord.walk (RoF (.slice (some ⟨g, off, none⟩) 512 cap) S Z false) (fun _ _ w' => Below W.heap.size W w') (fun a b => Below a.heap.size a b)
        (by kernel_rfl) (by kernel_rfl) ?fr ?hfr rof_later (fun xs => (Below.refl _ _).go1) ?he ?hend
      case hfr =>
        intro xs
        simp only [Ord.fill, Act.put, List.setIfInBounds_toArray, List.set_cons_zero, List.set_cons_succ]
        try rfl
      case he =>
        refine Ord.each_cons (fun D xs w2 hD hC hP hR hA K hK => ?_) ?_
        · -- 0
          clear hA
          go_simp
          exact hK _ _ ⟨_, rfl, Below.refl _ _, hR, rfl⟩
        refine Ord.each_cons (fun D xs w2 hD hC hP hR hA K hK => ?_) ?_
        · -- 1
          have q0 := Ord.ahead_get _ hA 0 (by decide)
          simp only [RoF] at q0
          simp only [q0] at hK
          clear hA
          have hcv := HS1'.out w2 hR
          go_simp
          exact hK _ _ ⟨_, rfl, Below.refl _ _, hR, rfl⟩
        refine Ord.each_cons (fun D xs w2 hD hC hP hR hA K hK => ?_) ?_
        · -- 2
          clear hA
          have hmk : (Instr.makeSlice 23 (.int .i64 512) (.int .i64 512)).run Try.prog w2 = .ok (.slice (some ⟨w2.heap.size, 0, none⟩) 512 512) _ := HMK.out w2
          go_simp
          exact hK _ _ ⟨_, rfl, (Below.refl _ _).alloc (Nat.le_refl _) _, hR.alloc hR.size _, (HMO.out w2).bts⟩
        refine Ord.each_cons (fun D xs w2 hD hC hP hR hA K hK => ?_) ?_
        · -- 3
          have q2 := Ord.ahead_get _ hA 2 (by decide)
          simp only [RoF] at q2
          clear hA
          have hcv := strOf_conv q2
          rw [← HZ.out] at hcv
          obtain ⟨p2, n2, c2, e2⟩ : ∃ p2 n2 c2, xs 2 = .slice p2 n2 c2 := by
            obtain ⟨p2, c2, e2, -⟩ := q2.form
            exact ⟨_, _, _, e2⟩
          rw [e2] at hcv
          simp only [e2] at hK
          go_simp
          exact hK _ _ ⟨_, rfl, Below.refl _ _, hR, rfl⟩
        refine Ord.each_cons (fun D xs w2 hD hC hP hR hA K hK => ?_) ?_
        · -- 4
          have q1 := Ord.ahead_get _ hA 1 (by decide)
          simp only [RoF] at q1
          have q3 := Ord.ahead_get _ hA 3 (by decide)
          simp only [RoF] at q3
          simp only [q1, q3] at hK
          clear hA
          have hc := HC.out
          go_simp
          all_goals exact hK _ _ ⟨_, rfl, Below.refl _ _, hR, rfl⟩
        exact Ord.each_nil
      case hend =>
        intro D xs w2 hR2 hF
        have e4 := (hF 4 (by decide)).2
        simp only [RoF] at e4
        rw [e4]
        clear e4 hF
        have hO2 := HO.out.later hR2
        have HO2 := Lib.hid hO2
        have HB2 := Lib.hid (HB.out.below hR2)
        clear hR2 hO2
        have hrd : Rd 66 (fun i => i < w2.heap.size) (w2.alloc (.cells #[.slice (some ⟨g, off, none⟩) 512 cap, .int .i64 0] 66)) w2.heap.size b 0 :=
          ⟨_, heap_alloc_last _ _, HB2.out.below ((Below.refl _ _).alloc (Nat.le_refl _) _), Nat.lt_irrefl _, fun h0 i hi => HB2.out.block_lt h0 i hi⟩
        have hrn : Cod.rdNum 4 b 0 = (Cod.num (b.take 4), b.drop 4, 0) := by
          unfold Cod.rdNum
          rw [if_neg (by simp), if_neg (by have := HL.out; omega)]
        have hc1 := refNum_any _ _ 0 4 b _ hrd (by decide) (by decide)
        rw [hrn] at hc1
        clear hrd hrn
        have HC1 := Lib.hid hc1
        clear hc1
        go_wp2_with fail
        refine HC1.out.mono ?_
        rintro e w3 ⟨rfl, hr3, hg3⟩
        have hb2 : Below w2.heap.size w2 w3 := below_grown ((Below.refl _ _).alloc (Nat.le_refl _) _) hg3 (by simp) (Nat.le_refl _)
        have HB3 := Lib.hid (HB2.out.below hb2)
        have HO3 := Lib.hid (HO2.out.later hb2)
        have HD3 := Lib.hid (HB3.out.congr_drop 4 HL.out)
        have HS3 : Hid (w2.heap.size < w3.heap.size) := hr3.lt
        have HR3 := Lib.hid hr3
        have HE3 := Lib.hid (show Pg.openE b = if Cod.num (b.take 4) ≠ Crc.more 0 (b.drop 4) then 14 else 0 by unfold Pg.openE; rw [if_neg (by have := HL.out; omega), if_neg hz])
        have hM := Pg.sum_lt HD3.out.small
        obtain ⟨Q, hQ⟩ : ∃ Q, Q = w2.heap.size := ⟨_, rfl⟩
        rw [← hQ] at HR3 HS3 ⊢
        have HQ := Lib.hid hQ
        clear hr3 hg3 hb2 HC1 hQ
        generalize Cod.num (b.take 4) = N at *
        obtain ⟨M, hM2⟩ : ∃ M, M = Crc.more 0 (b.drop 4) := ⟨_, rfl⟩
        rw [← hM2] at hM HE3
        have HM := Lib.hid hM2
        have hw64 : IntKind.u64.wrap (M : Int) = (M : Int) := by
          rw [show IntKind.u64.wrap (M : Int) = (M : Int) % 18446744073709551616 by simp [IntKind.wrap, IntKind.bits, IntKind.signed]]
          omega
        clear hM2 hM
        by_cases hs : N = M
        · subst hs
          have he : Pg.openE b = 0 := by rw [HE3.out, if_neg (by simp)]
          have HN := Lib.hid (show Pg.openN b = Cod.num ((b.drop 4).take 8) from if_pos he)
          have HLL := Lib.hid (show Pg.openL b = b.drop 12 from if_pos he)
          have HLN := Lib.hid (Pg.openL_length he)
          have HEE := Lib.hid he
          clear he HE3
          go_wp2_with fail
          refine (refSum_any _ _ _ HD3.out).mono ?_
          rintro e w' ⟨rfl, rfl⟩
          rw [← HM.out]
          go_wp2_with fail
          have hrn : Cod.rdNum 8 (b.drop 4) 0 = (Pg.openN b, (b.drop 4).drop 8, 0) := by
            unfold Cod.rdNum
            rw [if_neg (by simp), if_neg (by have := HL.out; simp; omega), HN.out]
          have hc1 := refNum_any _ _ 0 8 _ _ HR3.out (by decide) (by decide)
          rw [hrn] at hc1
          refine hc1.mono ?_
          rintro e w4 ⟨rfl, -, hg4⟩
          have HO4 := Lib.hid (HO3.out.grown hg4 (by have := HO2.out.lt; have := HQ.out; omega))
          have HB4 := Lib.hid (HB3.out.grown hg4 (fun h0 h => by
            have := HB2.out.block_lt h0 Q h
            have := HQ.out
            omega))
          clear hc1 hrn hg4 hw64
          go_upto_region 10 with (fail)
          iterate 13 go_step
          have hx := HB4.out.congr_drop 12 HL.out
          refine wpList_append_Own rfl (.tmp 29) (.tmp 31) rfl w4.heap.size _ [] rfl (own_empty w4 w4.heap.size 0 #[] (Nat.le_refl _) (by decide) rfl) _ (b.drop 12) rfl (hx.below ((Below.refl _ _).alloc (Nat.le_refl _) _)) (by have := hx.len; simpa using this) (by simp) ?_
          intro u w5 hO5 hb5 _
          have hb6 : Below w4.heap.size w4 w5 := ((Below.refl _ _).alloc (Nat.le_refl _) (.cells #[] 5)).trans hb5
          have HO5 := Lib.hid (HO4.out.later hb6)
          have HV := Lib.hid hO5
          obtain ⟨p5, c5, hu, -, -, -⟩ := hO5.bts.form
          have hle : ([] ++ b.drop 12).length = 500 := by have := HL.out; simp; omega
          rw [hle] at hu
          have hne : ∀ g3, u.ownBlock = some g3 → R < g3 := by
            intro g3 hg3
            rcases hO5.form with ⟨h1, h2⟩ | ⟨g4, c4, h1, h2, -⟩
            · rw [h1] at hg3; cases hg3
            · rw [h1] at hg3
              simp only [Value.ownBlock, Option.some.injEq] at hg3
              have := HO4.out.lt
              omega
          have HNE := Lib.hid hne
          subst hu
          clear hO5 hb5 hb6 hle hne hx
          have c0 := cell2_0 HO5.out.blk
          have c1 := cell2_1 HO5.out.blk
          have f0 := free2 HO5.out.blk 0
          have f1 := free2 HO5.out.blk 1
          obtain ⟨d1, d2, d3⟩ := HO5.out.done (.int .u64 (Pg.openN b)) (.slice p5 500 c5)
          have q0 := cell2_0 d1
          have q1 := cell2_1 d1
          have D2 := Lib.hid d2
          have D3 := Lib.hid d3
          clear d1 d2 d3
          go_wp2_with fail
          refine bodyPost_ret (v := .tuple #[PgV (Pg.openN b) (.slice p5 500 c5), .int .i64 0]) (by simp [results, Try.results12, go_sem, q0, q1]) rfl ⟨_, by rw [HEE.out]; rfl, ?_, D3.out⟩
          rw [HLL.out]
          refine (HV.out.from (by have := HO4.out.lt; have := HO4.out.low; omega)).grown D2.out (Or.inr fun h => ?_)
          exact absurd (HNE.out _ h) (Nat.lt_irrefl _)
        · have he : Pg.openE b = 14 := by rw [HE3.out, if_pos hs]
          have HEE := Lib.hid he
          have HNN := Lib.hid (Pg.openN_bad (b := b) (by rw [he]; decide))
          have HLL := Lib.hid (Pg.openL_bad (b := b) (by rw [he]; decide))
          have h1 : ¬ (N : Int) = (M : Int) := by omega
          have h2 : ((N : Int) != (M : Int)) = true := by simp; omega
          have h3 : ((N : Int) == (M : Int)) = false := by rw [beq_eq_false_iff_ne]; omega
          clear he HE3 hs
          go_wp2_with fail
          refine (refSum_any _ _ _ HD3.out).mono ?_
          rintro e w' ⟨rfl, rfl⟩
          rw [← HM.out]
          have c0 := cell2_0 HO3.out.blk
          have c1 := cell2_1 HO3.out.blk
          have f0 := free2 HO3.out.blk 0
          have f1 := free2 HO3.out.blk 1
          obtain ⟨d1, d2, d3⟩ := HO3.out.done (.int .u64 0) (.slice none 0 0)
          have q0 := cell2_0 d1
          have q1 := cell2_1 d1
          have D2 := Lib.hid d2
          have D3 := Lib.hid d3
          clear d1 d2 d3
          go_wp2_with fail
          refine bodyPost_ret (v := .tuple #[PgV 0 (.slice none 0 0), .int .i64 14]) (by simp [results, Try.results12, go_sem, q0, q1]) rfl ⟨_, by rw [HEE.out, HNN.out]; rfl, by rw [HLL.out]; exact own_nil _ _, D3.out⟩
  · have he : Pg.openE b = 2 := by unfold Pg.openE; rw [if_pos hl]
    have hi : ¬ (b.length : Int) = 512 := by omega
    have h2 : ((b.length : Int) != 512) = true := by simp; omega
    rw [he, Pg.openN_bad (by rw [he]; decide), Pg.openL_bad (by rw [he]; decide)]
    clear hp hB hR he hl
    go_enter Try.func12, Try.ntmps12
    go_upto_region 1 with (fail)
    rw [← hW, ← HR.out]
    have c0 := cell2_0 hO.blk
    have c1 := cell2_1 hO.blk
    have f0 := free2 hO.blk 0
    have f1 := free2 hO.blk 1
    obtain ⟨d1, d2, d3⟩ := hO.done (.int .u64 0) (.slice none 0 0)
    have q0 := cell2_0 d1
    have q1 := cell2_1 d1
    have D3 := Lib.hid d3
    clear hO d1 d2 d3 hW
    go_wp2_with fail
    refine bodyPost_ret (v := .tuple #[PgV 0 (.slice none 0 0), .int .i64 2]) (by simp [results, Try.results12, go_sem, q0, q1]) rfl ⟨_, rfl, own_nil _ _, D3.out⟩
end Go.Proofs.Ytkmkbjjpbodbfaa
