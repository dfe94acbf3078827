/- What the program's Open answers of bytes. Conditions: the bytes' cells hold what they tell. -/
import Derived.Test.YtkmkbjjpbodbfaaPgBytes
import Derived.Test.YtkmkbjjpbodbfaaPageRefO
import Derived.Test.YtkmkbjjpbodbfaaPageBlank
namespace Go.Proofs.Ytkmkbjjpbodbfaa
open Go.RowKit

set_option maxHeartbeats 1600000 in
set_option maxRecDepth 20000 in
theorem btEqual_any (va vb : Value) (a b : List Nat) (w : World) (hA : Bts w va a) (hB : Bts w vb b) :
    Calls Try.prog 30 #[va, vb] w fun e w' => e = .returned (.bool (decide (a = b))) ∧ w = w' := by
  have hc1 := strOf_conv hA
  have hc2 := strOf_conv hB
  have hi := fun h => str_inj hA.small hB.small h
  obtain ⟨pa, ca, rfl, -, -, -⟩ := hA.form
  obtain ⟨pb, cb, rfl, -, -, -⟩ := hB.form
  clear hA hB
  by_cases h : a = b
  · subst h
    rw [decide_eq_true rfl]
    clear hi
    generalize strOfNums (a.map fun x : Nat => (x : Int)) = S at *
    go_enter Try.func30, Try.ntmps30
    go_wp2
    go_ret
    exact ⟨rfl, rfl⟩
  · rw [decide_eq_false h]
    have hne := fun e => h (hi e)
    clear hi
    generalize strOfNums (a.map fun x : Nat => (x : Int)) = S at *
    generalize strOfNums (b.map fun x : Nat => (x : Int)) = T at *
    have hb : (S.toList == T.toList) = false := by
      rw [beq_eq_false_iff_ne]
      intro e
      rw [ByteArray.toList_eq, ByteArray.toList_eq] at e
      exact hne (Go.WideShapes.bytes_inj e)
    go_enter Try.func30, Try.ntmps30
    go_wp2
    go_ret
    exact ⟨rfl, rfl⟩

/-- Where the sum is compared: what the operations left. -/
def OpF (Q g off cap N M : Nat) (r : Bool) (i : Nat) (v : Value) (_ : World) : Prop :=
  match i with
  | 0 => v = .pointer (some ⟨Q, 0, none⟩)
  | 1 => v = .int .u32 (N : Int)
  | 2 => v = .slice (some ⟨g, off, none⟩) 512 cap
  | 3 => v = .slice (some ⟨g, off + 4, none⟩) 508 (cap - 4)
  | 4 => v = .int .u32 (M : Int)
  | _ => v = .bool r
theorem opf_later {Q g off cap N M : Nat} {r : Bool} (k : Nat) (v : Value) (w w' : World) (_ : True) (h : OpF Q g off cap N M r k v w) : OpF Q g off cap N M r k v w' := h
structure OpR (w : World) (R lo Q g off cap : Nat) (b : List Nat) (D : Nat → Bool) (w' : World) : Prop where
  opn : Opn w w' R
  bts : Bts w' (.slice (some ⟨g, off, none⟩) 512 cap) b
  r0 : D 1 = false → Rd 84 (fun i => lo ≤ i ∧ i < Q) w' Q (b.take 12) 0
  r1 : D 1 = true → Rd 84 (fun i => lo ≤ i ∧ i < Q) w' Q ((b.drop 4).take 8) 0
theorem Opn.drew {w W : World} {B : Nat} (h : Opn w W B) : Opn w W.drew B := ⟨h.blk, h.low, h.below.go1⟩
section
variable {w w' w2 : World} {R lo Q g off cap : Nat} {b : List Nat} {D : Nat → Bool}
theorem OpR.skip (h : OpR w R lo Q g off cap b D w') (k : Nat) (hk : (k != 1) = true) : OpR w R lo Q g off cap b (Ord.wth D k) w' := by
  have hk := (bne_iff_ne ..).1 hk
  refine ⟨h.opn, h.bts, ?_, ?_⟩
  · rw [wth_ne _ (Ne.symm hk)]; exact h.r0
  · rw [wth_ne _ (Ne.symm hk)]; exact h.r1
theorem OpR.later (h : OpR w R lo Q g off cap b D w') (hb : Below w'.heap.size w' w2) : OpR w R lo Q g off cap b D w2 := ⟨h.opn.later hb, h.bts.below hb, fun a => (h.r0 a).below hb, fun a => (h.r1 a).below hb⟩
theorem OpR.one (h : OpR w R lo Q g off cap b D w') (hq : R < lo ∧ g < lo ∧ lo ≤ Q) (hr : Rd 84 (fun i => lo ≤ i ∧ i < Q) w2 Q ((b.drop 4).take 8) 0) (hg : w'.grownBy w2 (some Q)) : OpR w R lo Q g off cap b (Ord.wth D 1) w2 := by
  refine ⟨h.opn.grown hg (by omega), h.bts.grown hg (fun _ e => ?_), fun a => ?_, fun _ => hr⟩
  · simp only [Value.ownBlock, Option.some.injEq] at e; omega
  · rw [wth_self] at a; cases a
end

/-- Where the page is put together: what the operations left. -/
def O8F (Q g off cap n : Nat) (i : Nat) (v : Value) (_ : World) : Prop :=
  match i with
  | 0 => v = .pointer (some ⟨Q, 0, none⟩)
  | 1 => v = .int .u64 (n : Int)
  | 2 => v = .slice (some ⟨g, off, none⟩) 512 cap
  | 3 => v = .slice (some ⟨g, off + 12, none⟩) 500 (cap - 12)
  | 7 => v = .int .i64 0
  | _ => True
theorem o8f_later {Q g off cap n : Nat} (k : Nat) (v : Value) (w w' : World) (_ : True) (h : O8F Q g off cap n k v w) : O8F Q g off cap n k v w' := h
structure O8R (w : World) (R lo Q g off cap : Nat) (b : List Nat) (D : Nat → Bool) (xs : Nat → Value) (w' : World) : Prop where
  sz : lo ≤ w'.heap.size
  opn : D 6 = false → Opn w w' R
  bts : D 6 = false → Bts w' (.slice (some ⟨g, off, none⟩) 512 cap) b
  rd : D 1 = false → Rd 84 (fun i => lo ≤ i ∧ i < Q) w' Q ((b.drop 4).take 8) 0
  a4 : D 4 = true → D 6 = false → ∃ p c, xs 4 = .slice p 500 c ∧ Own lo w' (xs 4) (b.drop 12)
  a5 : D 5 = true → xs 5 = .agg #[.int .u64 (Pg.openN b : Int), xs 4]
  a6 : D 6 = true → ∃ u, w'.heap[R]? = some (.cells #[.int .u64 (Pg.openN b : Int), u] 25 (0, 0)) ∧ Own lo w' u (b.drop 12) ∧ (∃ p c, u = .slice p 500 c) ∧ Below w.heap.size w w'
section
variable {w w' w2 : World} {R lo Q g off cap : Nat} {b : List Nat} {D : Nat → Bool} {xs : Nat → Value} {u : Value}
theorem O8R.first (xs : Nat → Value) (h1 : Opn w w' R) (h2 : Bts w' (.slice (some ⟨g, off, none⟩) 512 cap) b) (h3 : Rd 84 (fun i => lo ≤ i ∧ i < Q) w' Q ((b.drop 4).take 8) 0) (h4 : lo ≤ w'.heap.size) : O8R w R lo Q g off cap b (fun _ => false) xs w'.drew :=
  ⟨h4, fun _ => h1.drew, fun _ => h2.below (below_drew _ _), fun _ => h3.below (below_drew _ _), fun h => (by cases h), fun h => (by cases h), fun h => (by cases h)⟩
theorem O8R.skip (h : O8R w R lo Q g off cap b D xs w') (k : Nat) (u : Value) (hk : (k != 1 && k != 4 && k != 5 && k != 6) = true) : O8R w R lo Q g off cap b (Ord.wth D k) (Ord.set xs k u) w' := by
  simp only [Bool.and_eq_true, bne_iff_ne] at hk
  obtain ⟨⟨⟨n1, n4⟩, n5⟩, n6⟩ := hk
  refine ⟨h.sz, ?_, ?_, ?_, ?_, ?_, ?_⟩
  · rw [wth_ne _ (Ne.symm n6)]; exact h.opn
  · rw [wth_ne _ (Ne.symm n6)]; exact h.bts
  · rw [wth_ne _ (Ne.symm n1)]; exact h.rd
  · rw [wth_ne _ (Ne.symm n6), wth_ne _ (Ne.symm n4), oset_ne _ _ (Ne.symm n4)]; exact h.a4
  · rw [wth_ne _ (Ne.symm n5), oset_ne _ _ (Ne.symm n4), oset_ne _ _ (Ne.symm n5)]; exact h.a5
  · rw [wth_ne _ (Ne.symm n6)]; exact h.a6
theorem O8R.one (h : O8R w R lo Q g off cap b D xs w') (u : Value) (hq : R < lo ∧ g < lo ∧ lo ≤ Q) (h4 : D 4 = false) (h6 : D 6 = false) (hg : w'.grownBy w2 (some Q)) : O8R w R lo Q g off cap b (Ord.wth D 1) (Ord.set xs 1 u) w2 := by
  refine ⟨Nat.le_trans h.sz hg.size, ?_, ?_, ?_, ?_, ?_, ?_⟩
  · rw [wth_ne _ (by decide)]; exact fun a => (h.opn a).grown hg (by omega)
  · rw [wth_ne _ (by decide)]; exact fun a => (h.bts a).grown hg (fun _ e => by simp only [Value.ownBlock, Option.some.injEq] at e; omega)
  · rw [wth_self]; intro a; cases a
  · rw [wth_ne _ (by decide), h4]; intro a; cases a
  · rw [wth_ne _ (by decide), oset_ne _ _ (by decide), oset_ne _ _ (by decide)]; exact h.a5
  · rw [wth_ne _ (by decide), h6]; intro a; cases a
theorem O8R.four (h : O8R w R lo Q g off cap b D xs w') (h5 : D 5 = false) (h6 : D 6 = false) (hl : (b.drop 12).length = 500) (hO : Own w'.heap.size w2 u (b.drop 12)) (hb : Below w'.heap.size w' w2) : O8R w R lo Q g off cap b (Ord.wth D 4) (Ord.set xs 4 u) w2 := by
  refine ⟨Nat.le_trans h.sz hb.size, ?_, ?_, ?_, ?_, ?_, ?_⟩
  · rw [wth_ne _ (by decide)]; exact fun a => (h.opn a).later hb
  · rw [wth_ne _ (by decide)]; exact fun a => (h.bts a).below hb
  · rw [wth_ne _ (by decide)]; exact fun a => (h.rd a).below hb
  · rw [oset_self]
    intro _ _
    obtain ⟨p, c, e, -⟩ := hO.bts.form
    rw [hl] at e
    exact ⟨p, c, e, hO.from h.sz⟩
  · rw [wth_ne _ (by decide), h5]; intro a; cases a
  · rw [wth_ne _ (by decide), h6]; intro a; cases a
theorem O8R.five (h : O8R w R lo Q g off cap b D xs w') (hu : u = .agg #[.int .u64 (Pg.openN b : Int), xs 4]) : O8R w R lo Q g off cap b (Ord.wth D 5) (Ord.set xs 5 u) w' := by
  refine ⟨h.sz, ?_, ?_, ?_, ?_, ?_, ?_⟩
  · rw [wth_ne _ (by decide)]; exact h.opn
  · rw [wth_ne _ (by decide)]; exact h.bts
  · rw [wth_ne _ (by decide)]; exact h.rd
  · rw [wth_ne _ (by decide), wth_ne _ (by decide), oset_ne _ _ (by decide)]; exact h.a4
  · rw [oset_self, oset_ne _ _ (by decide)]; exact fun _ => hu
  · rw [wth_ne _ (by decide)]; exact h.a6
theorem O8R.six (h : O8R w R lo Q g off cap b D xs w') (hq : R < lo ∧ g < lo ∧ lo ≤ Q) (h4 : D 4 = true) (h6 : D 6 = false) :
    O8R w R lo Q g off cap b (Ord.wth D 6) (Ord.set xs 6 u) ((w'.setCell ⟨R, 0, none⟩ (.int .u64 (Pg.openN b : Int))).setCell ⟨R, 1, none⟩ (xs 4)) := by
  obtain ⟨d1, d2, d3⟩ := (h.opn h6).done (.int .u64 (Pg.openN b : Int)) (xs 4)
  obtain ⟨p, c, e, hO⟩ := h.a4 h4 h6
  refine ⟨Nat.le_trans h.sz d2.size, ?_, ?_, ?_, ?_, ?_, ?_⟩
  · rw [wth_self]; intro a; cases a
  · rw [wth_self]; intro a; cases a
  · rw [wth_ne _ (by decide)]
    exact fun a => (h.rd a).grown d2 (fun g2 e2 => by simp only [Option.some.injEq] at e2; omega)
  · rw [wth_self]; intro _ a; cases a
  · rw [wth_ne _ (by decide), oset_ne _ _ (by decide), oset_ne _ _ (by decide)]; exact h.a5
  · intro _
    refine ⟨xs 4, d1, hO.grown d2 (Or.inr fun hh => ?_), ⟨p, c, e⟩, d3⟩
    have := (hO.own.lt R hh).1
    omega
end

set_option maxHeartbeats 1600000 in
set_option maxRecDepth 20000 in
theorem open_any (m : Value) (b : List Nat) (w : World) (hB : Bts w m b) :
    Calls Try.prog 10 #[m] w fun e w' => ∃ u, e = .returned (.tuple #[PgV (Pg.openN b) u, .int .i64 (Pg.openE b : Nat)]) ∧ Own w.heap.size w' u (Pg.openL b) ∧ Below w.heap.size w w' := by
  obtain ⟨W, hW⟩ : ∃ W, W = w.alloc (.cells #[.int .u64 0, .slice none 0 0] 25) := ⟨_, rfl⟩
  obtain ⟨R, hR⟩ : ∃ R, R = w.heap.size := ⟨_, rfl⟩
  have hO : Opn w W R := ⟨by rw [hW, hR]; exact heap_alloc_last _ _, hR, by rw [hW]; exact (Below.refl _ _).alloc (Nat.le_refl _) _⟩
  have HB := Lib.hid (hB.below hO.below)
  have HO := Lib.hid hO
  have HR := Lib.hid hR
  obtain ⟨p, cap, rfl, hcap, -, hp⟩ := hB.form
  have hlen := hB.len
  by_cases hl : b.length = 512
  · rw [hl] at HB ⊢
    have HL := Lib.hid hl
    obtain ⟨g, off, rfl, -⟩ := hp (by omega)
    clear hp hB hO
    have hmk : (Instr.makeSlice 23 (.int .i64 512) (.int .i64 512)).run Try.prog W = .ok (.slice (some ⟨W.heap.size, 0, none⟩) 512 512) (W.alloc (.cells ((Pg.zeros 512).map bv).toArray 5)) := made_bytes 512 (by decide) W
    have hmo := made_own 512 (by decide) W
    obtain ⟨W1, hW1⟩ : ∃ W1, W1 = W.alloc (.cells ((Pg.zeros 512).map bv).toArray 5) := ⟨_, rfl⟩
    have hb1 : Below W.heap.size W W1 := by rw [hW1]; exact (Below.refl _ _).alloc (Nat.le_refl _) _
    rw [← hW1] at hmk hmo
    have HB1 := Lib.hid (HB.out.below hb1)
    have HO1 := Lib.hid (HO.out.later hb1)
    have heq := btEqual_any _ _ _ _ W1 HB1.out hmo.bts
    clear hW1 hmo hb1
    by_cases hz : b = Pg.zeros 512
    · subst hz
      rw [decide_eq_true rfl] at heq
      rw [Pg.openE_zeros, Pg.openN_zeros, Pg.openL_zeros]
      have HEQ := Lib.hid heq
      clear heq
      go_enter Try.func10, Try.ntmps10
      go_wp2_with fail
      rw [← hW, ← HR.out, hmk]
      clear hW hmk hR
      go_wp2_with fail
      refine HEQ.out.mono ?_
      rintro e w2 ⟨rfl, rfl⟩
      go_wp2_with fail
      refine (blank_page W1).mono ?_
      rintro e w3 ⟨v, rfl, hO3, hb3⟩
      obtain ⟨p3, c3, rfl, -, -, -⟩ := hO3.bts.form
      have HV := Lib.hid hO3
      have HO3 := Lib.hid (HO1.out.later hb3)
      have HB3 := Lib.hid hb3
      have hne : ∀ g3, (Value.slice p3 (Pg.zeros 500).length c3).ownBlock = some g3 → R < g3 := by
        intro g3 hg3
        rcases hO3.form with ⟨h1, h2⟩ | ⟨g4, c4, h1, h2, -⟩
        · rw [h1] at hg3; cases hg3
        · rw [h1] at hg3
          simp only [Value.ownBlock, Option.some.injEq] at hg3
          have := HO1.out.lt
          omega
      have HNE := Lib.hid hne
      clear hO3 hb3 hne
      rw [Pg.zeros_length] at HV HNE ⊢
      have c0 := cell2_0 HO3.out.blk
      have c1 := cell2_1 HO3.out.blk
      have f0 := free2 HO3.out.blk 0
      have f1 := free2 HO3.out.blk 1
      obtain ⟨d1, d2, d3⟩ := HO3.out.done (.int .u64 0) (.slice p3 500 c3)
      have q0 := cell2_0 d1
      have q1 := cell2_1 d1
      have D2 := Lib.hid d2
      have D3 := Lib.hid d3
      clear d1 d2 d3
      go_wp2_with fail
      refine bodyPost_ret (v := .tuple #[PgV 0 (.slice p3 500 c3), .int .i64 0]) (by simp [results, Try.results10, go_sem, q0, q1]) rfl ⟨_, rfl, ?_, D3.out⟩
      refine (HV.out.from (by have := HO1.out.lt; have := HR.out; omega)).grown D2.out (Or.inr fun h => ?_)
      exact absurd (HNE.out _ h) (Nat.lt_irrefl _)
    · rw [decide_eq_false hz] at heq
      have HEQ := Lib.hid heq
      clear heq
      go_enter Try.func10, Try.ntmps10
      go_wp2_with fail
      rw [← hW, ← HR.out, hmk]
      clear hW hmk hR
      go_wp2_with fail
      refine HEQ.out.mono ?_
      rintro e w2 ⟨rfl, rfl⟩
      go_wp2_with fail
      have htk : Bts W1 (.slice (some ⟨g, off, none⟩) 12 cap) (b.take 12) := by
        have h := HB1.out
        rw [← HL.out] at h
        exact h.take 12 (by have := HL.out; omega)
      refine (newReader_any _ (b.take 12) W1 htk).mono ?_
      rintro e w2 ⟨Q, rfl, hrd, hQ, hb2⟩
      have HO2 := Lib.hid (HO1.out.later hb2)
      have HB2 := Lib.hid (HB1.out.below hb2)
      have HQ := Lib.hid hQ
      have hrn : Cod.rdNum 4 (b.take 12) 0 = (Cod.num (b.take 4), (b.drop 4).take 8, 0) := by
        have := HL.out
        unfold Cod.rdNum
        rw [if_neg (by simp), if_neg (by simp; omega), List.take_take, List.drop_take]
        rfl
      have HU : Hid (∀ W2, Rd 84 (fun i => W1.heap.size ≤ i ∧ i < Q) W2 Q (b.take 12) 0 → Calls Try.prog 32 #[.pointer (some ⟨Q, 0, none⟩)] W2 fun en w' => en = .returned (.int .u32 ((Cod.num (b.take 4) : Nat) : Int)) ∧ Rd 84 (fun i => W1.heap.size ≤ i ∧ i < Q) w' Q ((b.drop 4).take 8) 0 ∧ W2.grownBy w' (some Q)) := fun W2 h => by
        have hc1 := U32_any _ _ 0 _ _ h
        rw [hrn] at hc1
        exact hc1
      have HQ1 : Hid (R < W1.heap.size ∧ g < W1.heap.size ∧ W1.heap.size ≤ Q) := ⟨HO1.out.lt, HB1.out.block_lt (by have := HL.out; omega) g rfl, hQ⟩
      have HF0 : Hid (OpR w R W1.heap.size Q g off cap b (fun _ => false) w2.drew) := ⟨HO2.out.drew, HB2.out.below (below_drew _ _), fun _ => hrd.below (below_drew _ _), fun h => (by cases h)⟩
      have HC4 : Hid (¬ cap = 4) := by show ¬ _; have := hcap.1; omega
      have HC12 : Hid (¬ cap = 12) := by show ¬ _; have := hcap.1; omega
      have HE3 := Lib.hid (show Pg.openE b = if Cod.num (b.take 4) ≠ Crc.more 0 (b.drop 4) then 14 else 0 by unfold Pg.openE; rw [if_neg (by have := HL.out; omega), if_neg hz])
      clear htk hrd hQ hb2 hrn
      generalize Cod.num (b.take 4) = N at *
      obtain ⟨M, hM2⟩ : ∃ M, M = Crc.more 0 (b.drop 4) := ⟨_, rfl⟩
      rw [← hM2] at HE3
      have HM := Lib.hid hM2
      clear hM2
      by_cases hs : N = M
      · subst hs
        have he : Pg.openE b = 0 := by rw [HE3.out, if_neg (by simp)]
        have HN := Lib.hid (show Pg.openN b = Cod.num ((b.drop 4).take 8) from if_pos he)
        have HLL := Lib.hid (show Pg.openL b = b.drop 12 from if_pos he)
        have HLN := Lib.hid (Pg.openL_length he)
        have HEE := Lib.hid he
        have HC : Hid (((N : Int) != (N : Int)) = false) := bne_self_eq_false _
        have HC2 : Hid (((N : Int) == (N : Int)) = true) := beq_self_eq_true _
        clear he HE3
        go_upto_region 6 with (fail)
        refine Ord.walk (OpF Q g off cap N N false) (fun D _ w' => OpR w R W1.heap.size Q g off cap b D w') (fun _ _ => True)
          (by kernel_rfl) (by kernel_rfl) ?fr1 ?hfr1 opf_later (fun xs => HF0.out) ?he1 ?hend1
        case hfr1 =>
          intro xs
          simp only [Ord.fill, Act.put, List.setIfInBounds_toArray, List.set_cons_zero, List.set_cons_succ]
          rfl
        case he1 =>
          refine Ord.each_cons (fun D xs w2 hD hC hP hR hA K hK => ?_) ?_
          · -- 0
            clear hA
            go_simp
            exact hK _ _ ⟨_, rfl, trivial, hR.skip _ (by decide), rfl⟩
          refine Ord.each_cons (fun D xs w2 hD hC hP hR hA K hK => ?_) ?_
          · -- 1
            have q0 := Ord.ahead_get _ hA 0 (by decide)
            simp only [OpF] at q0
            simp only [q0] at hK
            clear hA
            go_simp
            refine (HU.out w2 (hR.r0 hD)).mono ?_
            rintro e w' ⟨rfl, hr, hg⟩
            exact hK _ _ ⟨_, rfl, trivial, hR.one HQ1.out hr hg, rfl⟩
          refine Ord.each_cons (fun D xs w2 hD hC hP hR hA K hK => ?_) ?_
          · -- 2
            clear hA
            go_simp
            exact hK _ _ ⟨_, rfl, trivial, hR.skip _ (by decide), rfl⟩
          refine Ord.each_cons (fun D xs w2 hD hC hP hR hA K hK => ?_) ?_
          · -- 3
            have q2 := Ord.ahead_get _ hA 2 (by decide)
            simp only [OpF] at q2
            simp only [q2] at hK
            clear hA
            have hc4 := HC4.out
            go_simp
            exact hK _ _ ⟨_, rfl, trivial, hR.skip _ (by decide), rfl⟩
          refine Ord.each_cons (fun D xs w2 hD hC hP hR hA K hK => ?_) ?_
          · -- 4
            have q3 := Ord.ahead_get _ hA 3 (by decide)
            simp only [OpF] at q3
            simp only [q3] at hK
            clear hA
            go_simp
            refine (sum_any _ _ _ (hR.bts.congr_drop 4 HL.out)).mono ?_
            rintro e w' ⟨rfl, hb⟩
            rw [← HM.out]
            exact hK _ _ ⟨_, rfl, trivial, (hR.later hb).skip _ (by decide), rfl⟩
          refine Ord.each_cons (fun D xs w2 hD hC hP hR hA K hK => ?_) ?_
          · -- 5
            have q1 := Ord.ahead_get _ hA 1 (by decide)
            simp only [OpF] at q1
            have q4 := Ord.ahead_get _ hA 4 (by decide)
            simp only [OpF] at q4
            simp only [q1, q4] at hK
            clear hA
            have hc := HC.out
            have hc2 := HC2.out
            go_simp
            all_goals exact hK _ _ ⟨_, rfl, trivial, hR.skip _ (by decide), rfl⟩
          exact Ord.each_nil
        case hend1 =>
          intro D xs w3 hR2 hF
          have e5 := (hF 5 (by decide)).2
          have hd1 := (hF 1 (by decide)).1
          simp only [OpF] at e5
          rw [e5]
          have HR3 := Lib.hid (hR2.r1 hd1)
          have HO3 := Lib.hid hR2.opn
          have HB3 := Lib.hid hR2.bts
          clear e5 hF hR2 hd1
          have HU8 : Hid (∀ W2, Rd 84 (fun i => W1.heap.size ≤ i ∧ i < Q) W2 Q ((b.drop 4).take 8) 0 → Calls Try.prog 33 #[.pointer (some ⟨Q, 0, none⟩)] W2 fun en w' => en = .returned (.int .u64 ((Pg.openN b : Nat) : Int)) ∧ Rd 84 (fun i => W1.heap.size ≤ i ∧ i < Q) w' Q (((b.drop 4).take 8).drop 8) 0 ∧ W2.grownBy w' (some Q)) := fun W2 h => by
            have hc1 := U64_any _ _ 0 _ _ h
            have hrn : Cod.rdNum 8 ((b.drop 4).take 8) 0 = (Pg.openN b, ((b.drop 4).take 8).drop 8, 0) := by
              have := HL.out
              unfold Cod.rdNum
              rw [if_neg (by simp), if_neg (by simp; omega), HN.out, List.take_take]
              rfl
            rw [hrn] at hc1
            exact hc1
          have HLD : Hid ((b.drop 12).length = 500) := by show _ = _; have := HL.out; simp; omega
          have HZ3 : Hid (W1.heap.size ≤ w3.heap.size) := by show _ ≤ _; have h1 := HR3.out.lt; have h2 := HQ1.out; omega
          generalize xs 0 = x0 at *
          generalize xs 1 = x1 at *
          generalize xs 2 = x2 at *
          generalize xs 3 = x3 at *
          generalize xs 4 = x4 at *
          go_upto_region 8 with (fail)
          refine Ord.walk (O8F Q g off cap (Pg.openN b)) (O8R w R W1.heap.size Q g off cap b) (fun _ _ => True)
            (by kernel_rfl) (by kernel_rfl) ?fr8 ?hfr8 o8f_later (fun xs => O8R.first xs HO3.out HB3.out HR3.out HZ3.out) ?he8 ?hend8
          case hfr8 =>
            intro xs
            simp only [Ord.fill, Act.put, List.setIfInBounds_toArray, List.set_cons_zero, List.set_cons_succ]
            rfl
          case he8 =>
            refine Ord.each_cons (fun D xs w2 hD hC hP hR hA K hK => ?_) ?_
            · -- 0
              clear hA
              go_simp
              exact hK _ _ ⟨_, rfl, trivial, hR.skip _ _ (by decide), rfl⟩
            refine Ord.each_cons (fun D xs w2 hD hC hP hR hA K hK => ?_) ?_
            · -- 1
              have q0 := Ord.ahead_get _ hA 0 (by decide)
              simp only [O8F] at q0
              simp only [q0] at hK
              clear hA
              have h6 : D 6 = false := by
                cases h : D 6 with
                | false => rfl
                | true => have := Ord.closed_at hC 6 1 rfl h; rw [hD] at this; cases this
              have h4 : D 4 = false := by
                cases h : D 4 with
                | false => rfl
                | true => have := Ord.closed_at hC 4 1 rfl h; rw [hD] at this; cases this
              go_simp
              refine (HU8.out w2 (hR.rd hD)).mono ?_
              rintro e w' ⟨rfl, -, hg⟩
              exact hK _ _ ⟨_, rfl, trivial, hR.one _ HQ1.out h4 h6 hg, rfl⟩
            refine Ord.each_cons (fun D xs w2 hD hC hP hR hA K hK => ?_) ?_
            · -- 2
              clear hA
              go_simp
              exact hK _ _ ⟨_, rfl, trivial, hR.skip _ _ (by decide), rfl⟩
            refine Ord.each_cons (fun D xs w2 hD hC hP hR hA K hK => ?_) ?_
            · -- 3
              have q2 := Ord.ahead_get _ hA 2 (by decide)
              simp only [O8F] at q2
              simp only [q2] at hK
              clear hA
              have hc4 := HC12.out
              go_simp
              exact hK _ _ ⟨_, rfl, trivial, hR.skip _ _ (by decide), rfl⟩
            refine Ord.each_cons (fun D xs w2 hD hC hP hR hA K hK => ?_) ?_
            · -- 4
              have q3 := Ord.ahead_get _ hA 3 (by decide)
              simp only [O8F] at q3
              simp only [q3] at hK
              clear hA
              have h6 : D 6 = false := by
                cases h : D 6 with
                | false => rfl
                | true => have := Ord.closed_at hC 6 4 rfl h; rw [hD] at this; cases this
              have h5 : D 5 = false := by
                cases h : D 5 with
                | false => rfl
                | true => have := Ord.closed_at hC 5 4 rfl h; rw [hD] at this; cases this
              go_simp
              refine (clone_any _ (b.drop 12) _ ((hR.bts h6).congr_drop 12 HL.out)).mono ?_
              rintro e w' ⟨u, rfl, hO, hb⟩
              exact hK _ _ ⟨_, rfl, trivial, hR.four h5 h6 HLD.out hO hb, trivial⟩
            refine Ord.each_cons (fun D xs w2 hD hC hP hR hA K hK => ?_) ?_
            · -- 5
              have q1 := Ord.ahead_get _ hA 1 (by decide)
              simp only [O8F] at q1
              simp only [q1] at hK
              clear hA
              have h6 : D 6 = false := by
                cases h : D 6 with
                | false => rfl
                | true => have := Ord.closed_at hC 6 5 rfl h; rw [hD] at this; cases this
              have h4 : D 4 = true := hP { on := 4, ground := .data } (by simp) rfl
              obtain ⟨p4, c4, e4, -⟩ := hR.a4 h4 h6
              have he := e4
              simp only [e4] at hK
              go_simp
              exact hK _ _ ⟨_, rfl, trivial, hR.five (by rw [he]), trivial⟩
            refine Ord.each_cons (fun D xs w2 hD hC hP hR hA K hK => ?_) ?_
            · -- 6
              clear hA
              have h5 : D 5 = true := hP { on := 5, ground := .data } (by simp) rfl
              have h4 : D 4 = true := hP { on := 4, ground := .chain } (by simp) rfl
              obtain ⟨p4, c4, e4, -⟩ := hR.a4 h4 hD
              have e5 := hR.a5 h5
              have hzz := (hR.opn hD).blk
              have c0 := cell2_0 hzz
              have c1 := cell2_1 hzz
              have f0 := free2 hzz 0
              have f1 := free2 hzz 1
              have hst := hR.six (u := undef) HQ1.out h4 hD
              rw [e4] at e5
              rw [e4] at hst
              simp only [e4, e5] at hK
              go_simp
              exact hK _ _ ⟨_, rfl, trivial, hst, trivial⟩
            refine Ord.each_cons (fun D xs w2 hD hC hP hR hA K hK => ?_) ?_
            · -- 7
              clear hA
              go_simp
              exact hK _ _ ⟨_, rfl, trivial, hR.skip _ _ (by decide), rfl⟩
            exact Ord.each_nil
          case hend8 =>
            intro D2 xs2 w4 hR2 hF
            have e7 := (hF 7 (by decide)).2
            simp only [O8F] at e7
            rw [e7]
            obtain ⟨u, hblk, hown, ⟨p5, c5, rfl⟩, hbel⟩ := hR2.a6 (hF 6 (by decide)).1
            have HV := Lib.hid hown
            have D3 := Lib.hid hbel
            have q0 := cell2_0 hblk
            have q1 := cell2_1 hblk
            clear e7 hF hR2 hblk hown hbel
            generalize xs2 0 = y0 at *
            generalize xs2 1 = y1 at *
            generalize xs2 2 = y2 at *
            generalize xs2 3 = y3 at *
            generalize xs2 4 = y4 at *
            generalize xs2 5 = y5 at *
            generalize xs2 6 = y6 at *
            go_wp2_with fail
            refine bodyPost_ret (v := .tuple #[PgV (Pg.openN b) (.slice p5 500 c5), .int .i64 0]) (by simp [results, Try.results10, go_sem, q0, q1]) rfl ⟨_, by rw [HEE.out]; rfl, ?_, D3.out⟩
            rw [HLL.out]
            exact HV.out.from (by have := HQ1.out; have := HR.out; omega)
      · have he : Pg.openE b = 14 := by rw [HE3.out, if_pos hs]
        have HEE := Lib.hid he
        have HNN := Lib.hid (Pg.openN_bad (b := b) (by rw [he]; decide))
        have HLL := Lib.hid (Pg.openL_bad (b := b) (by rw [he]; decide))
        have HC : Hid (((N : Int) != (M : Int)) = true) := by show _ = _; simp; omega
        have HC2 : Hid (((N : Int) == (M : Int)) = false) := by show _ = _; rw [beq_eq_false_iff_ne]; omega
        clear he HE3 hs
        go_upto_region 6 with (fail)
        refine Ord.walk (OpF Q g off cap N M true) (fun D _ w' => OpR w R W1.heap.size Q g off cap b D w') (fun _ _ => True)
          (by kernel_rfl) (by kernel_rfl) ?fr2 ?hfr2 opf_later (fun xs => HF0.out) ?he2 ?hend2
        case hfr2 =>
          intro xs
          simp only [Ord.fill, Act.put, List.setIfInBounds_toArray, List.set_cons_zero, List.set_cons_succ]
          rfl
        case he2 =>
          refine Ord.each_cons (fun D xs w2 hD hC hP hR hA K hK => ?_) ?_
          · -- 0
            clear hA
            go_simp
            exact hK _ _ ⟨_, rfl, trivial, hR.skip _ (by decide), rfl⟩
          refine Ord.each_cons (fun D xs w2 hD hC hP hR hA K hK => ?_) ?_
          · -- 1
            have q0 := Ord.ahead_get _ hA 0 (by decide)
            simp only [OpF] at q0
            simp only [q0] at hK
            clear hA
            go_simp
            refine (HU.out w2 (hR.r0 hD)).mono ?_
            rintro e w' ⟨rfl, hr, hg⟩
            exact hK _ _ ⟨_, rfl, trivial, hR.one HQ1.out hr hg, rfl⟩
          refine Ord.each_cons (fun D xs w2 hD hC hP hR hA K hK => ?_) ?_
          · -- 2
            clear hA
            go_simp
            exact hK _ _ ⟨_, rfl, trivial, hR.skip _ (by decide), rfl⟩
          refine Ord.each_cons (fun D xs w2 hD hC hP hR hA K hK => ?_) ?_
          · -- 3
            have q2 := Ord.ahead_get _ hA 2 (by decide)
            simp only [OpF] at q2
            simp only [q2] at hK
            clear hA
            have hc4 := HC4.out
            go_simp
            exact hK _ _ ⟨_, rfl, trivial, hR.skip _ (by decide), rfl⟩
          refine Ord.each_cons (fun D xs w2 hD hC hP hR hA K hK => ?_) ?_
          · -- 4
            have q3 := Ord.ahead_get _ hA 3 (by decide)
            simp only [OpF] at q3
            simp only [q3] at hK
            clear hA
            go_simp
            refine (sum_any _ _ _ (hR.bts.congr_drop 4 HL.out)).mono ?_
            rintro e w' ⟨rfl, hb⟩
            rw [← HM.out]
            exact hK _ _ ⟨_, rfl, trivial, (hR.later hb).skip _ (by decide), rfl⟩
          refine Ord.each_cons (fun D xs w2 hD hC hP hR hA K hK => ?_) ?_
          · -- 5
            have q1 := Ord.ahead_get _ hA 1 (by decide)
            simp only [OpF] at q1
            have q4 := Ord.ahead_get _ hA 4 (by decide)
            simp only [OpF] at q4
            simp only [q1, q4] at hK
            clear hA
            have hc := HC.out
            have hc2 := HC2.out
            go_simp
            all_goals exact hK _ _ ⟨_, rfl, trivial, hR.skip _ (by decide), rfl⟩
          exact Ord.each_nil
        case hend2 =>
          intro D xs w3 hR2 hF
          have e5 := (hF 5 (by decide)).2
          have hd1 := (hF 1 (by decide)).1
          simp only [OpF] at e5
          rw [e5]
          have HR3 := Lib.hid (hR2.r1 hd1)
          have HO3 := Lib.hid hR2.opn
          have HB3 := Lib.hid hR2.bts
          clear e5 hF hR2 hd1
          have c0 := cell2_0 HO3.out.blk
          have c1 := cell2_1 HO3.out.blk
          have f0 := free2 HO3.out.blk 0
          have f1 := free2 HO3.out.blk 1
          obtain ⟨d1, d2, d3⟩ := HO3.out.done (.int .u64 0) (.slice none 0 0)
          have q0 := cell2_0 d1
          have q1 := cell2_1 d1
          have D2 := Lib.hid d2
          have D3 := Lib.hid d3
          clear d1 d2 d3
          go_wp2_with fail
          refine bodyPost_ret (v := .tuple #[PgV 0 (.slice none 0 0), .int .i64 14]) (by simp [results, Try.results10, go_sem, q0, q1]) rfl ⟨_, by rw [HEE.out, HNN.out]; rfl, by rw [HLL.out]; exact own_nil _ _, D3.out⟩
  · have he : Pg.openE b = 2 := by unfold Pg.openE; rw [if_pos hl]
    have hi : ¬ (b.length : Int) = 512 := by omega
    have h2 : ((b.length : Int) != 512) = true := by simp; omega
    rw [he, Pg.openN_bad (by rw [he]; decide), Pg.openL_bad (by rw [he]; decide)]
    clear hp hB hR he hl
    go_enter Try.func10, Try.ntmps10
    go_upto_region 1 with (fail)
    rw [← hW, ← HR.out]
    have c0 := cell2_0 hO.blk
    have c1 := cell2_1 hO.blk
    have f0 := free2 hO.blk 0
    have f1 := free2 hO.blk 1
    obtain ⟨d1, d2, d3⟩ := hO.done (.int .u64 0) (.slice none 0 0)
    have q0 := cell2_0 d1
    have q1 := cell2_1 d1
    have D3 := Lib.hid d3
    clear hO d1 d2 d3 hW
    go_wp2_with fail
    refine bodyPost_ret (v := .tuple #[PgV 0 (.slice none 0 0), .int .i64 2]) (by simp [results, Try.results10, go_sem, q0, q1]) rfl ⟨_, rfl, own_nil _ _, D3.out⟩
end Go.Proofs.Ytkmkbjjpbodbfaa
