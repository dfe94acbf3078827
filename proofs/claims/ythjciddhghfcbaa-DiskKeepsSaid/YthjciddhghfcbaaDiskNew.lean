/- What the document's New answers. Conditions: none. -/
import Derived.Test.YthjciddhghfcbaaDiskSync
import Derived.Test.YthjciddhghfcbaaOrd
import Derived.Laws.OwnMore
namespace Go.Proofs.Ythjciddhghfcbaa
open Go.RowKit

theorem refBlank_any (w : World) : Calls Try.prog 26 #[] w fun e w' => e = .returned (sv Dk.blank) ∧ w' = w := by
  have hs : sv Dk.blank = .string ⟨(List.replicate 128 (0 : UInt8)).toArray⟩ := by
    unfold sv Dk.blank strOfNums
    simp
  rw [hs]
  go_enter Try.func26, Try.ntmps26
  go_wp2
  go_ret
  exact ⟨rfl, rfl⟩

theorem made_one (z : Value) (n : Nat) : madeCells #[z] n = (List.replicate n z).toArray := by
  apply Array.ext'
  rw [toList_madeCells_one]
theorem infoS : (Try.prog.info? 9).map (fun i => (i.zero, i.size, i.bytes)) = some (some (.string { data := #[] }), 1, 16) := by kernel_rfl
theorem infoB : (Try.prog.info? 4).map (fun i => (i.zero, i.size, i.bytes)) = some (some (.bool false), 1, 1) := by kernel_rfl
theorem made_strs (n : Nat) (hn : n ≤ 65536) (W : World) : (Instr.makeSlice 58 (.int .i64 (n : Int)) (.int .i64 (n : Int))).run Try.prog W = .ok (.slice (some ⟨W.heap.size, 0, none⟩) n n) (W.alloc (.cells (List.replicate n (.string { data := #[] })).toArray 9)) := by
  obtain ⟨i0, hi, hz0, hz1, hz2⟩ := info_parts infoS
  have h := run_makeSlice (P := Try.prog) W 58 9 i0 _ Try.underlying58 hi hz0 .i64 .i64 n n (by omega) (Int.le_refl _) (by rw [hz1]; omega) (by rw [hz2]; omega) (by omega)
  rw [Int.toNat_natCast, hz1, Nat.mul_one] at h
  rw [h]
  congr 3
  exact made_one _ n
theorem made_bools (n : Nat) (hn : n ≤ 65536) (W : World) : (Instr.makeSlice 59 (.int .i64 (n : Int)) (.int .i64 (n : Int))).run Try.prog W = .ok (.slice (some ⟨W.heap.size, 0, none⟩) n n) (W.alloc (.cells (List.replicate n (.bool false)).toArray 4)) := by
  obtain ⟨i0, hi, hz0, hz1, hz2⟩ := info_parts infoB
  have h := run_makeSlice (P := Try.prog) W 59 4 i0 _ Try.underlying59 hi hz0 .i64 .i64 n n (by omega) (Int.le_refl _) (by rw [hz1]; omega) (by rw [hz2]; omega) (by omega)
  rw [Int.toNat_natCast, hz1, Nat.mul_one] at h
  rw [h]
  congr 3
  exact made_one _ n

/-- A slice of noughts of the call's own. -/
def NwS (W w : World) (n : Nat) (z : Value) (T : TypeId) (v : Value) : Prop := ∃ g, v = .slice (some ⟨g, 0, none⟩) n n ∧ W.heap.size ≤ g ∧ w.heap[g]? = some (.cells (List.replicate n z).toArray T (0, 0))
theorem NwS.below {W w w' : World} {n : Nat} {z : Value} {T : TypeId} {v : Value} (h : NwS W w n z T v) (hb : Below w.heap.size w w') : NwS W w' n z T v := by
  obtain ⟨g, h1, h2, h3⟩ := h
  exact ⟨g, h1, h2, by rw [hb.block g (lt_of_block h3)]; exact h3⟩
theorem NwS.lt {W w : World} {n : Nat} {z : Value} {T : TypeId} {v : Value} (h : NwS W w n z T v) : v.ownBlock ≠ some w.heap.size := by
  obtain ⟨g, rfl, _, h3⟩ := h
  intro e
  simp only [Value.ownBlock, Option.some.injEq] at e
  have := lt_of_block h3
  omega
theorem nws_new (W w : World) (n : Nat) (z : Value) (T : TypeId) (h : W.heap.size ≤ w.heap.size) : NwS W (w.alloc (.cells (List.replicate n z).toArray T)) n z T (.slice (some ⟨w.heap.size, 0, none⟩) n n) := ⟨_, rfl, h, heap_alloc_last _ _⟩

/-- The device's own cells. -/
def nwCells (a b c : Value) (most : Nat) : Array Value := #[a, b, c, .int .i64 (most : Int), .int .i64 0, .bool false]

/-- What stands while New's makings are under way. -/
structure NwR (W : World) (n most : Nat) (D : Nat → Bool) (xs : Nat → Value) (w : World) : Prop where
  bel : Below W.heap.size W w
  a1 : D 1 = true → NwS W w n (.string { data := #[] }) 9 (xs 1)
  a3 : D 3 = true → NwS W w n (.string { data := #[] }) 9 (xs 3)
  a5 : D 5 = true → NwS W w n (.bool false) 4 (xs 5)
  n13 : D 1 = true → D 3 = true → (xs 1).ownBlock ≠ (xs 3).ownBlock
  n15 : D 1 = true → D 5 = true → (xs 1).ownBlock ≠ (xs 5).ownBlock
  n35 : D 3 = true → D 5 = true → (xs 3).ownBlock ≠ (xs 5).ownBlock
  a7 : D 7 = true → xs 7 = .agg (nwCells (xs 1) (xs 3) (xs 5) most)
  a8 : D 8 = true → ∃ B, xs 8 = .pointer (some ⟨B, 0, none⟩) ∧ W.heap.size ≤ B ∧ w.heap[B]? = some (.cells (nwCells (xs 1) (xs 3) (xs 5) most) 61 (0, 0)) ∧ (xs 1).ownBlock ≠ some B ∧ (xs 3).ownBlock ≠ some B ∧ (xs 5).ownBlock ≠ some B
  a9 : D 9 = true → xs 9 = xs 8

def NwF (n most : Nat) (i : Nat) (x : Value) (_ : World) : Prop :=
  match i with
  | 0 => x = .int .i64 (n : Int)
  | 2 => x = .int .i64 (n : Int)
  | 4 => x = .int .i64 (n : Int)
  | 6 => x = .int .i64 (most : Int)
  | _ => True

section
variable {W : World} {n most : Nat} {D : Nat → Bool} {xs : Nat → Value} {w w' : World} {u : Value}
theorem NwR.skip (h : NwR W n most D xs w) (hb : Below w.heap.size w w') (j : Nat) (hj : (j != 1 && j != 3 && j != 5 && j != 7 && j != 8 && j != 9) = true) : NwR W n most (Ord.wth D j) (Ord.set xs j u) w' := by
  simp only [Bool.and_eq_true, bne_iff_ne] at hj
  obtain ⟨⟨⟨⟨⟨n1, n3⟩, n5⟩, n7⟩, n8⟩, n9⟩ := hj
  have g : ∀ i, j ≠ i → Ord.wth D j i = D i ∧ Ord.set xs j u i = xs i := fun i hi => by
    unfold Ord.wth Ord.set
    exact ⟨if_neg (Ne.symm hi), if_neg (Ne.symm hi)⟩
  constructor
  · exact h.bel.trans (hb.mono h.bel.size)
  · rw [(g 1 n1).1, (g 1 n1).2]; exact fun a => (h.a1 a).below hb
  · rw [(g 3 n3).1, (g 3 n3).2]; exact fun a => (h.a3 a).below hb
  · rw [(g 5 n5).1, (g 5 n5).2]; exact fun a => (h.a5 a).below hb
  · rw [(g 1 n1).1, (g 1 n1).2, (g 3 n3).1, (g 3 n3).2]; exact h.n13
  · rw [(g 1 n1).1, (g 1 n1).2, (g 5 n5).1, (g 5 n5).2]; exact h.n15
  · rw [(g 3 n3).1, (g 3 n3).2, (g 5 n5).1, (g 5 n5).2]; exact h.n35
  · rw [(g 7 n7).1, (g 7 n7).2, (g 1 n1).2, (g 3 n3).2, (g 5 n5).2]; exact h.a7
  · rw [(g 8 n8).1, (g 8 n8).2, (g 1 n1).2, (g 3 n3).2, (g 5 n5).2]
    intro a
    obtain ⟨B, h1, h2, h3, h4⟩ := h.a8 a
    exact ⟨B, h1, h2, by rw [hb.block B (lt_of_block h3)]; exact h3, h4⟩
  · rw [(g 9 n9).1, (g 9 n9).2, (g 8 n8).2]; exact h.a9
theorem NwR.op1 (h : NwR W n most D xs w) (h7 : D 7 = false) (h8 : D 8 = false) : NwR W n most (Ord.wth D 1) (Ord.set xs 1 (.slice (some ⟨w.heap.size, 0, none⟩) n n)) (w.alloc (.cells (List.replicate n (.string { data := #[] })).toArray 9)) where
  bel := h.bel.alloc h.bel.size _
  a1 := fun _ => nws_new _ _ _ _ _ h.bel.size
  a3 := fun a => (h.a3 a).below ((Below.refl _ _).alloc (Nat.le_refl _) _)
  a5 := fun a => (h.a5 a).below ((Below.refl _ _).alloc (Nat.le_refl _) _)
  n13 := fun _ a e => (h.a3 a).lt e.symm
  n15 := fun _ a e => (h.a5 a).lt e.symm
  n35 := h.n35
  a7 := fun (a : D 7 = true) => by rw [h7] at a; cases a
  a8 := fun (a : D 8 = true) => by rw [h8] at a; cases a
  a9 := h.a9
theorem NwR.op3 (h : NwR W n most D xs w) (h7 : D 7 = false) (h8 : D 8 = false) : NwR W n most (Ord.wth D 3) (Ord.set xs 3 (.slice (some ⟨w.heap.size, 0, none⟩) n n)) (w.alloc (.cells (List.replicate n (.string { data := #[] })).toArray 9)) where
  bel := h.bel.alloc h.bel.size _
  a1 := fun a => (h.a1 a).below ((Below.refl _ _).alloc (Nat.le_refl _) _)
  a3 := fun _ => nws_new _ _ _ _ _ h.bel.size
  a5 := fun a => (h.a5 a).below ((Below.refl _ _).alloc (Nat.le_refl _) _)
  n13 := fun a _ e => (h.a1 a).lt e
  n15 := h.n15
  n35 := fun _ a e => (h.a5 a).lt e.symm
  a7 := fun (a : D 7 = true) => by rw [h7] at a; cases a
  a8 := fun (a : D 8 = true) => by rw [h8] at a; cases a
  a9 := h.a9
theorem NwR.op5 (h : NwR W n most D xs w) (h7 : D 7 = false) (h8 : D 8 = false) : NwR W n most (Ord.wth D 5) (Ord.set xs 5 (.slice (some ⟨w.heap.size, 0, none⟩) n n)) (w.alloc (.cells (List.replicate n (.bool false)).toArray 4)) where
  bel := h.bel.alloc h.bel.size _
  a1 := fun a => (h.a1 a).below ((Below.refl _ _).alloc (Nat.le_refl _) _)
  a3 := fun a => (h.a3 a).below ((Below.refl _ _).alloc (Nat.le_refl _) _)
  a5 := fun _ => nws_new _ _ _ _ _ h.bel.size
  n13 := h.n13
  n15 := fun a _ e => (h.a1 a).lt e
  n35 := fun a _ e => (h.a3 a).lt e
  a7 := fun (a : D 7 = true) => by rw [h7] at a; cases a
  a8 := fun (a : D 8 = true) => by rw [h8] at a; cases a
  a9 := h.a9
theorem NwR.op7 (h : NwR W n most D xs w) (h8 : D 8 = false) (he : u = .agg (nwCells (xs 1) (xs 3) (xs 5) most)) : NwR W n most (Ord.wth D 7) (Ord.set xs 7 u) w where
  bel := h.bel
  a1 := h.a1
  a3 := h.a3
  a5 := h.a5
  n13 := h.n13
  n15 := h.n15
  n35 := h.n35
  a7 := fun _ => he
  a8 := fun (a : D 8 = true) => by rw [h8] at a; cases a
  a9 := h.a9
theorem NwR.op8 (h : NwR W n most D xs w) (h9 : D 9 = false) (h1 : D 1 = true) (h3 : D 3 = true) (h5 : D 5 = true) : NwR W n most (Ord.wth D 8) (Ord.set xs 8 (.pointer (some ⟨w.heap.size, 0, none⟩))) (w.alloc (.cells (nwCells (xs 1) (xs 3) (xs 5) most) 61)) where
  bel := h.bel.alloc h.bel.size _
  a1 := fun a => (h.a1 a).below ((Below.refl _ _).alloc (Nat.le_refl _) _)
  a3 := fun a => (h.a3 a).below ((Below.refl _ _).alloc (Nat.le_refl _) _)
  a5 := fun a => (h.a5 a).below ((Below.refl _ _).alloc (Nat.le_refl _) _)
  n13 := h.n13
  n15 := h.n15
  n35 := h.n35
  a7 := h.a7
  a8 := fun _ => ⟨_, rfl, h.bel.size, heap_alloc_last _ _, (h.a1 h1).lt, (h.a3 h3).lt, (h.a5 h5).lt⟩
  a9 := fun (a : D 9 = true) => by rw [h9] at a; cases a
theorem NwR.op9 (h : NwR W n most D xs w) : NwR W n most (Ord.wth D 9) (Ord.set xs 9 (xs 8)) w where
  bel := h.bel
  a1 := h.a1
  a3 := h.a3
  a5 := h.a5
  n13 := h.n13
  n15 := h.n15
  n35 := h.n35
  a7 := h.a7
  a8 := h.a8
  a9 := fun _ => rfl
end

def badNew (n most : Int) : Prop := n < 1 ∨ 65536 < n ∨ most < 0 ∨ n < most

theorem refNew_bad (n most : Int) (w : World) (h : badNew n most) : Calls Try.prog 11 #[.int .i64 n, .int .i64 most] w fun e w' => e = .returned (.pointer none) ∧ w' = w := by
  by_cases h1 : n < 1
  · go_enter Try.func11, Try.ntmps11
    go_wp2
    go_ret
    exact ⟨rfl, rfl⟩
  have e1 : 1 ≤ n := by omega
  by_cases h2 : 65536 < n
  · go_enter Try.func11, Try.ntmps11
    go_wp2
    go_ret
    exact ⟨rfl, rfl⟩
  have e2 : n ≤ 65536 := by omega
  by_cases h3 : most < 0
  · go_enter Try.func11, Try.ntmps11
    go_wp2
    go_ret
    exact ⟨rfl, rfl⟩
  have e3 : 0 ≤ most := by omega
  have e4 : n < most := by unfold badNew at h; omega
  go_enter Try.func11, Try.ntmps11
  go_wp2
  go_ret
  exact ⟨rfl, rfl⟩

set_option maxHeartbeats 1600000 in
set_option maxRecDepth 20000 in
theorem refNew_good (n most : Nat) (w : World) (h1 : 1 ≤ n) (h2 : n ≤ 65536) (h3 : most ≤ n) : Calls Try.prog 11 #[.int .i64 n, .int .i64 most] w fun e w' =>
    ∃ B g1 g2 g3, e = .returned (.pointer (some ⟨B, 0, none⟩)) ∧ RDev w' B g1 g2 g3 (Dk.fresh n most) ∧ (∀ i, RS B g1 g2 g3 i → w.heap.size ≤ i) ∧ Below w.heap.size w w' := by
  have e1 : (1 : Int) ≤ (n : Int) := by omega
  have e2 : (n : Int) ≤ 65536 := by omega
  have e3 : (0 : Int) ≤ (most : Int) := by omega
  have e4 : (most : Int) ≤ (n : Int) := by omega
  have HMS := Lib.hid (made_strs n h2)
  have HMB := Lib.hid (made_bools n h2)
  go_enter Try.func11, Try.ntmps11
  go_wp2_with fail
  go_upto_region 3 with (fail)
  have H1 := Lib.hid h1
  have H2 := Lib.hid h2
  have H3 := Lib.hid h3
  clear e1 e2 e3 e4 h1 h2 h3
  generalize decide ((n : Int) < 1) = z1
  generalize decide (65536 < (n : Int)) = z2
  generalize decide ((most : Int) < 0) = z3
  generalize decide (n < most) = z4
  refine Ord.walk (NwF n most) (NwR w n most) (fun _ _ => True)
    (by kernel_rfl) (by kernel_rfl) ?fr ?hfr (fun _ _ _ _ _ h => h) ?hs ?he ?hend
  case hs =>
    intro xs
    exact ⟨new_drew w, (fun h => by cases h), (fun h => by cases h), (fun h => by cases h), (fun h => by cases h), (fun h => by cases h), (fun h => by cases h), (fun h => by cases h), (fun h => by cases h), (fun h => by cases h)⟩
  case hfr =>
    intro xs
    simp only [Ord.fill, Act.put, List.setIfInBounds_toArray, List.set_cons_zero, List.set_cons_succ]
    rfl
  case he =>
    refine Ord.each_cons (fun D xs w2 hD hC hP hR hA K hK => ?_) ?_
    · -- 0
      clear hA
      have hD' : D 0 = false := hD
      go_simp
      exact hK _ _ ⟨_, rfl, trivial, hR.skip (Below.refl _ _) _ (by decide), rfl⟩
    refine Ord.each_cons (fun D xs w2 hD hC hP hR hA K hK => ?_) ?_
    · -- 1
      have q0 := Ord.ahead_get _ hA 0 (by decide)
      simp only [NwF] at q0
      simp only [q0] at hK
      clear hA
      have hD' : D 1 = false := hD
      have h7 : D 7 = false := by
        cases h : D 7
        · rfl
        · have := Ord.closed_at hC 7 1 (by kernel_rfl) h
          rw [hD'] at this; cases this
      have h8 : D 8 = false := by
        cases h : D 8
        · rfl
        · have := Ord.closed_at hC 8 7 (by kernel_rfl) h
          rw [h7] at this; cases this
      go_simp
      rw [HMS.out]
      exact hK _ _ ⟨_, rfl, trivial, hR.op1 h7 h8, trivial⟩
    refine Ord.each_cons (fun D xs w2 hD hC hP hR hA K hK => ?_) ?_
    · -- 2
      clear hA
      have hD' : D 2 = false := hD
      go_simp
      exact hK _ _ ⟨_, rfl, trivial, hR.skip (Below.refl _ _) _ (by decide), rfl⟩
    refine Ord.each_cons (fun D xs w2 hD hC hP hR hA K hK => ?_) ?_
    · -- 3
      have q2 := Ord.ahead_get _ hA 2 (by decide)
      simp only [NwF] at q2
      simp only [q2] at hK
      clear hA
      have hD' : D 3 = false := hD
      have h7 : D 7 = false := by
        cases h : D 7
        · rfl
        · have := Ord.closed_at hC 7 3 (by kernel_rfl) h
          rw [hD'] at this; cases this
      have h8 : D 8 = false := by
        cases h : D 8
        · rfl
        · have := Ord.closed_at hC 8 7 (by kernel_rfl) h
          rw [h7] at this; cases this
      go_simp
      rw [HMS.out]
      exact hK _ _ ⟨_, rfl, trivial, hR.op3 h7 h8, trivial⟩
    refine Ord.each_cons (fun D xs w2 hD hC hP hR hA K hK => ?_) ?_
    · -- 4
      clear hA
      have hD' : D 4 = false := hD
      go_simp
      exact hK _ _ ⟨_, rfl, trivial, hR.skip (Below.refl _ _) _ (by decide), rfl⟩
    refine Ord.each_cons (fun D xs w2 hD hC hP hR hA K hK => ?_) ?_
    · -- 5
      have q4 := Ord.ahead_get _ hA 4 (by decide)
      simp only [NwF] at q4
      simp only [q4] at hK
      clear hA
      have hD' : D 5 = false := hD
      have h7 : D 7 = false := by
        cases h : D 7
        · rfl
        · have := Ord.closed_at hC 7 5 (by kernel_rfl) h
          rw [hD'] at this; cases this
      have h8 : D 8 = false := by
        cases h : D 8
        · rfl
        · have := Ord.closed_at hC 8 7 (by kernel_rfl) h
          rw [h7] at this; cases this
      go_simp
      rw [HMB.out]
      exact hK _ _ ⟨_, rfl, trivial, hR.op5 h7 h8, trivial⟩
    refine Ord.each_cons (fun D xs w2 hD hC hP hR hA K hK => ?_) ?_
    · -- 6
      clear hA
      have hD' : D 6 = false := hD
      go_simp
      exact hK _ _ ⟨_, rfl, trivial, hR.skip (Below.refl _ _) _ (by decide), rfl⟩
    refine Ord.each_cons (fun D xs w2 hD hC hP hR hA K hK => ?_) ?_
    · -- 7
      have q6 := Ord.ahead_get _ hA 6 (by decide)
      simp only [NwF] at q6
      simp only [q6] at hK
      clear hA
      have hD' : D 7 = false := hD
      have h8 : D 8 = false := by
        cases h : D 8
        · rfl
        · have := Ord.closed_at hC 8 7 (by kernel_rfl) h
          rw [hD'] at this; cases this
      have h1 : D 1 = true := hP { on := 1, ground := .data } (by simp) rfl
      have h3 : D 3 = true := hP { on := 3, ground := .data } (by simp) rfl
      have h5 : D 5 = true := hP { on := 5, ground := .data } (by simp) rfl
      obtain ⟨p1, e1, -, -⟩ := hR.a1 h1
      obtain ⟨p3, e3, -, -⟩ := hR.a3 h3
      obtain ⟨p5, e5, -, -⟩ := hR.a5 h5
      have he1 := e1
      have he3 := e3
      have he5 := e5
      simp only [e1, e3, e5] at hK
      go_simp
      exact hK _ _ ⟨_, rfl, trivial, hR.op7 h8 (by rw [he1, he3, he5]; rfl), trivial⟩
    refine Ord.each_cons (fun D xs w2 hD hC hP hR hA K hK => ?_) ?_
    · -- 8
      clear hA
      have hD' : D 8 = false := hD
      have h7 : D 7 = true := hP { on := 7, ground := .data } (by simp) rfl
      have h9 : D 9 = false := by
        cases h : D 9
        · rfl
        · have := Ord.closed_at hC 9 8 (by kernel_rfl) h
          rw [hD'] at this; cases this
      have h1 : D 1 = true := Ord.closed_at hC 7 1 (by kernel_rfl) h7
      have h3 : D 3 = true := Ord.closed_at hC 7 3 (by kernel_rfl) h7
      have h5 : D 5 = true := Ord.closed_at hC 7 5 (by kernel_rfl) h7
      obtain ⟨p1, e1, -, -⟩ := hR.a1 h1
      obtain ⟨p3, e3, -, -⟩ := hR.a3 h3
      obtain ⟨p5, e5, -, -⟩ := hR.a5 h5
      have he1 := e1
      have he3 := e3
      have he5 := e5
      have e7 := hR.a7 h7
      unfold nwCells at e7
      rw [e1, e3, e5] at e7
      simp only [e1, e3, e5, e7] at hK
      have hN := hR.op8 h9 h1 h3 h5
      unfold nwCells at hN
      rw [he1, he3, he5] at hN
      go_simp
      exact hK _ _ ⟨_, rfl, trivial, hN, trivial⟩
    refine Ord.each_cons (fun D xs w2 hD hC hP hR hA K hK => ?_) ?_
    · -- 9
      clear hA
      have hD' : D 9 = false := hD
      go_simp
      exact hK _ _ ⟨_, rfl, trivial, hR.op9, trivial⟩
    exact Ord.each_nil
  case hend =>
    intro D xs w2 hR hF
    obtain ⟨g1, e1, l1, r1⟩ := hR.a1 (hF 1 (by decide)).1
    obtain ⟨g2, e3, l2, r2⟩ := hR.a3 (hF 3 (by decide)).1
    obtain ⟨g3, e5, l3, r3⟩ := hR.a5 (hF 5 (by decide)).1
    have n12 : g1 ≠ g2 := fun e => hR.n13 (hF 1 (by decide)).1 (hF 3 (by decide)).1 (by rw [e1, e3, e])
    have n13 : g1 ≠ g3 := fun e => hR.n15 (hF 1 (by decide)).1 (hF 5 (by decide)).1 (by rw [e1, e5, e])
    have n23 : g2 ≠ g3 := fun e => hR.n35 (hF 3 (by decide)).1 (hF 5 (by decide)).1 (by rw [e3, e5, e])
    obtain ⟨B, e8, lB, rB, m1, m2, m3⟩ := hR.a8 (hF 8 (by decide)).1
    have e9 := hR.a9 (hF 9 (by decide)).1
    rw [e8] at e9
    have b1 : B ≠ g1 := fun e => m1 (by rw [e1, e]; rfl)
    have b2 : B ≠ g2 := fun e => m2 (by rw [e3, e]; rfl)
    have b3 : B ≠ g3 := fun e => m3 (by rw [e5, e]; rfl)
    rw [e1, e3, e5] at rB
    unfold nwCells at rB
    have HBW := Lib.hid hR.bel
    simp only [e9]
    generalize hz : xs 0 = z00
    generalize hz : xs 1 = z01
    generalize hz : xs 2 = z02
    generalize hz : xs 3 = z03
    generalize hz : xs 4 = z04
    generalize hz : xs 5 = z05
    generalize hz : xs 6 = z06
    generalize hz : xs 7 = z07
    generalize hz : xs 8 = z08
    rw [show (List.replicate n (Value.string { data := #[] })).toArray = ((List.replicate n []).map sv).toArray by rw [List.map_replicate]; rfl] at r1
    have R1 := Lib.hid r1
    have R2 := Lib.hid r2
    have R3 := Lib.hid r3
    have RB := Lib.hid rB
    have N12 := Lib.hid n12
    have N13 := Lib.hid n13
    have N23 := Lib.hid n23
    have B1 := Lib.hid b1
    have B2 := Lib.hid b2
    have B3 := Lib.hid b3
    have L1 := Lib.hid l1
    have L2 := Lib.hid l2
    have L3 := Lib.hid l3
    have LB := Lib.hid lB
    clear hR hF e1 e3 e5 e8 e9 m1 m2 m3 r1 r2 r3 rB n12 n13 n23 b1 b2 b3 l1 l2 l3 lB HMS HMB
    have HBK := Lib.hid refBlank_any
    have hn65 := H2.out
    go_wp2_with fail
    go_loopw [6] (fun i wr => ∃ k : Nat, k ≤ n ∧ i = .int .i64 k ∧ wr.heap[g1]? = some (.cells (((List.replicate n Dk.blank).take k ++ (List.replicate n []).drop k).map sv).toArray 9 (0, 0)) ∧ Touch (fun j => j = g1) w2 wr) (fun i _ => n - (intOf i).toNat)
    case atStart => exact ⟨0, Nat.zero_le _, rfl, R1.out, .refl _ _⟩
    case round =>
      obtain ⟨k, hk, rfl, hG, hT⟩ := hrel
      have HG := Lib.hid hG
      have HT := Lib.hid hT
      have hbk := hT.row RB.out B1.out
      clear hG hT
      by_cases hlt : k < n
      · have hki : (k : Int) < (n : Int) := by omega
        have c0 := blk_cell hbk 0 (v := .slice (some ⟨g1, 0, none⟩) n n) rfl
        clear hbk
        go_upto_region 7 with (fail)
        go_still_tail 7, (by kernel_rfl)
        still_call (HBK.out _)
        repeat still_step
        refine wpStill_nil ?_
        have HG2 := Lib.hid (show (wr.drew).heap[g1]? = _ from HG.out)
        have HT2 := Lib.hid (HT.out.drew)
        change wpList _ _ _ _ _ wr.drew
        clear c0
        generalize wr.drew = w3 at HG2 HT2 ⊢
        have hlen : k < ((List.replicate n Dk.blank).take k ++ (List.replicate n []).drop k).length := by simp; omega
        have c1 := blk_at HG2.out [] hlen
        have f1 := blk_free HG2.out k
        have hm := blk_map (i := k) HG2.out Dk.blank
        rw [Dk.set_mid (List.replicate n Dk.blank) (List.replicate n []) k Dk.blank (by simp; omega) (by simp; omega) (by rw [List.getElem?_replicate]; simp; omega)] at hm
        have HM := Lib.hid hm
        have HT3 := Lib.hid (HT2.out.trans (.set g1 k (sv Dk.blank) rfl))
        clear hm hlen
        obtain ⟨S, hS⟩ : ∃ S, sv Dk.blank = .string S := ⟨_, rfl⟩
        rw [hS] at HM HT3 ⊢
        clear hS
        go_wp2_with fail
        go_roundw
        case rel => exact ⟨k + 1, by omega, by go_num, HM.out, HT3.out⟩
        case measure => simp [intOf]; omega
      · obtain rfl : k = n := by omega
        have hG := HG.out
        rw [List.take_of_length_le (by simp), List.drop_of_length_le (by simp), List.append_nil] at hG
        have c0 := blk_cell hbk 0 (v := .slice (some ⟨g1, 0, none⟩) k k) rfl
        clear hbk
        go_wp2_with fail
        go_ret
        have hsz : Dk.size (Dk.fresh k most) = k := by simp [Dk.size, Dk.fresh]
        refine ⟨B, g1, g2, g3, rfl, ⟨?_, hG, ?_, ?_, B1.out, B2.out, B3.out, N12.out, N13.out, N23.out, Dk.ok_fresh k most, Nat.zero_le _, ?_, ?_⟩, ?_, ?_⟩
        · rw [hsz]; exact HT.out.row RB.out B1.out
        · have h := HT.out.row R2.out (fun e => N12.out e.symm)
          rw [h]
          show _ = some (Obj.cells ((List.replicate k none).map wv).toArray _ _)
          rw [List.map_replicate]
          rfl
        · have h := HT.out.row R3.out (fun e => N13.out e.symm)
          rw [h]
          show _ = some (Obj.cells ((List.replicate k false).map Value.bool).toArray _ _)
          rw [List.map_replicate]
        · rw [hsz]; exact H3.out
        · rw [hsz]; exact H2.out
        · rintro i (rfl | rfl | rfl | rfl)
          · exact LB.out
          · exact L1.out
          · exact L2.out
          · exact L3.out
        · have hb2 : Below w.heap.size w2 wr := HT.out.below (fun i e => by rw [e]; exact L1.out) HBW.out.size
          exact HBW.out.trans hb2
end Go.Proofs.Ythjciddhghfcbaa
