/- Another device just like it, by the program. Conditions: the device's blocks. -/
import Derived.Test.YthjciddhghfcbaaDiskSmall
import Derived.Test.YthjciddhghfcbaaDiskLay
import Derived.Test.YthjciddhghfcbaaOrd
import Derived.Shelf.SlMaps.Clone
namespace Go.Proofs.Ythjciddhghfcbaa
open Go.RowKit Go.Shelf

/-- A map that is cloned. -/
theorem clone_call {m : Nat} {L : List (Option (List Nat))} {w : World} (h : MapAt w m L) : Calls Try.prog 40 #[.map (some m)] w fun e w' =>
    e = .returned (.map (some w.heap.size)) ∧ MapAt w' w.heap.size L ∧ Below w.heap.size w w' :=
  (AnyW.maps_Clone_owns cloneM_lays 3 secR m _ (mapD L) w h.own).mono fun _ _ ⟨he, h1, _, h3⟩ => ⟨he, ⟨h1, h.len⟩, h3⟩

/-- A clone that is there, behind block C. -/
def Clo (C : Nat) (L : List (Option (List Nat))) (x : Value) (w : World) : Prop := ∃ m, x = .map (some m) ∧ C < m ∧ MapAt w m L
theorem Clo.touch {C : Nat} {L : List (Option (List Nat))} {x : Value} {w w' : World} (h : Clo C L x w) (ht : Touch (· = C) w w') : Clo C L x w' := by
  obtain ⟨m, h1, h2, h3⟩ := h
  exact ⟨m, h1, h2, h3.touch ht (fun e => by omega)⟩
def Cp (B m1 m2 C : Nat) (L1 L2 : List (Option (List Nat))) (k : Nat) (x : Value) (w : World) : Prop :=
  match k with
  | 0 => x = .pointer (some ⟨B, 0, none⟩)
  | 1 => x = .pointer (some ⟨B, 0, none⟩)
  | 2 => x = .pointer (some ⟨B, 2, none⟩)
  | 3 => x = .map (some m1)
  | 4 => Clo C L1 x w
  | 5 => x = .pointer (some ⟨B, 0, none⟩)
  | 6 => x = .pointer (some ⟨B, 0, none⟩)
  | 7 => x = .pointer (some ⟨B, 3, none⟩)
  | 8 => x = .map (some m2)
  | 9 => Clo C L2 x w
  | 10 => x = .pointer (some ⟨C, 2, none⟩)
  | 12 => x = .pointer (some ⟨C, 3, none⟩)
  | _ => True
theorem cp_later {B m1 m2 C : Nat} {L1 L2 : List (Option (List Nat))} (k : Nat) (x : Value) (w w' : World) (ht : Touch (· = C) w w') (h : Cp B m1 m2 C L1 L2 k x w) : Cp B m1 m2 C L1 L2 k x w' := by
  unfold Cp at *
  split at h <;> first | exact h | exact h.touch ht
/-- What is so between its operations. -/
structure CpR (W : World) (C : Nat) (d : Dk.Dev) (D : Nat → Bool) (xs : Nat → Value) (w : World) : Prop where
  t : Touch (· = C) W w
  row : ∃ c2 c3, w.heap[C]? = some (.cells #[.int .i64 (Dk.size d : Int), .int .i64 (d.most : Int), c2, c3, .int .i64 (d.armed : Int), .bool d.off] 41 (0, 0)) ∧ (D 11 = true → c2 = xs 4) ∧ (D 13 = true → c3 = xs 9)
  m4 : D 4 = true → ∃ m, xs 4 = .map (some m) ∧ m < w.heap.size
  m9 : D 9 = true → ∃ m, xs 9 = .map (some m) ∧ m < w.heap.size
  ne : D 4 = true → D 9 = true → xs 4 ≠ xs 9

theorem wth_ne {D : Nat → Bool} {k j : Nat} (h : (j == k) = false) : Ord.wth D k j = D j := if_neg (by simpa using h)
theorem set_ne {xs : Nat → Value} {k j : Nat} {u : Value} (h : (j == k) = false) : Ord.set xs k u j = xs j := if_neg (by simpa using h)
theorem CpR.skip {W : World} {C : Nat} {d : Dk.Dev} {D : Nat → Bool} {xs : Nat → Value} {w : World} (h : CpR W C d D xs w) (k : Nat) (u : Value) (h4 : (4 == k) = false) (h9 : (9 == k) = false) (h11 : (11 == k) = false) (h13 : (13 == k) = false) : CpR W C d (Ord.wth D k) (Ord.set xs k u) w :=
  ⟨h.t, by rw [wth_ne h11, wth_ne h13, set_ne h4, set_ne h9]; exact h.row, by rw [wth_ne h4, set_ne h4]; exact h.m4, by rw [wth_ne h9, set_ne h9]; exact h.m9, by rw [wth_ne h4, wth_ne h9, set_ne h4, set_ne h9]; exact h.ne⟩
theorem CpR.op4 {W : World} {C : Nat} {d : Dk.Dev} {D : Nat → Bool} {xs : Nat → Value} {w w' : World} (h : CpR W C d D xs w) (n9 : D 9 = false) (n11 : D 11 = false) (n13 : D 13 = false) (hC : C < w.heap.size) (hb : Below w.heap.size w w') (hl : w.heap.size < w'.heap.size) :
    CpR W C d (Ord.wth D 4) (Ord.set xs 4 (.map (some w.heap.size))) w' := by
  obtain ⟨c2, c3, hr, _, _⟩ := h.row
  refine ⟨h.t.trans (.of_new hb), ⟨c2, c3, by rw [hb.block C hC]; exact hr, ?_, ?_⟩, fun _ => ⟨_, rfl, hl⟩, ?_, ?_⟩
  · rw [wth_ne (by rfl), n11]; intro h; cases h
  · rw [wth_ne (by rfl), n13]; intro h; cases h
  · rw [wth_ne (by rfl), n9]; intro h; cases h
  · rw [wth_ne (j := 9) (by rfl), n9]; intro _ h; cases h
theorem CpR.op9 {W : World} {C : Nat} {d : Dk.Dev} {D : Nat → Bool} {xs : Nat → Value} {w w' : World} (h : CpR W C d D xs w) (n11 : D 11 = false) (n13 : D 13 = false) (hC : C < w.heap.size) (hb : Below w.heap.size w w') (hl : w.heap.size < w'.heap.size) :
    CpR W C d (Ord.wth D 9) (Ord.set xs 9 (.map (some w.heap.size))) w' := by
  obtain ⟨c2, c3, hr, _, _⟩ := h.row
  refine ⟨h.t.trans (.of_new hb), ⟨c2, c3, by rw [hb.block C hC]; exact hr, ?_, ?_⟩, ?_, fun _ => ⟨_, rfl, hl⟩, ?_⟩
  · rw [wth_ne (by rfl), n11]; intro h; cases h
  · rw [wth_ne (by rfl), n13]; intro h; cases h
  · rw [wth_ne (by rfl), set_ne (by rfl)]
    intro h4
    obtain ⟨m, e, hm⟩ := h.m4 h4
    exact ⟨m, e, by omega⟩
  · rw [wth_ne (j := 4) (by rfl), set_ne (j := 4) (by rfl)]
    intro h4 _ e
    obtain ⟨m, e4, hm⟩ := h.m4 h4
    rw [e4] at e
    have e' : (Value.map (some m)) = .map (some w.heap.size) := e
    simp only [Value.map.injEq, Option.some.injEq] at e'
    omega
theorem CpR.op11 {W : World} {C : Nat} {d : Dk.Dev} {D : Nat → Bool} {xs : Nat → Value} {w : World} (h : CpR W C d D xs w) (n13 : D 13 = false) (u : Value) :
    CpR W C d (Ord.wth D 11) (Ord.set xs 11 u) (w.setCell ⟨C, 2, none⟩ (xs 4)) := by
  obtain ⟨c2, c3, hr, _, _⟩ := h.row
  have hs : (w.setCell ⟨C, 2, none⟩ (xs 4)).heap.size = w.heap.size := by simp
  refine ⟨h.t.trans (.set C 2 _ rfl), ⟨xs 4, c3, blk_set (i := 2) hr (xs 4), fun _ => by rw [set_ne (by rfl)], ?_⟩, ?_, ?_, ?_⟩
  · rw [wth_ne (by rfl), n13]; intro h; cases h
  · rw [wth_ne (by rfl), set_ne (by rfl), hs]; exact h.m4
  · rw [wth_ne (by rfl), set_ne (by rfl), hs]; exact h.m9
  · rw [wth_ne (by rfl), wth_ne (by rfl), set_ne (by rfl), set_ne (by rfl)]; exact h.ne
theorem CpR.op13 {W : World} {C : Nat} {d : Dk.Dev} {D : Nat → Bool} {xs : Nat → Value} {w : World} (h : CpR W C d D xs w) (u : Value) :
    CpR W C d (Ord.wth D 13) (Ord.set xs 13 u) (w.setCell ⟨C, 3, none⟩ (xs 9)) := by
  obtain ⟨c2, c3, hr, h2, _⟩ := h.row
  have hs : (w.setCell ⟨C, 3, none⟩ (xs 9)).heap.size = w.heap.size := by simp
  refine ⟨h.t.trans (.set C 3 _ rfl), ⟨c2, xs 9, blk_set (i := 3) hr (xs 9), ?_, fun _ => by rw [set_ne (by rfl)]⟩, ?_, ?_, ?_⟩
  · rw [wth_ne (by rfl), set_ne (by rfl)]; exact h2
  · rw [wth_ne (by rfl), set_ne (by rfl), hs]; exact h.m4
  · rw [wth_ne (by rfl), set_ne (by rfl), hs]; exact h.m9
  · rw [wth_ne (by rfl), wth_ne (by rfl), set_ne (by rfl), set_ne (by rfl)]; exact h.ne

set_option maxHeartbeats 3200000 in
set_option maxRecDepth 20000 in
theorem copy_any {B m1 m2 : Nat} {d : Dk.Dev} {w : World} (h : PDev w B m1 m2 d) :
    Calls Try.prog 24 #[.pointer (some ⟨B, 0, none⟩)] w fun e w' => ∃ B' x1 x2, e = .returned (.pointer (some ⟨B', 0, none⟩)) ∧ PDev w' B' x1 x2 d ∧ (∀ i, DS B' x1 x2 i → w.heap.size ≤ i) ∧ Below w.heap.size w w' := by
  have hn := none_any h
  have HH := Lib.hid h
  have c0 := h.c0
  have c1 := h.c1
  have c2 := h.c2
  have c3 := h.c3
  have c4 := h.c4
  have c5 := h.c5
  clear h
  go_enter Try.func24, Try.ntmps24
  go_upto_region 4 with (go_at_call 32; refine hn.mono ?_; rintro e w' ⟨rfl, rfl⟩)
  have hr0 : (w'.alloc (.cells #[.int .i64 (Dk.size d : Int), .int .i64 (d.most : Int), .map (some m1), .map (some m2), .int .i64 (d.armed : Int), .bool d.off] 41)).heap[w'.heap.size]? = some (.cells #[.int .i64 (Dk.size d : Int), .int .i64 (d.most : Int), .map (some m1), .map (some m2), .int .i64 (d.armed : Int), .bool d.off] 41 (0, 0)) := heap_alloc_last _ _
  have hb0 : Below w'.heap.size w' (w'.alloc (.cells #[.int .i64 (Dk.size d : Int), .int .i64 (d.most : Int), .map (some m1), .map (some m2), .int .i64 (d.armed : Int), .bool d.off] 41)) := (Below.refl _ _).alloc (Nat.le_refl _) _
  have hl0 : w'.heap.size < (w'.alloc (.cells #[.int .i64 (Dk.size d : Int), .int .i64 (d.most : Int), .map (some m1), .map (some m2), .int .i64 (d.armed : Int), .bool d.off] 41)).heap.size := by simp
  generalize w'.alloc (.cells #[.int .i64 (Dk.size d : Int), .int .i64 (d.most : Int), .map (some m1), .map (some m2), .int .i64 (d.armed : Int), .bool d.off] 41) = W at *
  have HR0 := Lib.hid hr0
  have HB0 := Lib.hid hb0
  have HL0 := Lib.hid hl0
  have HP := Lib.hid (HH.out.below hb0)
  obtain ⟨C, hC⟩ : ∃ C, w'.heap.size = C := ⟨_, rfl⟩
  have HDC := Lib.hid (show ∀ i, DS B m1 m2 i → ¬ i = C from fun i hi => by have := HH.out.lt i hi; omega)
  have HCC := Lib.hid hC
  rw [hC] at HR0 HL0 ⊢
  clear hr0 hb0 hl0 c0 c1 c2 c3 c4 c5 hn hC
  refine Ord.walk (Cp B m1 m2 C (Dk.seenL d) d.waits) (CpR W C d) (fun a b => Touch (· = C) a b)
    (by kernel_rfl) (by kernel_rfl) ?fr ?hfr cp_later ?hs ?he ?hend
  case hs => exact fun _ => ⟨(Touch.refl _ _).drew, ⟨_, _, HR0.out, (fun h => by cases h), (fun h => by cases h)⟩, (fun h => by cases h), (fun h => by cases h), (fun h => by cases h)⟩
  case hfr =>
    intro xs
    simp only [Ord.fill, Act.put, List.setIfInBounds_toArray, List.set_cons_zero, List.set_cons_succ]
    rfl
  case he =>
    refine Ord.each_cons (fun D xs w2 hD hC hP hR hA K hK => ?_) ?_
    · -- 0
      clear hA
      go_simp
      exact hK _ _ ⟨_, rfl, .refl _ _, hR.skip 0 _ rfl rfl rfl rfl, rfl⟩
    refine Ord.each_cons (fun D xs w2 hD hC hP hR hA K hK => ?_) ?_
    · -- 1
      have q0 := Ord.ahead_get _ hA 0 (by decide)
      simp only [Cp] at q0
      simp only [q0] at hK
      clear hA
      go_simp
      exact hK _ _ ⟨_, rfl, .refl _ _, hR.skip 1 _ rfl rfl rfl rfl, rfl⟩
    refine Ord.each_cons (fun D xs w2 hD hC hP hR hA K hK => ?_) ?_
    · -- 2
      have q1 := Ord.ahead_get _ hA 1 (by decide)
      simp only [Cp] at q1
      simp only [q1] at hK
      clear hA
      go_simp
      exact hK _ _ ⟨_, rfl, .refl _ _, hR.skip 2 _ rfl rfl rfl rfl, rfl⟩
    refine Ord.each_cons (fun D xs w2 hD hC hP hR hA K hK => ?_) ?_
    · -- 3
      have q2 := Ord.ahead_get _ hA 2 (by decide)
      simp only [Cp] at q2
      simp only [q2] at hK
      clear hA
      have c2 := hR.t.cell HP.out.c2 (HDC.out B (Or.inl rfl))
      go_simp
      exact hK _ _ ⟨_, rfl, .refl _ _, hR.skip 3 _ rfl rfl rfl rfl, rfl⟩
    refine Ord.each_cons (fun D xs w2 hD hC hP hR hA K hK => ?_) ?_
    · -- 4
      have q3 := Ord.ahead_get _ hA 3 (by decide)
      simp only [Cp] at q3
      simp only [q3] at hK
      clear hA
      have hD' := hD
      have n9 : D 9 = false := by
        cases h : D 9
        · rfl
        · have := Ord.closed_at hC 9 4 (by kernel_rfl) h
          rw [hD'] at this; cases this
      have n11 : D 11 = false := by
        cases h : D 11
        · rfl
        · have := Ord.closed_at hC 11 4 (by kernel_rfl) h
          rw [hD'] at this; cases this
      have n13 : D 13 = false := by
        cases h : D 13
        · rfl
        · have := Ord.closed_at hC 13 4 (by kernel_rfl) h
          rw [hD'] at this; cases this
      go_simp
      refine (clone_call (HP.out.lasts.touch hR.t (HDC.out m1 (Or.inr (Or.inl rfl))))).mono ?_
      rintro e w3 ⟨rfl, hm, hb⟩
      have hcl := lt_of_block (hR.row.choose_spec.choose_spec.1)
      exact hK _ _ ⟨_, rfl, .of_new hb, hR.op4 n9 n11 n13 hcl hb hm.lt, ⟨_, rfl, hcl, hm⟩⟩
    refine Ord.each_cons (fun D xs w2 hD hC hP hR hA K hK => ?_) ?_
    · -- 5
      clear hA
      go_simp
      exact hK _ _ ⟨_, rfl, .refl _ _, hR.skip 5 _ rfl rfl rfl rfl, rfl⟩
    refine Ord.each_cons (fun D xs w2 hD hC hP hR hA K hK => ?_) ?_
    · -- 6
      have q5 := Ord.ahead_get _ hA 5 (by decide)
      simp only [Cp] at q5
      simp only [q5] at hK
      clear hA
      go_simp
      exact hK _ _ ⟨_, rfl, .refl _ _, hR.skip 6 _ rfl rfl rfl rfl, rfl⟩
    refine Ord.each_cons (fun D xs w2 hD hC hP hR hA K hK => ?_) ?_
    · -- 7
      have q6 := Ord.ahead_get _ hA 6 (by decide)
      simp only [Cp] at q6
      simp only [q6] at hK
      clear hA
      go_simp
      exact hK _ _ ⟨_, rfl, .refl _ _, hR.skip 7 _ rfl rfl rfl rfl, rfl⟩
    refine Ord.each_cons (fun D xs w2 hD hC hP hR hA K hK => ?_) ?_
    · -- 8
      have q7 := Ord.ahead_get _ hA 7 (by decide)
      simp only [Cp] at q7
      simp only [q7] at hK
      clear hA
      have c3 := hR.t.cell HP.out.c3 (HDC.out B (Or.inl rfl))
      go_simp
      exact hK _ _ ⟨_, rfl, .refl _ _, hR.skip 8 _ rfl rfl rfl rfl, rfl⟩
    refine Ord.each_cons (fun D xs w2 hD hC hP hR hA K hK => ?_) ?_
    · -- 9
      have q8 := Ord.ahead_get _ hA 8 (by decide)
      simp only [Cp] at q8
      simp only [q8] at hK
      clear hA
      have hD' := hD
      have n11 : D 11 = false := by
        cases h : D 11
        · rfl
        · have := Ord.closed_at hC 11 9 (by kernel_rfl) h
          rw [hD'] at this; cases this
      have n13 : D 13 = false := by
        cases h : D 13
        · rfl
        · have := Ord.closed_at hC 13 9 (by kernel_rfl) h
          rw [hD'] at this; cases this
      go_simp
      refine (clone_call (HP.out.waits.touch hR.t (HDC.out m2 (Or.inr (Or.inr rfl))))).mono ?_
      rintro e w3 ⟨rfl, hm, hb⟩
      have hcl := lt_of_block (hR.row.choose_spec.choose_spec.1)
      exact hK _ _ ⟨_, rfl, .of_new hb, hR.op9 n11 n13 hcl hb hm.lt, ⟨_, rfl, hcl, hm⟩⟩
    refine Ord.each_cons (fun D xs w2 hD hC hP hR hA K hK => ?_) ?_
    · -- 10
      clear hA
      go_simp
      exact hK _ _ ⟨_, rfl, .refl _ _, hR.skip 10 _ rfl rfl rfl rfl, rfl⟩
    refine Ord.each_cons (fun D xs w2 hD hC hP hR hA K hK => ?_) ?_
    · -- 11
      have q10 := Ord.ahead_get _ hA 10 (by decide)
      simp only [Cp] at q10
      have q4 := Ord.ahead_get _ hA 4 (by decide)
      simp only [Cp] at q4
      obtain ⟨y4, e4, -, -⟩ := q4
      simp only [q10] at hK
      clear hA
      have hD' := hD
      have n13 : D 13 = false := by
        cases h : D 13
        · rfl
        · have := Ord.closed_at hC 13 11 (by kernel_rfl) h
          rw [hD'] at this; cases this
      obtain ⟨k2, k3, hr, -, -⟩ := hR.row
      have cc := blk_cell hr 2 (v := k2) rfl
      have ff := blk_free hr 2
      have HN := Lib.hid (hR.op11 n13 undef)
      rw [e4] at HN
      simp only [e4] at hK
      clear hr
      go_simp
      exact hK _ _ ⟨undef, rfl, .set C 2 _ rfl, HN.out, trivial⟩
    refine Ord.each_cons (fun D xs w2 hD hC hP hR hA K hK => ?_) ?_
    · -- 12
      clear hA
      go_simp
      exact hK _ _ ⟨_, rfl, .refl _ _, hR.skip 12 _ rfl rfl rfl rfl, rfl⟩
    refine Ord.each_cons (fun D xs w2 hD hC hP hR hA K hK => ?_) ?_
    · -- 13
      have q12 := Ord.ahead_get _ hA 12 (by decide)
      simp only [Cp] at q12
      have q9 := Ord.ahead_get _ hA 9 (by decide)
      simp only [Cp] at q9
      obtain ⟨y9, e9, -, -⟩ := q9
      simp only [q12] at hK
      clear hA
      have hD' := hD
      obtain ⟨k2, k3, hr, -, -⟩ := hR.row
      have cc := blk_cell hr 3 (v := k3) rfl
      have ff := blk_free hr 3
      have HN := Lib.hid (hR.op13 undef)
      rw [e9] at HN
      simp only [e9] at hK
      clear hr
      go_simp
      exact hK _ _ ⟨undef, rfl, .set C 3 _ rfl, HN.out, trivial⟩
    exact Ord.each_nil
  case hend =>
    intro D xs w3 hR hF
    obtain ⟨k2, k3, hr, h2, h3⟩ := hR.row
    obtain ⟨h4, q4⟩ := hF 4 (by decide)
    obtain ⟨h9, q9⟩ := hF 9 (by decide)
    simp only [Cp] at q4 q9
    have hne := hR.ne h4 h9
    obtain ⟨y4, e4, l4, hm4⟩ := q4
    obtain ⟨y9, e9, l9, hm9⟩ := q9
    rw [h2 (hF 11 (by decide)).1, h3 (hF 13 (by decide)).1, e4, e9] at hr
    rw [e4, e9] at hne
    have HFIN := Lib.hid (show PDev w3 C y4 y9 d from ⟨HP.out.own, hr, hm4, hm9, by omega, by omega, fun e => hne (by rw [e])⟩)
    have HTF := Lib.hid (HB0.out.trans (hR.t.below (base := w'.heap.size) (fun i hi => by have := HCC.out; omega) (by have := HL0.out; have := HCC.out; omega)))
    have HLS := Lib.hid (show ∀ i, DS C y4 y9 i → w'.heap.size ≤ i from fun i hi => by have := HCC.out; rcases hi with rfl | rfl | rfl <;> omega)
    clear hr hm4 hm9 hR hF hne h2 h3
    generalize xs 0 = z0
    generalize xs 1 = z1
    generalize xs 2 = z2
    generalize xs 3 = z3
    generalize xs 4 = z4
    generalize xs 5 = z5
    generalize xs 6 = z6
    generalize xs 7 = z7
    generalize xs 8 = z8
    generalize xs 9 = z9
    generalize xs 10 = z10
    generalize xs 11 = z11
    generalize xs 12 = z12
    generalize xs 13 = z13
    go_wp2_with fail
    go_ret
    exact ⟨C, y4, y9, rfl, HFIN.out, HLS.out, HTF.out⟩
end Go.Proofs.Ythjciddhghfcbaa
