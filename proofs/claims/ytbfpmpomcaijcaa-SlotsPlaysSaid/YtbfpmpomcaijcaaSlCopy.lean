/- A slotted body copied, by the document's own way. Conditions: the values read as a body. -/
import Derived.Test.YtbfpmpomcaijcaaSlMay
import Derived.Test.YtbfpmpomcaijcaaSlCopyR
namespace Go.Proofs.Ytbfpmpomcaijcaa
open Go.RowKit

/-- The body put together: what the operations left. -/
def CpF (P k n : Nat) (fv : Value) (i : Nat) (v : Value) (_ : World) : Prop :=
  match i with
  | 0 => v = .pointer (some ⟨P, 0, none⟩)
  | 1 => v = .int .u8 (k : Int)
  | 2 => v = .pointer (some ⟨P, 1, none⟩)
  | 3 => v = .int .u32 (n : Int)
  | 5 => v = .pointer (some ⟨P, 2, none⟩)
  | 6 => v = fv
  | _ => True
/-- A text more: what the operations left. -/
def CtF (P X i bd od : Nat) (dn dv t : Value) (j : Nat) (v : Value) (_ : World) : Prop :=
  match j with
  | 0 => v = .pointer (some ⟨X, 3, none⟩)
  | 1 => v = dn
  | 3 => v = .pointer (some ⟨P, 3, none⟩)
  | 4 => v = dv
  | 5 => v = .int .i64 (i : Int)
  | 6 => v = .pointer (some ⟨bd, od + i, none⟩)
  | 7 => v = t
  | 11 => v = .pointer (some ⟨X, 3, none⟩)
  | _ => True

theorem sv_slice {base : Nat} {w : World} {v : Value} {l : List Value} (h : Sv.Own base w v l) : ∃ p z c, v = .slice p z c := by
  obtain ⟨p, c, e, -⟩ := h.bts.form
  exact ⟨p, _, c, e⟩
theorem own_slv {base : Nat} {w : World} {v : Value} {l : List Nat} (h : Own base w v l) : ∃ p c, v = .slice p l.length c := by
  obtain ⟨p, c, e, -⟩ := h.bts.form
  exact ⟨p, c, e⟩
theorem bo_slice {base : Nat} {w : World} {v : Value} {l : List Value} (h : Bo.Own base w v l) : ∃ p c, v = .slice p l.length c := by
  obtain ⟨p, c, e, -⟩ := h.bts.form
  exact ⟨p, c, e⟩

set_option maxHeartbeats 3200000 in
set_option maxRecDepth 20000 in
theorem refCopy_any (fv dv : Value) (s : Sl.S) (w : World) (h : SlAt w fv dv s) (hm : Sl.took s ≤ 1000000) (hf : s.full.length ≤ 1000000) :
    Calls Try.prog 10 #[SlV s.kind s.next fv dv] w fun e w' => ∃ fv' dv' vs', e = .returned (SlV s.kind s.next fv' dv') ∧ SlOwn w.heap.size w' fv' dv' vs' s ∧ Below w.heap.size w w' := by
  obtain ⟨W, hW⟩ : ∃ W, W = w.alloc (sobj s.kind s.next fv dv) := ⟨_, rfl⟩
  have hb0 : Below w.heap.size w W := by rw [hW]; exact (Below.refl _ _).alloc (Nat.le_refl _) _
  have hrow := sblk w s.kind s.next fv dv
  rw [← hW] at hrow
  have hA := h.below hb0
  have hlen : s.data.length ≤ 1000000 := by unfold Sl.took at hm; omega
  obtain ⟨p1, c1, p2, c2, rfl, rfl⟩ := slv_slices hA
  -- the block of the answer
  obtain ⟨V, hV⟩ : ∃ V, V = W.alloc (.cells #[.int .u8 0, .int .u32 0, nilS, nilS] 26) := ⟨_, rfl⟩
  have hb1 : Below W.heap.size W V := by rw [hV]; exact below_new _ _
  have hans : V.heap[W.heap.size]? = some (.cells #[.int .u8 0, .int .u32 0, nilS, nilS] 26 (0, 0)) := by rw [hV]; exact heap_alloc_last _ _
  have hpar : V.heap[w.heap.size]? = some (.cells #[.int .u8 (s.kind : Int), .int .u32 (s.next : Int), .slice p1 s.full.length c1, .slice p2 s.data.length c2] 26 (0, 0)) := by rw [hb1.block _ (lt_of_block hrow)]; exact hrow
  have hA2 := hA.below hb1
  have hq := four_cell hpar
  unfold sobj at hW
  have HBV := Lib.hid (hb0.trans (hb1.mono hb0.size))
  have HA := Lib.hid hA2
  have HPAR := Lib.hid hpar
  have HANS := Lib.hid hans
  have HSZ : Hid (w.heap.size < W.heap.size ∧ W.heap.size < V.heap.size) := ⟨lt_of_block hrow, lt_of_block hans⟩
  have HKN : Hid (s.kind < 256 ∧ s.next < 4294967296) := ⟨h.kind, h.next⟩
  have HFL := Lib.hid hf
  have HDL := Lib.hid hlen
  obtain ⟨P, hP⟩ : ∃ P, P = w.heap.size := ⟨_, rfl⟩
  have hW1 : W.heap.size = P + 1 := by rw [hW, hP]; simp
  obtain ⟨R, hR⟩ : ∃ R, R = P + 1 := ⟨_, rfl⟩
  rw [← hP] at HPAR hq
  rw [hW1, ← hR] at HANS
  have HP := Lib.hid hP
  have HR : Hid (R = P + 1) := hR
  have HPL : Hid (P < V.heap.size) := lt_of_block HPAR.out
  have HQ := Lib.hid hq
  clear hb0 hrow hA h hm hb1 hans hpar hA2 hq hf hlen
  go_enter Try.func10, Try.ntmps10
  go_upto_region 1 with (fail)
  rw [← hW, ← hV, ← hP, ← hR]
  clear hW hV hP hR hW1
  refine Ord.walk (CpF P s.kind s.next (.slice p1 s.full.length c1)) (C1R V s.kind s.next s.full) (fun _ _ => True)
    (by kernel_rfl) (by kernel_rfl) ?fr ?hfr (fun _ _ _ _ _ h => h) (fun xs => C1R.first V s.kind s.next s.full xs) ?he ?hend
  case hfr =>
    intro xs
    simp only [Ord.fill, Act.put, List.setIfInBounds_toArray, List.set_cons_zero, List.set_cons_succ]
    rfl
  case he =>
    refine Ord.each_cons (fun D xs w2 hD hC hP hR hA K hK => ?_) ?_
    · -- 0
      clear hA
      go_simp
      exact hK _ _ ⟨_, rfl, trivial, hR.skip _ (by decide), rfl⟩
    refine Ord.each_cons (fun D xs w2 hD hC hP hR hA K hK => ?_) ?_
    · -- 1
      have q0 := Ord.ahead_get _ hA 0 (by decide)
      simp only [CpF] at q0
      simp only [q0] at hK
      clear hA
      have c0 := hR.bel.cell (p := ⟨P, 0, none⟩) HPL.out
      rw [HQ.out.1] at c0
      go_simp
      exact hK _ _ ⟨_, rfl, trivial, hR.skip _ (by decide), rfl⟩
    refine Ord.each_cons (fun D xs w2 hD hC hP hR hA K hK => ?_) ?_
    · -- 2
      clear hA
      go_simp
      exact hK _ _ ⟨_, rfl, trivial, hR.skip _ (by decide), rfl⟩
    refine Ord.each_cons (fun D xs w2 hD hC hP hR hA K hK => ?_) ?_
    · -- 3
      have q2 := Ord.ahead_get _ hA 2 (by decide)
      simp only [CpF] at q2
      simp only [q2] at hK
      clear hA
      have c0 := hR.bel.cell (p := ⟨P, 1, none⟩) HPL.out
      rw [HQ.out.2.1] at c0
      go_simp
      exact hK _ _ ⟨_, rfl, trivial, hR.skip _ (by decide), rfl⟩
    refine Ord.each_cons (fun D xs w2 hD hC hP hR hA K hK => ?_) ?_
    · -- 4
      clear hA
      have h7 : D 7 = false := by
        cases h : D 7
        · rfl
        · have := Ord.closed_at hC 7 4 (by kernel_rfl) h
          rw [hD] at this; cases this
      go_simp
      exact hK _ _ ⟨_, rfl, trivial, hR.op4 h7 rfl, trivial⟩
    refine Ord.each_cons (fun D xs w2 hD hC hP hR hA K hK => ?_) ?_
    · -- 5
      clear hA
      go_simp
      exact hK _ _ ⟨_, rfl, trivial, hR.skip _ (by decide), rfl⟩
    refine Ord.each_cons (fun D xs w2 hD hC hP hR hA K hK => ?_) ?_
    · -- 6
      have q5 := Ord.ahead_get _ hA 5 (by decide)
      simp only [CpF] at q5
      simp only [q5] at hK
      clear hA
      have c0 := hR.bel.cell (p := ⟨P, 2, none⟩) HPL.out
      rw [HQ.out.2.2.1] at c0
      go_simp
      exact hK _ _ ⟨_, rfl, trivial, hR.skip _ (by decide), rfl⟩
    refine Ord.each_cons (fun D xs w2 hD hC hP hR hA K hK => ?_) ?_
    · -- 7
      have q6 := Ord.ahead_get _ hA 6 (by decide)
      simp only [CpF] at q6
      clear hA
      have h4 : D 4 = true := hP { on := 4, ground := .data } (by simp) rfl
      have h8 : D 8 = false := by
        cases h : D 8
        · rfl
        · have := Ord.closed_at hC 8 7 (by kernel_rfl) h
          rw [hD] at this; cases this
      have h10 : D 10 = false := by
        cases h : D 10
        · rfl
        · have := Ord.closed_at hC 10 7 (by kernel_rfl) h
          rw [hD] at this; cases this
      refine Bo.wp_append_Own (.tmp 9) (.tmp 11) rfl V.heap.size (xs 4) [] rfl (hR.a4 h4 hD) (.slice p1 s.full.length c1) (FB s.full) (by rw [← q6]; rfl) (HA.out.full.below hR.bel) (by rw [List.length_nil, fb_length]; have := HFL.out; omega) hR.bel.size ?_
      intro u w' hO2 hb2 hg2
      rw [List.nil_append] at hO2
      exact hK _ _ ⟨_, rfl, trivial, hR.op7 h8 h10 hO2 hg2 hb2 h4 hD, trivial⟩
    refine Ord.each_cons (fun D xs w2 hD hC hP hR hA K hK => ?_) ?_
    · -- 8
      have q1 := Ord.ahead_get _ hA 1 (by decide)
      simp only [CpF] at q1
      have q3 := Ord.ahead_get _ hA 3 (by decide)
      simp only [CpF] at q3
      simp only [q1, q3] at hK
      clear hA
      have h7 : D 7 = true := hP { on := 7, ground := .data } (by simp) rfl
      obtain ⟨p7, n7, e7⟩ := bo_slice (hR.a7 h7)
      have he := e7
      simp only [e7] at hK
      go_simp
      exact hK _ _ ⟨_, rfl, trivial, hR.op8 (by rw [he]), trivial⟩
    refine Ord.each_cons (fun D xs w2 hD hC hP hR hA K hK => ?_) ?_
    · -- 9
      clear hA
      have h10 : D 10 = false := by
        cases h : D 10
        · rfl
        · have := Ord.closed_at hC 10 9 (by kernel_rfl) h
          rw [hD] at this; cases this
      go_simp
      exact hK _ _ ⟨_, rfl, trivial, hR.op9 h10 rfl, trivial⟩
    refine Ord.each_cons (fun D xs w2 hD hC hP hR hA K hK => ?_) ?_
    · -- 10
      clear hA
      have h9 : D 9 = true := hP { on := 9, ground := .data } (by simp) rfl
      have h8 : D 8 = true := hP { on := 8, ground := .data } (by simp) rfl
      have h7 : D 7 = true := hP { on := 7, ground := .chain } (by simp) rfl
      obtain ⟨p7, n7, e7⟩ := bo_slice (hR.a7 h7)
      have e8 := hR.a8 h8
      obtain ⟨X, e9, -, hz, -⟩ := hR.a9 h9
      have hzz := hz hD
      obtain ⟨z0, z1, z2, z3⟩ := four_cell hzz
      have f0 := four_free hzz 0
      have f1 := four_free hzz 1
      have f2 := four_free hzz 2
      have f3 := four_free hzz 3
      have hst := hR.op10 (u := undef) e9 h9 h7 hD
      rw [e7] at e8
      rw [e7] at hst
      simp only [e7, e8, e9] at hK
      go_simp
      exact hK _ _ ⟨_, rfl, trivial, hst, trivial⟩
    exact Ord.each_nil
  case hend =>
    intro D xs w2 hR1 hF
    obtain ⟨X, e9, hX1, -, hX2⟩ := hR1.a9 (hF 9 (by decide)).1
    have hX := hX2 (hF 10 (by decide)).1
    have ho7 := hR1.a7 (hF 7 (by decide)).1
    have hbel := hR1.bel
    rw [e9]
    obtain ⟨fv1, hfv⟩ : ∃ fv1, fv1 = xs 7 := ⟨_, rfl⟩
    rw [← hfv] at hX ho7
    clear e9 hX2 hR1 hF hfv
    generalize xs 0 = y0
    generalize xs 1 = y1
    generalize xs 2 = y2
    generalize xs 3 = y3
    generalize xs 4 = y4
    generalize xs 5 = y5
    generalize xs 6 = y6
    generalize xs 7 = y7
    generalize xs 8 = y8
    have HX1 := Lib.hid hX1
    have HX := Lib.hid hX
    have HO7 := Lib.hid ho7
    have HBL := Lib.hid hbel
    clear hX1 hX ho7 hbel
    go_wp2_with fail
    go_loopw [4] (fun i wr => ∃ (k : Nat) (dvk : Value) (vsk : List Value), k ≤ s.data.length ∧ i = .int .i64 k ∧ wr.heap[X]? = some (.cells #[.int .u8 (s.kind : Int), .int .u32 (s.next : Int), fv1, dvk] 26 (0, 0)) ∧ Bo.Own V.heap.size wr fv1 (FB s.full) ∧ DOwn V.heap.size wr dvk vsk (s.data.take k) ∧ Below V.heap.size V wr) (fun i _ => s.data.length - (intOf i).toNat)
    case atStart => exact ⟨0, nilS, [], Nat.zero_le _, rfl, HX.out, HO7.out, down_nil _ _, HBL.out⟩
    case round =>
      obtain ⟨k, dvk, vsk, hk, rfl, hx, ho, hd, hb⟩ := hrel
      have HX2 := Lib.hid hx
      have HO2 := Lib.hid ho
      have HD2 := Lib.hid hd
      have HB2 := Lib.hid hb
      have c3 := hb.cell (p := ⟨P, 3, none⟩) HPL.out
      rw [HQ.out.2.2.2] at c3
      clear hx ho hd hb
      by_cases hlt : k < s.data.length
      · have HLT := Lib.hid hlt
        have hi : (k : Int) < (s.data.length : Int) := by omega
        obtain ⟨p, cap, hpc, -, -, hform⟩ := HA.out.data.form2
        simp only [Value.slice.injEq] at hpc
        obtain ⟨rfl, -, rfl⟩ := hpc
        obtain ⟨bd, od, rfl, hc⟩ := hform (by omega)
        obtain ⟨q, c, hu, hbt⟩ := hc k hlt
        have HU := Lib.hid hu
        have HBT := Lib.hid hbt
        have HBD : Hid (bd < V.heap.size) := block_lt_of_cell hu
        have hmm : (s.data.getD k []).length ≤ 140737488355328 := hbt.len
        have HMM := Lib.hid hmm
        clear hform hc hu hbt hlt
        go_upto_region 5 with (fail)
        have HLV : Hid (vsk.length = k) := by have h1 := HD2.out.len; rw [List.length_take] at h1; have h2 := HLT.out; show vsk.length = k; omega
        refine Ord.walk (CtF P X k bd od dvk (.slice (some ⟨bd, od, none⟩) s.data.length c2) (.slice q (s.data.getD k []).length c)) (C5R V.heap.size X (.int .u8 (s.kind : Int)) (.int .u32 (s.next : Int)) fv1 dvk s.full vsk (s.data.take k) (s.data.getD k []) wr) (fun _ _ => True)
          (by kernel_rfl) (by kernel_rfl) ?fr5 ?hfr5 (fun _ _ _ _ _ h => h) (fun xs => C5R.first xs HB2.out.size HO2.out HX1.out HX2.out HD2.out) ?he5 ?hend5
        case hfr5 =>
          intro xs
          simp only [Ord.fill, Act.put, List.setIfInBounds_toArray, List.set_cons_zero, List.set_cons_succ]
          rfl
        case he5 =>
          refine Ord.each_cons (fun D xs w2 hD hC hP hR hA K hK => ?_) ?_
          · -- 0
            clear hA
            go_simp
            exact hK _ _ ⟨_, rfl, trivial, hR.skip _ (by decide), rfl⟩
          refine Ord.each_cons (fun D xs w2 hD hC hP hR hA K hK => ?_) ?_
          · -- 1
            have q0 := Ord.ahead_get _ hA 0 (by decide)
            simp only [CtF] at q0
            simp only [q0] at hK
            clear hA
            have h12 : D 12 = false := by
              cases h : D 12
              · rfl
              · have := Ord.closed_at hC 12 1 (by kernel_rfl) h
                rw [hD] at this; cases this
            obtain ⟨x0, x1, x2, x3⟩ := four_cell (hR.x0 h12)
            go_simp
            exact hK _ _ ⟨_, rfl, trivial, hR.skip _ (by decide), rfl⟩
          refine Ord.each_cons (fun D xs w2 hD hC hP hR hA K hK => ?_) ?_
          · -- 2
            clear hA
            have h8 : D 8 = false := by
              cases h : D 8
              · rfl
              · have := Ord.closed_at hC 8 2 (by kernel_rfl) h
                rw [hD] at this; cases this
            go_simp
            exact hK _ _ ⟨_, rfl, trivial, hR.op2 rfl, trivial⟩
          refine Ord.each_cons (fun D xs w2 hD hC hP hR hA K hK => ?_) ?_
          · -- 3
            clear hA
            go_simp
            exact hK _ _ ⟨_, rfl, trivial, hR.skip _ (by decide), rfl⟩
          refine Ord.each_cons (fun D xs w2 hD hC hP hR hA K hK => ?_) ?_
          · -- 4
            have q3 := Ord.ahead_get _ hA 3 (by decide)
            simp only [CtF] at q3
            simp only [q3] at hK
            clear hA
            have c0 := (HB2.out.trans hR.bel).cell (p := ⟨P, 3, none⟩) HPL.out
            rw [HQ.out.2.2.2] at c0
            go_simp
            exact hK _ _ ⟨_, rfl, trivial, hR.skip _ (by decide), rfl⟩
          refine Ord.each_cons (fun D xs w2 hD hC hP hR hA K hK => ?_) ?_
          · -- 5
            clear hA
            go_simp
            exact hK _ _ ⟨_, rfl, trivial, hR.skip _ (by decide), rfl⟩
          refine Ord.each_cons (fun D xs w2 hD hC hP hR hA K hK => ?_) ?_
          · -- 6
            have q4 := Ord.ahead_get _ hA 4 (by decide)
            simp only [CtF] at q4
            have q5 := Ord.ahead_get _ hA 5 (by decide)
            simp only [CtF] at q5
            simp only [q4, q5] at hK
            clear hA
            have hk1 : (0 : Int) ≤ (k : Int) := by omega
            have hk2 : (k : Int) < (s.data.length : Int) := by have := HLT.out; omega
            go_simp
            exact hK _ _ ⟨_, rfl, trivial, hR.skip _ (by decide), rfl⟩
          refine Ord.each_cons (fun D xs w2 hD hC hP hR hA K hK => ?_) ?_
          · -- 7
            have q6 := Ord.ahead_get _ hA 6 (by decide)
            simp only [CtF] at q6
            simp only [q6] at hK
            clear hA
            have c0 := (HB2.out.trans hR.bel).cell (p := ⟨bd, od + k, none⟩) HBD.out
            rw [HU.out] at c0
            go_simp
            exact hK _ _ ⟨_, rfl, trivial, hR.skip _ (by decide), rfl⟩
          refine Ord.each_cons (fun D xs w2 hD hC hP hR hA K hK => ?_) ?_
          · -- 8
            have q7 := Ord.ahead_get _ hA 7 (by decide)
            simp only [CtF] at q7
            clear hA
            have h2 : D 2 = true := hP { on := 2, ground := .data } (by simp) rfl
            have h9 : D 9 = false := by
              cases h : D 9
              · rfl
              · have := Ord.closed_at hC 9 8 (by kernel_rfl) h
                rw [hD] at this; cases this
            have h10 : D 10 = false := by
              cases h : D 10
              · rfl
              · have := Ord.closed_at hC 10 8 (by kernel_rfl) h
                rw [hD] at this; cases this
            have h12 : D 12 = false := by
              cases h : D 12
              · rfl
              · have := Ord.closed_at hC 12 8 (by kernel_rfl) h
                rw [hD] at this; cases this
            refine wp_append_Own (.tmp 23) (.tmp 28) rfl wr.heap.size (xs 2) [] rfl (hR.a2 h2 hD) _ (s.data.getD k []) (by rw [← q7]; rfl) (HBT.out.below (HB2.out.trans hR.bel)) (by rw [List.length_nil]; have := HMM.out; omega) hR.bel.size ?_
            intro u w' hO2 hb2 hg2
            rw [List.nil_append] at hO2
            exact hK _ _ ⟨_, rfl, trivial, hR.op8 h2 hD h9 h10 h12 hO2 hg2 hb2, trivial⟩
          refine Ord.each_cons (fun D xs w2 hD hC hP hR hA K hK => ?_) ?_
          · -- 9
            clear hA
            have h8 : D 8 = true := hP { on := 8, ground := .data } (by simp) rfl
            have h10 : D 10 = false := by
              cases h : D 10
              · rfl
              · have := Ord.closed_at hC 10 9 (by kernel_rfl) h
                rw [hD] at this; cases this
            obtain ⟨p8, n8, e8⟩ := own_slv (hR.a8 h8 h10)
            have hst := hR.op9 h8 h10 (u := .slice (some ⟨w2.heap.size, 0, none⟩) 1 1) rfl
            rw [e8] at hst
            simp only [e8] at hK
            go_simp
            exact hK _ _ ⟨_, rfl, trivial, hst, trivial⟩
          refine Ord.each_cons (fun D xs w2 hD hC hP hR hA K hK => ?_) ?_
          · -- 10
            have q1 := Ord.ahead_get _ hA 1 (by decide)
            simp only [CtF] at q1
            clear hA
            have h9 : D 9 = true := hP { on := 9, ground := .data } (by simp) rfl
            have h8 : D 8 = true := hP { on := 8, ground := .chain } (by simp) rfl
            have h12 : D 12 = false := by
              cases h : D 12
              · rfl
              · have := Ord.closed_at hC 12 10 (by kernel_rfl) h
                rw [hD] at this; cases this
            refine Sv.wp_append_Own (.tmp 22) (.tmp 30) rfl V.heap.size dvk vsk (by rw [← q1]; rfl) (hR.old hD).own (xs 9) [xs 8] rfl (hR.a9 h9 hD) (by have h1 := HLV.out; have h2 := HDL.out; have h3 := HLT.out; simp; omega) (Nat.le_trans hR.big hR.bel.size) ?_
            intro u w' hO2 hb2 hg2
            exact hK _ _ ⟨_, rfl, trivial, hR.op10 h8 hD h12 hO2 hg2 hb2, trivial⟩
          refine Ord.each_cons (fun D xs w2 hD hC hP hR hA K hK => ?_) ?_
          · -- 11
            clear hA
            go_simp
            exact hK _ _ ⟨_, rfl, trivial, hR.skip _ (by decide), rfl⟩
          refine Ord.each_cons (fun D xs w2 hD hC hP hR hA K hK => ?_) ?_
          · -- 12
            have q11 := Ord.ahead_get _ hA 11 (by decide)
            simp only [CtF] at q11
            simp only [q11] at hK
            clear hA
            have h10 : D 10 = true := hP { on := 10, ground := .data } (by simp) rfl
            have h8 : D 8 = true := hP { on := 8, ground := .phase } (by simp) rfl
            obtain ⟨p10, m10, n10, e10⟩ := sv_slice (hR.a10 h10).own
            have hx0 := hR.x0 hD
            obtain ⟨x0, x1, x2, x3⟩ := four_cell hx0
            have f3 := four_free hx0 3
            have hst := hR.op12 (u := undef) h8 h10 hD
            rw [e10] at hst
            simp only [e10] at hK
            go_simp
            exact hK _ _ ⟨_, rfl, trivial, hst, trivial⟩
          exact Ord.each_nil
        case hend5 =>
          intro D5 xs5 w5 hR5 hF5
          have hx5 := hR5.a12 (hF5 12 (by decide)).1
          have hd5 := hR5.a10 (hF5 10 (by decide)).1
          rw [← Sl.take_succ' s.data [] HLT.out] at hd5
          have ho5 := hR5.full
          have hb5 := HB2.out.trans hR5.bel
          have HX5 := Lib.hid hx5
          have HD5 := Lib.hid hd5
          have HO5 := Lib.hid ho5
          have HB5 := Lib.hid hb5
          clear hx5 hd5 ho5 hb5 hR5 hF5
          generalize xs5 0 = t0 at *
          generalize xs5 1 = t1 at *
          generalize xs5 2 = t2 at *
          generalize xs5 3 = t3 at *
          generalize xs5 4 = t4 at *
          generalize xs5 5 = t5 at *
          generalize xs5 6 = t6 at *
          generalize xs5 7 = t7 at *
          generalize xs5 8 = t8 at *
          generalize xs5 9 = t9 at *
          generalize xs5 10 = t10 at *
          generalize xs5 11 = t11 at *
          generalize xs5 12 = t12 at *
          have hw5 := IntWalk.i64_in ((k : Int) + 1) (by have := HLT.out; have := HDL.out; omega)
          go_wp2_with fail
          go_roundw
          case rel => exact ⟨k + 1, _, _, by have := HLT.out; omega, by go_num, HX5.out, HO5.out, HD5.out, HB5.out⟩
          case measure => have := HLT.out; simp [intOf]; omega
      · obtain rfl : k = s.data.length := by omega
        obtain ⟨pf, cf, hfs⟩ := bo_slice HO2.out
        obtain ⟨pd, zd, cd, hds⟩ := sv_slice HD2.out.own
        subst hfs hds
        obtain ⟨x0, x1, x2, x3⟩ := four_cell HX2.out
        have hr := HB2.out.block R (by have := lt_of_block HANS.out; exact this)
        rw [HANS.out] at hr
        have f0 := four_free hr 0
        have f1 := four_free hr 1
        have f2 := four_free hr 2
        have f3 := four_free hr 3
        obtain ⟨z0, z1, z2, z3⟩ := four_cell hr
        obtain ⟨hs1, hs2⟩ := set4all (x := .int .u8 (s.kind : Int)) (y := .int .u32 (s.next : Int)) (z := .slice pf (FB s.full).length cf) (u := .slice pd zd cd) hr
        obtain ⟨r0, r1, r2, r3⟩ := four_cell hs1
        have HS2 := Lib.hid hs2
        have HRR := Lib.hid hr
        have hdd := HD2.out
        rw [List.take_length] at hdd
        have HDD := Lib.hid hdd
        clear hr hs1 hs2 hdd
        go_wp2_with fail
        have hbw : Below V.heap.size V wr := HB2.out
        have hO2 := HO2.out.grown HS2.out (row_ne_blk HO2.out.own HRR.out (by decide))
        have hD2 := HDD.out.blk HRR.out HS2.out
        have hle : w.heap.size ≤ V.heap.size := HBV.out.size
        refine bodyPost_ret (v := SlV s.kind s.next (.slice pf (FB s.full).length cf) (.slice pd zd cd)) (by simp [results, Try.results10, go_sem, r0, r1, r2, r3]) rfl ⟨_, _, vsk, rfl, ⟨hO2.from hle, hD2.from hle, HKN.out.1, HKN.out.2⟩, ?_⟩
        exact below_grown (HBV.out.trans (hbw.mono hle)) HS2.out (by have := hbw.size; omega) (by have h1 := HP.out; have h2 := HR.out; omega)
end Go.Proofs.Ytbfpmpomcaijcaa
