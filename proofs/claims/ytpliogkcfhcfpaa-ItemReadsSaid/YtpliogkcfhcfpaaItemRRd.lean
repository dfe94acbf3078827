/- What the document's Read answers: as the program's. Conditions: the slice's cells hold the bytes. -/
import Derived.Test.YtpliogkcfhcfpaaItemRRdR
import Derived.Test.YtpliogkcfhcfpaaItemRef
namespace Go.Proofs.Ytpliogkcfhcfpaa
open Go.RowKit

theorem rdVec_err : ∀ (n : Nat) (l : List Nat) (e : Nat), e ≠ 0 → (Itm.rdVec n l e).2.2 = e
  | 0, _, _, _ => rfl
  | n + 1, l, e, h => by
    have ih := rdVec_err n l e h
    rw [Itm.rdVec]
    show (Cod.rdNum 4 (Itm.rdVec n l e).2.1 (Itm.rdVec n l e).2.2).2.2 = e
    unfold Cod.rdNum
    rw [ih, if_pos h]
theorem rdText_err (mo : Int) (l : List Nat) (e : Nat) (h : e ≠ 0) : (Cod.rdText mo l e).2.2 = e := by
  unfold Cod.rdText
  rw [if_pos h]

/-- An error ahead of the components, or too many of them: no record. -/
theorem not_good_early {l : List Nat} {n : Nat} {l2 : List Nat} {e2 : Nat} (hq : Cod.rdUv (Cod.rdNum 8 l 0).2.1 (Cod.rdNum 8 l 0).2.2 = (n, l2, e2)) (h : e2 ≠ 0 ∨ 4096 < n) : ¬ Itm.Good l := by
  intro hg
  rcases h with h | h
  · have he := hg.2.1
    have : (Itm.parts l).2.2.2.2 = (Cod.rdText (1024 : Nat) (Itm.rdVec n l2 e2).2.1 (Itm.rdVec n l2 e2).2.2).2.2 := by
      unfold Itm.parts
      simp only [hq]
    rw [this, rdText_err _ _ _ (by rw [rdVec_err n l2 e2 h]; exact h), rdVec_err n l2 e2 h] at he
    exact h he
  · have hd := hg.1
    unfold Itm.dim at hd
    rw [hq] at hd
    simp only [] at hd
    omega

theorem vF_of {l : List Nat} {n : Nat} {l2 : List Nat} {e2 : Nat} (hq : Cod.rdUv (Cod.rdNum 8 l 0).2.1 (Cod.rdNum 8 l 0).2.2 = (n, l2, e2)) (h : n ≤ 4096) : Itm.vF l = Itm.rdVec n l2 e2 := by
  unfold Itm.vF Itm.vecF
  rw [hq]
  exact if_neg (by simp only []; omega)

theorem u64_wrap {n : Nat} (h : n < 18446744073709551616) : (n : Int) % 18446744073709551616 = (n : Int) := by omega

theorem three_rows (w : World) (o1 o2 o3 : Obj) : (((w.alloc o1).alloc o2).alloc o3).heap[w.heap.size]? = some o1 ∧ (((w.alloc o1).alloc o2).alloc o3).heap[w.heap.size + 1]? = some o2 ∧ (((w.alloc o1).alloc o2).alloc o3).heap[w.heap.size + 1 + 1]? = some o3 ∧
    (((w.alloc o1).alloc o2).alloc o3).heap.size = w.heap.size + 3 ∧ Below w.heap.size w (((w.alloc o1).alloc o2).alloc o3) := by
  have s1 : (w.alloc o1).heap.size = w.heap.size + 1 := by simp
  have s2 : ((w.alloc o1).alloc o2).heap.size = w.heap.size + 1 + 1 := by simp
  refine ⟨?_, ?_, ?_, by simp, (((Below.refl _ _).alloc (Nat.le_refl _) _).alloc (by simp) _).alloc (by simp; omega) _⟩
  · exact row3_below (row3_below (heap_alloc_last w o1) ((Below.refl _ _).alloc (Nat.le_refl _) _)) ((Below.refl _ _).alloc (Nat.le_refl _) _)
  · have h := heap_alloc_last (w.alloc o1) o2
    rw [s1] at h
    exact row3_below h ((Below.refl _ _).alloc (Nat.le_refl _) _)
  · have h := heap_alloc_last ((w.alloc o1).alloc o2) o3
    rw [s2] at h
    exact h

set_option maxHeartbeats 6400000 in
set_option maxRecDepth 20000 in
theorem refRead_any (s : Value) (l : List Nat) (w : World) (hB : Bts w s l) :
    Calls Try.prog 18 #[s] w (ReadIs w l) := by
  have HB := Lib.hid hB
  have HGI := Lib.hid (Itm.good_iff hB.small)
  obtain ⟨p, cap, rfl, -, -, -⟩ := hB.form
  clear hB
  go_enter Try.func18, Try.ntmps18
  go_wp2_with fail
  obtain ⟨hrr, hbr, hxr, hsz, hb0⟩ := three_rows w (.cells #[.int .u64 0, .slice none 0 0, .slice none 0 0] 26) (.cells #[.slice p l.length cap, .int .i64 0] 59) (.cells #[.int .u64 0, .slice none 0 0, .slice none 0 0] 26)
  generalize ((w.alloc (.cells #[.int .u64 0, .slice none 0 0, .slice none 0 0] 26)).alloc (.cells #[.slice p l.length cap, .int .i64 0] 59)).alloc (.cells #[.int .u64 0, .slice none 0 0, .slice none 0 0] 26) = W at *
  obtain ⟨R, hR⟩ : ∃ R, R = w.heap.size := ⟨_, rfl⟩
  obtain ⟨B, hB⟩ : ∃ B, B = w.heap.size + 1 := ⟨_, rfl⟩
  obtain ⟨X, hX⟩ : ∃ X, X = w.heap.size + 1 + 1 := ⟨_, rfl⟩
  rw [← hX] at hxr ⊢
  rw [← hB] at hbr ⊢
  rw [← hR] at hrr ⊢
  obtain ⟨lo, hlo⟩ : ∃ lo : Nat → Prop, lo = fun b => b < w.heap.size := ⟨_, rfl⟩
  have HS : Hid (RlS w.heap.size W.heap.size B X R lo) := by
    refine ⟨by omega, by omega, by omega, ?_, by omega, by omega, by omega, by omega, by omega, by omega, fun b hb => by rw [hlo] at hb; exact hb⟩
    rw [hlo]; show ¬ X < w.heap.size; omega
  have HRL : Hid (w.heap.size ≤ R) := by show _ ≤ _; omega
  have HRD0 : Hid (Rd 59 lo W B l 0) := by
    refine ⟨.slice p l.length cap, hbr, HB.out.below hb0, by rw [hlo]; show ¬ B < w.heap.size; omega, fun h0 b hb => ?_⟩
    rw [hlo]
    exact Bts.block_lt HB.out h0 b hb
  have HXR0 := Lib.hid hxr
  have HRR0 := Lib.hid hrr
  have HW0 := Lib.hid hb0
  clear hrr hbr hxr hsz hb0 hR hB hX hlo
  -- the key
  refine (refNum_any lo B 0 8 l _ HRD0.out (by decide) (by decide)).mono ?_
  rintro en w1 ⟨rfl, hR1, hg1⟩
  have hxr1 := row3_grown HXR0.out hg1 (fun e => HS.out.xb (Option.some.inj e))
  have HRR1 := Lib.hid (row3_grown HRR0.out hg1 (fun e => HS.out.rb (Option.some.inj e)))
  have HW1 := Lib.hid (below_grown HW0.out hg1 HW0.out.size HS.out.lb)
  obtain ⟨k, hk⟩ : ∃ k, k = (Cod.rdNum 8 l 0).1 := ⟨_, rfl⟩
  rw [← hk]
  have HK : Hid (k = Itm.kF l) := hk
  obtain ⟨l1, hl1⟩ : ∃ l1, l1 = (Cod.rdNum 8 l 0).2.1 := ⟨_, rfl⟩
  obtain ⟨e1, he1⟩ : ∃ e1, e1 = (Cod.rdNum 8 l 0).2.2 := ⟨_, rfl⟩
  rw [← hl1, ← he1] at hR1
  have HSM1 : Hid (∀ x ∈ l1, x < 256) := by show ∀ x ∈ l1, x < 256; rw [hl1]; exact Itm.rdNum_small HB.out.small
  have hc := cell3_0 hxr1
  have hf := free3 hxr1 0
  have HXR2 := Lib.hid (set3_0 (u := .int .u64 (k : Int)) hxr1)
  have hgx := grownBy_setCell w1 X 0 (.int .u64 (k : Int))
  have HRD2 := Lib.hid (hR1.grown hgx (fun g hg => by have := Option.some.inj hg; subst this; exact ⟨HS.out.nx, HS.out.xb⟩))
  have HRR2 := Lib.hid (row3_grown HRR1.out hgx (fun e => HS.out.rx (Option.some.inj e)))
  have HW2 := Lib.hid (below_grown HW1.out hgx HW1.out.size HS.out.lx)
  have HBG2 : Hid (W.heap.size ≤ (w1.setCell ⟨X, 0, none⟩ (.int .u64 (k : Int))).heap.size) := Nat.le_trans hg1.size hgx.size
  obtain ⟨q, hq⟩ : ∃ q, Cod.rdUv (Cod.rdNum 8 l 0).2.1 (Cod.rdNum 8 l 0).2.2 = q := ⟨_, rfl⟩
  obtain ⟨n, l2, e2⟩ := q
  have HQ := Lib.hid hq
  have hq1 := hq
  rw [← hl1, ← he1] at hq1
  have HQ1 := Lib.hid hq1
  clear hk hl1 he1 hR1 hg1 hxr1 hgx hq hq1
  go_wp2_with fail
  generalize w1.setCell ⟨X, 0, none⟩ (.int .u64 (k : Int)) = w2 at *
  -- the count
  refine (refRUv_any lo B e1 l1 _ HRD2.out).mono ?_
  rintro en w3 ⟨rfl, hR3, hg3⟩
  rw [HQ1.out] at hR3 ⊢
  simp only [] at hR3 ⊢
  have HRD3 := Lib.hid hR3
  have HXR3 := Lib.hid (row3_grown HXR2.out hg3 (fun e => HS.out.xb (Option.some.inj e)))
  have HRR3 := Lib.hid (row3_grown HRR2.out hg3 (fun e => HS.out.rb (Option.some.inj e)))
  have HW3 := Lib.hid (below_grown HW2.out hg3 HW2.out.size HS.out.lb)
  have HBG3 : Hid (W.heap.size ≤ w3.heap.size) := Nat.le_trans HBG2.out hg3.size
  clear hR3 hg3 hc hf
  have hce : w3.cell? ⟨B, 1, none⟩ = some (.int .i64 (e2 : Int)) := by
    obtain ⟨s3, hh, _⟩ := HRD3.out
    exact cell2_1 hh
  by_cases he : e2 = 0
  · subst he
    by_cases hn : 4096 < n
    · have HNG := Lib.hid (not_good_early HQ.out (Or.inr hn))
      have hd : decide (4096 < (n : Int)) = true := by simp; omega
      obtain ⟨s1, s2⟩ := set3 (x := (.int .u64 0)) (y := (.slice none 0 0)) (z := (.slice none 0 0)) HRR3.out
      have q0 := cell3_0 HRR3.out
      have q1 := cell3_1 (set3_0 (u := (.int .u64 0)) HRR3.out)
      have q2 := cell3_2 (set3_1 (u := (.slice none 0 0)) (set3_0 (u := (.int .u64 0)) HRR3.out))
      have f0 := free3 HRR3.out 0
      have f1 := free3 (set3_0 (u := (.int .u64 0)) HRR3.out) 1
      have f2 := free3 (set3_1 (u := (.slice none 0 0)) (set3_0 (u := (.int .u64 0)) HRR3.out)) 2
      have r0 := cell3_0 s1
      have r1 := cell3_1 s1
      have r2 := cell3_2 s1
      have HS2 := Lib.hid s2
      clear s1 s2
      go_wp2_with fail
      refine bodyPost_ret (v := .tuple #[ItemV 0 (.slice none 0 0) (.slice none 0 0), .int .i64 4]) (by simp [results, Try.results18, go_sem, r0, r1, r2]) rfl ⟨below_grown HW3.out HS2.out HW3.out.size HRL.out, fun h => absurd h HNG.out, fun _ => rfl⟩
    · have hd : decide (4096 < (n : Int)) = false := by simp; omega
      have hn2 : n ≤ 4096 := by omega
      have HVF := Lib.hid (vF_of HQ.out hn2)
      have HSM2 : Hid (∀ x ∈ l2, x < 256) := by
        have := Itm.rdUv_small (l := l1) (e := e1) HSM1.out
        rw [HQ1.out] at this
        exact this
      go_wp2_with fail
      clear hce
      go_loopw [7] (fun i wr => ∃ (kk : Nat) (vv : Value), kk ≤ n ∧ i = .int .u64 kk ∧ wr.heap[X]? = some (.cells #[.int .u64 (k : Int), vv, .slice none 0 0] 26 (0, 0)) ∧ I32.Own W.heap.size wr vv (Itm.rdVec kk l2 0).1 ∧ Rd 59 lo wr B (Itm.rdVec kk l2 0).2.1 (Itm.rdVec kk l2 0).2.2 ∧ wr.heap[R]? = some (.cells #[.int .u64 0, .slice none 0 0, .slice none 0 0] 26 (0, 0)) ∧ Below w.heap.size w wr ∧ W.heap.size ≤ wr.heap.size) (fun i _ => n - (intOf i).toNat)
      case atStart => exact ⟨0, _, by omega, rfl, HXR3.out, I32.own_nil _ _, HRD3.out, HRR3.out, HW3.out, HBG3.out⟩
      case round =>
        obtain ⟨kk, vv, hk, rfl, hxr, hov, hrd, hres, hbl, hbg⟩ := hrel
        have HRX := Lib.hid hxr
        have HOW := Lib.hid hov
        have HRD := Lib.hid hrd
        have HRRr := Lib.hid hres
        have HWr := Lib.hid hbl
        have HBG := Lib.hid hbg
        obtain ⟨pv, cv, rfl⟩ := i32own_sl hov
        clear hxr hov hrd hres hbl hbg
        have HVL := Lib.hid (Itm.rdVec_length kk l2 0)
        by_cases hlt : kk < n
        · have hlt' : (kk : Int) < (n : Int) := by omega
          have HLT := Lib.hid (Itm.rdNum_lt (k := 4) (e := (Itm.rdVec kk l2 0).2.2) (Itm.rdVec_small kk (e := 0) HSM2.out))
          have HST : Hid (Itm.rdVec (kk + 1) l2 0 = ((Itm.rdVec kk l2 0).1 ++ [Itm.i32 (Cod.rdNum 4 (Itm.rdVec kk l2 0).2.1 (Itm.rdVec kk l2 0).2.2).1], (Cod.rdNum 4 (Itm.rdVec kk l2 0).2.1 (Itm.rdVec kk l2 0).2.2).2)) := rfl
          generalize hacc : (Itm.rdVec kk l2 0).1 = acc at *
          generalize hl5 : (Itm.rdVec kk l2 0).2.1 = l5 at *
          generalize he5 : (Itm.rdVec kk l2 0).2.2 = e5 at *
          generalize hq2 : Cod.rdNum 4 l5 e5 = q2 at *
          obtain ⟨mm, l6, e6⟩ := q2
          simp only [] at HST HLT
          have HQ2 := Lib.hid hq2
          have hz := okk_of (Itm.comp_i32 HLT.out)
          have HU4 := Lib.hid (i32_wrap HLT.out)
          have HU3 : Hid (IntKind.u32.wrap (mm : Int) = (mm : Int)) := by
            have := HLT.out
            show _ = _
            rw [show IntKind.u32.wrap (mm : Int) = (mm : Int) % 4294967296 by simp [IntKind.wrap, IntKind.bits, IntKind.signed]]
            omega
          have HACC : Hid (acc.length + 1 ≤ 35184372088832) := by have := HVL.out; show _ ≤ _; omega
          have HVL2 := Lib.hid HVL.out
          clear hacc hl5 he5 hq2
          generalize Itm.i32 mm = z at *
          have HZ := Lib.hid hz
          clear hz
          generalize hna : acc.length = na at *
          have HNA := Lib.hid hna
          clear hna
          go_upto_region 10 with (fail)
          refine Ord.walk (RlF X (.slice pv na cv) mm z) (RlR wr w.heap.size W.heap.size B X R k (.slice pv na cv) acc z lo l5 e5 l6 e6 (.cells #[.int .u64 0, .slice none 0 0, .slice none 0 0] 26 (0, 0))) (fun _ _ => True)
            (by kernel_rfl) (by kernel_rfl) ?fr ?hfr (fun _ _ _ _ _ h => h) (fun xs => RlR.start HRX.out HRD.out HOW.out HBG.out HRRr.out) ?he ?hend
          case hfr =>
            intro xs
            simp only [Ord.fill, Act.put, List.setIfInBounds_toArray, List.set_cons_zero, List.set_cons_succ]
            rfl
          case he =>
            refine Ord.each_cons (fun D xs w2 hD hC hP hR hA K hK => ?_) ?_
            · -- 0
              clear hA
              have hD' : D 0 = false := hD
              have h8 : D 8 = false := by
                cases h : D 8
                · rfl
                · have := Ord.closed_at hC 8 0 (by kernel_rfl) h
                  rw [hD'] at this; cases this
              go_simp
              exact hK _ _ ⟨_, rfl, trivial, hR.skip _ (by decide), rfl⟩
            refine Ord.each_cons (fun D xs w2 hD hC hP hR hA K hK => ?_) ?_
            · -- 1
              have q0 := Ord.ahead_get _ hA 0 (by decide)
              simp only [RlF] at q0
              simp only [q0] at hK
              clear hA
              have hD' : D 1 = false := hD
              have h8 : D 8 = false := by
                cases h : D 8
                · rfl
                · have := Ord.closed_at hC 8 1 (by kernel_rfl) h
                  rw [hD'] at this; cases this
              have c0 := cell3_1 (hR.row h8)
              go_simp
              exact hK _ _ ⟨_, rfl, trivial, hR.skip _ (by decide), rfl⟩
            refine Ord.each_cons (fun D xs w2 hD hC hP hR hA K hK => ?_) ?_
            · -- 2
              clear hA
              have hD' : D 2 = false := hD
              have h8 : D 8 = false := by
                cases h : D 8
                · rfl
                · have := Ord.closed_at hC 8 2 (by kernel_rfl) h
                  rw [hD'] at this; cases this
              have h3 : D 3 = false := by
                cases h : D 3
                · rfl
                · have := Ord.closed_at hC 3 2 (by kernel_rfl) h
                  rw [hD'] at this; cases this
              have h4 : D 4 = false := by
                cases h : D 4
                · rfl
                · have := Ord.closed_at hC 4 3 (by kernel_rfl) h
                  rw [h3] at this; cases this
              have h5 : D 5 = false := by
                cases h : D 5
                · rfl
                · have := Ord.closed_at hC 5 4 (by kernel_rfl) h
                  rw [h4] at this; cases this
              have h6 : D 6 = false := by
                cases h : D 6
                · rfl
                · have := Ord.closed_at hC 6 5 (by kernel_rfl) h
                  rw [h5] at this; cases this
              go_simp
              refine (refNum_any lo B e5 4 l5 w2 (hR.rd0 hD') (by decide) (by decide)).mono ?_
              rintro en w' ⟨rfl, hR2, hg2⟩
              rw [HQ2.out] at hR2 ⊢
              exact hK _ _ ⟨_, rfl, trivial, hR.op2 HS.out h5 h6 h8 hR2 hg2, rfl⟩
            refine Ord.each_cons (fun D xs w2 hD hC hP hR hA K hK => ?_) ?_
            · -- 3
              have q2 := Ord.ahead_get _ hA 2 (by decide)
              simp only [RlF] at q2
              simp only [q2] at hK
              clear hA
              have hD' : D 3 = false := hD
              have h8 : D 8 = false := by
                cases h : D 8
                · rfl
                · have := Ord.closed_at hC 8 3 (by kernel_rfl) h
                  rw [hD'] at this; cases this
              go_simp
              try rw [HU3.out]
              exact hK _ _ ⟨_, rfl, trivial, hR.skip _ (by decide), rfl⟩
            refine Ord.each_cons (fun D xs w2 hD hC hP hR hA K hK => ?_) ?_
            · -- 4
              have q3 := Ord.ahead_get _ hA 3 (by decide)
              simp only [RlF] at q3
              simp only [q3] at hK
              clear hA
              have hD' : D 4 = false := hD
              have h8 : D 8 = false := by
                cases h : D 8
                · rfl
                · have := Ord.closed_at hC 8 4 (by kernel_rfl) h
                  rw [hD'] at this; cases this
              go_simp
              try rw [HU4.out]
              exact hK _ _ ⟨_, rfl, trivial, hR.skip _ (by decide), rfl⟩
            refine Ord.each_cons (fun D xs w2 hD hC hP hR hA K hK => ?_) ?_
            · -- 5
              have q4 := Ord.ahead_get _ hA 4 (by decide)
              simp only [RlF] at q4
              simp only [q4] at hK
              clear hA
              have hD' : D 5 = false := hD
              have h8 : D 8 = false := by
                cases h : D 8
                · rfl
                · have := Ord.closed_at hC 8 5 (by kernel_rfl) h
                  rw [hD'] at this; cases this
              have h4 : D 4 = true := hP { on := 4, ground := .data } (by simp) rfl
              have h6 : D 6 = false := by
                cases h : D 6
                · rfl
                · have := Ord.closed_at hC 6 5 (by kernel_rfl) h
                  rw [hD'] at this; cases this
              have h3 : D 3 = true := Ord.closed_at hC 4 3 (by kernel_rfl) h4
              have h2 : D 2 = true := Ord.closed_at hC 3 2 (by kernel_rfl) h3
              go_simp
              have hal : Below w2.heap.size w2 (w2.alloc (.cells #[.int .i32 z] 21)) := (Below.refl _ _).alloc (Nat.le_refl _) _
              exact hK _ _ ⟨_, rfl, trivial, hR.op5 HS.out h2 h6 h8 hal (I32.own_one w2 0 z (Nat.zero_le _) HZ.out).bts, trivial⟩
            refine Ord.each_cons (fun D xs w2 hD hC hP hR hA K hK => ?_) ?_
            · -- 6
              have q1 := Ord.ahead_get _ hA 1 (by decide)
              simp only [RlF] at q1
              clear hA
              have hD' : D 6 = false := hD
              have h8 : D 8 = false := by
                cases h : D 8
                · rfl
                · have := Ord.closed_at hC 8 6 (by kernel_rfl) h
                  rw [hD'] at this; cases this
              have h5 : D 5 = true := hP { on := 5, ground := .data } (by simp) rfl
              have h4 : D 4 = true := Ord.closed_at hC 5 4 (by kernel_rfl) h5
              have h3 : D 3 = true := Ord.closed_at hC 4 3 (by kernel_rfl) h4
              have h2 : D 2 = true := Ord.closed_at hC 3 2 (by kernel_rfl) h3
              rw [if_pos (by rfl)]
              refine I32.wp_append_Own (.tmp 27) (.tmp 31) rfl W.heap.size (.slice pv na cv) acc q1 (hR.own hD') (xs 5) [z] rfl (hR.one h5 hD') (by rw [List.length_singleton, HNA.out]; exact HACC.out) hR.big ?_
              intro u w' ho hbel hg
              exact hK _ _ ⟨u, rfl, trivial, hR.op6 HS.out h2 hD' h8 hbel hg ho, trivial⟩
            refine Ord.each_cons (fun D xs w2 hD hC hP hR hA K hK => ?_) ?_
            · -- 7
              clear hA
              have hD' : D 7 = false := hD
              have h8 : D 8 = false := by
                cases h : D 8
                · rfl
                · have := Ord.closed_at hC 8 7 (by kernel_rfl) h
                  rw [hD'] at this; cases this
              go_simp
              exact hK _ _ ⟨_, rfl, trivial, hR.skip _ (by decide), rfl⟩
            refine Ord.each_cons (fun D xs w2 hD hC hP hR hA K hK => ?_) ?_
            · -- 8
              have hD' : D 8 = false := hD
              have h6 : D 6 = true := hP { on := 6, ground := .data } (by simp) rfl
              have h5 : D 5 = true := Ord.closed_at hC 6 5 (by kernel_rfl) h6
              have h4 : D 4 = true := Ord.closed_at hC 5 4 (by kernel_rfl) h5
              have h3 : D 3 = true := Ord.closed_at hC 4 3 (by kernel_rfl) h4
              have h2 : D 2 = true := Ord.closed_at hC 3 2 (by kernel_rfl) h3
              have q7 := Ord.ahead_get _ hA 7 (by decide)
              simp only [RlF] at q7
              simp only [q7] at hK
              clear hA
              obtain ⟨p9, c9, e9⟩ := i32own_sl (hR.own2 h6)
              generalize (acc ++ [z]).length = n9 at e9
              have hrow := hR.row hD'
              have q0 := cell3_1 hrow
              have f0 := free3 hrow 1
              have hfin := hR.op8 (u := undef) HS.out h2 h6 hD'
              simp only [e9] at hK hfin
              have HFIN := Lib.hid hfin
              clear hrow hfin
              go_simp
              refine hK _ _ ⟨undef, rfl, trivial, HFIN.out, trivial⟩
            exact Ord.each_nil
          case hend =>
            intro D xs w3 hR hF
            have h8 := (hF 8 (by decide)).1
            obtain ⟨u, f1, f2, f3⟩ := hR.fin h8
            have HF1 := Lib.hid f1
            have HF2 := Lib.hid f2
            have HF3 := Lib.hid f3
            have HF4 := Lib.hid (HWr.out.trans hR.bel)
            have HF5 := Lib.hid hR.res
            have HF6 := Lib.hid hR.big
            clear hR hF f1 f2 f3
            go_wp2_with fail
            go_roundw
            case rel => exact ⟨kk + 1, u, by omega, by go_num, HF1.out, by rw [HST.out]; exact HF2.out, by rw [HST.out]; exact HF3.out, HF5.out, HF4.out, HF6.out⟩
            case measure => simp [intOf]; omega
        · obtain rfl : kk = n := by omega
          have hlt' : ¬ (kk : Int) < (kk : Int) := by omega
          rw [← HVF.out] at HOW HRD HRX
          clear hlt'
          go_wp2_with fail
          -- the text
          refine (refRText_any lo B _ _ 1024 _ HRD.out (by decide)).mono ?_
          rintro en w6 ⟨vm, rfl, hO6, hR6, hg6⟩
          have HT : Hid (Itm.tF l = Cod.rdText 1024 (Itm.vF l).2.1 (Itm.vF l).2.2) := rfl
          rw [← HT.out] at hO6 hR6
          obtain ⟨p6, c6, rfl⟩ := own_sl hO6
          have hxr6 := row3_grown HRX.out hg6 (fun e => HS.out.xb (Option.some.inj e))
          have HRR6 := Lib.hid (row3_grown HRRr.out hg6 (fun e => HS.out.rb (Option.some.inj e)))
          have HW6 := Lib.hid (below_grown HWr.out hg6 HWr.out.size HS.out.lb)
          have hO6v := HOW.out.grown hg6 (own_not HOW.out HS.out.bb)
          have hc := cell3_2 hxr6
          have hf := free3 hxr6 2
          have HXR7 := Lib.hid (set3_2 (u := .slice p6 (Itm.tF l).1.length c6) hxr6)
          have hgx := grownBy_setCell w6 X 2 (.slice p6 (Itm.tF l).1.length c6)
          have HRD7 := Lib.hid (hR6.grown hgx (fun g hg => by have := Option.some.inj hg; subst this; exact ⟨HS.out.nx, HS.out.xb⟩))
          have HOV7 := Lib.hid (hO6v.grown hgx (own_not hO6v HS.out.xx))
          have HOM7 := Lib.hid (hO6.grown hgx (Or.inr (by intro e; have := (hO6.own.lt X e).1; have := HS.out.xx; have := HBG.out; omega)))
          have HRR7 := Lib.hid (row3_grown HRR6.out hgx (fun e => HS.out.rx (Option.some.inj e)))
          have HW7 := Lib.hid (below_grown HW6.out hgx HW6.out.size HS.out.lx)
          have HLW : Hid (w.heap.size ≤ wr.heap.size) := HWr.out.size
          clear hO6 hR6 hg6 hxr6 hgx hO6v
          go_upto_region 12 with (fail)
          clear hc hf
          generalize w6.setCell ⟨X, 2, none⟩ (.slice p6 (Itm.tF l).1.length c6) = w7 at *
          have hvl := HOV7.out.len
          have hml := HOM7.out.len
          generalize hv : (Itm.vF l).1 = v at *
          generalize hm : (Itm.tF l).1 = m at *
          generalize hl3 : (Itm.tF l).2.1 = l3 at *
          generalize he3 : (Itm.tF l).2.2 = e3 at *
          have HVE := Lib.hid hv
          have HME := Lib.hid hm
          clear hv hm hl3 he3
          have hce : w7.cell? ⟨B, 1, none⟩ = some (.int .i64 (e3 : Int)) := by
            obtain ⟨s3, hh, _⟩ := HRD7.out
            exact cell2_1 hh
          obtain ⟨ps, cs, hcb⟩ : ∃ ps cs, w7.cell? ⟨B, 0, none⟩ = some (.slice ps l3.length cs) := by
            obtain ⟨s3, hh, hbs, _⟩ := HRD7.out
            obtain ⟨ps, cs, rfl, -, -, -⟩ := hbs.form
            exact ⟨ps, cs, cell2_0 hh⟩
          by_cases he : e3 = 0
          · subst he
            by_cases hl : l3 = []
            · subst hl
              have hx0 := cell3_0 HXR7.out
              have hx1 := cell3_1 HXR7.out
              have hx2 := cell3_2 HXR7.out
              go_wp2_with fail
              refine (refMay_any _ _ _ _ _ _ _ _ hvl hml).mono ?_
              rintro en w8 ⟨rfl, hb8⟩
              have HXR8 := Lib.hid (row3_below HXR7.out hb8)
              have HRR8 := Lib.hid (row3_below HRR7.out hb8)
              have HOV8 := Lib.hid (HOV7.out.below hb8)
              have HOM8 := Lib.hid (HOM7.out.below hb8)
              have HW8 := Lib.hid (HW7.out.trans (hb8.mono HW7.out.size))
              clear hx0 hx1 hx2 hb8 hce hcb
              by_cases hmay : Itm.mayE v.length m.length = 0
              · have HG : Hid (Itm.Good l) := HGI.out.2 ⟨by first | trivial | rfl, by first | trivial | rfl, hmay⟩
                rw [hmay]
                clear hmay
                have hx0 := cell3_0 HXR8.out
                have hx1 := cell3_1 HXR8.out
                have hx2 := cell3_2 HXR8.out
                obtain ⟨s1, s2⟩ := set3 (x := (.int .u64 (k : Int))) (y := (.slice pv v.length cv)) (z := (.slice p6 m.length c6)) HRR8.out
                have q0 := cell3_0 HRR8.out
                have q1 := cell3_1 (set3_0 (u := (.int .u64 (k : Int))) HRR8.out)
                have q2 := cell3_2 (set3_1 (u := (.slice pv v.length cv)) (set3_0 (u := (.int .u64 (k : Int))) HRR8.out))
                have f0 := free3 HRR8.out 0
                have f1 := free3 (set3_0 (u := (.int .u64 (k : Int))) HRR8.out) 1
                have f2 := free3 (set3_1 (u := (.slice pv v.length cv)) (set3_0 (u := (.int .u64 (k : Int))) HRR8.out)) 2
                have r0 := cell3_0 s1
                have r1 := cell3_1 s1
                have r2 := cell3_2 s1
                have HS2 := Lib.hid s2
                clear s1 s2
                go_wp2_with fail
                refine bodyPost_ret (v := .tuple #[ItemV k (.slice pv v.length cv) (.slice p6 m.length c6), .int .i64 0]) (by simp [results, Try.results18, go_sem, r0, r1, r2]) rfl ⟨below_grown HW8.out HS2.out HW8.out.size HRL.out, fun h => ?_, fun h => absurd HG.out h⟩
                obtain ⟨g1, g2, g3⟩ := Itm.good_parts h
                rw [HVE.out] at g2
                rw [HME.out] at g3
                rw [← g1, ← HK.out, ← g2, ← g3]
                refine ⟨_, _, rfl, ?_, ?_⟩
                · exact (HOV8.out.grown HS2.out (own_not HOV8.out HS.out.rr)).from HS.out.ll
                · exact (HOM8.out.grown HS2.out (Or.inr (by intro e; have := (HOM8.out.own.lt R e).1; have := HS.out.rr; have := HBG.out; omega))).from HLW.out
              · have HNG : Hid (¬ Itm.Good l) := fun h => hmay (HGI.out.1 h).2.2
                generalize Itm.mayE v.length m.length = e at *
                have hne : ((e : Nat) : Int) ≠ 0 := by omega
                have hne2 : ((e : Int) != 0) = true := by simp; omega
                have hne3 : ((e : Int) == 0) = false := by simp; omega
                clear hmay
                obtain ⟨s1, s2⟩ := set3 (x := (.int .u64 0)) (y := (.slice none 0 0)) (z := (.slice none 0 0)) HRR8.out
                have q0 := cell3_0 HRR8.out
                have q1 := cell3_1 (set3_0 (u := (.int .u64 0)) HRR8.out)
                have q2 := cell3_2 (set3_1 (u := (.slice none 0 0)) (set3_0 (u := (.int .u64 0)) HRR8.out))
                have f0 := free3 HRR8.out 0
                have f1 := free3 (set3_0 (u := (.int .u64 0)) HRR8.out) 1
                have f2 := free3 (set3_1 (u := (.slice none 0 0)) (set3_0 (u := (.int .u64 0)) HRR8.out)) 2
                have r0 := cell3_0 s1
                have r1 := cell3_1 s1
                have r2 := cell3_2 s1
                have HS2 := Lib.hid s2
                clear s1 s2
                go_wp2_with fail
                refine bodyPost_ret (v := .tuple #[ItemV 0 (.slice none 0 0) (.slice none 0 0), .int .i64 4]) (by simp [results, Try.results18, go_sem, r0, r1, r2]) rfl ⟨below_grown HW8.out HS2.out HW8.out.size HRL.out, fun h => absurd h HNG.out, fun _ => rfl⟩
            · have HNG : Hid (¬ Itm.Good l) := fun h => hl (HGI.out.1 h).2.1
              have hpos : 0 < l3.length := List.length_pos_iff.2 hl
              have hdl : decide (0 < (l3.length : Int)) = true := by simp; omega
              clear hl
              obtain ⟨s1, s2⟩ := set3 (x := (.int .u64 0)) (y := (.slice none 0 0)) (z := (.slice none 0 0)) HRR7.out
              have q0 := cell3_0 HRR7.out
              have q1 := cell3_1 (set3_0 (u := (.int .u64 0)) HRR7.out)
              have q2 := cell3_2 (set3_1 (u := (.slice none 0 0)) (set3_0 (u := (.int .u64 0)) HRR7.out))
              have f0 := free3 HRR7.out 0
              have f1 := free3 (set3_0 (u := (.int .u64 0)) HRR7.out) 1
              have f2 := free3 (set3_1 (u := (.slice none 0 0)) (set3_0 (u := (.int .u64 0)) HRR7.out)) 2
              have r0 := cell3_0 s1
              have r1 := cell3_1 s1
              have r2 := cell3_2 s1
              have HS2 := Lib.hid s2
              clear s1 s2
              go_wp2_with fail
              refine bodyPost_ret (v := .tuple #[ItemV 0 (.slice none 0 0) (.slice none 0 0), .int .i64 4]) (by simp [results, Try.results18, go_sem, r0, r1, r2]) rfl ⟨below_grown HW7.out HS2.out HW7.out.size HRL.out, fun h => absurd h HNG.out, fun _ => rfl⟩
          · have HNG : Hid (¬ Itm.Good l) := fun h => he (HGI.out.1 h).1
            have hne : ((e3 : Nat) : Int) ≠ 0 := by omega
            have hne2 : ((e3 : Int) != 0) = true := by simp; omega
            have hne3 : ((e3 : Int) == 0) = false := by simp; omega
            clear he
            obtain ⟨s1, s2⟩ := set3 (x := (.int .u64 0)) (y := (.slice none 0 0)) (z := (.slice none 0 0)) HRR7.out
            have q0 := cell3_0 HRR7.out
            have q1 := cell3_1 (set3_0 (u := (.int .u64 0)) HRR7.out)
            have q2 := cell3_2 (set3_1 (u := (.slice none 0 0)) (set3_0 (u := (.int .u64 0)) HRR7.out))
            have f0 := free3 HRR7.out 0
            have f1 := free3 (set3_0 (u := (.int .u64 0)) HRR7.out) 1
            have f2 := free3 (set3_1 (u := (.slice none 0 0)) (set3_0 (u := (.int .u64 0)) HRR7.out)) 2
            have r0 := cell3_0 s1
            have r1 := cell3_1 s1
            have r2 := cell3_2 s1
            have HS2 := Lib.hid s2
            clear s1 s2
            go_wp2_with fail
            refine bodyPost_ret (v := .tuple #[ItemV 0 (.slice none 0 0) (.slice none 0 0), .int .i64 4]) (by simp [results, Try.results18, go_sem, r0, r1, r2]) rfl ⟨below_grown HW7.out HS2.out HW7.out.size HRL.out, fun h => absurd h HNG.out, fun _ => rfl⟩
  · have HNG := Lib.hid (not_good_early HQ.out (Or.inl he))
    have hne : ((e2 : Nat) : Int) ≠ 0 := by omega
    have hne2 : ((e2 : Int) != 0) = true := by simp; omega
    have hne3 : ((e2 : Int) == 0) = false := by simp; omega
    clear he
    obtain ⟨s1, s2⟩ := set3 (x := (.int .u64 0)) (y := (.slice none 0 0)) (z := (.slice none 0 0)) HRR3.out
    have q0 := cell3_0 HRR3.out
    have q1 := cell3_1 (set3_0 (u := (.int .u64 0)) HRR3.out)
    have q2 := cell3_2 (set3_1 (u := (.slice none 0 0)) (set3_0 (u := (.int .u64 0)) HRR3.out))
    have f0 := free3 HRR3.out 0
    have f1 := free3 (set3_0 (u := (.int .u64 0)) HRR3.out) 1
    have f2 := free3 (set3_1 (u := (.slice none 0 0)) (set3_0 (u := (.int .u64 0)) HRR3.out)) 2
    have r0 := cell3_0 s1
    have r1 := cell3_1 s1
    have r2 := cell3_2 s1
    have HS2 := Lib.hid s2
    clear s1 s2
    go_wp2_with fail
    refine bodyPost_ret (v := .tuple #[ItemV 0 (.slice none 0 0) (.slice none 0 0), .int .i64 4]) (by simp [results, Try.results18, go_sem, r0, r1, r2]) rfl ⟨below_grown HW3.out HS2.out HW3.out.size HRL.out, fun h => absurd h HNG.out, fun _ => rfl⟩
end Go.Proofs.Ytpliogkcfhcfpaa
