/- The program's copy of a slotted body. Conditions: the values read as a body; few slots and bytes. -/
import Derived.Test.YtbfpmpomcaijcaaSpMay
import Derived.Test.YtbfpmpomcaijcaaSpRow
import Derived.Test.YtbfpmpomcaijcaaSlSt
namespace Go.Proofs.Ytbfpmpomcaijcaa
open Go.RowKit

/-- New rows for a body: what the operations leave. -/
def TwF (P n1 n2 : Nat) (fv dv : Value) (i : Nat) (v : Value) (_ : World) : Prop :=
  match i with
  | 0 => v = .pointer (some ⟨P, 2, none⟩)
  | 1 => v = fv
  | 2 => v = .int .i64 (n1 : Int)
  | 4 => v = .pointer (some ⟨P, 3, none⟩)
  | 5 => v = dv
  | 6 => v = .int .i64 (n2 : Int)
  | _ => True
structure TwR (W : World) (n1 n2 : Nat) (D : Nat → Bool) (xs : Nat → Value) (w : World) : Prop where
  bel : Below W.heap.size W w
  a3 : D 3 = true → ∃ g, xs 3 = .slice (some ⟨g, 0, none⟩) n1 n1 ∧ W.heap.size ≤ g ∧ Bo.Own W.heap.size w (xs 3) (FB (List.replicate n1 false))
  a7 : D 7 = true → ∃ g, xs 7 = .slice (some ⟨g, 0, none⟩) n2 n2 ∧ W.heap.size ≤ g ∧ DOwn W.heap.size w (xs 7) (List.replicate n2 nilS) (List.replicate n2 [])
  a8 : D 8 = true → xs 8 = xs 3
  a9 : D 9 = true → xs 9 = xs 7
section
variable {W w w' : World} {n1 n2 : Nat} {D : Nat → Bool} {xs : Nat → Value} {u : Value}
theorem TwR.first (W : World) (n1 n2 : Nat) (xs : Nat → Value) : TwR W n1 n2 (fun _ => false) xs W.drew := ⟨(Below.refl _ _).go1, fun h => (by cases h), fun h => (by cases h), fun h => (by cases h), fun h => (by cases h)⟩
theorem TwR.skip (h : TwR W n1 n2 D xs w) (j : Nat) (hj : (j != 3 && j != 7 && j != 8 && j != 9) = true) : TwR W n1 n2 (Ord.wth D j) (Ord.set xs j u) w := by
  simp only [Bool.and_eq_true, bne_iff_ne] at hj
  obtain ⟨⟨⟨n3, n7⟩, n8⟩, n9⟩ := hj
  refine ⟨h.bel, ?_, ?_, ?_, ?_⟩
  · rw [wth_ne _ (Ne.symm n3), oset_ne _ _ (Ne.symm n3)]; exact h.a3
  · rw [wth_ne _ (Ne.symm n7), oset_ne _ _ (Ne.symm n7)]; exact h.a7
  · rw [wth_ne _ (Ne.symm n8), oset_ne _ _ (Ne.symm n8), oset_ne _ _ (Ne.symm n3)]; exact h.a8
  · rw [wth_ne _ (Ne.symm n9), oset_ne _ _ (Ne.symm n9), oset_ne _ _ (Ne.symm n7)]; exact h.a9
theorem TwR.op3 (h : TwR W n1 n2 D xs w) (h8 : D 8 = false) (g : Nat) (hu : u = .slice (some ⟨g, 0, none⟩) n1 n1) (hg : W.heap.size ≤ g) (hO : Bo.Own W.heap.size w' u (FB (List.replicate n1 false))) (hb : Below w.heap.size w w') : TwR W n1 n2 (Ord.wth D 3) (Ord.set xs 3 u) w' := by
  refine ⟨h.bel.trans (hb.mono h.bel.size), ?_, ?_, ?_, ?_⟩
  · rw [oset_self]; exact fun _ => ⟨g, hu, hg, hO⟩
  · rw [wth_ne _ (by decide), oset_ne _ _ (by decide)]
    intro a
    obtain ⟨g7, e, hg7, hO7⟩ := h.a7 a
    exact ⟨g7, e, hg7, hO7.below hb⟩
  · rw [wth_ne _ (by decide), h8]; intro a; cases a
  · rw [wth_ne _ (by decide), oset_ne _ _ (by decide), oset_ne _ _ (by decide)]; exact h.a9
theorem TwR.op7 (h : TwR W n1 n2 D xs w) (h9 : D 9 = false) (g : Nat) (hu : u = .slice (some ⟨g, 0, none⟩) n2 n2) (hg : W.heap.size ≤ g) (hO : DOwn W.heap.size w' u (List.replicate n2 nilS) (List.replicate n2 [])) (hb : Below w.heap.size w w') : TwR W n1 n2 (Ord.wth D 7) (Ord.set xs 7 u) w' := by
  refine ⟨h.bel.trans (hb.mono h.bel.size), ?_, ?_, ?_, ?_⟩
  · rw [wth_ne _ (by decide), oset_ne _ _ (by decide)]
    intro a
    obtain ⟨g3, e, hg3, hO3⟩ := h.a3 a
    exact ⟨g3, e, hg3, hO3.below hb⟩
  · rw [oset_self]; exact fun _ => ⟨g, hu, hg, hO⟩
  · rw [wth_ne _ (by decide), oset_ne _ _ (by decide), oset_ne _ _ (by decide)]; exact h.a8
  · rw [wth_ne _ (by decide), h9]; intro a; cases a
theorem TwR.op8 (h : TwR W n1 n2 D xs w) : TwR W n1 n2 (Ord.wth D 8) (Ord.set xs 8 (xs 3)) w := by
  refine ⟨h.bel, ?_, ?_, ?_, ?_⟩
  · rw [wth_ne _ (by decide), oset_ne _ _ (by decide)]; exact h.a3
  · rw [wth_ne _ (by decide), oset_ne _ _ (by decide)]; exact h.a7
  · rw [oset_self, oset_ne _ _ (by decide)]; exact fun _ => rfl
  · rw [wth_ne _ (by decide), oset_ne _ _ (by decide), oset_ne _ _ (by decide)]; exact h.a9
theorem TwR.op9 (h : TwR W n1 n2 D xs w) : TwR W n1 n2 (Ord.wth D 9) (Ord.set xs 9 (xs 7)) w := by
  refine ⟨h.bel, ?_, ?_, ?_, ?_⟩
  · rw [wth_ne _ (by decide), oset_ne _ _ (by decide)]; exact h.a3
  · rw [wth_ne _ (by decide), oset_ne _ _ (by decide)]; exact h.a7
  · rw [wth_ne _ (by decide), oset_ne _ _ (by decide), oset_ne _ _ (by decide)]; exact h.a8
  · rw [oset_self, oset_ne _ _ (by decide)]; exact fun _ => rfl
end

/-- Texts put in, one after the other. -/
theorem Sl.set_take {ls : List (List Nat)} {k : Nat} (h : k < ls.length) : (ls.take k ++ List.replicate (ls.length - k) []).set k (ls.getD k []) = ls.take (k + 1) ++ List.replicate (ls.length - (k + 1)) [] := by
  obtain ⟨m, hm⟩ : ∃ m, ls.length - k = m + 1 := ⟨ls.length - k - 1, by omega⟩
  have e1 : ls.length - (k + 1) = m := by omega
  have e2 : (ls.take k).length = k := by rw [List.length_take]; omega
  rw [hm, e1, List.set_append_right _ _ (by omega), e2, Nat.sub_self, List.replicate_succ, List.set_cons_zero, Sl.take_succ' ls [] h, List.append_assoc]
  rfl

set_option maxHeartbeats 3200000 in
set_option maxRecDepth 20000 in
theorem twin_any (fv dv : Value) (s : Sl.S) (w : World) (h : SlAt w fv dv s) (hs : Sl.Small s) :
    Calls Try.prog 44 #[SlV s.kind s.next fv dv] w fun e w' => ∃ fv' dv' vs', e = .returned (SlV s.kind s.next fv' dv') ∧ SlOwn w.heap.size w' fv' dv' vs' s ∧ Below w.heap.size w w' := by
  obtain ⟨V, hV⟩ : ∃ V, V = (w.alloc (sobj s.kind s.next fv dv)).alloc zobj := ⟨_, rfl⟩
  have hst := st_of h
  rw [← hV] at hst
  obtain ⟨p1, c1, p2, c2, rfl, rfl⟩ := slv_slices h
  unfold sobj zobj nilS at hV
  have HST := Lib.hid hst
  obtain ⟨P, hP⟩ : ∃ P, P = w.heap.size := ⟨_, rfl⟩
  obtain ⟨R, hR⟩ : ∃ R, R = P + 1 := ⟨_, rfl⟩
  rw [← hP, ← hR] at HST
  have HSM := Lib.hid hs
  have HP := Lib.hid hP
  have HPL : Hid (P < V.heap.size) := lt_of_block HST.out.par
  have HQ := Lib.hid (four_cell HST.out.par)
  have HKN : Hid (s.kind < 256 ∧ s.next < 4294967296) := ⟨h.kind, h.next⟩
  clear h hs hst
  go_enter Try.func44, Try.ntmps44
  go_upto_region 1 with (fail)
  rw [← hV, ← hP, ← hR]
  clear hV hP hR
  refine Ord.walk (TwF P s.full.length s.data.length (.slice p1 s.full.length c1) (.slice p2 s.data.length c2)) (TwR V s.full.length s.data.length) (fun _ _ => True)
    (by kernel_rfl) (by kernel_rfl) ?fr ?hfr (fun _ _ _ _ _ h => h) (fun xs => TwR.first V _ _ xs) ?he ?hend
  case hfr =>
    intro xs
    simp only [Ord.fill, Act.put, List.setIfInBounds_toArray, List.set_cons_zero, List.set_cons_succ]
    rfl
  case he =>
    refine Ord.each_cons (fun D xs w2 hD hC hP hR hA K hK => ?_) ?_
    · -- 0
      clear hA
      go_simp
      exact hK _ _ ⟨_, rfl, trivial, hR.skip _ (by decide), rfl⟩
    refine Ord.each_cons (fun D xs w2 hD hC hP hR hA K hK => ?_) ?_
    · -- 1
      have q0 := Ord.ahead_get _ hA 0 (by decide)
      simp only [TwF] at q0
      simp only [q0] at hK
      clear hA
      have c0 := hR.bel.cell (p := ⟨P, 2, none⟩) HPL.out
      rw [HQ.out.2.2.1] at c0
      go_simp
      exact hK _ _ ⟨_, rfl, trivial, hR.skip _ (by decide), rfl⟩
    refine Ord.each_cons (fun D xs w2 hD hC hP hR hA K hK => ?_) ?_
    · -- 2
      have q1 := Ord.ahead_get _ hA 1 (by decide)
      simp only [TwF] at q1
      simp only [q1] at hK
      clear hA
      go_simp
      exact hK _ _ ⟨_, rfl, trivial, hR.skip _ (by decide), rfl⟩
    refine Ord.each_cons (fun D xs w2 hD hC hP hR hA K hK => ?_) ?_
    · -- 3
      have q2 := Ord.ahead_get _ hA 2 (by decide)
      simp only [TwF] at q2
      clear hA
      have h8 : D 8 = false := by
        cases h : D 8
        · rfl
        · have := Ord.closed_at hC 8 3 (by kernel_rfl) h
          rw [hD] at this; cases this
      refine Bo.wp_make_len (.tmp 9) (.tmp 9) rfl V.heap.size .i64 .i64 s.full.length (by rw [← q2]; rfl) (by rw [← q2]; rfl) (by have := HSM.out.f; omega) hR.bel.size ?_
      intro w' hO2 hg2
      exact hK _ _ ⟨_, rfl, trivial, hR.op3 h8 _ rfl hR.bel.size hO2 ((Below.refl _ _).grown hg2 (Nat.le_refl _) (fun i hi => by cases hi)), trivial⟩
    refine Ord.each_cons (fun D xs w2 hD hC hP hR hA K hK => ?_) ?_
    · -- 4
      clear hA
      go_simp
      exact hK _ _ ⟨_, rfl, trivial, hR.skip _ (by decide), rfl⟩
    refine Ord.each_cons (fun D xs w2 hD hC hP hR hA K hK => ?_) ?_
    · -- 5
      have q4 := Ord.ahead_get _ hA 4 (by decide)
      simp only [TwF] at q4
      simp only [q4] at hK
      clear hA
      have c0 := hR.bel.cell (p := ⟨P, 3, none⟩) HPL.out
      rw [HQ.out.2.2.2] at c0
      go_simp
      exact hK _ _ ⟨_, rfl, trivial, hR.skip _ (by decide), rfl⟩
    refine Ord.each_cons (fun D xs w2 hD hC hP hR hA K hK => ?_) ?_
    · -- 6
      have q5 := Ord.ahead_get _ hA 5 (by decide)
      simp only [TwF] at q5
      simp only [q5] at hK
      clear hA
      go_simp
      exact hK _ _ ⟨_, rfl, trivial, hR.skip _ (by decide), rfl⟩
    refine Ord.each_cons (fun D xs w2 hD hC hP hR hA K hK => ?_) ?_
    · -- 7
      have q6 := Ord.ahead_get _ hA 6 (by decide)
      simp only [TwF] at q6
      clear hA
      have h9 : D 9 = false := by
        cases h : D 9
        · rfl
        · have := Ord.closed_at hC 9 7 (by kernel_rfl) h
          rw [hD] at this; cases this
      refine Sv.wp_make_len (.tmp 13) (.tmp 13) rfl V.heap.size .i64 .i64 s.data.length (by rw [← q6]; rfl) (by rw [← q6]; rfl) (by have := HSM.out.d; omega) hR.bel.size ?_
      intro w' hO2 hg2
      exact hK _ _ ⟨_, rfl, trivial, hR.op7 h9 _ rfl hR.bel.size hO2 ((Below.refl _ _).grown hg2 (Nat.le_refl _) (fun i hi => by cases hi)), trivial⟩
    refine Ord.each_cons (fun D xs w2 hD hC hP hR hA K hK => ?_) ?_
    · -- 8
      clear hA
      go_simp
      exact hK _ _ ⟨_, rfl, trivial, hR.op8, trivial⟩
    refine Ord.each_cons (fun D xs w2 hD hC hP hR hA K hK => ?_) ?_
    · -- 9
      clear hA
      go_simp
      exact hK _ _ ⟨_, rfl, trivial, hR.op9, trivial⟩
    exact Ord.each_nil
  case hend =>
    intro D xs w2 hR1 hF
    obtain ⟨g3, e3, hg3, hO3⟩ := hR1.a3 (hF 3 (by decide)).1
    obtain ⟨g7, e7, hg7, hO7⟩ := hR1.a7 (hF 7 (by decide)).1
    have e8 := hR1.a8 (hF 8 (by decide)).1
    have e9 := hR1.a9 (hF 9 (by decide)).1
    rw [e3] at e8 hO3
    rw [e7] at e9 hO7
    rw [e8, e9, e3, e7]
    have HB2 := Lib.hid hR1.bel
    have HO3 := Lib.hid hO3
    have HO7 := Lib.hid hO7
    have HG3 := Lib.hid hg3
    have HG7 := Lib.hid hg7
    clear e3 e7 e8 e9 hO3 hO7 hR1 hF hg3 hg7
    generalize xs 0 = t0 at *
    generalize xs 1 = t1 at *
    generalize xs 2 = t2 at *
    generalize xs 3 = t3 at *
    generalize xs 4 = t4 at *
    generalize xs 5 = t5 at *
    generalize xs 6 = t6 at *
    generalize xs 7 = t7 at *
    generalize xs 8 = t8 at *
    generalize xs 9 = t9 at *
    obtain ⟨q0, q1, q2, q3⟩ := four_cell (HST.out.later HB2.out).par
    go_upto_region 2 with (fail)
    iterate 10 go_step
    refine wpList_plain rfl fun K hK => Bo.wp_copy_all (.tmp 15) (.tmp 17) rfl V.heap.size g3 s.full.length s.full.length _ HO3.out rfl _ (FB s.full) rfl (HST.out.later HB2.out).at_.full (by rw [fb_length, List.length_replicate]) (fb_length _) fun w3 hO3 hg3 => hK _ _ ?_
    clear hK
    have hb3 : Below V.heap.size w2 w3 := (Below.refl _ _).grown hg3 HB2.out.size (fun i hi => by cases hi; exact HG3.out)
    have hO7 := HO7.out.grown hg3 (apart_rows (v := .slice (some ⟨g3, 0, none⟩) s.full.length s.full.length) HO7.out.own.own HO3.out.own (by decide)) (fun i hi => apart_rows (v := .slice (some ⟨g3, 0, none⟩) s.full.length s.full.length) (HO7.out.each i hi).own HO3.out.own (by decide))
    have HO4 := Lib.hid hO3
    have HD4 := Lib.hid hO7
    have HB3 := Lib.hid (HB2.out.trans hb3)
    clear hO3 hO7 hb3 hg3 HO3 HO7 HB2 q0 q1 q2 q3
    obtain ⟨q0, q1, q2, q3⟩ := four_cell (HST.out.later HB3.out).par
    go_wp2_with fail
    clear q0 q1 q2 q3
    go_loopw [22] (fun i wr => ∃ (k : Nat) (vsk : List Value), k ≤ s.data.length ∧ i = .int .i64 k ∧ Bo.Own V.heap.size wr (.slice (some ⟨g3, 0, none⟩) s.full.length s.full.length) (FB s.full) ∧ DOwn V.heap.size wr (.slice (some ⟨g7, 0, none⟩) s.data.length s.data.length) vsk (s.data.take k ++ List.replicate (s.data.length - k) []) ∧ Below V.heap.size V wr) (fun i _ => s.data.length - (intOf i).toNat)
    case atStart => exact ⟨0, _, Nat.zero_le _, rfl, HO4.out, HD4.out, HB3.out⟩
    case round =>
      obtain ⟨k, vsk, hk, rfl, ho, hd, hb⟩ := hrel
      have HO5 := Lib.hid ho
      have HD5 := Lib.hid hd
      have HB5 := Lib.hid hb
      clear ho hd hb
      by_cases hlt : k < s.data.length
      · have HLT := Lib.hid hlt
        have hi : (k : Int) < (s.data.length : Int) := by omega
        obtain ⟨p, cap, hpc, -, -, hform⟩ := (HST.out.later HB5.out).at_.data.form2
        simp only [Value.slice.injEq] at hpc
        obtain ⟨rfl, -, rfl⟩ := hpc
        obtain ⟨bd, od, rfl, hc⟩ := hform (by omega)
        obtain ⟨q, c, hu, hbt⟩ := hc k hlt
        have HCL := Lib.hid (clone_any _ _ _ hbt)
        have hsl : s.data.length ≤ 4000 := HSM.out.d
        have hw5 := IntWalk.i64_in ((k : Int) + 1) (by omega)
        clear hform hc hbt hlt
        obtain ⟨d, hdd⟩ : ∃ d, d = s.data.getD k [] := ⟨_, rfl⟩
        rw [← hdd] at hu HCL
        have HDD := Lib.hid hdd
        clear hdd
        go_wp2_with fail
        refine HCL.out.mono ?_
        rintro e w6 ⟨u, rfl, hO6, hb6⟩
        obtain ⟨pu, cu, rfl⟩ := own_slv hO6
        have HD6 := Lib.hid (HD5.out.below hb6)
        have HO6 := Lib.hid (HO5.out.below hb6)
        have HB6 := Lib.hid (HB5.out.trans (hb6.mono HB5.out.size))
        have hlen : (s.data.take k ++ List.replicate (s.data.length - k) ([] : List Nat)).length = s.data.length := by simp; have := HLT.out; omega
        obtain ⟨hce, hfr⟩ := HD6.out.cellAt (i := k) (by rw [hlen]; exact HLT.out)
        have hD7 := HD6.out.set k (hO6.from HB5.out.size)
        rw [HDD.out, Sl.set_take HLT.out, ← HDD.out] at hD7
        have HD7 := Lib.hid hD7
        have hgs := grownBy_setCell w6 g7 k (.slice pu d.length cu)
        have HO7 := Lib.hid (HO6.out.grown hgs (apart_rows (v := .slice (some ⟨g7, 0, none⟩) s.data.length s.data.length) HO6.out.own HD6.out.own.own (by decide)))
        have HB7 := Lib.hid (below_grown HB6.out hgs HB6.out.size HG7.out)
        clear hO6 hb6 hD7 hgs hlen
        go_wp2_with fail
        go_roundw
        case rel => exact ⟨k + 1, _, by have := HLT.out; omega, by go_num, HO7.out, HD7.out, HB7.out⟩
        case measure => have := HLT.out; simp [intOf]; omega
      · obtain rfl : k = s.data.length := by omega
        have hst9 := HST.out.later HB5.out
        obtain ⟨q0, q1, q2, q3⟩ := four_cell hst9.par
        obtain ⟨f0, f1, f2, f3⟩ : _ ∧ _ ∧ _ ∧ _ := ⟨four_free hst9.ans 0, four_free hst9.ans 1, four_free hst9.ans 2, four_free hst9.ans 3⟩
        obtain ⟨z0, z1, z2, z3⟩ := four_cell hst9.ans
        obtain ⟨d1, d2, d3⟩ := hst9.done (.int .u8 (s.kind : Int)) (.int .u32 (s.next : Int)) (.slice (some ⟨g3, 0, none⟩) s.full.length s.full.length) (.slice (some ⟨g7, 0, none⟩) s.data.length s.data.length)
        obtain ⟨r0, r1, r2, r3⟩ := four_cell d1
        have hdd := HD5.out
        rw [List.take_length, Nat.sub_self, List.replicate_zero, List.append_nil] at hdd
        have HS9 : Hid (SlOwn V.heap.size wr (.slice (some ⟨g3, 0, none⟩) s.full.length s.full.length) (.slice (some ⟨g7, 0, none⟩) s.data.length s.data.length) vsk s) := ⟨HO5.out, hdd, HKN.out.1, HKN.out.2⟩
        have D2 := Lib.hid d2
        have D3 := Lib.hid d3
        have HAN := Lib.hid hst9.ans
        clear d1 d2 d3 hst9 hdd
        go_wp2_with fail
        refine bodyPost_ret (v := SlV s.kind s.next (.slice (some ⟨g3, 0, none⟩) s.full.length s.full.length) (.slice (some ⟨g7, 0, none⟩) s.data.length s.data.length)) (by simp [results, Try.results44, go_sem, r0, r1, r2, r3]) rfl ?_
        exact ⟨_, _, vsk, rfl, (HS9.out.blk HAN.out D2.out).from HST.out.bel.size, D3.out⟩
end Go.Proofs.Ytbfpmpomcaijcaa
