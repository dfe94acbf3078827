/- The form that the document's own way makes. Conditions: the values read as a body that may be. -/
import Derived.Test.YtbfpmpomcaijcaaSlMay
import Derived.Test.YtbfpmpomcaijcaaSlApi
import Derived.Test.YtbfpmpomcaijcaaSlSt
import Derived.Test.YtbfpmpomcaijcaaAppAt
import Derived.Test.YtbfpmpomcaijcaaCodeRef
namespace Go.Proofs.Ytbfpmpomcaijcaa
open Go.RowKit

/-- The head of a form: what stands while operations float. -/
structure FmR (kind next : Nat) (W : World) (D : Nat → Bool) (xs : Nat → Value) (w : World) : Prop where
  bel : Below W.heap.size W w
  a2 : D 2 = true → D 7 = false → Own W.heap.size w (xs 2) [kind]
  a6 : D 6 = true → D 7 = false → Own W.heap.size w (xs 6) (Cod.le 4 next)
  a7 : D 7 = true → Own W.heap.size w (xs 7) ([kind] ++ Cod.le 4 next)
  a8 : D 8 = true → xs 8 = xs 7
section
variable {kind next : Nat} {W w w' : World} {D : Nat → Bool} {xs : Nat → Value} {u : Value}
theorem FmR.first (W : World) (kind next : Nat) (xs : Nat → Value) : FmR kind next W (fun _ => false) xs W.drew := ⟨(Below.refl _ _).go1, fun h => (by cases h), fun h => (by cases h), fun h => (by cases h), fun h => (by cases h)⟩
theorem FmR.skip (h : FmR kind next W D xs w) (j : Nat) (hj : (j != 2 && j != 6 && j != 7 && j != 8) = true) : FmR kind next W (Ord.wth D j) (Ord.set xs j u) w := by
  simp only [Bool.and_eq_true, bne_iff_ne] at hj
  obtain ⟨⟨⟨n2, n6⟩, n7⟩, n8⟩ := hj
  refine ⟨h.bel, ?_, ?_, ?_, ?_⟩
  · rw [wth_ne _ (Ne.symm n2), wth_ne _ (Ne.symm n7), oset_ne _ _ (Ne.symm n2)]; exact h.a2
  · rw [wth_ne _ (Ne.symm n6), wth_ne _ (Ne.symm n7), oset_ne _ _ (Ne.symm n6)]; exact h.a6
  · rw [wth_ne _ (Ne.symm n7), oset_ne _ _ (Ne.symm n7)]; exact h.a7
  · rw [wth_ne _ (Ne.symm n8), oset_ne _ _ (Ne.symm n8), oset_ne _ _ (Ne.symm n7)]; exact h.a8
theorem FmR.op2 (h : FmR kind next W D xs w) (hk : kind < 256) (hu : u = .slice (some ⟨w.heap.size, 0, none⟩) 1 1) : FmR kind next W (Ord.wth D 2) (Ord.set xs 2 u) (w.alloc (.cells #[.int .u8 (kind : Int)] 5)) := by
  have hb := below_new w (.cells #[.int .u8 (kind : Int)] 5)
  refine ⟨h.bel.trans (hb.mono h.bel.size), ?_, ?_, ?_, ?_⟩
  · rw [oset_self, hu]
    exact fun _ _ => ⟨World.ownsRow_lit w #[.int .u8 (kind : Int)] 1 h.bel.size (by unfold maxLen; omega) rfl, fun x hx => by rw [List.mem_singleton.1 hx]; exact hk, by simp⟩
  · rw [wth_ne _ (by decide), wth_ne _ (by decide), oset_ne _ _ (by decide)]; exact fun a b => (h.a6 a b).below hb
  · rw [wth_ne _ (by decide), oset_ne _ _ (by decide)]; exact fun a => (h.a7 a).below hb
  · rw [wth_ne _ (by decide), oset_ne _ _ (by decide), oset_ne _ _ (by decide)]; exact h.a8
theorem FmR.op6 (h : FmR kind next W D xs w) (hO : Own w.heap.size w' u (Cod.le 4 next)) (hb : Below w.heap.size w w') : FmR kind next W (Ord.wth D 6) (Ord.set xs 6 u) w' := by
  refine ⟨h.bel.trans (hb.mono h.bel.size), ?_, ?_, ?_, ?_⟩
  · rw [wth_ne _ (by decide), wth_ne _ (by decide), oset_ne _ _ (by decide)]; exact fun a b => (h.a2 a b).below hb
  · rw [oset_self]; exact fun _ _ => hO.from h.bel.size
  · rw [wth_ne _ (by decide), oset_ne _ _ (by decide)]; exact fun a => (h.a7 a).below hb
  · rw [wth_ne _ (by decide), oset_ne _ _ (by decide), oset_ne _ _ (by decide)]; exact h.a8
theorem FmR.op7 (h : FmR kind next W D xs w) (h8 : D 8 = false) (hO : Own W.heap.size w' u ([kind] ++ Cod.le 4 next)) (hb : Below W.heap.size w w') : FmR kind next W (Ord.wth D 7) (Ord.set xs 7 u) w' := by
  refine ⟨h.bel.trans hb, ?_, ?_, ?_, ?_⟩
  · rw [wth_self]; intro _ a; cases a
  · rw [wth_self]; intro _ a; cases a
  · rw [oset_self]; exact fun _ => hO
  · rw [wth_ne _ (by decide), h8]; intro a; cases a
theorem FmR.op8 (h : FmR kind next W D xs w) : FmR kind next W (Ord.wth D 8) (Ord.set xs 8 (xs 7)) w := by
  refine ⟨h.bel, ?_, ?_, ?_, ?_⟩
  · rw [wth_ne _ (by decide), wth_ne _ (by decide), oset_ne _ _ (by decide)]; exact h.a2
  · rw [wth_ne _ (by decide), wth_ne _ (by decide), oset_ne _ _ (by decide)]; exact h.a6
  · rw [wth_ne _ (by decide), oset_ne _ _ (by decide)]; exact h.a7
  · rw [oset_self, oset_ne _ _ (by decide)]; exact fun _ => rfl
end
def FmF (P kind next : Nat) (i : Nat) (v : Value) (_ : World) : Prop :=
  match i with
  | 0 => v = .pointer (some ⟨P, 0, none⟩)
  | 1 => v = .int .u8 (kind : Int)
  | 3 => v = .pointer (some ⟨P, 1, none⟩)
  | 4 => v = .int .u32 (next : Int)
  | 5 => v = .int .u64 (next : Int)
  | _ => True

theorem apart_sym {u v : Value} (h : u.ownBlock = none ∨ u.ownBlock ≠ v.ownBlock) : v.ownBlock = none ∨ v.ownBlock ≠ u.ownBlock := by
  rcases h with h | h
  · rw [h]
    cases v.ownBlock with
    | none => exact Or.inl rfl
    | some g => exact Or.inr (by simp)
  · exact Or.inr (Ne.symm h)
/-- A block of the one stays apart from the other's, where the one was appended to. -/
theorem apart_on {w w' : World} {base' : Nat} {v v' u : Value} {l' : List Nat} (hu : Own base' w u l') (hne : v.ownBlock = none ∨ v.ownBlock ≠ u.ownBlock) (hg : w.grownBy w' v.ownBlock) (hat : v'.ownBlock = v.ownBlock ∨ v'.ownBlock = some w.heap.size) :
    Own base' w' u l' ∧ (v'.ownBlock = none ∨ v'.ownBlock ≠ u.ownBlock) := by
  refine ⟨hu.grown hg ?_, ?_⟩
  · rcases hne with h | h
    · rw [h]
      cases hu2 : u.ownBlock with
      | none => exact Or.inl rfl
      | some g => exact Or.inr (by simp)
    · exact Or.inr (fun e => h e.symm)
  · rcases hat with h | h
    · rw [h]; exact hne
    · refine Or.inr fun e => ?_
      rw [h] at e
      have := (hu.own.lt w.heap.size e.symm).2
      omega

set_option maxHeartbeats 6400000 in
set_option maxRecDepth 20000 in
theorem refForm_any (fv dv : Value) (s : Sl.S) (w : World) (h : SlAt w fv dv s) (hm : Sl.May s) :
    Calls Try.prog 17 #[SlV s.kind s.next fv dv] w fun e w' => ∃ u, e = .returned u ∧ Own w.heap.size w' u (Sl.form s) ∧ Below w.heap.size w w' := by
  obtain ⟨W, hW⟩ : ∃ W, W = w.alloc (sobj s.kind s.next fv dv) := ⟨_, rfl⟩
  have hb0 : Below w.heap.size w W := by rw [hW]; exact below_new _ _
  have hrow := sblk w s.kind s.next fv dv
  rw [← hW] at hrow
  have hA := h.below hb0
  obtain ⟨p1, c1, p2, c2, rfl, rfl⟩ := slv_slices hA
  unfold sobj at hW
  obtain ⟨P, hP⟩ : ∃ P, P = w.heap.size := ⟨_, rfl⟩
  rw [← hP] at hrow
  have HA := Lib.hid hA
  have HQ := Lib.hid (four_cell hrow)
  have HPL : Hid (P < W.heap.size) := lt_of_block hrow
  have HROW := Lib.hid hrow
  have HB0 := Lib.hid hb0
  have HMY := Lib.hid hm
  have HKN : Hid (s.kind < 256 ∧ s.next < 4294967296) := ⟨h.kind, h.next⟩
  obtain ⟨fo, hfo⟩ : ∃ fo, fo = Sl.form s := ⟨_, rfl⟩
  rw [← hfo]
  have HFO := Lib.hid hfo
  clear hb0 hrow hA h hm hfo
  go_enter Try.func17, Try.ntmps17
  go_upto_region 1 with (fail)
  rw [← hW, ← hP]
  clear hW hP
  refine Ord.walk (FmF P s.kind s.next) (FmR s.kind s.next W) (fun _ _ => True)
    (by kernel_rfl) (by kernel_rfl) ?fr1 ?hfr1 (fun _ _ _ _ _ h => h) (fun xs => FmR.first W _ _ xs) ?he1 ?hend1
  case hfr1 =>
    intro xs
    simp only [Ord.fill, Act.put, List.setIfInBounds_toArray, List.set_cons_zero, List.set_cons_succ]
    rfl
  case he1 =>
    refine Ord.each_cons (fun D xs w2 hD hC hP hR hA K hK => ?_) ?_
    · -- 0
      clear hA
      go_simp
      exact hK _ _ ⟨_, rfl, trivial, hR.skip _ (by decide), rfl⟩
    refine Ord.each_cons (fun D xs w2 hD hC hP hR hA K hK => ?_) ?_
    · -- 1
      have q0 := Ord.ahead_get _ hA 0 (by decide)
      simp only [FmF] at q0
      simp only [q0] at hK
      clear hA
      have c0 := hR.bel.cell (p := ⟨P, 0, none⟩) HPL.out
      rw [HQ.out.1] at c0
      go_simp
      exact hK _ _ ⟨_, rfl, trivial, hR.skip _ (by decide), rfl⟩
    refine Ord.each_cons (fun D xs w2 hD hC hP hR hA K hK => ?_) ?_
    · -- 2
      have q1 := Ord.ahead_get _ hA 1 (by decide)
      simp only [FmF] at q1
      simp only [q1] at hK
      clear hA
      have hst := hR.op2 HKN.out.1 (u := .slice (some ⟨w2.heap.size, 0, none⟩) 1 1) rfl
      go_simp
      exact hK _ _ ⟨_, rfl, trivial, hst, trivial⟩
    refine Ord.each_cons (fun D xs w2 hD hC hP hR hA K hK => ?_) ?_
    · -- 3
      clear hA
      go_simp
      exact hK _ _ ⟨_, rfl, trivial, hR.skip _ (by decide), rfl⟩
    refine Ord.each_cons (fun D xs w2 hD hC hP hR hA K hK => ?_) ?_
    · -- 4
      have q3 := Ord.ahead_get _ hA 3 (by decide)
      simp only [FmF] at q3
      simp only [q3] at hK
      clear hA
      have c0 := hR.bel.cell (p := ⟨P, 1, none⟩) HPL.out
      rw [HQ.out.2.1] at c0
      go_simp
      exact hK _ _ ⟨_, rfl, trivial, hR.skip _ (by decide), rfl⟩
    refine Ord.each_cons (fun D xs w2 hD hC hP hR hA K hK => ?_) ?_
    · -- 5
      have q4 := Ord.ahead_get _ hA 4 (by decide)
      simp only [FmF] at q4
      simp only [q4] at hK
      clear hA
      have hwc : IntKind.u64.wrap (s.next : Int) = (s.next : Int) := IntWalk.u64_in _ (by have := HKN.out.2; omega)
      go_simp
      exact hK _ _ ⟨_, rfl, trivial, hR.skip _ (by decide), rfl⟩
    refine Ord.each_cons (fun D xs w2 hD hC hP hR hA K hK => ?_) ?_
    · -- 6
      have q5 := Ord.ahead_get _ hA 5 (by decide)
      simp only [FmF] at q5
      simp only [q5] at hK
      clear hA
      go_simp
      refine (refFixed_any s.next 4 w2 (by decide)).mono ?_
      rintro e w' ⟨u, rfl, hO, hb⟩
      exact hK _ _ ⟨_, rfl, trivial, hR.op6 hO hb, trivial⟩
    refine Ord.each_cons (fun D xs w2 hD hC hP hR hA K hK => ?_) ?_
    · -- 7
      clear hA
      have h8 : D 8 = false := by
        cases h : D 8
        · rfl
        · have := Ord.closed_at hC 8 7 (by kernel_rfl) h
          rw [hD] at this; cases this
      have h2 : D 2 = true := hP { on := 2, ground := .data } (by simp) rfl
      have h6 : D 6 = true := hP { on := 6, ground := .data } (by simp) rfl
      refine wp_append_Own (.tmp 9) (.tmp 13) rfl W.heap.size (xs 2) [s.kind] rfl (hR.a2 h2 hD) (xs 6) (Cod.le 4 s.next) rfl (hR.a6 h6 hD).bts (by rw [Cod.le_length]; simp) hR.bel.size ?_
      intro u w' hO2 hb2 _
      exact hK _ _ ⟨_, rfl, trivial, hR.op7 h8 hO2 hb2, trivial⟩
    refine Ord.each_cons (fun D xs w2 hD hC hP hR hA K hK => ?_) ?_
    · -- 8
      clear hA
      go_simp
      exact hK _ _ ⟨_, rfl, trivial, hR.op8, trivial⟩
    exact Ord.each_nil
  case hend1 =>
    intro D1 xs1 w1 hR1 hF1
    have hO7 := hR1.a7 (hF1 7 (by decide)).1
    have e8 := hR1.a8 (hF1 8 (by decide)).1
    rw [e8]
    have HO7 := Lib.hid hO7
    have HB1 := Lib.hid hR1.bel
    clear hO7 e8 hR1 hF1
    generalize xs1 7 = b7 at *
    generalize xs1 0 = t0 at *
    generalize xs1 1 = t1 at *
    generalize xs1 2 = t2 at *
    generalize xs1 3 = t3 at *
    generalize xs1 4 = t4 at *
    generalize xs1 5 = t5 at *
    generalize xs1 6 = t6 at *
    generalize xs1 8 = t8 at *
    obtain ⟨q0, q1, q2, q3⟩ := four_cell (show w1.heap[P]? = _ by rw [HB1.out.block _ HPL.out]; exact HROW.out)
    have hmost := HMY.out.most
    have hlen := HMY.out.len
    have hw8 := IntWalk.u8_in (s.data.length : Int) (by omega)
    have HDL : Hid (s.data.length ≤ 247) := by show _ ≤ _; omega
    have hl5 : ([s.kind] ++ Cod.le 4 s.next).length = 5 := by rw [List.length_append, Cod.le_length]; rfl
    have HL5 := Lib.hid hl5
    clear hmost hlen hl5
    go_upto_region 2 with (fail)
    iterate 19 go_step
    refine wpList_append_byte rfl (.tmp 15) (.tmp 20) rfl W.heap.size b7 ([s.kind] ++ Cod.le 4 s.next) rfl HO7.out rfl s.data.length rfl (by have := HDL.out; omega) (by rw [HL5.out]; decide) HB1.out.size ?_
    intro b2 w2 hO2 hb2
    have ehd : [s.kind] ++ Cod.le 4 s.next ++ [s.data.length] = Sl.head s := by unfold Sl.head; rfl
    rw [ehd] at hO2
    have HO2 := Lib.hid hO2
    have HB2 := Lib.hid (HB1.out.trans hb2)
    clear hO2 hb2 ehd hw8 q0 q1 q2 q3 HO7 HB1 HL5
    go_wp2_with fail
    have HHL : Hid ((Sl.head s).length = 6) := Sl.head_length s
    go_loopw [3, 4, 5] (fun bv tv iv wr => ∃ k : Nat, k ≤ s.data.length ∧ iv = .int .i64 k ∧ Own W.heap.size wr bv (Sl.head s ++ Sl.sizes s k) ∧ Own W.heap.size wr tv (s.data.take k).flatten ∧ (bv.ownBlock = none ∨ bv.ownBlock ≠ tv.ownBlock) ∧ Below W.heap.size W wr) (fun _ _ iv _ => s.data.length - (intOf iv).toNat)
    case atStart => exact ⟨0, Nat.zero_le _, rfl, by simpa [Sl.sizes] using HO2.out, own_nil _ _, by cases hbb : b2.ownBlock with | none => exact Or.inl rfl | some g => exact Or.inr (by simp [Value.ownBlock]), HB2.out⟩
    case round =>
      obtain ⟨k, hk, rfl, hOb, hOt, hne, hb⟩ := hrel
      have HOB := Lib.hid hOb
      have HOT := Lib.hid hOt
      have HNE := Lib.hid hne
      have HBB := Lib.hid hb
      clear hOb hOt hne hb
      have hxx := HBB.out.block _ HPL.out
      rw [HROW.out] at hxx
      have HX := Lib.hid hxx
      clear hxx
      obtain ⟨q0, q1, q2, q3⟩ := four_cell HX.out
      by_cases hlt : k < s.data.length
      · have HLT := Lib.hid hlt
        have hi : (k : Int) < (s.data.length : Int) := by omega
        have hif : (k : Int) < (s.full.length : Int) := by have := HMY.out.len; omega
        have hw5 := IntWalk.i64_in ((k : Int) + 1) (by have := HDL.out; omega)
        obtain ⟨p, cap, hpc, -, -, hform⟩ := HA.out.data.form2
        simp only [Value.slice.injEq] at hpc
        obtain ⟨rfl, -, rfl⟩ := hpc
        obtain ⟨bd, od, rfl, hc⟩ := hform (by omega)
        obtain ⟨q, c, hu, hbt⟩ := hc k hlt
        obtain ⟨pf, capf, hpcf, -, -, hformf⟩ := FAt.form HA.out.full
        simp only [Value.slice.injEq] at hpcf
        obtain ⟨rfl, -, rfl⟩ := hpcf
        obtain ⟨bf, of, rfl, hcf⟩ := hformf (by omega)
        have huf := hcf k (by have := HMY.out.len; omega)
        have HU := Lib.hid hu
        have HUL : Hid (bd < W.heap.size) := block_lt_of_cell hu
        have HBT := Lib.hid hbt
        have hdl : (s.data.getD k []).length ≤ 500 := by have h1 := Sl.tot_ge hlt; have h2 := HMY.out.fit; unfold Sl.took at h2; omega
        have HDDL := Lib.hid hdl
        have du := HBB.out.cell (p := ⟨bd, od + k, none⟩) HUL.out
        rw [HU.out] at du
        have df := HBB.out.cell (p := ⟨bf, of + k, none⟩) (block_lt_of_cell huf)
        rw [huf] at df
        have hwl := IntWalk.i64_in (((s.data.getD k []).length : Int) + 1) (by omega)
        obtain ⟨m, hm⟩ : ∃ m, m = Sl.sz s k := ⟨_, rfl⟩
        have HM2 := Lib.hid hm
        have hfe : Sl.fa s k = true → (m : Int) = ((s.data.getD k []).length : Int) + 1 := fun e => by rw [hm]; unfold Sl.sz; rw [e, if_pos rfl]; rfl
        have hff : Sl.fa s k = false → m = 0 := fun e => by rw [hm]; unfold Sl.sz; rw [e, if_neg (by decide)]
        have hmm : m ≤ 501 := by rw [hm]; exact Sl.sz_le HMY.out (by have := HMY.out.len; omega)
        have HMM := Lib.hid hmm
        have hwm : IntKind.u64.wrap (m : Int) = (m : Int) := IntWalk.u64_in _ (by omega)
        have HFT : Hid ((s.data.take k).flatten ++ s.data.getD k [] = (s.data.take (k + 1)).flatten) := by show _ = _; rw [Sl.take_succ' s.data [] hlt]; simp
        have HTL : Hid ((s.data.take k).flatten.length ≤ 500) := by
          show (s.data.take k).flatten.length ≤ 500
          have h1 : Sl.tot (s.data.take k) ≤ Sl.tot s.data := Sl.tot_take_le s.data k
          have h2 := HMY.out.fit
          unfold Sl.took at h2
          unfold Sl.tot at h1 h2
          omega
        have HSL : Hid ((Sl.head s ++ Sl.sizes s k).length ≤ 500) := by
          show _ ≤ _
          rw [List.length_append, HHL.out, Sl.sizes_length]; have := HDL.out; omega
        obtain ⟨d, hd⟩ : ∃ d, d = s.data.getD k [] := ⟨_, rfl⟩
        rw [← hd] at du hdl hwl hfe HBT HDDL HFT HU
        clear hform hc hformf hcf hu hbt huf hlt hm hmm hd
        have HFE : Hid (∀ (x : Int), x = (m : Int) → True) := fun _ _ => trivial
        clear HFE
        cases hfa : Sl.fa s k with
        | true =>
          have hmv := hfe hfa
          rw [hfa] at df
          rw [hmv] at hwm
          clear hfe hff hfa
          have HMV := Lib.hid hmv
          clear hmv
          go_wp2_with fail
          refine (refFixed_any (d.length + 1) 2 wr (by decide)).mono ?_
          rintro e w4 ⟨ub, rfl, hO4, hb4⟩
          have HO4 := Lib.hid hO4
          have HB4 := Lib.hid (HBB.out.trans (hb4.mono HBB.out.size))
          have HOB4 := Lib.hid (HOB.out.below hb4)
          have HOT4 := Lib.hid (HOT.out.below hb4)
          clear hO4 hb4 q0 q1 q2 q3
          dsimp only
          go_at_K
          go_step
          refine wpList_plain rfl fun K hK => wp_append_At (.tmp 41) (.tmp 44) rfl W.heap.size u3 _ rfl HOB4.out _ (Cod.le 2 (d.length + 1)) rfl HO4.out.bts (by rw [Cod.le_length]; have := HSL.out; omega) HB4.out.size fun b5 w5 hO5 hb5 hg5 hat5 => hK _ _ ?_
          clear hK
          obtain ⟨hot5, hne5⟩ := apart_on HOT4.out HNE.out hg5 hat5
          have hme : d.length + 1 = m := by have := HMV.out; omega
          rw [hme] at hO5
          rw [List.append_assoc, HM2.out, ← Sl.sizes_succ] at hO5
          have HO5 := Lib.hid hO5
          have HOT5 := Lib.hid hot5
          have HNE5 := Lib.hid hne5
          have HB5 := Lib.hid (HB4.out.trans hb5)
          clear hO5 hot5 hne5 hb5 hg5 hat5
          have hx5 := HB5.out.block _ HPL.out
          rw [HROW.out] at hx5
          obtain ⟨q0, q1, q2, q3⟩ := four_cell hx5
          have du5 := HB5.out.cell (p := ⟨bd, od + k, none⟩) HUL.out
          rw [HU.out] at du5
          clear du df hx5
          go_upto_region 11 with (fail)
          iterate 19 go_step
          refine wpList_plain rfl fun K hK => wp_append_At (.tmp 46) (.tmp 51) rfl W.heap.size u4 _ rfl HOT5.out _ d rfl (HBT.out.below HB5.out) (by have h1 := HTL.out; have h2 := HDDL.out; omega) HB5.out.size fun t6 w6 hO6 hb6 hg6 hat6 => hK _ _ ?_
          clear hK
          obtain ⟨hob6, hne6⟩ := apart_on HO5.out (apart_sym HNE5.out) hg6 hat6
          rw [HFT.out] at hO6
          have HO6 := Lib.hid hO6
          have HOB6 := Lib.hid hob6
          have HNE6 := Lib.hid (apart_sym hne6)
          have HB6 := Lib.hid (HB5.out.trans hb6)
          clear hO6 hob6 hne6 hb6 hg6 hat6
          go_wp2_with fail
          go_roundw
          case rel => exact ⟨k + 1, by have := HLT.out; omega, by go_num, HOB6.out, HO6.out, HNE6.out, HB6.out⟩
          case measure => have := HLT.out; simp [intOf]; omega
        | false =>
          have hmv := hff hfa
          rw [hfa] at df
          clear hfe hff hfa
          have HMV := Lib.hid hmv
          clear hmv
          have hwz : IntKind.u64.wrap (0 : Int) = 0 := rfl
          go_wp2_with fail
          refine (refFixed_any 0 2 wr (by decide)).mono ?_
          rintro e w4 ⟨ub, rfl, hO4, hb4⟩
          have HO4 := Lib.hid hO4
          have HB4 := Lib.hid (HBB.out.trans (hb4.mono HBB.out.size))
          have HOB4 := Lib.hid (HOB.out.below hb4)
          have HOT4 := Lib.hid (HOT.out.below hb4)
          clear hO4 hb4 q0 q1 q2 q3
          dsimp only
          go_at_K
          go_step
          refine wpList_plain rfl fun K hK => wp_append_At (.tmp 41) (.tmp 44) rfl W.heap.size u3 _ rfl HOB4.out _ (Cod.le 2 0) rfl HO4.out.bts (by rw [Cod.le_length]; have := HSL.out; omega) HB4.out.size fun b5 w5 hO5 hb5 hg5 hat5 => hK _ _ ?_
          clear hK
          obtain ⟨hot5, hne5⟩ := apart_on HOT4.out HNE.out hg5 hat5
          rw [← HMV.out] at hO5
          rw [List.append_assoc, HM2.out, ← Sl.sizes_succ] at hO5
          have HO5 := Lib.hid hO5
          have HOT5 := Lib.hid hot5
          have HNE5 := Lib.hid hne5
          have HB5 := Lib.hid (HB4.out.trans hb5)
          clear hO5 hot5 hne5 hb5 hg5 hat5
          have hx5 := HB5.out.block _ HPL.out
          rw [HROW.out] at hx5
          obtain ⟨q0, q1, q2, q3⟩ := four_cell hx5
          have du5 := HB5.out.cell (p := ⟨bd, od + k, none⟩) HUL.out
          rw [HU.out] at du5
          clear du df hx5
          go_upto_region 11 with (fail)
          iterate 19 go_step
          refine wpList_plain rfl fun K hK => wp_append_At (.tmp 46) (.tmp 51) rfl W.heap.size u4 _ rfl HOT5.out _ d rfl (HBT.out.below HB5.out) (by have h1 := HTL.out; have h2 := HDDL.out; omega) HB5.out.size fun t6 w6 hO6 hb6 hg6 hat6 => hK _ _ ?_
          clear hK
          obtain ⟨hob6, hne6⟩ := apart_on HO5.out (apart_sym HNE5.out) hg6 hat6
          rw [HFT.out] at hO6
          have HO6 := Lib.hid hO6
          have HOB6 := Lib.hid hob6
          have HNE6 := Lib.hid (apart_sym hne6)
          have HB6 := Lib.hid (HB5.out.trans hb6)
          clear hO6 hob6 hne6 hb6 hg6 hat6
          go_wp2_with fail
          go_roundw
          case rel => exact ⟨k + 1, by have := HLT.out; omega, by go_num, HOB6.out, HO6.out, HNE6.out, HB6.out⟩
          case measure => have := HLT.out; simp [intOf]; omega
      · obtain rfl : k = s.data.length := by omega
        have hOt := HOT.out
        rw [List.take_length] at hOt
        have HOT2 := Lib.hid hOt
        have HFL : Hid (s.data.flatten.length = Sl.tot s.data) := rfl
        have HTK : Hid (6 + 2 * s.data.length + Sl.tot s.data ≤ 500) := HMY.out.fit
        have HSL : Hid ((Sl.head s ++ Sl.sizes s s.data.length).length = 6 + 2 * s.data.length) := by show _ = _; rw [List.length_append, HHL.out, Sl.sizes_length]
        clear hOt hlt hk
        go_upto_region 12 with (fail)
        iterate 7 go_step
        refine wpList_append_Own rfl (.tmp 53) (.tmp 54) rfl W.heap.size _ _ rfl HOB.out _ s.data.flatten rfl HOT2.out.bts (by rw [HSL.out, HFL.out]; have := HTK.out; omega) HBB.out.size ?_
        intro b3 w3 hO3 hb3 _
        have HO3 := Lib.hid hO3
        have HB3 := Lib.hid (HBB.out.trans hb3)
        have HLN : Hid ((Sl.head s ++ Sl.sizes s s.data.length ++ s.data.flatten).length = 6 + 2 * s.data.length + Sl.tot s.data) := by show _ = _; rw [List.length_append, HSL.out, HFL.out]
        obtain ⟨p3, c3, e3⟩ := own_slv hO3
        clear hO3 hb3 q0 q1 q2 q3
        obtain ⟨nn, hnn⟩ : ∃ nn, nn = (Sl.head s ++ Sl.sizes s s.data.length ++ s.data.flatten).length := ⟨_, rfl⟩
        rw [← hnn] at e3
        have HNN := Lib.hid hnn
        have HNL : Hid (nn ≤ 500) := by show nn ≤ 500; rw [hnn, HLN.out]; exact HTK.out
        subst e3
        clear hnn
        obtain ⟨kz, hkz⟩ : ∃ kz, kz = 500 - nn := ⟨_, rfl⟩
        have hwk : IntKind.i64.wrap (500 - (nn : Int)) = (kz : Int) := by have := HNL.out; rw [IntWalk.i64_in _ (by omega)]; omega
        have HKZ := Lib.hid hkz
        obtain ⟨b4, w4, hrun, hO4, hb4⟩ := run_append_zeros HO3.out (by rw [← HNN.out, HNN.out, HLN.out]; omega) kz (by rw [← HNN.out]; have := HNL.out; omega) HB3.out.size 30
        have HO4 := Lib.hid hO4
        have HB4 := Lib.hid (HB3.out.trans hb4)
        have HRUN := Lib.hid hrun
        clear hO4 hb4 hrun hkz
        go_upto_region 13 with (fail)
        iterate 13 go_step
        refine Lib.wpList_append_run _ rfl (.tmp 56) (.tmp 59) _ _ rfl _ _ rfl rfl _ _ HRUN.out ?_
        clear HRUN
        go_wp2_with fail
        go_ret
        refine ⟨_, rfl, ?_, HB0.out.trans (HB4.out.mono HB0.out.size)⟩
        have hff : Sl.head s ++ Sl.sizes s s.data.length ++ s.data.flatten ++ List.replicate kz 0 = fo := by
          rw [HFO.out]
          unfold Sl.form
          have e1 : kz = 500 - Sl.took s := by rw [HKZ.out, HNN.out, HLN.out]; rfl
          rw [e1]
          simp only [List.append_assoc]
        rw [← hff]
        exact HO4.out.from HB0.out.size
end Go.Proofs.Ytbfpmpomcaijcaa
