/- What the program's device makes of a crash. Conditions: the device's blocks; the picks are none of them. -/
import Derived.Test.YtkmkbjjpbodbfaaDkCrAt
import Derived.Test.YtkmkbjjpbodbfaaDkTorn
import Derived.Test.YtkmkbjjpbodbfaaDkWaits
namespace Go.Proofs.Ytkmkbjjpbodbfaa
open Go.RowKit

/-- One sector's crash: what the operations leave. -/
def Ch (B m1 m2 i : Nat) (a b : List Nat) (p : Nat) (k : Nat) (x : Value) (_ : World) : Prop :=
  match k with
  | 0 => x = .pointer (some ⟨B, 0, none⟩)
  | 1 => x = .pointer (some ⟨B, 0, none⟩)
  | 2 => x = .pointer (some ⟨B, 2, none⟩)
  | 3 => x = .map (some m1)
  | 4 => x = .int .i64 (i : Int)
  | 5 => x = .pointer (some ⟨B, 0, none⟩)
  | 6 => x = .pointer (some ⟨B, 0, none⟩)
  | 7 => x = .pointer (some ⟨B, 2, none⟩)
  | 8 => x = .map (some m1)
  | 9 => x = .int .i64 (i : Int)
  | 10 => x = av a
  | 11 => x = .pointer (some ⟨B, 0, none⟩)
  | 12 => x = .pointer (some ⟨B, 0, none⟩)
  | 13 => x = .pointer (some ⟨B, 3, none⟩)
  | 14 => x = .map (some m2)
  | 15 => x = .int .i64 (i : Int)
  | 16 => x = av b
  | 17 => x = .int .u8 (p : Int)
  | 18 => x = av (Dk.pick p a b)
  | _ => True
def ChR (wr : World) (m1 : Nat) (L : List (Option (List Nat))) (D : Nat → Bool) (_ : Nat → Value) (w : World) : Prop :=
  Touch (· = m1) wr w ∧ (D 19 = false → Touch (fun _ => False) wr w) ∧ (D 19 = true → MapAt w m1 L)

theorem ints_form {base : Nat} {w : World} {v : Value} {l : List Nat} (h : Ints.Own base w v (l.map fun x : Nat => (x : Int))) :
    ∃ p cap, v = .slice p l.length cap ∧ (l.length ≤ cap ∧ cap ≤ 9223372036854775807) ∧ (0 < l.length → ∃ g, p = some ⟨g, 0, none⟩ ∧ base ≤ g ∧ ∀ i, i < l.length → w.cell? ⟨g, i, none⟩ = some (.int .i64 (l.getD i 0 : Nat))) := by
  have hl : (l.map fun x : Nat => (x : Int)).length = l.length := by simp
  rcases h.form with ⟨rfl, ht⟩ | ⟨g, cap, rfl, h1, h2, h3, h4⟩
  · have : l = [] := by simpa using ht
    subst this
    exact ⟨none, 0, rfl, by decide, fun h => absurd h (by decide)⟩
  · refine ⟨some ⟨g, 0, none⟩, cap, by rw [hl], ⟨by omega, by unfold maxLen at h3; omega⟩, fun h0 => ⟨g, rfl, h1, fun i hi => ?_⟩⟩
    obtain ⟨p', cap', hv, _, _, hp⟩ := h.bts.form
    obtain ⟨b, off, hpe, hc⟩ := hp (by omega)
    simp only [Value.slice.injEq] at hv
    rw [← hv.1] at hpe
    simp only [Option.some.injEq, Addr.mk.injEq, and_true] at hpe
    obtain ⟨rfl, rfl⟩ := hpe
    have := hc i (by omega)
    rw [Nat.zero_add] at this
    rw [this]
    simp [List.getD_eq_getElem?_getD, hi]

set_option maxHeartbeats 6400000 in
set_option maxRecDepth 20000 in
theorem crash_any {B m1 m2 : Nat} {d : Dk.Dev} {w : World} (h : PDev w B m1 m2 d) (v : Value) (ps : List Nat) (hB : Bts w v ps) (hv : 0 < ps.length → ∀ g, v.ownBlock = some g → ¬ DS B m1 m2 g) :
    Calls Try.prog 23 #[.pointer (some ⟨B, 0, none⟩), v] w fun e w' => e = .returned (.int .i64 0) ∧ PDev w' B m1 m2 (Dk.crash d ps) ∧ Touch (DS B m1 m2) w w' := by
  have hn := none_any h
  have hwt := waits_any h
  have hbl := hB.len
  have HBT := Lib.hid hB
  have HV := Lib.hid hv
  obtain ⟨pp, pcap, rfl, hpcap, -, -⟩ := hB.form
  have HH := Lib.hid h
  have hsz := h.own.size
  have hnl : (Dk.list d).length ≤ 65536 := by
    unfold Dk.list
    rw [Dk.listL_length]
    have := count_le d.waits
    rw [h.own.ok.w] at this
    omega
  clear h hB hv
  go_enter Try.func23, Try.ntmps23
  go_wp2_with (go_at_call 42; refine hn.mono ?_; rintro e w' ⟨rfl, rfl⟩)
  refine hwt.mono ?_
  rintro e w1 ⟨u, rfl, hO, hb1⟩
  obtain ⟨qp, qcap, rfl, hqcap, hcell⟩ := ints_form hO
  have HCL := Lib.hid hcell
  have HB1 := Lib.hid hb1
  have HP1 := Lib.hid (HH.out.below hb1)
  have HBT1 := Lib.hid (HBT.out.below hb1)
  clear hcell hO hb1 hwt hn
  generalize hnn : (Dk.list d).length = n at *
  go_wp2_with fail
  go_loopw [13] (fun x wr => ∃ k : Nat, k ≤ n ∧ x = .int .i64 k ∧ MapAt wr m1 (Dk.crAt d ps k) ∧ Touch (· = m1) w1 wr) (fun x _ => n - (intOf x).toNat)
  case atStart => exact ⟨0, Nat.zero_le _, rfl, by rw [Dk.crAt_zero HP1.out.own.ok]; exact HP1.out.lasts, .refl _ _⟩
  case round =>
    obtain ⟨k, hk, rfl, hM, hT⟩ := hrel
    have HM := Lib.hid hM
    have HT := Lib.hid hT
    clear hM hT
    have HBK := Lib.hid (HT.out.row HP1.out.blk (fun e => HP1.out.b1 e))
    have HWT := Lib.hid (HP1.out.waits.touch HT.out (fun e => HP1.out.n12 e.symm))
    by_cases hlt : k < n
    · obtain ⟨i, b, hli, hi, hwi, hci, hcr⟩ := Dk.list_get HP1.out.own ps (k := k) (by rw [hnn]; exact hlt)
      obtain ⟨g, rfl, hg, hc⟩ := HCL.out (by omega)
      have hcell := HT.out.cell (hc k hlt) (fun e => by have := HP1.out.lasts.lt; have := HH.out.lasts.lt; simp only at e; omega)
      rw [hli] at hcell
      have hsa : Dk.Sec (d.lasts.getD i []) := HM.out.sec (z := (i : Int)) (by rw [gz_nat]; exact hcr)
      have hsb : Dk.Sec b := HWT.out.sec (z := (i : Int)) (by rw [gz_nat]; exact hwi)
      have hx1 : (gz (Dk.crAt d ps k) (i : Int)).getD Dk.blank = d.lasts.getD i [] := by rw [gz_nat, hcr]; rfl
      have hx2 : (gz d.waits (i : Int)).getD Dk.blank = b := by rw [gz_nat, hwi]; rfl
      have HX1 := Lib.hid hx1
      have HX2 := Lib.hid hx2
      have hnext := Dk.crAt_next HP1.out.own ps hi hwi hci
      have HIC := Lib.hid (show i < (Dk.crAt d ps k).length by rw [Dk.crAt_length]; exact hi)
      have hpk : ps.getD k 0 < 256 := HBT1.out.getD k
      obtain ⟨a, ha⟩ : ∃ a, d.lasts.getD i [] = a := ⟨_, rfl⟩
      rw [ha] at hsa HX1 hnext
      have HSA := Lib.hid hsa
      have HSB := Lib.hid hsb
      have HNX := Lib.hid hnext
      have HIZ := Lib.hid (show i ≤ 65536 by omega)
      obtain ⟨p, hp⟩ : ∃ p, ps.getD k 0 = p := ⟨_, rfl⟩
      rw [hp] at hpk HNX
      have HPK := Lib.hid hpk
      have HLT := Lib.hid hlt
      have hki : (k : Int) < (n : Int) := by omega
      clear hli hci hcr hc hx1 hx2 hsa hsb hnext ha hpk hwi hi hg hlt
      by_cases hkp : k < ps.length
      · have hpc : wr.cell? ⟨0, 0, none⟩ = wr.cell? ⟨0, 0, none⟩ := rfl
        obtain ⟨pg, off, rfl, hpcell⟩ : ∃ pg off, pp = some ⟨pg, off, none⟩ ∧ wr.cell? ⟨pg, off + k, none⟩ = some (.int .u8 (p : Int)) := by
          obtain ⟨p', cap', hv', _, _, hpp⟩ := HBT1.out.form
          simp only [Value.slice.injEq] at hv'
          obtain ⟨b', off', he', hc'⟩ := hpp (by omega)
          refine ⟨b', off', by rw [hv'.1, he'], ?_⟩
          have h1 := hc' k hkp
          rw [hp] at h1
          refine HT.out.cell h1 fun e => ?_
          exact HV.out (by omega) b' (by rw [hv'.1, he']; rfl) (Or.inr (Or.inl e))
        clear hpc hp
        have hkpi : (k : Int) < (ps.length : Int) := by omega
        go_upto_region 9 with (fail)
        clear hcell hpcell
        refine Ord.walk (Ch B m1 m2 i a b p) (ChR wr m1 (Dk.crAt d ps (k + 1))) (fun _ _ => True)
          (by kernel_rfl) (by kernel_rfl) ?frC1 ?hfrC1 (fun _ _ _ _ _ h => h) ?hsC1 ?heC1 ?hendC1
        case hsC1 => exact fun _ => ⟨(Touch.refl _ _).drew, fun _ => (Touch.refl _ _).drew, fun h => by cases h⟩
        case hfrC1 =>
          intro xs
          simp only [Ord.fill, Act.put, List.setIfInBounds_toArray, List.set_cons_zero, List.set_cons_succ]
          rfl
        case heC1 =>
          refine Ord.each_cons (fun D xs w2 hD hC hP hR hA K hK => ?_) ?_
          · -- 0
            clear hA
            go_simp
            exact hK _ _ ⟨_, rfl, trivial, hR, rfl⟩
          refine Ord.each_cons (fun D xs w2 hD hC hP hR hA K hK => ?_) ?_
          · -- 1
            have q0 := Ord.ahead_get _ hA 0 (by decide)
            simp only [Ch] at q0
            simp only [q0] at hK
            clear hA
            go_simp
            exact hK _ _ ⟨_, rfl, trivial, hR, rfl⟩
          refine Ord.each_cons (fun D xs w2 hD hC hP hR hA K hK => ?_) ?_
          · -- 2
            have q1 := Ord.ahead_get _ hA 1 (by decide)
            simp only [Ch] at q1
            simp only [q1] at hK
            clear hA
            go_simp
            exact hK _ _ ⟨_, rfl, trivial, hR, rfl⟩
          refine Ord.each_cons (fun D xs w2 hD hC hP hR hA K hK => ?_) ?_
          · -- 3
            have q2 := Ord.ahead_get _ hA 2 (by decide)
            simp only [Ch] at q2
            simp only [q2] at hK
            clear hA
            have c0 := blk_cell (v := .map (some m1)) (hR.1.row HBK.out (fun e => HP1.out.b1 e)) 2 rfl
            go_simp
            exact hK _ _ ⟨_, rfl, trivial, hR, rfl⟩
          refine Ord.each_cons (fun D xs w2 hD hC hP hR hA K hK => ?_) ?_
          · -- 4
            clear hA
            go_simp
            exact hK _ _ ⟨_, rfl, trivial, hR, rfl⟩
          refine Ord.each_cons (fun D xs w2 hD hC hP hR hA K hK => ?_) ?_
          · -- 5
            clear hA
            go_simp
            exact hK _ _ ⟨_, rfl, trivial, hR, rfl⟩
          refine Ord.each_cons (fun D xs w2 hD hC hP hR hA K hK => ?_) ?_
          · -- 6
            have q5 := Ord.ahead_get _ hA 5 (by decide)
            simp only [Ch] at q5
            simp only [q5] at hK
            clear hA
            go_simp
            exact hK _ _ ⟨_, rfl, trivial, hR, rfl⟩
          refine Ord.each_cons (fun D xs w2 hD hC hP hR hA K hK => ?_) ?_
          · -- 7
            have q6 := Ord.ahead_get _ hA 6 (by decide)
            simp only [Ch] at q6
            simp only [q6] at hK
            clear hA
            go_simp
            exact hK _ _ ⟨_, rfl, trivial, hR, rfl⟩
          refine Ord.each_cons (fun D xs w2 hD hC hP hR hA K hK => ?_) ?_
          · -- 8
            have q7 := Ord.ahead_get _ hA 7 (by decide)
            simp only [Ch] at q7
            simp only [q7] at hK
            clear hA
            have c0 := blk_cell (v := .map (some m1)) (hR.1.row HBK.out (fun e => HP1.out.b1 e)) 2 rfl
            go_simp
            exact hK _ _ ⟨_, rfl, trivial, hR, rfl⟩
          refine Ord.each_cons (fun D xs w2 hD hC hP hR hA K hK => ?_) ?_
          · -- 9
            clear hA
            go_simp
            exact hK _ _ ⟨_, rfl, trivial, hR, rfl⟩
          refine Ord.each_cons (fun D xs w2 hD hC hP hR hA K hK => ?_) ?_
          · -- 10
            have q8 := Ord.ahead_get _ hA 8 (by decide)
            simp only [Ch] at q8
            have q9 := Ord.ahead_get _ hA 9 (by decide)
            simp only [Ch] at q9
            simp only [q8, q9] at hK
            clear hA
            have hN : D 19 = false := by
              cases h : D 19
              · rfl
              · have h18 := Ord.closed_at hC 19 18 (by kernel_rfl) h
                have := Ord.closed_at hC 18 10 (by kernel_rfl) h18
                rw [hD] at this; cases this
            have hl := (HM.out.touch (hR.2.1 hN) id).look (a := (i : Int)) (by omega) (by have := HIZ.out; omega)
            rw [HX1.out] at hl
            go_simp
            exact hK _ _ ⟨_, rfl, trivial, hR, rfl⟩
          refine Ord.each_cons (fun D xs w2 hD hC hP hR hA K hK => ?_) ?_
          · -- 11
            clear hA
            go_simp
            exact hK _ _ ⟨_, rfl, trivial, hR, rfl⟩
          refine Ord.each_cons (fun D xs w2 hD hC hP hR hA K hK => ?_) ?_
          · -- 12
            have q11 := Ord.ahead_get _ hA 11 (by decide)
            simp only [Ch] at q11
            simp only [q11] at hK
            clear hA
            go_simp
            exact hK _ _ ⟨_, rfl, trivial, hR, rfl⟩
          refine Ord.each_cons (fun D xs w2 hD hC hP hR hA K hK => ?_) ?_
          · -- 13
            have q12 := Ord.ahead_get _ hA 12 (by decide)
            simp only [Ch] at q12
            simp only [q12] at hK
            clear hA
            go_simp
            exact hK _ _ ⟨_, rfl, trivial, hR, rfl⟩
          refine Ord.each_cons (fun D xs w2 hD hC hP hR hA K hK => ?_) ?_
          · -- 14
            have q13 := Ord.ahead_get _ hA 13 (by decide)
            simp only [Ch] at q13
            simp only [q13] at hK
            clear hA
            have c0 := blk_cell (v := .map (some m2)) (hR.1.row HBK.out (fun e => HP1.out.b1 e)) 3 rfl
            go_simp
            exact hK _ _ ⟨_, rfl, trivial, hR, rfl⟩
          refine Ord.each_cons (fun D xs w2 hD hC hP hR hA K hK => ?_) ?_
          · -- 15
            clear hA
            go_simp
            exact hK _ _ ⟨_, rfl, trivial, hR, rfl⟩
          refine Ord.each_cons (fun D xs w2 hD hC hP hR hA K hK => ?_) ?_
          · -- 16
            have q14 := Ord.ahead_get _ hA 14 (by decide)
            simp only [Ch] at q14
            have q15 := Ord.ahead_get _ hA 15 (by decide)
            simp only [Ch] at q15
            simp only [q14, q15] at hK
            clear hA
            have hl := (HWT.out.touch hR.1 (fun e => HP1.out.n12 e.symm)).look (a := (i : Int)) (by omega) (by have := HIZ.out; omega)
            rw [HX2.out] at hl
            go_simp
            exact hK _ _ ⟨_, rfl, trivial, hR, rfl⟩
          refine Ord.each_cons (fun D xs w2 hD hC hP hR hA K hK => ?_) ?_
          · -- 17
            clear hA
            go_simp
            exact hK _ _ ⟨_, rfl, trivial, hR, rfl⟩
          refine Ord.each_cons (fun D xs w2 hD hC hP hR hA K hK => ?_) ?_
          · -- 18
            have q10 := Ord.ahead_get _ hA 10 (by decide)
            simp only [Ch] at q10
            have q16 := Ord.ahead_get _ hA 16 (by decide)
            simp only [Ch] at q16
            have q17 := Ord.ahead_get _ hA 17 (by decide)
            simp only [Ch] at q17
            simp only [q10, q16, q17] at hK
            clear hA
            go_simp
            refine (torn_any a b p w2 HSA.out HSB.out HPK.out).mono ?_
            rintro e w3 ⟨rfl, hb3⟩
            exact hK _ _ ⟨_, rfl, trivial, ⟨hR.1.trans (.of_new hb3), fun h => (hR.2.1 h).trans (.of_new hb3), fun h => (hR.2.2 h).below hb3⟩, rfl⟩
          refine Ord.each_cons (fun D xs w2 hD hC hP hR hA K hK => ?_) ?_
          · -- 19
            have q3 := Ord.ahead_get _ hA 3 (by decide)
            simp only [Ch] at q3
            have q4 := Ord.ahead_get _ hA 4 (by decide)
            simp only [Ch] at q4
            have q18 := Ord.ahead_get _ hA 18 (by decide)
            simp only [Ch] at q18
            simp only [q3, q4, q18] at hK
            clear hA
            obtain ⟨w9, hrun, hm9, ht9⟩ := (HM.out.touch (hR.2.1 hD) id).put (i := i) HIC.out (Dk.sec_pick (p := p) HSA.out HSB.out)
            rw [HNX.out] at hm9
            go_simp
            exact hK _ _ ⟨undef, rfl, trivial, ⟨hR.1.trans ht9, fun h => (by cases h), fun _ => hm9⟩, trivial⟩
          exact Ord.each_nil
        case hendC1 =>
          intro D xs w3 hR hF
          have HM3 := Lib.hid (hR.2.2 (hF 19 (by decide)).1)
          have HT3 := Lib.hid (HT.out.trans hR.1)
          clear hR hF
          generalize xs 0 = z0
          generalize xs 1 = z1
          generalize xs 2 = z2
          generalize xs 3 = z3
          generalize xs 4 = z4
          generalize xs 5 = z5
          generalize xs 6 = z6
          generalize xs 7 = z7
          generalize xs 8 = z8
          generalize xs 9 = z9
          generalize xs 10 = z10
          generalize xs 11 = z11
          generalize xs 12 = z12
          generalize xs 13 = z13
          generalize xs 14 = z14
          generalize xs 15 = z15
          generalize xs 16 = z16
          generalize xs 17 = z17
          generalize xs 18 = z18
          go_wp2_with fail
          go_roundw
          case rel => exact ⟨k + 1, by have := HLT.out; omega, by go_num, HM3.out, HT3.out⟩
          case measure => have := HLT.out; simp [intOf]; omega
      · have hp0 : p = 0 := by
          rw [← hp, List.getD_eq_getElem?_getD, List.getElem?_eq_none (by omega)]; rfl
        clear hp
        subst hp0
        have hkpi : (ps.length : Int) ≤ (k : Int) := by omega
        go_upto_region 9 with (fail)
        clear hcell
        refine Ord.walk (Ch B m1 m2 i a b 0) (ChR wr m1 (Dk.crAt d ps (k + 1))) (fun _ _ => True)
          (by kernel_rfl) (by kernel_rfl) ?frC2 ?hfrC2 (fun _ _ _ _ _ h => h) ?hsC2 ?heC2 ?hendC2
        case hsC2 => exact fun _ => ⟨(Touch.refl _ _).drew, fun _ => (Touch.refl _ _).drew, fun h => by cases h⟩
        case hfrC2 =>
          intro xs
          simp only [Ord.fill, Act.put, List.setIfInBounds_toArray, List.set_cons_zero, List.set_cons_succ]
          rfl
        case heC2 =>
          refine Ord.each_cons (fun D xs w2 hD hC hP hR hA K hK => ?_) ?_
          · -- 0
            clear hA
            go_simp
            exact hK _ _ ⟨_, rfl, trivial, hR, rfl⟩
          refine Ord.each_cons (fun D xs w2 hD hC hP hR hA K hK => ?_) ?_
          · -- 1
            have q0 := Ord.ahead_get _ hA 0 (by decide)
            simp only [Ch] at q0
            simp only [q0] at hK
            clear hA
            go_simp
            exact hK _ _ ⟨_, rfl, trivial, hR, rfl⟩
          refine Ord.each_cons (fun D xs w2 hD hC hP hR hA K hK => ?_) ?_
          · -- 2
            have q1 := Ord.ahead_get _ hA 1 (by decide)
            simp only [Ch] at q1
            simp only [q1] at hK
            clear hA
            go_simp
            exact hK _ _ ⟨_, rfl, trivial, hR, rfl⟩
          refine Ord.each_cons (fun D xs w2 hD hC hP hR hA K hK => ?_) ?_
          · -- 3
            have q2 := Ord.ahead_get _ hA 2 (by decide)
            simp only [Ch] at q2
            simp only [q2] at hK
            clear hA
            have c0 := blk_cell (v := .map (some m1)) (hR.1.row HBK.out (fun e => HP1.out.b1 e)) 2 rfl
            go_simp
            exact hK _ _ ⟨_, rfl, trivial, hR, rfl⟩
          refine Ord.each_cons (fun D xs w2 hD hC hP hR hA K hK => ?_) ?_
          · -- 4
            clear hA
            go_simp
            exact hK _ _ ⟨_, rfl, trivial, hR, rfl⟩
          refine Ord.each_cons (fun D xs w2 hD hC hP hR hA K hK => ?_) ?_
          · -- 5
            clear hA
            go_simp
            exact hK _ _ ⟨_, rfl, trivial, hR, rfl⟩
          refine Ord.each_cons (fun D xs w2 hD hC hP hR hA K hK => ?_) ?_
          · -- 6
            have q5 := Ord.ahead_get _ hA 5 (by decide)
            simp only [Ch] at q5
            simp only [q5] at hK
            clear hA
            go_simp
            exact hK _ _ ⟨_, rfl, trivial, hR, rfl⟩
          refine Ord.each_cons (fun D xs w2 hD hC hP hR hA K hK => ?_) ?_
          · -- 7
            have q6 := Ord.ahead_get _ hA 6 (by decide)
            simp only [Ch] at q6
            simp only [q6] at hK
            clear hA
            go_simp
            exact hK _ _ ⟨_, rfl, trivial, hR, rfl⟩
          refine Ord.each_cons (fun D xs w2 hD hC hP hR hA K hK => ?_) ?_
          · -- 8
            have q7 := Ord.ahead_get _ hA 7 (by decide)
            simp only [Ch] at q7
            simp only [q7] at hK
            clear hA
            have c0 := blk_cell (v := .map (some m1)) (hR.1.row HBK.out (fun e => HP1.out.b1 e)) 2 rfl
            go_simp
            exact hK _ _ ⟨_, rfl, trivial, hR, rfl⟩
          refine Ord.each_cons (fun D xs w2 hD hC hP hR hA K hK => ?_) ?_
          · -- 9
            clear hA
            go_simp
            exact hK _ _ ⟨_, rfl, trivial, hR, rfl⟩
          refine Ord.each_cons (fun D xs w2 hD hC hP hR hA K hK => ?_) ?_
          · -- 10
            have q8 := Ord.ahead_get _ hA 8 (by decide)
            simp only [Ch] at q8
            have q9 := Ord.ahead_get _ hA 9 (by decide)
            simp only [Ch] at q9
            simp only [q8, q9] at hK
            clear hA
            have hN : D 19 = false := by
              cases h : D 19
              · rfl
              · have h18 := Ord.closed_at hC 19 18 (by kernel_rfl) h
                have := Ord.closed_at hC 18 10 (by kernel_rfl) h18
                rw [hD] at this; cases this
            have hl := (HM.out.touch (hR.2.1 hN) id).look (a := (i : Int)) (by omega) (by have := HIZ.out; omega)
            rw [HX1.out] at hl
            go_simp
            exact hK _ _ ⟨_, rfl, trivial, hR, rfl⟩
          refine Ord.each_cons (fun D xs w2 hD hC hP hR hA K hK => ?_) ?_
          · -- 11
            clear hA
            go_simp
            exact hK _ _ ⟨_, rfl, trivial, hR, rfl⟩
          refine Ord.each_cons (fun D xs w2 hD hC hP hR hA K hK => ?_) ?_
          · -- 12
            have q11 := Ord.ahead_get _ hA 11 (by decide)
            simp only [Ch] at q11
            simp only [q11] at hK
            clear hA
            go_simp
            exact hK _ _ ⟨_, rfl, trivial, hR, rfl⟩
          refine Ord.each_cons (fun D xs w2 hD hC hP hR hA K hK => ?_) ?_
          · -- 13
            have q12 := Ord.ahead_get _ hA 12 (by decide)
            simp only [Ch] at q12
            simp only [q12] at hK
            clear hA
            go_simp
            exact hK _ _ ⟨_, rfl, trivial, hR, rfl⟩
          refine Ord.each_cons (fun D xs w2 hD hC hP hR hA K hK => ?_) ?_
          · -- 14
            have q13 := Ord.ahead_get _ hA 13 (by decide)
            simp only [Ch] at q13
            simp only [q13] at hK
            clear hA
            have c0 := blk_cell (v := .map (some m2)) (hR.1.row HBK.out (fun e => HP1.out.b1 e)) 3 rfl
            go_simp
            exact hK _ _ ⟨_, rfl, trivial, hR, rfl⟩
          refine Ord.each_cons (fun D xs w2 hD hC hP hR hA K hK => ?_) ?_
          · -- 15
            clear hA
            go_simp
            exact hK _ _ ⟨_, rfl, trivial, hR, rfl⟩
          refine Ord.each_cons (fun D xs w2 hD hC hP hR hA K hK => ?_) ?_
          · -- 16
            have q14 := Ord.ahead_get _ hA 14 (by decide)
            simp only [Ch] at q14
            have q15 := Ord.ahead_get _ hA 15 (by decide)
            simp only [Ch] at q15
            simp only [q14, q15] at hK
            clear hA
            have hl := (HWT.out.touch hR.1 (fun e => HP1.out.n12 e.symm)).look (a := (i : Int)) (by omega) (by have := HIZ.out; omega)
            rw [HX2.out] at hl
            go_simp
            exact hK _ _ ⟨_, rfl, trivial, hR, rfl⟩
          refine Ord.each_cons (fun D xs w2 hD hC hP hR hA K hK => ?_) ?_
          · -- 17
            clear hA
            go_simp
            exact hK _ _ ⟨_, rfl, trivial, hR, rfl⟩
          refine Ord.each_cons (fun D xs w2 hD hC hP hR hA K hK => ?_) ?_
          · -- 18
            have q10 := Ord.ahead_get _ hA 10 (by decide)
            simp only [Ch] at q10
            have q16 := Ord.ahead_get _ hA 16 (by decide)
            simp only [Ch] at q16
            have q17 := Ord.ahead_get _ hA 17 (by decide)
            simp only [Ch] at q17
            simp only [q10, q16, q17] at hK
            clear hA
            go_simp
            refine (torn_any a b 0 w2 HSA.out HSB.out HPK.out).mono ?_
            rintro e w3 ⟨rfl, hb3⟩
            exact hK _ _ ⟨_, rfl, trivial, ⟨hR.1.trans (.of_new hb3), fun h => (hR.2.1 h).trans (.of_new hb3), fun h => (hR.2.2 h).below hb3⟩, rfl⟩
          refine Ord.each_cons (fun D xs w2 hD hC hP hR hA K hK => ?_) ?_
          · -- 19
            have q3 := Ord.ahead_get _ hA 3 (by decide)
            simp only [Ch] at q3
            have q4 := Ord.ahead_get _ hA 4 (by decide)
            simp only [Ch] at q4
            have q18 := Ord.ahead_get _ hA 18 (by decide)
            simp only [Ch] at q18
            simp only [q3, q4, q18] at hK
            clear hA
            obtain ⟨w9, hrun, hm9, ht9⟩ := (HM.out.touch (hR.2.1 hD) id).put (i := i) HIC.out (Dk.sec_pick (p := 0) HSA.out HSB.out)
            rw [HNX.out] at hm9
            go_simp
            exact hK _ _ ⟨undef, rfl, trivial, ⟨hR.1.trans ht9, fun h => (by cases h), fun _ => hm9⟩, trivial⟩
          exact Ord.each_nil
        case hendC2 =>
          intro D xs w3 hR hF
          have HM3 := Lib.hid (hR.2.2 (hF 19 (by decide)).1)
          have HT3 := Lib.hid (HT.out.trans hR.1)
          clear hR hF
          generalize xs 0 = z0
          generalize xs 1 = z1
          generalize xs 2 = z2
          generalize xs 3 = z3
          generalize xs 4 = z4
          generalize xs 5 = z5
          generalize xs 6 = z6
          generalize xs 7 = z7
          generalize xs 8 = z8
          generalize xs 9 = z9
          generalize xs 10 = z10
          generalize xs 11 = z11
          generalize xs 12 = z12
          generalize xs 13 = z13
          generalize xs 14 = z14
          generalize xs 15 = z15
          generalize xs 16 = z16
          generalize xs 17 = z17
          generalize xs 18 = z18
          go_wp2_with fail
          go_roundw
          case rel => exact ⟨k + 1, by have := HLT.out; omega, by go_num, HM3.out, HT3.out⟩
          case measure => have := HLT.out; simp [intOf]; omega
    · obtain rfl : k = n := by omega
      have hM := HM.out
      rw [← hnn, Dk.crAt_full HP1.out.own] at hM
      have HMF := Lib.hid hM
      have c3 := blk_cell (v := .map (some m2)) HBK.out 3 rfl
      obtain ⟨w4, hrun, hm4, ht4⟩ := HWT.out.clear_run
      have hb4 := ht4.row HBK.out (fun e => HP1.out.b2 e)
      have f4 := blk_free hb4 4
      have c4 := blk_cell (v := .int .i64 (d.armed : Int)) hb4 4 rfl
      have s1 := blk_set (i := 4) hb4 (.int .i64 0)
      have f5 := blk_free s1 5
      have c5 := blk_cell (v := .bool d.off) s1 5 rfl
      have s2 := blk_set (i := 5) s1 (.bool false)
      have htb : Touch (· = B) w4 ((w4.setCell ⟨B, 4, none⟩ (.int .i64 0)).setCell ⟨B, 5, none⟩ (.bool false)) := (Touch.set (S := (· = B)) B 4 (.int .i64 0) rfl).trans (.set B 5 (.bool false) rfl)
      have HFIN := Lib.hid (show PDev ((w4.setCell ⟨B, 4, none⟩ (.int .i64 0)).setCell ⟨B, 5, none⟩ (.bool false)) B m1 m2 (Dk.crash d ps) from ⟨Dk.own_crash HP1.out.own ps, by rw [Dk.crashed_size HP1.out.own.ok]; exact s2, (HMF.out.touch ht4 (fun e => HP1.out.n12 e)).touch htb (fun e => HP1.out.b1 e.symm),
        by rw [HP1.out.own.ok.w] at hm4; exact hm4.touch htb (fun e => HP1.out.b2 e.symm), HP1.out.b1, HP1.out.b2, HP1.out.n12⟩)
      have HTF := Lib.hid ((((Touch.of_new (S := DS B m1 m2) HB1.out).trans (HT.out.mono (T := DS B m1 m2) fun _ _ h => Or.inr (Or.inl h))).trans (ht4.mono (T := DS B m1 m2) fun _ _ h => Or.inr (Or.inr h))).trans (htb.mono (T := DS B m1 m2) fun _ _ h => Or.inl h))
      clear hm4 ht4 hb4 s1 s2 htb hM
      go_wp2_with fail
      go_ret
      exact ⟨rfl, HFIN.out, HTF.out⟩
end Go.Proofs.Ytkmkbjjpbodbfaa
