/- What Read answers: the record whose form the bytes are, in new memory; else ErrBytes. Conditions: the slice's cells hold the bytes. -/
import Derived.Test.YtpliogkcfhcfpaaItemVec
import Derived.Test.YtpliogkcfhcfpaaCell3
namespace Go.Proofs.Ytpliogkcfhcfpaa
open Go.RowKit

namespace Itm
/-- How the program reads. -/
def kF (l : List Nat) : Nat := (Cod.rdNum 8 l 0).1
def vF (l : List Nat) : List Int × List Nat × Nat := vecF (Cod.rdNum 8 l 0).2.1 (Cod.rdNum 8 l 0).2.2
def tF (l : List Nat) : List Nat × List Nat × Nat := Cod.rdText (1024 : Nat) (vF l).2.1 (vF l).2.2

theorem vF_le {l : List Nat} (h : dim l ≤ 4096) : ((kF l, (vF l).1, (tF l).1, (tF l).2.1, (tF l).2.2) : Nat × List Int × List Nat × List Nat × Nat) = parts l := by
  have e : vF l = rdVec (Cod.rdUv (Cod.rdNum 8 l 0).2.1 (Cod.rdNum 8 l 0).2.2).1 (Cod.rdUv (Cod.rdNum 8 l 0).2.1 (Cod.rdNum 8 l 0).2.2).2.1 (Cod.rdUv (Cod.rdNum 8 l 0).2.1 (Cod.rdNum 8 l 0).2.2).2.2 := if_neg (by unfold dim at h; omega)
  unfold tF
  rw [e]
  rfl

theorem good_iff {l : List Nat} (hs : ∀ x ∈ l, x < 256) : Good l ↔ ((tF l).2.2 = 0 ∧ (tF l).2.1 = [] ∧ mayE (vF l).1.length (tF l).1.length = 0) := by
  by_cases h : dim l ≤ 4096
  · have e := vF_le h
    have ev : (vF l).1 = (parts l).2.1 := congrArg (fun p => p.2.1) e
    have et : (tF l).1 = (parts l).2.2.1 := congrArg (fun p => p.2.2.1) e
    have er : (tF l).2.1 = (parts l).2.2.2.1 := congrArg (fun p => p.2.2.2.1) e
    have ee : (tF l).2.2 = (parts l).2.2.2.2 := congrArg (fun p => p.2.2.2.2) e
    rw [ev, et, er, ee]
    constructor
    · intro hg
      obtain ⟨_, _, _, h1, h2, h3⟩ := form_of_good hs hg
      exact ⟨hg.2.1, hg.2.2.1, may_of h1 h2 h3⟩
    · rintro ⟨h1, h2, h3⟩
      exact ⟨h, h1, h2, (may_zero h3).1⟩
  · constructor
    · intro hg; exact absurd hg.1 h
    · rintro ⟨_, _, h3⟩
      have e : (vF l).1 = [] := by
        unfold vF vecF
        rw [if_pos (by unfold dim at h; omega)]
      rw [e] at h3
      exact absurd (may_zero h3).1 (by decide)

theorem good_parts {l : List Nat} (h : Good l) : kF l = (parts l).1 ∧ (vF l).1 = (parts l).2.1 ∧ (tF l).1 = (parts l).2.2.1 := by
  have e := vF_le h.1
  exact ⟨congrArg (fun p => p.1) e, congrArg (fun p => p.2.1) e, congrArg (fun p => p.2.2.1) e⟩
end Itm

/-- What Read answers. -/
structure ReadIs (w0 : World) (l : List Nat) (en : Ending) (w' : World) : Prop where
  bel : Below w0.heap.size w0 w'
  good : Itm.Good l → ∃ vv vm, en = .returned (.tuple #[ItemV (Itm.parts l).1 vv vm, .int .i64 0]) ∧ I32.Own w0.heap.size w' vv (Itm.parts l).2.1 ∧ Own w0.heap.size w' vm (Itm.parts l).2.2.1
  none : ¬ Itm.Good l → en = .returned (.tuple #[ItemV 0 (.slice none 0 0) (.slice none 0 0), .int .i64 4])

theorem i32own_sl {base : Nat} {w : World} {x : Value} {l : List Int} (h : I32.Own base w x l) : ∃ p c, x = .slice p l.length c := by
  obtain ⟨p, c, hv, -⟩ := h.bts.form
  exact ⟨p, c, hv⟩
theorem own_sl {base : Nat} {w : World} {x : Value} {l : List Nat} (h : Own base w x l) : ∃ p c, x = .slice p l.length c := by
  obtain ⟨p, c, hv, -⟩ := h.bts.form
  exact ⟨p, c, hv⟩

set_option maxHeartbeats 3200000 in
set_option maxRecDepth 20000 in
theorem read_any (s : Value) (l : List Nat) (w : World) (hB : Bts w s l) :
    Calls Try.prog 17 #[s] w (ReadIs w l) := by
  have HB := Lib.hid hB
  have HGI := Lib.hid (Itm.good_iff hB.small)
  obtain ⟨p, cap, rfl, -, -, -⟩ := hB.form
  clear hB
  go_enter Try.func17, Try.ntmps17
  go_wp2_with fail
  obtain ⟨W, hW⟩ : ∃ W, W = (w.alloc (.cells #[.int .u64 0, .slice none 0 0, .slice none 0 0] 26)).alloc (.cells #[.int .u64 0, .slice none 0 0, .slice none 0 0] 26) := ⟨_, rfl⟩
  have hb0 : Below w.heap.size w W := by rw [hW]; exact ((Below.refl _ _).alloc (Nat.le_refl _) _).alloc (by simp) _
  have hsz : (w.alloc (.cells #[.int .u64 0, .slice none 0 0, .slice none 0 0] 26)).heap.size = w.heap.size + 1 := by simp
  have hxr : W.heap[w.heap.size + 1]? = some (.cells #[.int .u64 0, .slice none 0 0, .slice none 0 0] 26 (0, 0)) := by
    rw [hW]
    have := heap_alloc_last (w.alloc (.cells #[.int .u64 0, .slice none 0 0, .slice none 0 0] 26)) (.cells #[.int .u64 0, .slice none 0 0, .slice none 0 0] 26)
    rwa [hsz] at this
  have hrr : W.heap[w.heap.size]? = some (.cells #[.int .u64 0, .slice none 0 0, .slice none 0 0] 26 (0, 0)) := by
    rw [hW]
    exact row3_below (heap_alloc_last w (.cells #[.int .u64 0, .slice none 0 0, .slice none 0 0] 26)) ((Below.refl _ _).alloc (Nat.le_refl _) _)
  rw [← hW]
  clear hW hsz
  obtain ⟨X, hX⟩ : ∃ X, X = w.heap.size + 1 := ⟨_, rfl⟩
  rw [← hX] at hxr ⊢
  obtain ⟨R, hR0⟩ : ∃ R, R = w.heap.size := ⟨_, rfl⟩
  rw [← hR0] at hrr ⊢
  have HXR0 := Lib.hid hxr
  have HRR0 := Lib.hid hrr
  have HW0 := Lib.hid hb0
  have HXW : Hid (X < W.heap.size) := lt_of_block hxr
  have HXR : Hid (X = R + 1 ∧ R = w.heap.size) := ⟨by rw [hX, hR0], hR0⟩
  have HB0 := Lib.hid (HB.out.below hb0)
  clear hxr hrr hb0 hX hR0
  refine (newReader_any _ l _ HB0.out).mono ?_
  rintro en w1 ⟨B, rfl, hR1, hBW, hb1⟩
  have HBW : Hid (W.heap.size ≤ B) := hBW
  have HLO : Hid (∀ b, (W.heap.size ≤ b ∧ b < B) → b < B) := fun b h => h.2
  have HNX : Hid (¬ (W.heap.size ≤ X ∧ X < B)) := fun h => by have := HXW.out; omega
  have HXB : Hid (X ≠ B) := by have := HXW.out; show X ≠ B; omega
  have HRB : Hid (R ≠ B) := by have := HXW.out; have := HXR.out.1; show R ≠ B; omega
  have HRX : Hid (R ≠ X) := by have := HXR.out.1; show R ≠ X; omega
  have HWB : Hid (w.heap.size ≤ B) := Nat.le_trans HW0.out.size hBW
  have HWX : Hid (w.heap.size ≤ X) := by have := HXR.out; show _ ≤ X; omega
  generalize hlo : (fun b => W.heap.size ≤ b ∧ b < B) = lo at hR1
  have HLO2 : Hid (∀ b, lo b → b < B) := by rw [← hlo]; exact HLO.out
  have HNX2 : Hid (¬ lo X) := by rw [← hlo]; exact HNX.out
  have HR1 := Lib.hid hR1
  have HXR1 := Lib.hid (row3_below HXR0.out hb1)
  have HRR1 := Lib.hid (row3_below HRR0.out hb1)
  have HW1 := Lib.hid (HW0.out.trans (hb1.mono HW0.out.size))
  clear hlo hR1 hb1 hBW HLO HNX
  -- the key
  go_wp2_with fail
  refine (U64_any lo B 0 l _ HR1.out).mono ?_
  rintro en w2 ⟨rfl, hR2, hg2⟩
  have hxr2 := row3_grown HXR1.out hg2 (by intro e; exact HXB.out (Option.some.inj e))
  have HRR2 := Lib.hid (row3_grown HRR1.out hg2 (by intro e; exact HRB.out (Option.some.inj e)))
  have HW2 := Lib.hid (below_grown HW1.out hg2 HW1.out.size HWB.out)
  obtain ⟨k, hk⟩ : ∃ k, k = (Cod.rdNum 8 l 0).1 := ⟨_, rfl⟩
  rw [← hk]
  have HK : Hid (k = Itm.kF l) := hk
  obtain ⟨l1, hl1⟩ : ∃ l1, l1 = (Cod.rdNum 8 l 0).2.1 := ⟨_, rfl⟩
  obtain ⟨e1, he1⟩ : ∃ e1, e1 = (Cod.rdNum 8 l 0).2.2 := ⟨_, rfl⟩
  rw [← hl1, ← he1] at hR2
  have HV : Hid (Itm.vF l = Itm.vecF l1 e1) := by show _ = _; rw [hl1, he1]; rfl
  have hc := cell3_0 hxr2
  have hf := free3 hxr2 0
  have HXR2 := Lib.hid (set3_0 (u := .int .u64 (k : Int)) hxr2)
  have hgx := grownBy_setCell w2 X 0 (.int .u64 (k : Int))
  have HR3 := Lib.hid (hR2.grown hgx (fun g hg => by have := Option.some.inj hg; subst this; exact ⟨HNX2.out, HXB.out⟩))
  have HRR3 := Lib.hid (row3_grown HRR2.out hgx (by intro e; exact HRX.out (Option.some.inj e)))
  have HW3 := Lib.hid (below_grown HW2.out hgx HW2.out.size HWX.out)
  clear hk hl1 he1 hR2 hg2 hxr2 hgx
  go_wp2_with fail
  generalize w2.setCell ⟨X, 0, none⟩ (.int .u64 (k : Int)) = w3 at *
  -- the components
  refine (readVec_any lo B e1 l1 _ HR3.out (fun b h => Nat.lt_trans (HLO2.out b h) HR3.out.lt)).mono ?_
  rintro en w4 ⟨vv, rfl, hO4, hR4, hg4⟩
  rw [← HV.out] at hO4 hR4
  obtain ⟨p4, c4, rfl⟩ := i32own_sl hO4
  have hxr4 := row3_grown HXR2.out hg4 (by intro e; exact HXB.out (Option.some.inj e))
  have HRR4 := Lib.hid (row3_grown HRR3.out hg4 (by intro e; exact HRB.out (Option.some.inj e)))
  have HW4 := Lib.hid (below_grown HW3.out hg4 HW3.out.size HWB.out)
  have hc := cell3_1 hxr4
  have hf := free3 hxr4 1
  have HXR4 := Lib.hid (set3_1 (u := .slice p4 (Itm.vF l).1.length c4) hxr4)
  have hgx := grownBy_setCell w4 X 1 (.slice p4 (Itm.vF l).1.length c4)
  have HX3 : Hid (X < w3.heap.size) := lt_of_block HXR2.out
  have HB3 : Hid (B < w3.heap.size) := HR3.out.lt
  have HR5 := Lib.hid (hR4.grown hgx (fun g hg => by have := Option.some.inj hg; subst this; exact ⟨HNX2.out, HXB.out⟩))
  have HO5 := Lib.hid (hO4.grown hgx (Or.inr (by intro e; have := (hO4.own.lt X e).1; have := HX3.out; omega)))
  have HRR5 := Lib.hid (row3_grown HRR4.out hgx (by intro e; exact HRX.out (Option.some.inj e)))
  have HW5 := Lib.hid (below_grown HW4.out hgx HW4.out.size HWX.out)
  clear hO4 hR4 hg4 hxr4 hgx
  go_wp2_with fail
  generalize w4.setCell ⟨X, 1, none⟩ (.slice p4 (Itm.vF l).1.length c4) = w5 at *
  -- the text
  refine (Text_any lo B _ _ 1024 _ HR5.out (by decide)).mono ?_
  rintro en w6 ⟨vm, rfl, hO6, hR6, hg6⟩
  have HT : Hid (Itm.tF l = Cod.rdText 1024 (Itm.vF l).2.1 (Itm.vF l).2.2) := rfl
  rw [← HT.out] at hO6 hR6
  clear hc hf
  obtain ⟨p6, c6, rfl⟩ := own_sl hO6
  have hxr6 := row3_grown HXR4.out hg6 (by intro e; exact HXB.out (Option.some.inj e))
  have HRR6 := Lib.hid (row3_grown HRR5.out hg6 (by intro e; exact HRB.out (Option.some.inj e)))
  have HW6 := Lib.hid (below_grown HW5.out hg6 HW5.out.size HWB.out)
  have hO6v := HO5.out.grown hg6 (Or.inr (by intro e; have := (HO5.out.own.lt B e).1; have := HB3.out; omega))
  have hc := cell3_2 hxr6
  have hf := free3 hxr6 2
  have HXR7 := Lib.hid (set3_2 (u := .slice p6 (Itm.tF l).1.length c6) hxr6)
  have hgx := grownBy_setCell w6 X 2 (.slice p6 (Itm.tF l).1.length c6)
  have HX5 : Hid (X < w5.heap.size) := lt_of_block HXR4.out
  have HR7 := Lib.hid (hR6.grown hgx (fun g hg => by have := Option.some.inj hg; subst this; exact ⟨HNX2.out, HXB.out⟩))
  have HOV7 := Lib.hid (hO6v.grown hgx (Or.inr (by intro e; have := (hO6v.own.lt X e).1; have := HX3.out; omega)))
  have HOM7 := Lib.hid (hO6.grown hgx (Or.inr (by intro e; have := (hO6.own.lt X e).1; have := HX5.out; omega)))
  have HRR7 := Lib.hid (row3_grown HRR6.out hgx (by intro e; exact HRX.out (Option.some.inj e)))
  have HW7 := Lib.hid (below_grown HW6.out hgx HW6.out.size HWX.out)
  have HB35 : Hid (w.heap.size ≤ w3.heap.size ∧ w.heap.size ≤ w5.heap.size) := ⟨HW3.out.size, HW5.out.size⟩
  clear hO6 hR6 hg6 hxr6 hgx hO6v
  go_wp2_with fail
  clear hc hf
  generalize w6.setCell ⟨X, 2, none⟩ (.slice p6 (Itm.tF l).1.length c6) = w7 at *
  have hvl := HOV7.out.len
  have hml := HOM7.out.len
  generalize hv : (Itm.vF l).1 = v at *
  generalize hm : (Itm.tF l).1 = m at *
  generalize hl3 : (Itm.tF l).2.1 = l3 at *
  generalize he3 : (Itm.tF l).2.2 = e3 at *
  have HVE := Lib.hid hv
  have HME := Lib.hid hm
  clear hv hm hl3 he3
  refine (err_any lo B e3 l3 _ HR7.out).mono ?_
  rintro en w' ⟨rfl, rfl⟩
  by_cases he : e3 = 0
  · subst he
    go_wp2_with fail
    refine (left_any lo B 0 l3 _ HR7.out).mono ?_
    rintro en w' ⟨rfl, rfl⟩
    by_cases hl : l3 = []
    · subst hl
      have hx0 := cell3_0 HXR7.out
      have hx1 := cell3_1 HXR7.out
      have hx2 := cell3_2 HXR7.out
      go_wp2_with fail
      refine (may_any _ _ _ _ _ _ _ _ hvl hml).mono ?_
      rintro en w8 ⟨rfl, hb8⟩
      have HXR8 := Lib.hid (row3_below HXR7.out hb8)
      have HRR8 := Lib.hid (row3_below HRR7.out hb8)
      have HOV8 := Lib.hid (HOV7.out.below hb8)
      have HOM8 := Lib.hid (HOM7.out.below hb8)
      have HW8 := Lib.hid (HW7.out.trans (hb8.mono HW7.out.size))
      clear hx0 hx1 hx2 hb8
      by_cases hmay : Itm.mayE v.length m.length = 0
      · have HG : Hid (Itm.Good l) := HGI.out.2 ⟨by first | trivial | rfl, by first | trivial | rfl, hmay⟩
        rw [hmay]
        clear hmay
        have hx0 := cell3_0 HXR8.out
        have hx1 := cell3_1 HXR8.out
        have hx2 := cell3_2 HXR8.out
        obtain ⟨s1, s2⟩ := set3 (x := (.int .u64 (k : Int))) (y := (.slice p4 v.length c4)) (z := (.slice p6 m.length c6)) HRR8.out
        have q0 := cell3_0 HRR8.out
        have q1 := cell3_1 (set3_0 (u := (.int .u64 (k : Int))) HRR8.out)
        have q2 := cell3_2 (set3_1 (u := (.slice p4 v.length c4)) (set3_0 (u := (.int .u64 (k : Int))) HRR8.out))
        have f0 := free3 HRR8.out 0
        have f1 := free3 (set3_0 (u := (.int .u64 (k : Int))) HRR8.out) 1
        have f2 := free3 (set3_1 (u := (.slice p4 v.length c4)) (set3_0 (u := (.int .u64 (k : Int))) HRR8.out)) 2
        have r0 := cell3_0 s1
        have r1 := cell3_1 s1
        have r2 := cell3_2 s1
        have HS2 := Lib.hid s2
        clear s1 s2
        go_wp2_with fail
        refine bodyPost_ret (v := .tuple #[ItemV k (.slice p4 v.length c4) (.slice p6 m.length c6), .int .i64 0]) (by simp [results, Try.results17, go_sem, r0, r1, r2]) rfl ⟨below_grown HW8.out HS2.out HW8.out.size (by have := HXR.out.2; omega), fun h => ?_, fun h => absurd HG.out h⟩
        obtain ⟨g1, g2, g3⟩ := Itm.good_parts h
        rw [HVE.out] at g2
        rw [HME.out] at g3
        rw [← g1, ← HK.out, ← g2, ← g3]
        have hR3 := HRR8.out
        refine ⟨_, _, rfl, ?_, ?_⟩
        · exact (HOV8.out.grown HS2.out (Or.inr (by intro e; have := (HOV8.out.own.lt R e).1; have := HXR.out.1; have := HX3.out; omega))).from HB35.out.1
        · exact (HOM8.out.grown HS2.out (Or.inr (by intro e; have := (HOM8.out.own.lt R e).1; have := HXR.out.1; have := HX5.out; omega))).from HB35.out.2
      · have HNG : Hid (¬ Itm.Good l) := fun h => hmay (HGI.out.1 h).2.2
        generalize Itm.mayE v.length m.length = e at *
        have hne : ((e : Nat) : Int) ≠ 0 := by omega
        have hne2 : ((e : Int) != 0) = true := by simp; omega
        have hne3 : ((e : Int) == 0) = false := by simp; omega
        clear hmay
        obtain ⟨s1, s2⟩ := set3 (x := (.int .u64 0)) (y := (.slice none 0 0)) (z := (.slice none 0 0)) HRR8.out
        have q0 := cell3_0 HRR8.out
        have q1 := cell3_1 (set3_0 (u := (.int .u64 0)) HRR8.out)
        have q2 := cell3_2 (set3_1 (u := (.slice none 0 0)) (set3_0 (u := (.int .u64 0)) HRR8.out))
        have f0 := free3 HRR8.out 0
        have f1 := free3 (set3_0 (u := (.int .u64 0)) HRR8.out) 1
        have f2 := free3 (set3_1 (u := (.slice none 0 0)) (set3_0 (u := (.int .u64 0)) HRR8.out)) 2
        have r0 := cell3_0 s1
        have r1 := cell3_1 s1
        have r2 := cell3_2 s1
        have HS2 := Lib.hid s2
        clear s1 s2
        go_wp2_with fail
        refine bodyPost_ret (v := .tuple #[ItemV 0 (.slice none 0 0) (.slice none 0 0), .int .i64 4]) (by simp [results, Try.results17, go_sem, r0, r1, r2]) rfl ⟨below_grown HW8.out HS2.out HW8.out.size (by have := HXR.out.2; omega), fun h => absurd h HNG.out, fun _ => rfl⟩
    · have HNG : Hid (¬ Itm.Good l) := fun h => hl (HGI.out.1 h).2.1
      have hpos : 0 < l3.length := List.length_pos_iff.2 hl
      have hd : decide (0 < (l3.length : Int)) = true := by simp; omega
      clear hl
      obtain ⟨s1, s2⟩ := set3 (x := (.int .u64 0)) (y := (.slice none 0 0)) (z := (.slice none 0 0)) HRR7.out
      have q0 := cell3_0 HRR7.out
      have q1 := cell3_1 (set3_0 (u := (.int .u64 0)) HRR7.out)
      have q2 := cell3_2 (set3_1 (u := (.slice none 0 0)) (set3_0 (u := (.int .u64 0)) HRR7.out))
      have f0 := free3 HRR7.out 0
      have f1 := free3 (set3_0 (u := (.int .u64 0)) HRR7.out) 1
      have f2 := free3 (set3_1 (u := (.slice none 0 0)) (set3_0 (u := (.int .u64 0)) HRR7.out)) 2
      have r0 := cell3_0 s1
      have r1 := cell3_1 s1
      have r2 := cell3_2 s1
      have HS2 := Lib.hid s2
      clear s1 s2
      go_wp2_with fail
      refine bodyPost_ret (v := .tuple #[ItemV 0 (.slice none 0 0) (.slice none 0 0), .int .i64 4]) (by simp [results, Try.results17, go_sem, r0, r1, r2]) rfl ⟨below_grown HW7.out HS2.out HW7.out.size (by have := HXR.out.2; omega), fun h => absurd h HNG.out, fun _ => rfl⟩
  · have HNG : Hid (¬ Itm.Good l) := fun h => he (HGI.out.1 h).1
    have hne : ((e3 : Nat) : Int) ≠ 0 := by omega
    have hne2 : ((e3 : Int) != 0) = true := by simp; omega
    have hne3 : ((e3 : Int) == 0) = false := by simp; omega
    clear he
    obtain ⟨s1, s2⟩ := set3 (x := (.int .u64 0)) (y := (.slice none 0 0)) (z := (.slice none 0 0)) HRR7.out
    have q0 := cell3_0 HRR7.out
    have q1 := cell3_1 (set3_0 (u := (.int .u64 0)) HRR7.out)
    have q2 := cell3_2 (set3_1 (u := (.slice none 0 0)) (set3_0 (u := (.int .u64 0)) HRR7.out))
    have f0 := free3 HRR7.out 0
    have f1 := free3 (set3_0 (u := (.int .u64 0)) HRR7.out) 1
    have f2 := free3 (set3_1 (u := (.slice none 0 0)) (set3_0 (u := (.int .u64 0)) HRR7.out)) 2
    have r0 := cell3_0 s1
    have r1 := cell3_1 s1
    have r2 := cell3_2 s1
    have HS2 := Lib.hid s2
    clear s1 s2
    go_wp2_with fail
    refine bodyPost_ret (v := .tuple #[ItemV 0 (.slice none 0 0) (.slice none 0 0), .int .i64 4]) (by simp [results, Try.results17, go_sem, r0, r1, r2]) rfl ⟨below_grown HW7.out HS2.out HW7.out.size (by have := HXR.out.2; omega), fun h => absurd h HNG.out, fun _ => rfl⟩
end Go.Proofs.Ytpliogkcfhcfpaa
