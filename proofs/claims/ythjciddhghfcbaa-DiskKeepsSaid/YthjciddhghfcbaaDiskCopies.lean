/- A copy goes its own way: the law DiskCopies. Conditions: what came in reads as it does. -/
import Derived.Test.YthjciddhghfcbaaDiskWrites
namespace Go.Proofs.Ythjciddhghfcbaa
open Go.RowKit

namespace Dk
theorem write_size (d : Dev) (a : Int) (b : List Nat) : size (write d a b).1 = size d := by
  unfold write
  split
  · rfl
  split
  · rfl
  split
  · rfl
  · show size (goes (put d a.toNat b)) = size d
    rw [goes_size]; rfl
theorem sync_sized {d : Dev} (h : Ok d) : size (sync d).1 = size d := by
  unfold sync
  split
  · rfl
  split
  · exact goes_size d
  · show size (last (goes d)) = size d
    rw [last_size2 (ok_goes h), goes_size]
theorem stepW_ok {d : Dev} (h : Ok d) (o : Opr) : Ok (stepW d o) ∧ size (stepW d o) = size d := by
  have h1 := ok_write h (atN 12 o.at_ : Nat) (secL o.fill) (secL_small o.fill)
  have h2 := write_size d (atN 12 o.at_ : Nat) (secL o.fill)
  unfold stepW
  split
  · exact ⟨ok_sync h1, by rw [sync_sized h1, h2]⟩
  · exact ⟨h1, h2⟩
theorem writesD_ok : ∀ (l : List Opr) {d : Dev}, Ok d → Ok (writesD d l) ∧ size (writesD d l) = size d
  | [], _, h => ⟨h, rfl⟩
  | o :: l, d, h => by
    obtain ⟨h1, h2⟩ := stepW_ok h o
    obtain ⟨h3, h4⟩ := writesD_ok l h1
    exact ⟨h3, by rw [show writesD d (o :: l) = writesD (stepW d o) l from rfl, h4, h2]⟩
theorem read_crash {d : Dev} (h : Ok d) (ps : List Nat) {i : Nat} (hi : i < size d) : (read (crash d ps) (i : Int)).2 = 0 ∧ (read (crash d ps) (i : Int)).1 = (crash d ps).lasts.getD i [] := by
  rw [read_fine (d := crash d ps) rfl (by rw [crashed_size h]; exact hi)]
  refine ⟨rfl, ?_⟩
  show ((List.replicate (size d) (none : Option (List Nat))).getD i none).getD _ = _
  rw [getD_replicate]; rfl
end Dk

theorem Mine1.keep {W w w' : World} {B m1 m2 : Nat} {d : Dk.Dev} {T : Nat → Prop} (h : Mine1 W w B m1 m2 d) (ht : Touch T w w') (hs : ∀ i, DS B m1 m2 i → ¬ T i) (hb : Below W.heap.size W w') : Mine1 W w' B m1 m2 d :=
  ⟨h.1.keep ht hs, h.2.1, hb⟩
theorem bts_low {w : World} {v : Value} {l : List Nat} (h : Bts w v l) (h0 : 0 < l.length) (g : Nat) (hg : v.ownBlock = some g) : g < w.heap.size := by
  obtain ⟨p, cap, hv, _, _, hp⟩ := h.form
  obtain ⟨b, off, he, hc⟩ := hp h0
  rw [hv, he] at hg
  simp only [Value.ownBlock, Option.some.injEq] at hg
  subst hg
  exact block_lt_of_cell (hc 0 h0)
/-- A slice of bytes that came in is read wherever the device's blocks lie above it. -/
theorem Mine1.crash {W w : World} {B m1 m2 : Nat} {d : Dk.Dev} (h : Mine1 W w B m1 m2 d) {v : Value} {ps : List Nat} (hB : Bts W v ps) :
    Calls Try.prog 23 #[.pointer (some ⟨B, 0, none⟩), v] w fun e w' => e = .returned (.int .i64 0) ∧ Mine1 W w' B m1 m2 (Dk.crash d ps) ∧ Touch (DS B m1 m2) w w' := by
  refine (crash_any h.1 v ps (hB.below h.2.2) fun h0 g hg hd => ?_).mono fun e w' ⟨he, hp, ht⟩ => ⟨he, h.turned hp ht, ht⟩
  have h1 := bts_low hB h0 g hg
  have h2 := h.2.1 g hd
  omega

set_option maxHeartbeats 3200000 in
set_option maxRecDepth 20000 in
theorem diskCopies_any (v0 : Value) (l0 : List Opr) (v1 : Value) (l1 : List Opr) (v2 : Value) (l2 : List Opr) (v3 : Value) (ps : List Nat) (W : World) (h0 : OpsIn W v0 l0) (z0 : l0.length ≤ 140737488351232) (h1 : OpsIn W v1 l1) (z1 : l1.length ≤ 140737488351232) (h2 : OpsIn W v2 l2) (z2 : l2.length ≤ 140737488351232) (h3 : Bts W v3 ps) :
    Calls Try.prog 7 #[v0, v1, v2, v3] W fun e w' => e = .returned (.bool true) ∧ Below W.heap.size W w' := by
  have H0 := Lib.hid h0
  have H1 := Lib.hid h1
  have H2 := Lib.hid h2
  have H3 := Lib.hid h3
  obtain ⟨p0, c0, rfl, -, -⟩ := ops_cells h0
  obtain ⟨p1, c1, rfl, -, -⟩ := ops_cells h1
  obtain ⟨p2, c2, rfl, -, -⟩ := ops_cells h2
  obtain ⟨p3, c3, rfl, -, -, -⟩ := h3.form
  clear h0 h1 h2 h3
  by_cases q0 : 60 < l0.length
  · have q0i : (60 : Int) < (l0.length : Int) := by omega
    clear q0
    go_enter Try.func7, Try.ntmps7
    go_wp2_with fail
    refine (known_any own_api W).mono ?_
    rintro e w2 ⟨rfl, hb2⟩
    have HB2 := Lib.hid hb2
    clear hb2
    go_wp2_with fail
    go_ret
    exact ⟨rfl, HB2.out⟩
  by_cases q1 : 60 < l1.length
  · have q1i : (60 : Int) < (l1.length : Int) := by omega
    have q0i : (l0.length : Int) ≤ 60 := by omega
    clear q0 q1
    go_enter Try.func7, Try.ntmps7
    go_wp2_with fail
    refine (known_any own_api W).mono ?_
    rintro e w2 ⟨rfl, hb2⟩
    have HB2 := Lib.hid hb2
    clear hb2
    go_wp2_with fail
    go_ret
    exact ⟨rfl, HB2.out⟩
  by_cases q2 : 60 < l2.length
  · have q2i : (60 : Int) < (l2.length : Int) := by omega
    have q1i : (l1.length : Int) ≤ 60 := by omega
    have q0i : (l0.length : Int) ≤ 60 := by omega
    clear q0 q1 q2
    go_enter Try.func7, Try.ntmps7
    go_wp2_with fail
    refine (known_any own_api W).mono ?_
    rintro e w2 ⟨rfl, hb2⟩
    have HB2 := Lib.hid hb2
    clear hb2
    go_wp2_with fail
    go_ret
    exact ⟨rfl, HB2.out⟩
  have q2i : (l2.length : Int) ≤ 60 := by omega
  have q1i : (l1.length : Int) ≤ 60 := by omega
  have q0i : (l0.length : Int) ≤ 60 := by omega
  have Q := Lib.hid (show l0.length ≤ 60 ∧ l1.length ≤ 60 ∧ l2.length ≤ 60 from ⟨by omega, by omega, by omega⟩)
  clear q0 q1 q2
  go_enter Try.func7, Try.ntmps7
  go_wp2_with fail
  refine (new_good_any 12 12 W (by decide) (by decide) (by decide)).mono ?_
  rintro e w1 ⟨B1, x1, y1, rfl, hP, hS, hb1⟩
  have HD := Lib.hid (show Mine1 W w1 B1 x1 y1 (Dk.fresh 12 12) from ⟨hP, hS, hb1⟩)
  clear hP hS hb1
  go_wp2_with fail
  refine (new_good_any 12 12 w1 (by decide) (by decide) (by decide)).mono ?_
  rintro e w2 ⟨B2, x2, y2, rfl, hP, hS, hb2⟩
  have HE := Lib.hid (show Mine1 W w2 B2 x2 y2 (Dk.fresh 12 12) from ⟨hP, fun i hi => Nat.le_trans HD.out.2.2.size (hS i hi), HD.out.2.2.trans (hb2.mono HD.out.2.2.size)⟩)
  have A12 := Lib.hid (show ∀ i, DS B1 x1 y1 i → ¬ DS B2 x2 y2 i from fun i h1 h2 => by have := HD.out.1.lt i h1; have := hS i h2; omega)
  have HD := Lib.hid (HD.out.below hb2)
  clear hP hS hb2
  generalize hfr : Dk.fresh 12 12 = d0 at *
  have HOK := Lib.hid (show Dk.Ok d0 ∧ Dk.size d0 = 12 by rw [← hfr]; exact ⟨Dk.ok_fresh 12 12, rfl⟩)
  clear hfr
  go_wp2_with fail
  refine (writes_any HD.out H0.out (by have := Q.out; omega)).mono ?_
  rintro e w3 ⟨rfl, hm, ht⟩
  have HE := Lib.hid (HE.out.keep ht (fun i hi hj => A12.out i hj hi) hm.2.2)
  have HD := Lib.hid hm
  clear hm ht
  go_wp2_with fail
  refine (writes_any HE.out H0.out (by have := Q.out; omega)).mono ?_
  rintro e w4 ⟨rfl, hm, ht⟩
  have HD := Lib.hid (HD.out.keep ht A12.out hm.2.2)
  have HE := Lib.hid hm
  clear hm ht
  go_wp2_with fail
  refine (copy_any HD.out.1).mono ?_
  rintro e w5 ⟨B3, x3, y3, rfl, hP, hS, hb5⟩
  have HC := Lib.hid (show Mine1 W w5 B3 x3 y3 (Dk.writesD d0 l0) from ⟨hP, fun i hi => Nat.le_trans HD.out.2.2.size (hS i hi), HD.out.2.2.trans (hb5.mono HD.out.2.2.size)⟩)
  have A13 := Lib.hid (show ∀ i, DS B1 x1 y1 i → ¬ DS B3 x3 y3 i from fun i h1 h2 => by have := HD.out.1.lt i h1; have := hS i h2; omega)
  have A23 := Lib.hid (show ∀ i, DS B2 x2 y2 i → ¬ DS B3 x3 y3 i from fun i h1 h2 => by have := HE.out.1.lt i h1; have := hS i h2; omega)
  have HD := Lib.hid (HD.out.below hb5)
  have HE := Lib.hid (HE.out.below hb5)
  clear hP hS hb5
  have HOK := Lib.hid (show Dk.Ok (Dk.writesD d0 l0) ∧ Dk.size (Dk.writesD d0 l0) = 12 by obtain ⟨a, b⟩ := Dk.writesD_ok l0 HOK.out.1; exact ⟨a, by rw [b]; exact HOK.out.2⟩)
  generalize Dk.writesD d0 l0 = d1 at *
  go_wp2_with fail
  refine (writes_any HC.out H2.out (by have := Q.out; omega)).mono ?_
  rintro e w6 ⟨rfl, hm, ht⟩
  have HD := Lib.hid (HD.out.keep ht A13.out hm.2.2)
  have HE := Lib.hid (HE.out.keep ht A23.out hm.2.2)
  have HC := Lib.hid hm
  clear hm ht
  go_wp2_with fail
  refine (writes_any HD.out H1.out (by have := Q.out; omega)).mono ?_
  rintro e w7 ⟨rfl, hm, ht⟩
  have HE := Lib.hid (HE.out.keep ht (fun i hi hj => A12.out i hj hi) hm.2.2)
  have HC := Lib.hid (HC.out.keep ht (fun i hi hj => A13.out i hj hi) hm.2.2)
  have HD := Lib.hid hm
  clear hm ht
  go_wp2_with fail
  refine (writes_any HE.out H1.out (by have := Q.out; omega)).mono ?_
  rintro e w8 ⟨rfl, hm, ht⟩
  have HD := Lib.hid (HD.out.keep ht A12.out hm.2.2)
  have HC := Lib.hid (HC.out.keep ht (fun i hi hj => A23.out i hj hi) hm.2.2)
  have HE := Lib.hid hm
  clear hm ht
  have HOK := Lib.hid (show Dk.Ok (Dk.writesD d1 l1) ∧ Dk.size (Dk.writesD d1 l1) = 12 by obtain ⟨a, b⟩ := Dk.writesD_ok l1 HOK.out.1; exact ⟨a, by rw [b]; exact HOK.out.2⟩)
  generalize Dk.writesD d1 l1 = d2 at *
  generalize Dk.writesD d1 l2 = d3 at *
  go_wp2_with fail
  refine (HD.out.crash H3.out).mono ?_
  rintro e w9 ⟨rfl, hm, ht⟩
  have HE := Lib.hid (HE.out.keep ht (fun i hi hj => A12.out i hj hi) hm.2.2)
  have HC := Lib.hid (HC.out.keep ht (fun i hi hj => A13.out i hj hi) hm.2.2)
  have HD := Lib.hid hm
  clear hm ht
  go_wp2_with fail
  refine (HE.out.crash H3.out).mono ?_
  rintro e w10 ⟨rfl, hm, ht⟩
  have HD := Lib.hid (HD.out.keep ht A12.out hm.2.2)
  have HC := Lib.hid (HC.out.keep ht (fun i hi hj => A23.out i hj hi) hm.2.2)
  have HE := Lib.hid hm
  clear hm ht
  go_wp2_with fail
  refine (writes_any HC.out H2.out (by have := Q.out; omega)).mono ?_
  rintro e w11 ⟨rfl, hm, ht⟩
  have HD := Lib.hid (HD.out.keep ht A13.out hm.2.2)
  have HE := Lib.hid (HE.out.keep ht A23.out hm.2.2)
  have HC := Lib.hid hm
  clear hm ht
  go_wp2_with fail
  go_loopw [14] (fun i wr => ∃ k : Nat, k ≤ 12 ∧ i = .int .i64 k ∧ Mine1 W wr B1 x1 y1 (Dk.crash d2 ps) ∧ Mine1 W wr B2 x2 y2 (Dk.crash d2 ps)) (fun i _ => 12 - (intOf i).toNat)
  case atStart => exact ⟨0, by omega, rfl, HD.out, HE.out⟩
  case round =>
    obtain ⟨k, hk, rfl, hd, he⟩ := hrel
    have HDk := Lib.hid hd
    have HEk := Lib.hid he
    clear hd he
    by_cases hlt : k < 12
    · have hki : (k : Int) < 12 := by omega
      have HLT := Lib.hid hlt
      have hrd := Dk.read_crash HOK.out.1 ps (i := k) (by rw [HOK.out.2]; exact hlt)
      obtain ⟨l, hl⟩ : ∃ l, (Dk.crash d2 ps).lasts.getD k [] = l := ⟨_, rfl⟩
      rw [hl] at hrd
      have HRD := Lib.hid hrd
      clear hlt hl hrd
      go_wp2_with fail
      refine (read_any HDk.out.1 (k : Int)).mono ?_
      rintro e u1 ⟨a, rfl, hO1, hb1⟩
      rw [HRD.out.2] at hO1
      rw [show (((Dk.read (Dk.crash d2 ps) (k : Int)).2 : Nat) : Int) = 0 by rw [HRD.out.1]; rfl]
      obtain ⟨pa, ca, rfl, -, -, -⟩ := hO1.bts.form
      have HEk := Lib.hid (HEk.out.below hb1)
      have HDk := Lib.hid (HDk.out.below hb1)
      have HO1 := Lib.hid hO1
      clear hO1 hb1
      go_wp2_with fail
      refine (read_any HEk.out.1 (k : Int)).mono ?_
      rintro e u2 ⟨b, rfl, hO2, hb2⟩
      rw [HRD.out.2] at hO2
      rw [show (((Dk.read (Dk.crash d2 ps) (k : Int)).2 : Nat) : Int) = 0 by rw [HRD.out.1]; rfl]
      obtain ⟨pb, cb, rfl, -, -, -⟩ := hO2.bts.form
      have HEk := Lib.hid (HEk.out.below hb2)
      have HDk := Lib.hid (HDk.out.below hb2)
      have hc1 := strOf_conv (HO1.out.bts.below hb2)
      have hc2 := strOf_conv hO2.bts
      clear hO2 hb2
      obtain ⟨S, hS⟩ : ∃ S, strOfNums (l.map fun x : Nat => (x : Int)) = S := ⟨_, rfl⟩
      rw [hS] at hc1 hc2
      clear hS
      go_wp2_with fail
      clear hc1 hc2
      go_roundw
      case rel => exact ⟨k + 1, by have := HLT.out; omega, by go_num, HDk.out, HEk.out⟩
      case measure => have := HLT.out; simp [intOf]; omega
    · obtain rfl : k = 12 := by omega
      go_wp2_with fail
      refine (known_any own_api wr).mono ?_
      rintro e w2 ⟨rfl, hb2⟩
      have HB2 := Lib.hid (HDk.out.2.2.trans (hb2.mono HDk.out.2.2.size))
      clear hb2
      go_wp2_with fail
      go_ret
      exact ⟨rfl, HB2.out⟩
end Go.Proofs.Ythjciddhghfcbaa
