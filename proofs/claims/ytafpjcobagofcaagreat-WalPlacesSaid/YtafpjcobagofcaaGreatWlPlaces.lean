/- What the law WalPlaces answers, for all numbers. Conditions: the program's contracts. -/
import Derived.Test.YtafpjcobagofcaaGreatWlKnown
namespace Go.Proofs.YtafpjcobagofcaaGreat
open Go.RowKit
section
variable {PD : (Nat → Prop) → World → Nat → Dk.Dev → Prop} {PL : (Nat → Prop) → (Nat → Prop) → World → Nat → Nat → Dk.Dev → Wl.S → Prop} {PM : (Nat → Prop) → World → Nat → Wl.S → Prop} {Hd : Dk.Dev → Wl.S → Prop}

set_option maxHeartbeats 6400000 in
set_option maxRecDepth 20000 in
theorem walPlaces_any (A : WlApi PD PL PM Hd) (n at_ c : Int) (w : World) (hn : I64' n) (ha : I64' at_) (hc : I64' c) :
    Calls Tryz.prog 3 #[.int .i64 n, .int .i64 at_, .int .i64 c] w fun e w' => e = .returned (.bool true) ∧ Below w.heap.size w w' := by
  have HA := Lib.hid A
  have HIA := Lib.hid ha
  have HIC := Lib.hid hc
  clear A
  by_cases h1 : n < 1
  case pos =>
    go_enter Tryz.func3, Tryz.ntmps3
    go_wp2_with fail
    refine (known_any HA.out _).mono ?_
    rintro e w2 ⟨rfl, hb2⟩
    go_wp2_with fail
    go_ret
    exact ⟨rfl, hb2⟩
  by_cases h2 : 300 < n
  case pos =>
    go_enter Tryz.func3, Tryz.ntmps3
    go_wp2_with fail
    refine (known_any HA.out _).mono ?_
    rintro e w2 ⟨rfl, hb2⟩
    go_wp2_with fail
    go_ret
    exact ⟨rfl, hb2⟩
  obtain ⟨N, rfl⟩ : ∃ N : Nat, n = (N : Int) := ⟨n.toNat, by omega⟩
  unfold I64' at ha hc
  go_enter Tryz.func3, Tryz.ntmps3
  go_wp2_with fail
  refine (HA.out.new N w (by omega) (by omega)).mono ?_
  rintro e w1 ⟨B, U, rfl, hD, hU, hb⟩
  have HD := Lib.hid hD
  have HU : Hid (From w.heap.size U) := fun i hi => hU i hi
  have HB := Lib.hid hb
  have HCM : Hid (Wl.Calm N (Dk.fresh N N)) := Wl.calm_fresh
  clear hD hU hb
  go_upto_region 6 with (fail)
  by_cases g0 : c < 16
  case pos =>
    as_aux_lemma =>
      have HNF : Hid (¬ Wl.Fits N at_ c) := Lib.hid (fun h => by obtain ⟨f1, f2, f3, f4⟩ := h; omega)
      skip
      go_upto_region 10 with (fail)
      go_wp2_with fail
      refine (HA.out.make (n := N) at_ c HD.out HCM.out HIA.out HIC.out).mono ?_
      rintro e z1 ⟨-, h⟩
      obtain ⟨rfl, U2, d2, hD, hC, hT, hG⟩ := h HNF.out
      have HD2 := Lib.hid hD
      have HC2 := Lib.hid hC
      have HBW := Lib.hid (HB.out.trans ((hT.under HU.out HB.out.size).mono (Nat.le_refl _)))
      have HU2 := Lib.hid (hG.from HU.out HB.out.size)
      clear h hD hC hT hG
      go_wp2_with fail
      refine (HA.out.open_bad (n := N) at_ c HD2.out HC2.out HIA.out HIC.out HNF.out).mono ?_
      rintro e z2 ⟨rfl, U3, d3, hD, hC, hT, hG⟩
      have HBW := Lib.hid (HBW.out.trans ((hT.under HU2.out HBW.out.size).mono (Nat.le_refl _)))
      clear hD hC hT hG
      go_wp2_with fail
      refine (HA.out.make_nil at_ c _).mono ?_
      rintro e z10 ⟨rfl, hb⟩
      have HBW := Lib.hid (HBW.out.trans (hb.mono HBW.out.size))
      clear hb
      go_wp2_with fail
      refine (HA.out.open_nil at_ c _).mono ?_
      rintro e z11 ⟨rfl, hb⟩
      have HBW := Lib.hid (HBW.out.trans (hb.mono HBW.out.size))
      clear hb
      go_wp2_with fail
      refine (done_any 1 _).mono ?_
      rintro e z12 ⟨rfl, hb⟩
      have HBW := Lib.hid (HBW.out.trans (hb.mono HBW.out.size))
      clear hb
      go_wp2_with fail
      refine (HA.out.append_nil (Wl.dn 1) (.slice none 0 0) (.slice none 0 0) (.slice none 0 0) (.slice none 0 0) (.slice none 0 0) _ (dn_at _ (by decide)) (Wl.dn_few 1)).mono ?_
      rintro e z13 ⟨rfl, hb⟩
      have HBW := Lib.hid (HBW.out.trans (hb.mono HBW.out.size))
      clear hb
      go_wp2_with fail
      refine (HA.out.read_nil 128 _).mono ?_
      rintro e z14 ⟨rfl, hb⟩
      have HBW := Lib.hid (HBW.out.trans (hb.mono HBW.out.size))
      clear hb
      dsimp only [Lr.zero]
      have HBW := Lib.hid (HBW.out.alloc HBW.out.size (.cells #[.int .i64 0, .int .u64 0, .int .u32 0, .int .u64 0, .int .u32 0, .int .u16 0, .slice none 0 0, .slice none 0 0, .slice none 0 0, .int .u64 0, .int .u64 0, .bool false, .int .u64 0, .slice none 0 0, .slice none 0 0] 40))
      go_upto_region 19 with (fail)
      generalize z14.alloc (.cells #[.int .i64 0, .int .u64 0, .int .u32 0, .int .u64 0, .int .u32 0, .int .u16 0, .slice none 0 0, .slice none 0 0, .slice none 0 0, .int .u64 0, .int .u64 0, .bool false, .int .u64 0, .slice none 0 0, .slice none 0 0] 40) = z64 at HBW ⊢
      go_wp2_with fail
      refine (HA.out.flush_nil _).mono ?_
      rintro e z15 ⟨rfl, hb⟩
      have HBW := Lib.hid (HBW.out.trans (hb.mono HBW.out.size))
      clear hb
      go_wp2_with fail
      refine (HA.out.master_nil 128 0 _).mono ?_
      rintro e z16 ⟨rfl, hb⟩
      have HBW := Lib.hid (HBW.out.trans (hb.mono HBW.out.size))
      clear hb
      go_wp2_with fail
      refine (HA.out.start_nil _).mono ?_
      rintro e z17 ⟨rfl, hb⟩
      have HBW := Lib.hid (HBW.out.trans (hb.mono HBW.out.size))
      clear hb
      go_wp2_with fail
      refine (HA.out.end_nil _).mono ?_
      rintro e z18 ⟨rfl, hb⟩
      have HBW := Lib.hid (HBW.out.trans (hb.mono HBW.out.size))
      clear hb
      go_wp2_with fail
      refine (HA.out.flushed_nil _).mono ?_
      rintro e z19 ⟨rfl, hb⟩
      have HBW := Lib.hid (HBW.out.trans (hb.mono HBW.out.size))
      clear hb
      go_wp2_with fail
      refine (HA.out.point_nil _).mono ?_
      rintro e z20 ⟨rfl, hb⟩
      have HBW := Lib.hid (HBW.out.trans (hb.mono HBW.out.size))
      clear hb
      go_wp2_with fail
      refine (HA.out.epoch_nil _).mono ?_
      rintro e z21 ⟨rfl, hb⟩
      have HBW := Lib.hid (HBW.out.trans (hb.mono HBW.out.size))
      clear hb
      go_wp2_with fail
      refine (HA.out.left_nil _).mono ?_
      rintro e z22 ⟨rfl, hb⟩
      have HBW := Lib.hid (HBW.out.trans (hb.mono HBW.out.size))
      clear hb
      go_wp2_with fail
      refine (known_any HA.out _).mono ?_
      rintro e z23 ⟨rfl, hb⟩
      have HBW := Lib.hid (HBW.out.trans (hb.mono HBW.out.size))
      clear hb
      go_wp2_with fail
      go_ret
      exact ⟨rfl, HBW.out⟩
  by_cases g1 : 8192 < c
  case pos =>
    as_aux_lemma =>
      have HNF : Hid (¬ Wl.Fits N at_ c) := Lib.hid (fun h => by obtain ⟨f1, f2, f3, f4⟩ := h; omega)
      skip
      go_upto_region 10 with (fail)
      go_wp2_with fail
      refine (HA.out.make (n := N) at_ c HD.out HCM.out HIA.out HIC.out).mono ?_
      rintro e z1 ⟨-, h⟩
      obtain ⟨rfl, U2, d2, hD, hC, hT, hG⟩ := h HNF.out
      have HD2 := Lib.hid hD
      have HC2 := Lib.hid hC
      have HBW := Lib.hid (HB.out.trans ((hT.under HU.out HB.out.size).mono (Nat.le_refl _)))
      have HU2 := Lib.hid (hG.from HU.out HB.out.size)
      clear h hD hC hT hG
      go_wp2_with fail
      refine (HA.out.open_bad (n := N) at_ c HD2.out HC2.out HIA.out HIC.out HNF.out).mono ?_
      rintro e z2 ⟨rfl, U3, d3, hD, hC, hT, hG⟩
      have HBW := Lib.hid (HBW.out.trans ((hT.under HU2.out HBW.out.size).mono (Nat.le_refl _)))
      clear hD hC hT hG
      go_wp2_with fail
      refine (HA.out.make_nil at_ c _).mono ?_
      rintro e z10 ⟨rfl, hb⟩
      have HBW := Lib.hid (HBW.out.trans (hb.mono HBW.out.size))
      clear hb
      go_wp2_with fail
      refine (HA.out.open_nil at_ c _).mono ?_
      rintro e z11 ⟨rfl, hb⟩
      have HBW := Lib.hid (HBW.out.trans (hb.mono HBW.out.size))
      clear hb
      go_wp2_with fail
      refine (done_any 1 _).mono ?_
      rintro e z12 ⟨rfl, hb⟩
      have HBW := Lib.hid (HBW.out.trans (hb.mono HBW.out.size))
      clear hb
      go_wp2_with fail
      refine (HA.out.append_nil (Wl.dn 1) (.slice none 0 0) (.slice none 0 0) (.slice none 0 0) (.slice none 0 0) (.slice none 0 0) _ (dn_at _ (by decide)) (Wl.dn_few 1)).mono ?_
      rintro e z13 ⟨rfl, hb⟩
      have HBW := Lib.hid (HBW.out.trans (hb.mono HBW.out.size))
      clear hb
      go_wp2_with fail
      refine (HA.out.read_nil 128 _).mono ?_
      rintro e z14 ⟨rfl, hb⟩
      have HBW := Lib.hid (HBW.out.trans (hb.mono HBW.out.size))
      clear hb
      dsimp only [Lr.zero]
      have HBW := Lib.hid (HBW.out.alloc HBW.out.size (.cells #[.int .i64 0, .int .u64 0, .int .u32 0, .int .u64 0, .int .u32 0, .int .u16 0, .slice none 0 0, .slice none 0 0, .slice none 0 0, .int .u64 0, .int .u64 0, .bool false, .int .u64 0, .slice none 0 0, .slice none 0 0] 40))
      go_upto_region 19 with (fail)
      generalize z14.alloc (.cells #[.int .i64 0, .int .u64 0, .int .u32 0, .int .u64 0, .int .u32 0, .int .u16 0, .slice none 0 0, .slice none 0 0, .slice none 0 0, .int .u64 0, .int .u64 0, .bool false, .int .u64 0, .slice none 0 0, .slice none 0 0] 40) = z64 at HBW ⊢
      go_wp2_with fail
      refine (HA.out.flush_nil _).mono ?_
      rintro e z15 ⟨rfl, hb⟩
      have HBW := Lib.hid (HBW.out.trans (hb.mono HBW.out.size))
      clear hb
      go_wp2_with fail
      refine (HA.out.master_nil 128 0 _).mono ?_
      rintro e z16 ⟨rfl, hb⟩
      have HBW := Lib.hid (HBW.out.trans (hb.mono HBW.out.size))
      clear hb
      go_wp2_with fail
      refine (HA.out.start_nil _).mono ?_
      rintro e z17 ⟨rfl, hb⟩
      have HBW := Lib.hid (HBW.out.trans (hb.mono HBW.out.size))
      clear hb
      go_wp2_with fail
      refine (HA.out.end_nil _).mono ?_
      rintro e z18 ⟨rfl, hb⟩
      have HBW := Lib.hid (HBW.out.trans (hb.mono HBW.out.size))
      clear hb
      go_wp2_with fail
      refine (HA.out.flushed_nil _).mono ?_
      rintro e z19 ⟨rfl, hb⟩
      have HBW := Lib.hid (HBW.out.trans (hb.mono HBW.out.size))
      clear hb
      go_wp2_with fail
      refine (HA.out.point_nil _).mono ?_
      rintro e z20 ⟨rfl, hb⟩
      have HBW := Lib.hid (HBW.out.trans (hb.mono HBW.out.size))
      clear hb
      go_wp2_with fail
      refine (HA.out.epoch_nil _).mono ?_
      rintro e z21 ⟨rfl, hb⟩
      have HBW := Lib.hid (HBW.out.trans (hb.mono HBW.out.size))
      clear hb
      go_wp2_with fail
      refine (HA.out.left_nil _).mono ?_
      rintro e z22 ⟨rfl, hb⟩
      have HBW := Lib.hid (HBW.out.trans (hb.mono HBW.out.size))
      clear hb
      go_wp2_with fail
      refine (known_any HA.out _).mono ?_
      rintro e z23 ⟨rfl, hb⟩
      have HBW := Lib.hid (HBW.out.trans (hb.mono HBW.out.size))
      clear hb
      go_wp2_with fail
      go_ret
      exact ⟨rfl, HBW.out⟩
  by_cases g2 : at_ < 0
  case pos =>
    as_aux_lemma =>
      have HNF : Hid (¬ Wl.Fits N at_ c) := Lib.hid (fun h => by obtain ⟨f1, f2, f3, f4⟩ := h; omega)
      skip
      go_upto_region 10 with (fail)
      go_wp2_with fail
      refine (HA.out.make (n := N) at_ c HD.out HCM.out HIA.out HIC.out).mono ?_
      rintro e z1 ⟨-, h⟩
      obtain ⟨rfl, U2, d2, hD, hC, hT, hG⟩ := h HNF.out
      have HD2 := Lib.hid hD
      have HC2 := Lib.hid hC
      have HBW := Lib.hid (HB.out.trans ((hT.under HU.out HB.out.size).mono (Nat.le_refl _)))
      have HU2 := Lib.hid (hG.from HU.out HB.out.size)
      clear h hD hC hT hG
      go_wp2_with fail
      refine (HA.out.open_bad (n := N) at_ c HD2.out HC2.out HIA.out HIC.out HNF.out).mono ?_
      rintro e z2 ⟨rfl, U3, d3, hD, hC, hT, hG⟩
      have HBW := Lib.hid (HBW.out.trans ((hT.under HU2.out HBW.out.size).mono (Nat.le_refl _)))
      clear hD hC hT hG
      go_wp2_with fail
      refine (HA.out.make_nil at_ c _).mono ?_
      rintro e z10 ⟨rfl, hb⟩
      have HBW := Lib.hid (HBW.out.trans (hb.mono HBW.out.size))
      clear hb
      go_wp2_with fail
      refine (HA.out.open_nil at_ c _).mono ?_
      rintro e z11 ⟨rfl, hb⟩
      have HBW := Lib.hid (HBW.out.trans (hb.mono HBW.out.size))
      clear hb
      go_wp2_with fail
      refine (done_any 1 _).mono ?_
      rintro e z12 ⟨rfl, hb⟩
      have HBW := Lib.hid (HBW.out.trans (hb.mono HBW.out.size))
      clear hb
      go_wp2_with fail
      refine (HA.out.append_nil (Wl.dn 1) (.slice none 0 0) (.slice none 0 0) (.slice none 0 0) (.slice none 0 0) (.slice none 0 0) _ (dn_at _ (by decide)) (Wl.dn_few 1)).mono ?_
      rintro e z13 ⟨rfl, hb⟩
      have HBW := Lib.hid (HBW.out.trans (hb.mono HBW.out.size))
      clear hb
      go_wp2_with fail
      refine (HA.out.read_nil 128 _).mono ?_
      rintro e z14 ⟨rfl, hb⟩
      have HBW := Lib.hid (HBW.out.trans (hb.mono HBW.out.size))
      clear hb
      dsimp only [Lr.zero]
      have HBW := Lib.hid (HBW.out.alloc HBW.out.size (.cells #[.int .i64 0, .int .u64 0, .int .u32 0, .int .u64 0, .int .u32 0, .int .u16 0, .slice none 0 0, .slice none 0 0, .slice none 0 0, .int .u64 0, .int .u64 0, .bool false, .int .u64 0, .slice none 0 0, .slice none 0 0] 40))
      go_upto_region 19 with (fail)
      generalize z14.alloc (.cells #[.int .i64 0, .int .u64 0, .int .u32 0, .int .u64 0, .int .u32 0, .int .u16 0, .slice none 0 0, .slice none 0 0, .slice none 0 0, .int .u64 0, .int .u64 0, .bool false, .int .u64 0, .slice none 0 0, .slice none 0 0] 40) = z64 at HBW ⊢
      go_wp2_with fail
      refine (HA.out.flush_nil _).mono ?_
      rintro e z15 ⟨rfl, hb⟩
      have HBW := Lib.hid (HBW.out.trans (hb.mono HBW.out.size))
      clear hb
      go_wp2_with fail
      refine (HA.out.master_nil 128 0 _).mono ?_
      rintro e z16 ⟨rfl, hb⟩
      have HBW := Lib.hid (HBW.out.trans (hb.mono HBW.out.size))
      clear hb
      go_wp2_with fail
      refine (HA.out.start_nil _).mono ?_
      rintro e z17 ⟨rfl, hb⟩
      have HBW := Lib.hid (HBW.out.trans (hb.mono HBW.out.size))
      clear hb
      go_wp2_with fail
      refine (HA.out.end_nil _).mono ?_
      rintro e z18 ⟨rfl, hb⟩
      have HBW := Lib.hid (HBW.out.trans (hb.mono HBW.out.size))
      clear hb
      go_wp2_with fail
      refine (HA.out.flushed_nil _).mono ?_
      rintro e z19 ⟨rfl, hb⟩
      have HBW := Lib.hid (HBW.out.trans (hb.mono HBW.out.size))
      clear hb
      go_wp2_with fail
      refine (HA.out.point_nil _).mono ?_
      rintro e z20 ⟨rfl, hb⟩
      have HBW := Lib.hid (HBW.out.trans (hb.mono HBW.out.size))
      clear hb
      go_wp2_with fail
      refine (HA.out.epoch_nil _).mono ?_
      rintro e z21 ⟨rfl, hb⟩
      have HBW := Lib.hid (HBW.out.trans (hb.mono HBW.out.size))
      clear hb
      go_wp2_with fail
      refine (HA.out.left_nil _).mono ?_
      rintro e z22 ⟨rfl, hb⟩
      have HBW := Lib.hid (HBW.out.trans (hb.mono HBW.out.size))
      clear hb
      go_wp2_with fail
      refine (known_any HA.out _).mono ?_
      rintro e z23 ⟨rfl, hb⟩
      have HBW := Lib.hid (HBW.out.trans (hb.mono HBW.out.size))
      clear hb
      go_wp2_with fail
      go_ret
      exact ⟨rfl, HBW.out⟩
  by_cases g3 : (N : Int) < at_
  case pos =>
    as_aux_lemma =>
      have HNF : Hid (¬ Wl.Fits N at_ c) := Lib.hid (fun h => by obtain ⟨f1, f2, f3, f4⟩ := h; omega)
      skip
      go_upto_region 10 with (fail)
      go_wp2_with fail
      refine (HA.out.make (n := N) at_ c HD.out HCM.out HIA.out HIC.out).mono ?_
      rintro e z1 ⟨-, h⟩
      obtain ⟨rfl, U2, d2, hD, hC, hT, hG⟩ := h HNF.out
      have HD2 := Lib.hid hD
      have HC2 := Lib.hid hC
      have HBW := Lib.hid (HB.out.trans ((hT.under HU.out HB.out.size).mono (Nat.le_refl _)))
      have HU2 := Lib.hid (hG.from HU.out HB.out.size)
      clear h hD hC hT hG
      go_wp2_with fail
      refine (HA.out.open_bad (n := N) at_ c HD2.out HC2.out HIA.out HIC.out HNF.out).mono ?_
      rintro e z2 ⟨rfl, U3, d3, hD, hC, hT, hG⟩
      have HBW := Lib.hid (HBW.out.trans ((hT.under HU2.out HBW.out.size).mono (Nat.le_refl _)))
      clear hD hC hT hG
      go_wp2_with fail
      refine (HA.out.make_nil at_ c _).mono ?_
      rintro e z10 ⟨rfl, hb⟩
      have HBW := Lib.hid (HBW.out.trans (hb.mono HBW.out.size))
      clear hb
      go_wp2_with fail
      refine (HA.out.open_nil at_ c _).mono ?_
      rintro e z11 ⟨rfl, hb⟩
      have HBW := Lib.hid (HBW.out.trans (hb.mono HBW.out.size))
      clear hb
      go_wp2_with fail
      refine (done_any 1 _).mono ?_
      rintro e z12 ⟨rfl, hb⟩
      have HBW := Lib.hid (HBW.out.trans (hb.mono HBW.out.size))
      clear hb
      go_wp2_with fail
      refine (HA.out.append_nil (Wl.dn 1) (.slice none 0 0) (.slice none 0 0) (.slice none 0 0) (.slice none 0 0) (.slice none 0 0) _ (dn_at _ (by decide)) (Wl.dn_few 1)).mono ?_
      rintro e z13 ⟨rfl, hb⟩
      have HBW := Lib.hid (HBW.out.trans (hb.mono HBW.out.size))
      clear hb
      go_wp2_with fail
      refine (HA.out.read_nil 128 _).mono ?_
      rintro e z14 ⟨rfl, hb⟩
      have HBW := Lib.hid (HBW.out.trans (hb.mono HBW.out.size))
      clear hb
      dsimp only [Lr.zero]
      have HBW := Lib.hid (HBW.out.alloc HBW.out.size (.cells #[.int .i64 0, .int .u64 0, .int .u32 0, .int .u64 0, .int .u32 0, .int .u16 0, .slice none 0 0, .slice none 0 0, .slice none 0 0, .int .u64 0, .int .u64 0, .bool false, .int .u64 0, .slice none 0 0, .slice none 0 0] 40))
      go_upto_region 19 with (fail)
      generalize z14.alloc (.cells #[.int .i64 0, .int .u64 0, .int .u32 0, .int .u64 0, .int .u32 0, .int .u16 0, .slice none 0 0, .slice none 0 0, .slice none 0 0, .int .u64 0, .int .u64 0, .bool false, .int .u64 0, .slice none 0 0, .slice none 0 0] 40) = z64 at HBW ⊢
      go_wp2_with fail
      refine (HA.out.flush_nil _).mono ?_
      rintro e z15 ⟨rfl, hb⟩
      have HBW := Lib.hid (HBW.out.trans (hb.mono HBW.out.size))
      clear hb
      go_wp2_with fail
      refine (HA.out.master_nil 128 0 _).mono ?_
      rintro e z16 ⟨rfl, hb⟩
      have HBW := Lib.hid (HBW.out.trans (hb.mono HBW.out.size))
      clear hb
      go_wp2_with fail
      refine (HA.out.start_nil _).mono ?_
      rintro e z17 ⟨rfl, hb⟩
      have HBW := Lib.hid (HBW.out.trans (hb.mono HBW.out.size))
      clear hb
      go_wp2_with fail
      refine (HA.out.end_nil _).mono ?_
      rintro e z18 ⟨rfl, hb⟩
      have HBW := Lib.hid (HBW.out.trans (hb.mono HBW.out.size))
      clear hb
      go_wp2_with fail
      refine (HA.out.flushed_nil _).mono ?_
      rintro e z19 ⟨rfl, hb⟩
      have HBW := Lib.hid (HBW.out.trans (hb.mono HBW.out.size))
      clear hb
      go_wp2_with fail
      refine (HA.out.point_nil _).mono ?_
      rintro e z20 ⟨rfl, hb⟩
      have HBW := Lib.hid (HBW.out.trans (hb.mono HBW.out.size))
      clear hb
      go_wp2_with fail
      refine (HA.out.epoch_nil _).mono ?_
      rintro e z21 ⟨rfl, hb⟩
      have HBW := Lib.hid (HBW.out.trans (hb.mono HBW.out.size))
      clear hb
      go_wp2_with fail
      refine (HA.out.left_nil _).mono ?_
      rintro e z22 ⟨rfl, hb⟩
      have HBW := Lib.hid (HBW.out.trans (hb.mono HBW.out.size))
      clear hb
      go_wp2_with fail
      refine (known_any HA.out _).mono ?_
      rintro e z23 ⟨rfl, hb⟩
      have HBW := Lib.hid (HBW.out.trans (hb.mono HBW.out.size))
      clear hb
      go_wp2_with fail
      go_ret
      exact ⟨rfl, HBW.out⟩
  by_cases g4 : (N : Int) - at_ < c + 2
  case pos =>
    as_aux_lemma =>
      have HNF : Hid (¬ Wl.Fits N at_ c) := Lib.hid (fun h => by obtain ⟨f1, f2, f3, f4⟩ := h; omega)
      have hwa : wrap64 (c + 2) = c + 2 := IntWalk.wrap64_in _ ⟨by omega, by omega⟩
      have hwb : wrap64 ((N : Int) - at_) = (N : Int) - at_ := IntWalk.wrap64_in _ ⟨by omega, by omega⟩
      have hc5 : (N : Int) - at_ < c + 2 := by omega
      go_upto_region 10 with (fail)
      go_wp2_with fail
      refine (HA.out.make (n := N) at_ c HD.out HCM.out HIA.out HIC.out).mono ?_
      rintro e z1 ⟨-, h⟩
      obtain ⟨rfl, U2, d2, hD, hC, hT, hG⟩ := h HNF.out
      have HD2 := Lib.hid hD
      have HC2 := Lib.hid hC
      have HBW := Lib.hid (HB.out.trans ((hT.under HU.out HB.out.size).mono (Nat.le_refl _)))
      have HU2 := Lib.hid (hG.from HU.out HB.out.size)
      clear h hD hC hT hG
      go_wp2_with fail
      refine (HA.out.open_bad (n := N) at_ c HD2.out HC2.out HIA.out HIC.out HNF.out).mono ?_
      rintro e z2 ⟨rfl, U3, d3, hD, hC, hT, hG⟩
      have HBW := Lib.hid (HBW.out.trans ((hT.under HU2.out HBW.out.size).mono (Nat.le_refl _)))
      clear hD hC hT hG
      go_wp2_with fail
      refine (HA.out.make_nil at_ c _).mono ?_
      rintro e z10 ⟨rfl, hb⟩
      have HBW := Lib.hid (HBW.out.trans (hb.mono HBW.out.size))
      clear hb
      go_wp2_with fail
      refine (HA.out.open_nil at_ c _).mono ?_
      rintro e z11 ⟨rfl, hb⟩
      have HBW := Lib.hid (HBW.out.trans (hb.mono HBW.out.size))
      clear hb
      go_wp2_with fail
      refine (done_any 1 _).mono ?_
      rintro e z12 ⟨rfl, hb⟩
      have HBW := Lib.hid (HBW.out.trans (hb.mono HBW.out.size))
      clear hb
      go_wp2_with fail
      refine (HA.out.append_nil (Wl.dn 1) (.slice none 0 0) (.slice none 0 0) (.slice none 0 0) (.slice none 0 0) (.slice none 0 0) _ (dn_at _ (by decide)) (Wl.dn_few 1)).mono ?_
      rintro e z13 ⟨rfl, hb⟩
      have HBW := Lib.hid (HBW.out.trans (hb.mono HBW.out.size))
      clear hb
      go_wp2_with fail
      refine (HA.out.read_nil 128 _).mono ?_
      rintro e z14 ⟨rfl, hb⟩
      have HBW := Lib.hid (HBW.out.trans (hb.mono HBW.out.size))
      clear hb
      dsimp only [Lr.zero]
      have HBW := Lib.hid (HBW.out.alloc HBW.out.size (.cells #[.int .i64 0, .int .u64 0, .int .u32 0, .int .u64 0, .int .u32 0, .int .u16 0, .slice none 0 0, .slice none 0 0, .slice none 0 0, .int .u64 0, .int .u64 0, .bool false, .int .u64 0, .slice none 0 0, .slice none 0 0] 40))
      go_upto_region 19 with (fail)
      generalize z14.alloc (.cells #[.int .i64 0, .int .u64 0, .int .u32 0, .int .u64 0, .int .u32 0, .int .u16 0, .slice none 0 0, .slice none 0 0, .slice none 0 0, .int .u64 0, .int .u64 0, .bool false, .int .u64 0, .slice none 0 0, .slice none 0 0] 40) = z64 at HBW ⊢
      go_wp2_with fail
      refine (HA.out.flush_nil _).mono ?_
      rintro e z15 ⟨rfl, hb⟩
      have HBW := Lib.hid (HBW.out.trans (hb.mono HBW.out.size))
      clear hb
      go_wp2_with fail
      refine (HA.out.master_nil 128 0 _).mono ?_
      rintro e z16 ⟨rfl, hb⟩
      have HBW := Lib.hid (HBW.out.trans (hb.mono HBW.out.size))
      clear hb
      go_wp2_with fail
      refine (HA.out.start_nil _).mono ?_
      rintro e z17 ⟨rfl, hb⟩
      have HBW := Lib.hid (HBW.out.trans (hb.mono HBW.out.size))
      clear hb
      go_wp2_with fail
      refine (HA.out.end_nil _).mono ?_
      rintro e z18 ⟨rfl, hb⟩
      have HBW := Lib.hid (HBW.out.trans (hb.mono HBW.out.size))
      clear hb
      go_wp2_with fail
      refine (HA.out.flushed_nil _).mono ?_
      rintro e z19 ⟨rfl, hb⟩
      have HBW := Lib.hid (HBW.out.trans (hb.mono HBW.out.size))
      clear hb
      go_wp2_with fail
      refine (HA.out.point_nil _).mono ?_
      rintro e z20 ⟨rfl, hb⟩
      have HBW := Lib.hid (HBW.out.trans (hb.mono HBW.out.size))
      clear hb
      go_wp2_with fail
      refine (HA.out.epoch_nil _).mono ?_
      rintro e z21 ⟨rfl, hb⟩
      have HBW := Lib.hid (HBW.out.trans (hb.mono HBW.out.size))
      clear hb
      go_wp2_with fail
      refine (HA.out.left_nil _).mono ?_
      rintro e z22 ⟨rfl, hb⟩
      have HBW := Lib.hid (HBW.out.trans (hb.mono HBW.out.size))
      clear hb
      go_wp2_with fail
      refine (known_any HA.out _).mono ?_
      rintro e z23 ⟨rfl, hb⟩
      have HBW := Lib.hid (HBW.out.trans (hb.mono HBW.out.size))
      clear hb
      go_wp2_with fail
      go_ret
      exact ⟨rfl, HBW.out⟩
  as_aux_lemma =>
    obtain ⟨C, rfl⟩ : ∃ C : Nat, c = (C : Int) := ⟨c.toNat, by omega⟩
    obtain ⟨a, rfl⟩ : ∃ a : Nat, at_ = (a : Int) := ⟨at_.toNat, by omega⟩
    have HFT : Hid (Wl.Fits N (a : Int) (C : Int)) := Lib.hid ⟨by omega, by omega, by omega, by omega⟩
    have hwa : wrap64 ((C : Int) + 2) = (C : Int) + 2 := IntWalk.wrap64_in _ ⟨by omega, by omega⟩
    have hwb : wrap64 ((N : Int) - (a : Int)) = (N : Int) - (a : Int) := IntWalk.wrap64_in _ ⟨by omega, by omega⟩
    go_upto_region 10 with (fail)
    clear hwa hwb
    go_wp2_with fail
    refine (HA.out.make (n := N) (a : Int) (C : Int) HD.out HCM.out HIA.out HIC.out).mono ?_
    rintro e z1 ⟨h, -⟩
    obtain ⟨L, U2, V2, d2, rfl, hL, hC, hT, hG, hV⟩ := h HFT.out
    rw [Int.toNat_natCast, Int.toNat_natCast] at hL
    have HL2 := Lib.hid hL
    have HC2 := Lib.hid hC
    have HBW := Lib.hid (HB.out.trans ((hT.under HU.out HB.out.size).mono (Nat.le_refl _)))
    have HU2 := Lib.hid (hG.from HU.out HB.out.size)
    clear h hL hC hT hG hV
    go_wp2_with fail
    have hc := HA.out.open_ (n := N) (HA.out.dev HL2.out) HC2.out HFT.out (HA.out.hold HL2.out) (show 1 ≤ 1000000 by decide) (show 52 ≤ 1000000000000 by decide)
    refine hc.mono ?_
    clear hc
    rintro e z2 ⟨k, L3, U3, V3, d3, hk, -, rfl, hL, hC, hT, hG, hV⟩
    obtain rfl : k = 0 := Nat.le_zero.1 hk
    have HL3 := Lib.hid hL
    have HBW := Lib.hid (HBW.out.trans ((hT.under HU2.out HBW.out.size).mono (Nat.le_refl _)))
    clear hL hC hT hG hV hk
    go_wp2_with fail
    refine (HA.out.make_nil (a : Int) (C : Int) _).mono ?_
    rintro e z10 ⟨rfl, hb⟩
    have HL3 := Lib.hid (HA.out.below HL3.out hb)
    have HBW := Lib.hid (HBW.out.trans (hb.mono HBW.out.size))
    clear hb
    go_wp2_with fail
    refine (HA.out.open_nil (a : Int) (C : Int) _).mono ?_
    rintro e z11 ⟨rfl, hb⟩
    have HL3 := Lib.hid (HA.out.below HL3.out hb)
    have HBW := Lib.hid (HBW.out.trans (hb.mono HBW.out.size))
    clear hb
    go_wp2_with fail
    refine (done_any 1 _).mono ?_
    rintro e z12 ⟨rfl, hb⟩
    have HL3 := Lib.hid (HA.out.below HL3.out hb)
    have HBW := Lib.hid (HBW.out.trans (hb.mono HBW.out.size))
    clear hb
    go_wp2_with fail
    refine (HA.out.append_nil (Wl.dn 1) (.slice none 0 0) (.slice none 0 0) (.slice none 0 0) (.slice none 0 0) (.slice none 0 0) _ (dn_at _ (by decide)) (Wl.dn_few 1)).mono ?_
    rintro e z13 ⟨rfl, hb⟩
    have HL3 := Lib.hid (HA.out.below HL3.out hb)
    have HBW := Lib.hid (HBW.out.trans (hb.mono HBW.out.size))
    clear hb
    go_wp2_with fail
    refine (HA.out.read_nil 128 _).mono ?_
    rintro e z14 ⟨rfl, hb⟩
    have HL3 := Lib.hid (HA.out.below HL3.out hb)
    have HBW := Lib.hid (HBW.out.trans (hb.mono HBW.out.size))
    clear hb
    dsimp only [Lr.zero]
    have HL3 := Lib.hid (HA.out.below HL3.out (below_new1 _ (.cells #[.int .i64 0, .int .u64 0, .int .u32 0, .int .u64 0, .int .u32 0, .int .u16 0, .slice none 0 0, .slice none 0 0, .slice none 0 0, .int .u64 0, .int .u64 0, .bool false, .int .u64 0, .slice none 0 0, .slice none 0 0] 40)))
    have HBW := Lib.hid (HBW.out.alloc HBW.out.size (.cells #[.int .i64 0, .int .u64 0, .int .u32 0, .int .u64 0, .int .u32 0, .int .u16 0, .slice none 0 0, .slice none 0 0, .slice none 0 0, .int .u64 0, .int .u64 0, .bool false, .int .u64 0, .slice none 0 0, .slice none 0 0] 40))
    go_upto_region 19 with (fail)
    generalize z14.alloc (.cells #[.int .i64 0, .int .u64 0, .int .u32 0, .int .u64 0, .int .u32 0, .int .u16 0, .slice none 0 0, .slice none 0 0, .slice none 0 0, .int .u64 0, .int .u64 0, .bool false, .int .u64 0, .slice none 0 0, .slice none 0 0] 40) = z64 at HBW HL3 ⊢
    go_wp2_with fail
    refine (HA.out.epoch (HA.out.mem HL3.out)).mono ?_
    rintro e y1 ⟨rfl, hb⟩
    have HL3 := Lib.hid (HA.out.below HL3.out hb)
    have HBW := Lib.hid (HBW.out.trans (hb.mono HBW.out.size))
    clear hb
    rw [show (((Wl.cut (Wl.fresh a C) 0).epoch : Nat) : Int) = 2 from rfl]
    go_wp2_with fail
    have hc := HA.out.end_ (HA.out.mem HL3.out) (show 52 ≤ 1000000000000 by decide)
    rw [show (((Wl.cut (Wl.fresh a C) 0).stop : Nat) : Int) = 52 from rfl] at hc
    refine hc.mono ?_
    rintro e y2 ⟨rfl, hb⟩
    have HBW := Lib.hid (HBW.out.trans (hb.mono HBW.out.size))
    clear hb hc
    go_wp2_with fail
    refine (HA.out.flush_nil _).mono ?_
    rintro e z15 ⟨rfl, hb⟩
    have HBW := Lib.hid (HBW.out.trans (hb.mono HBW.out.size))
    clear hb
    go_wp2_with fail
    refine (HA.out.master_nil 128 0 _).mono ?_
    rintro e z16 ⟨rfl, hb⟩
    have HBW := Lib.hid (HBW.out.trans (hb.mono HBW.out.size))
    clear hb
    go_wp2_with fail
    refine (HA.out.start_nil _).mono ?_
    rintro e z17 ⟨rfl, hb⟩
    have HBW := Lib.hid (HBW.out.trans (hb.mono HBW.out.size))
    clear hb
    go_wp2_with fail
    refine (HA.out.end_nil _).mono ?_
    rintro e z18 ⟨rfl, hb⟩
    have HBW := Lib.hid (HBW.out.trans (hb.mono HBW.out.size))
    clear hb
    go_wp2_with fail
    refine (HA.out.flushed_nil _).mono ?_
    rintro e z19 ⟨rfl, hb⟩
    have HBW := Lib.hid (HBW.out.trans (hb.mono HBW.out.size))
    clear hb
    go_wp2_with fail
    refine (HA.out.point_nil _).mono ?_
    rintro e z20 ⟨rfl, hb⟩
    have HBW := Lib.hid (HBW.out.trans (hb.mono HBW.out.size))
    clear hb
    go_wp2_with fail
    refine (HA.out.epoch_nil _).mono ?_
    rintro e z21 ⟨rfl, hb⟩
    have HBW := Lib.hid (HBW.out.trans (hb.mono HBW.out.size))
    clear hb
    go_wp2_with fail
    refine (HA.out.left_nil _).mono ?_
    rintro e z22 ⟨rfl, hb⟩
    have HBW := Lib.hid (HBW.out.trans (hb.mono HBW.out.size))
    clear hb
    go_wp2_with fail
    refine (known_any HA.out _).mono ?_
    rintro e z23 ⟨rfl, hb⟩
    have HBW := Lib.hid (HBW.out.trans (hb.mono HBW.out.size))
    clear hb
    go_wp2_with fail
    go_ret
    exact ⟨rfl, HBW.out⟩
end
end Go.Proofs.YtafpjcobagofcaaGreat
