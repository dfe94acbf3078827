/- What is known of every log: two records are appended, and read. Conditions: the program's contracts. -/
import Derived.Test.YtafpjcobagofcaaGreatWlBase
import Derived.Test.YtafpjcobagofcaaGreatRecM
namespace Go.Proofs.YtafpjcobagofcaaGreat
open Go.RowKit

theorem dn_at (w : World) {t : Nat} (h : t < 18446744073709551616) : RecAt w (Wl.dn t) (.slice none 0 0) (.slice none 0 0) (.slice none 0 0) (.slice none 0 0) (.slice none 0 0) := ⟨bts_none w, bts_none w, bts_none w, Chr.bts_nil w, Dir.bts_nil w, Wl.dn_ok h⟩
set_option maxHeartbeats 1600000 in
set_option maxRecDepth 20000 in
theorem done_any (t : Nat) (w : World) :
    Calls Tryz.prog 11 #[.int .u64 (t : Int)] w fun e w' => e = .returned (RecV (Wl.dn t) (.slice none 0 0) (.slice none 0 0) (.slice none 0 0) (.slice none 0 0) (.slice none 0 0)) ∧ Below w.heap.size w w' := by
  obtain ⟨W, hW⟩ : ∃ W, W = w.alloc zobj := ⟨_, rfl⟩
  have hb := below_new1 w zobj
  have hz := zblk w
  rw [← hW] at hb hz
  unfold zobj at hW
  obtain ⟨Q, hQ⟩ : ∃ Q, Q = w.heap.size := ⟨_, rfl⟩
  rw [← hQ] at hz
  have HB := Lib.hid hb
  have HZ := Lib.hid hz
  have HQ := Lib.hid hQ
  clear hb hz
  go_enter Tryz.func11, Tryz.ntmps11
  go_upto_region 1 with (fail)
  rw [← hW, ← hQ]
  clear hW hQ
  iterate 7 go_step
  refine wpList_store_rec rfl (.tmp 2) (.tmp 4) rfl Q rfl #[.int .i64 4, .int .u64 0, .int .u32 0, .int .u64 (t : Int), .int .u32 0, .int .u16 0, .slice none 0 0, .slice none 0 0, .slice none 0 0, .int .u64 0, .int .u64 0, .bool false, .int .u64 0, .slice none 0 0, .slice none 0 0] rfl _ HZ.out rfl rfl (by simp [Value.oneCell']) ?_
  intro U hrU hgU
  have HST : Hid (_ ∧ _) := ⟨hrU, hgU⟩
  clear hrU hgU
  go_wp2_with fail
  refine bodyPost_ret (v := .agg #[.int .i64 4, .int .u64 0, .int .u32 0, .int .u64 (t : Int), .int .u32 0, .int .u16 0, .slice none 0 0, .slice none 0 0, .slice none 0 0, .int .u64 0, .int .u64 0, .bool false, .int .u64 0, .slice none 0 0, .slice none 0 0]) (results_cell_row Tryz.results11 _ _ Q _ _ _ _ rfl HST.out.1 Tryz.underlying40 rfl (rec_info rfl)) rfl ?_
  exact ⟨rfl, below_grown HB.out HST.out.2 HB.out.size (Nat.le_of_eq HQ.out.symm)⟩

namespace Wl
theorem known_a : appendR (fresh 0 16) (dn 7) = (app (fresh 0 16) (dn 7), 52, 0) := append_fine (dn_may (by decide)) (by rw [dn_size]; decide)
theorem known_stop : (app (fresh 0 16) (dn 7)).stop = 79 := by show 52 + size (stamp _ (dn 7)) = 79; rw [dn_size]
theorem known_b : appendR (app (fresh 0 16) (dn 7)) (dn 8) = (app (app (fresh 0 16) (dn 7)) (dn 8), 79, 0) := by
  rw [append_fine (dn_may (by decide)), known_stop]
  rw [dn_size]
  unfold left
  rw [known_stop]
  show (27 : Int) ≤ (((52 / 52 + 2 * 16) * 52 : Nat) : Int) - ((79 : Nat) : Int)
  decide
theorem known_stop2 : (app (app (fresh 0 16) (dn 7)) (dn 8)).stop = 106 := by
  show (app (fresh 0 16) (dn 7)).stop + size (stamp _ (dn 8)) = 106
  rw [dn_size, known_stop]
theorem known_c : readR (app (app (fresh 0 16) (dn 7)) (dn 8)) 79 = (stamp (app (fresh 0 16) (dn 7)) (dn 8), 106, 0) := by
  have hg := good_app (good_app (good_fresh 0 16) (dn_may (t := 7) (by decide)) (stamp_ok (dn_ok (by decide)) (by decide) (by decide))) (dn_may (t := 8) (by decide)) (stamp_ok (dn_ok (by decide)) (by rw [known_stop]; decide) (by decide))
  have h := read_at hg.chain (i := 1) (by decide)
  have e : ((app (app (fresh 0 16) (dn 7)) (dn 8)).recs[1]'(by decide)) = stamp (app (fresh 0 16) (dn 7)) (dn 8) := rfl
  rw [e, show (stamp (app (fresh 0 16) (dn 7)) (dn 8)).lsn = 79 from known_stop, dn_size] at h
  exact h
end Wl
section
variable {PD : (Nat → Prop) → World → Nat → Dk.Dev → Prop} {PL : (Nat → Prop) → (Nat → Prop) → World → Nat → Nat → Dk.Dev → Wl.S → Prop} {PM : (Nat → Prop) → World → Nat → Wl.S → Prop} {Hd : Dk.Dev → Wl.S → Prop}

set_option maxHeartbeats 3200000 in
set_option maxRecDepth 20000 in
theorem known_any (A : WlApi PD PL PM Hd) (w : World) : Calls Tryz.prog 6 #[] w fun e w' => e = .returned (.bool true) ∧ Below w.heap.size w w' := by
  have HA := Lib.hid A
  clear A
  go_enter Tryz.func6, Tryz.ntmps6
  go_wp2_with fail
  refine (HA.out.new 20 w (by decide) (by decide)).mono ?_
  rintro e w1 ⟨B, U, rfl, hD, hU, hb⟩
  have HD := Lib.hid hD
  have HU : Hid (From w.heap.size U) := fun i hi => hU i hi
  have HB := Lib.hid hb
  clear hD hU hb
  go_wp2_with fail
  refine (HA.out.make (n := 20) 0 16 HD.out Wl.calm_fresh (by unfold I64'; omega) (by unfold I64'; omega)).mono ?_
  rintro e w2 ⟨h, -⟩
  obtain ⟨L, U2, V2, d2, rfl, hL, hC, hT, hG, hV⟩ := h ⟨by decide, by decide, by decide, by decide⟩
  have HL := Lib.hid hL
  have HB2 := Lib.hid (HB.out.trans ((hT.under HU.out HB.out.size).mono (Nat.le_refl _)))
  have HU2 := Lib.hid (hG.from HU.out HB.out.size)
  have HV2 := Lib.hid (from_new hV HB.out.size)
  have HC2 := Lib.hid hC
  clear h hL hC hT hG hV HD HU HB
  go_wp2_with fail
  have hc := HA.out.left (HA.out.mem HL.out) (by decide) (by decide)
  rw [show Wl.left (Wl.fresh (Int.toNat 0) (Int.toNat 16)) = 1664 by decide] at hc
  refine hc.mono ?_
  rintro e w3 ⟨rfl, hb⟩
  have HL3 := Lib.hid (HA.out.below HL.out hb)
  have HB3 := Lib.hid (HB2.out.trans (hb.mono HB2.out.size))
  clear hc hb HL HB2
  go_wp2_with fail
  refine (done_any 7 w3).mono ?_
  rintro e w4 ⟨rfl, hb⟩
  have HL4 := Lib.hid (HA.out.below HL3.out hb)
  have HB4 := Lib.hid (HB3.out.trans (hb.mono HB3.out.size))
  clear hb HL3 HB3
  go_wp2_with fail
  have hc := HA.out.append (Wl.dn 7) (.slice none 0 0) (.slice none 0 0) (.slice none 0 0) (.slice none 0 0) (.slice none 0 0) HL4.out (dn_at w4 (by decide)) (Wl.dn_few 7) (by decide) (by decide)
  rw [show Wl.fresh (Int.toNat 0) (Int.toNat 16) = Wl.fresh 0 16 from rfl, Wl.known_a, show ((52 : Nat) : Int) = 52 from rfl, show ((0 : Nat) : Int) = 0 from rfl] at hc
  refine hc.mono ?_
  rintro e w5 ⟨rfl, V5, hL, hT, hG⟩
  have HL5 := Lib.hid hL
  have HV5 := Lib.hid (hG.from HV2.out HB4.out.size)
  have HB5 := Lib.hid (HB4.out.trans ((hT.under HV2.out HB4.out.size).mono (Nat.le_refl _)))
  clear hc hL hT hG HL4 HB4 HV2
  go_wp2_with fail
  refine (done_any 8 w5).mono ?_
  rintro e w6 ⟨rfl, hb⟩
  have HL6 := Lib.hid (HA.out.below HL5.out hb)
  have HB6 := Lib.hid (HB5.out.trans (hb.mono HB5.out.size))
  clear hb HL5 HB5
  go_wp2_with fail
  have hc := HA.out.append (Wl.dn 8) (.slice none 0 0) (.slice none 0 0) (.slice none 0 0) (.slice none 0 0) (.slice none 0 0) HL6.out (dn_at w6 (by decide)) (Wl.dn_few 8) (by decide) (by rw [Wl.known_stop]; decide)
  rw [Wl.known_b, show ((79 : Nat) : Int) = 79 from rfl, show ((0 : Nat) : Int) = 0 from rfl] at hc
  refine hc.mono ?_
  rintro e w7 ⟨rfl, V7, hL, hT, hG⟩
  have HL7 := Lib.hid hL
  have HV7 := Lib.hid (hG.from HV5.out HB6.out.size)
  have HB7 := Lib.hid (HB6.out.trans ((hT.under HV5.out HB6.out.size).mono (Nat.le_refl _)))
  clear hc hL hT hG HL6 HB6 HV5
  go_wp2_with fail
  have hc := HA.out.read 79 HL7.out HC2.out (by decide) (by rw [Wl.known_stop2]; decide)
  rw [Wl.known_c, show ((79 : Nat) : Int) = 79 from rfl, show ((106 : Nat) : Int) = 106 from rfl, show ((0 : Nat) : Int) = 0 from rfl] at hc
  refine hc.mono ?_
  rintro e w8 ⟨o, n, u, c, t, rfl, hO, hb⟩
  obtain ⟨p1, c1, p2, c2, p3, c3, p4, c4, p5, c5, rfl, rfl, rfl, rfl, rfl⟩ := rec_slices hO.at
  have HB8 := Lib.hid (HB7.out.trans (hb.mono HB7.out.size))
  clear hc hO hb
  generalize (Wl.stamp (Wl.app (Wl.fresh 0 16) (Wl.dn 7)) (Wl.dn 8)).lsn = e1 at *
  generalize (Wl.stamp (Wl.app (Wl.fresh 0 16) (Wl.dn 7)) (Wl.dn 8)).epoch = e2 at *
  dsimp only [Wl.stamp, Wl.dn, List.length_nil]
  go_wp2_with fail
  go_ret
  exact ⟨rfl, HB8.out.alloc HB8.out.size _⟩
end
end Go.Proofs.YtafpjcobagofcaaGreat
