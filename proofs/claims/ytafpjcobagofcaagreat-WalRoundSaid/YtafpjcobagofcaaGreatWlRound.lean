/- What the law WalRound answers, for every list of sizes. Conditions: the program's contracts. -/
import Derived.Test.YtafpjcobagofcaaGreatWlKnown
import Derived.Test.YtafpjcobagofcaaGreatWlBase
import Derived.Test.YtafpjcobagofcaaGreatWlQuM
import Derived.BigQuiet
import Derived.Deep.QuietTactic
namespace Go.Proofs.YtafpjcobagofcaaGreat
open Go.RowKit

/-- A value's block is none of these. -/
def Aw (v : Value) (U : Nat → Prop) : Prop := ∀ g, v.ownBlock = some g → ¬ U g
theorem Aw.grew {v : Value} {U U' : Nat → Prop} {w : World} (h : Aw v U) (hg : Grew U U' w) (hl : ∀ g, v.ownBlock = some g → g < w.heap.size) : Aw v U' := fun g e hu => by
  rcases hg g hu with h1 | h1
  · exact h g e h1
  · have := hl g e; omega
theorem Aw.both {v : Value} {U V : Nat → Prop} (h : Aw v U) (k : Aw v V) : Aw v (Both U V) := fun g e hb => hb.elim (h g e) (k g e)
theorem Aw.left {v : Value} {U V : Nat → Prop} (h : Aw v (Both U V)) : Aw v U := fun g e hu => h g e (Or.inl hu)
theorem Aw.right {v : Value} {U V : Nat → Prop} (h : Aw v (Both U V)) : Aw v V := fun g e hu => h g e (Or.inr hu)
theorem aw_nil (U : Nat → Prop) : Aw (.slice none 0 0) U := fun g e => by cases e
section
variable {PD : (Nat → Prop) → World → Nat → Dk.Dev → Prop} {PL : (Nat → Prop) → (Nat → Prop) → World → Nat → Nat → Dk.Dev → Wl.S → Prop} {PM : (Nat → Prop) → World → Nat → Wl.S → Prop} {Hd : Dk.Dev → Wl.S → Prop}

set_option maxHeartbeats 6400000 in
set_option maxRecDepth 20000 in
theorem walRound_any (A : WlApi PD PL PM Hd) (v : Value) (l : List Int) (h : Int) (w : World) (hB : Ints.Bts w v l) :
    Calls Tryz.prog 5 #[v, .int .i64 h] w fun e w' => e = .returned (.bool true) ∧ Below w.heap.size w w' := by
  have HA := Lib.hid A
  obtain ⟨p, cap, rfl, hcap, -, hp⟩ := hB.form
  have HP := Lib.hid hp
  clear A hB hp
  by_cases h1 : (400 : Int) < (l.length : Int)
  case pos =>
    go_enter Tryz.func5, Tryz.ntmps5
    go_wp2_with fail
    refine (known_any HA.out _).mono ?_
    rintro e w2 ⟨rfl, hb2⟩
    go_wp2_with fail
    go_ret
    exact ⟨rfl, hb2⟩
  by_cases h2 : h < 1
  case pos =>
    go_enter Tryz.func5, Tryz.ntmps5
    go_wp2_with fail
    refine (known_any HA.out _).mono ?_
    rintro e w2 ⟨rfl, hb2⟩
    go_wp2_with fail
    go_ret
    exact ⟨rfl, hb2⟩
  by_cases h3 : 5 < h
  case pos =>
    go_enter Tryz.func5, Tryz.ntmps5
    go_wp2_with fail
    refine (known_any HA.out _).mono ?_
    rintro e w2 ⟨rfl, hb2⟩
    go_wp2_with fail
    go_ret
    exact ⟨rfl, hb2⟩
  obtain ⟨H, rfl⟩ : ∃ H : Nat, h = (H : Int) := ⟨h.toNat, by omega⟩
  have HLE : Hid (l.length ≤ 400) := Lib.hid (by omega)
  have HH : Hid (1 ≤ H ∧ H ≤ 5) := Lib.hid (by omega)
  go_enter Tryz.func5, Tryz.ntmps5
  go_wp2_with fail
  refine (HA.out.new 66 w (by decide) (by decide)).mono ?_
  rintro e w1 ⟨B, U, rfl, hD, hU, hb⟩
  have HD := Lib.hid hD
  have HU : Hid (From w.heap.size U) := fun i hi => hU i hi
  have HB := Lib.hid hb
  clear hD hU hb
  go_wp2_with fail
  refine (HA.out.make (n := 66) 0 64 HD.out Wl.calm_fresh (by unfold I64'; omega) (by unfold I64'; omega)).mono ?_
  rintro e w2 ⟨h, -⟩
  obtain ⟨L, U2, V2, d2, rfl, hL, hC, hT, hG, hV⟩ := h ⟨by decide, by decide, by decide, by decide⟩
  have HLm := Lib.hid hL
  have HBm := Lib.hid (HB.out.trans ((hT.under HU.out HB.out.size).mono (Nat.le_refl _)))
  have HU2 := Lib.hid (hG.from HU.out HB.out.size)
  have HV2 := Lib.hid (from_new hV HB.out.size)
  have HC2 := Lib.hid hC
  clear h hL hC hT hG hV HD HU HB h1 h2 h3
  go_wp2_with fail
  go_loopw [9, 10] (fun av iv wr => ∃ k m : Nat, k ≤ l.length ∧ iv = .int .i64 (k : Int) ∧ m ≤ H ∧ ∃ U V d s, PL U V wr B L d s ∧ From w.heap.size U ∧ From w.heap.size V ∧ Wl.Calm 66 d ∧ Wl.Ring k m s ∧ Qu w.heap.size wr av (Wl.places s) ∧ Aw av (Both U V) ∧ Below w.heap.size w wr) (fun _ iv _ => l.length - (intOf iv).toNat)
  case atStart => exact ⟨0, 0, Nat.zero_le _, rfl, Nat.zero_le _, U2, V2, d2, _, HLm.out, HU2.out, HV2.out, HC2.out, Wl.ring_fresh, qu_nil _ _, aw_nil _, HBm.out⟩
  case round =>
    clear HLm HBm HU2 HV2 HC2
    obtain ⟨k, m, hk, rfl, hmH, U, V, d, s, hL, hU, hV, hC, hR, hQ, hW, hb⟩ := hrel
    have HL0 := Lib.hid hL
    have HU0 := Lib.hid hU
    have HV0 := Lib.hid hV
    have HC0 := Lib.hid hC
    have HR0 := Lib.hid hR
    have HQ0 := Lib.hid hQ
    have HW0 := Lib.hid hW
    have HB0 := Lib.hid hb
    have HMH0 := Lib.hid hmH
    clear hL hU hV hC hR hQ hW hb hmH
    by_cases hlt : k < l.length
    · have HLT := Lib.hid hlt
      obtain ⟨b, off, rfl, hx⟩ := HP.out (by omega)
      have hxk := hx k hlt
      have hki : (k : Int) < (l.length : Int) := by omega
      have hk0 : (0 : Int) ≤ (k : Int) := by omega
      have hcell := (HB0.out.cell (p := ⟨b, off + k, none⟩) (block_lt_of_cell hxk)).trans hxk
      generalize l.getD k 0 = x at *
      obtain ⟨q, hq⟩ : ∃ q, Wl.atN 400 x = q := ⟨_, rfl⟩
      have hq1 : (IntKind.u64.wrap x).tmod 400 = (q : Int) := by rw [← hq]; exact Wl.atN_eq (n := 400) (by decide) x
      have hq2 : q < 400 := by rw [← hq]; exact Wl.atN_lt (by decide) x
      have hq3 : IntKind.i64.wrap (q : Int) = (q : Int) := IntWalk.i64_in _ (by omega)
      have hq4 : wrap64 (1 + (q : Int)) = 1 + (q : Int) := IntWalk.wrap64_in _ ⟨by omega, by omega⟩
      obtain ⟨n, hn0⟩ : ∃ n, n = q + 1 := ⟨_, rfl⟩
      have HN : Hid (n = q + 1 ∧ q < 400) := ⟨hn0, hq2⟩
      clear hx hxk hq hlt
      go_upto_region 12 with (fail)
      rw [show (1 + (q : Int)) = (n : Int) by rw [hn0]; omega]
      clear hcell hq1 hq2 hq3 hq4 hki hk0 hn0
      have hmk := wb_run n (by have := HN.out; omega) wr
      have hwb := wb_own n (by have := HN.out; omega) wr
      have hbn := below_new1 wr (.cells (bytesV (Wl.zeros n)).toArray 5)
      obtain ⟨z1, hz1⟩ : ∃ z, z = wr.alloc (.cells (bytesV (Wl.zeros n)).toArray 5) := ⟨_, rfl⟩
      obtain ⟨g, hg⟩ : ∃ g, g = wr.heap.size := ⟨_, rfl⟩
      rw [← hz1, ← hg] at hmk hwb
      rw [← hz1] at hbn
      have HO1 := Lib.hid hwb
      have HBN := Lib.hid hbn
      have HG := Lib.hid hg
      clear hwb hbn hz1 hg
      go_upto_region 13 with (fail)
      clear hmk
      obtain ⟨hcq, hfq⟩ := HO1.out.cellAt (Wl.zeros_length n) q (by have := HN.out; omega)
      have hi1 : wrap64 ((n : Int) - 1) = (q : Int) := by rw [show (n : Int) - 1 = (q : Int) by have := HN.out; omega]; exact IntWalk.wrap64_in _ ⟨by omega, by have := HN.out; omega⟩
      have hi2 : (0 : Int) ≤ (q : Int) := by omega
      have hi3 : (q : Int) < (n : Int) := by have := HN.out; omega
      have hi4 : 0 + q = q := Nat.zero_add q
      have hi5 : IntKind.u8.wrap (k : Int) = ((k % 256 : Nat) : Int) := by rw [IntKind.wrap_u8]; omega
      go_upto_region 14 with (fail)
      clear hcq hfq hi1 hi2 hi3 hi4 hi5
      rw [show ((k : Int) % 256) = ((k % 256 : Nat) : Int) by omega]
      obtain ⟨hO2, hg2⟩ := HO1.out.stored (Wl.zeros_length n) q (k % 256) (Nat.mod_lt _ (by decide))
      have hb2 : Below wr.heap.size wr (z1.setCell ⟨g, q, none⟩ (.int .u8 ((k % 256 : Nat) : Int))) := below_grown HBN.out hg2 HBN.out.size (by rw [HG.out]; exact Nat.le_refl _)
      obtain ⟨bs, hbs⟩ : ∃ bs, bs = (Wl.zeros n).set q (k % 256) := ⟨_, rfl⟩
      have hbl : bs.length = n := by rw [hbs, List.length_set, Wl.zeros_length]
      rw [← hbs] at hO2
      generalize z1.setCell ⟨g, q, none⟩ (.int .u8 ((k % 256 : Nat) : Int)) = z2 at hO2 hg2 hb2 ⊢
      have HO2 := Lib.hid hO2
      have HBL := Lib.hid hbl
      have HL := Lib.hid (HA.out.below HL0.out hb2)
      have HQ := Lib.hid (HQ0.out.below hb2)
      have HB := Lib.hid (HB0.out.trans (hb2.mono HB0.out.size))
      clear hO2 hg2 hb2 hbs hbl HO1 HBN HG HL0 HQ0 HB0
      have hu32 : IntKind.u32.wrap (k : Int) = (k : Int) := by rw [IntKind.wrap_u32]; have := HLT.out; have := HLE.out; omega
      go_wp2_with fail
      have hS : s.stop ≤ 1000000000000 := by have := HR0.out.low; have := HLT.out; have := HLE.out; omega
      have hc := HA.out.append (Wl.wr k bs) (.slice (some ⟨g, 0, none⟩) n n) (.slice (some ⟨g, 0, none⟩) n n) (.slice none 0 0) (.slice none 0 0) (.slice none 0 0) HL.out ⟨HO2.out.bts, HO2.out.bts, bts_none _, Chr.bts_nil _, Dir.bts_nil _, Wl.wr_ok (by have := HLT.out; have := HLE.out; omega) HO2.out.small⟩ (Wl.wr_few (by rw [HBL.out]; have := HN.out; omega)) (by rw [HR0.out.epoch]; decide) hS
      have hM := Wl.wr_may (s := s) (p := k) (b := bs) (by rw [HBL.out]; have := HN.out; omega) (by rw [HBL.out]; have := HN.out; omega)
      have hsz : Wl.size (Wl.stamp s (Wl.wr k bs)) ≤ 829 := by
        rw [Wl.wr_size, HBL.out]
        have h1 := HN.out
        by_cases h2 : n < 128
        · rw [Wl.uv_short h2]; omega
        · rw [Wl.uv_long (by omega) (by omega)]; omega
      have hroom := HR0.out.room (by have := HMH0.out; have := HH.out; omega)
      have hR1 := HR0.out.next (x := Wl.wr k bs) hM (Wl.stamp_ok (Wl.wr_ok (by have := HLT.out; have := HLE.out; omega) HO2.out.small) (by omega) (by rw [HR0.out.epoch]; decide)) rfl hsz
      have hpls : Wl.places (Wl.flush (Wl.app s (Wl.wr k bs))) = Wl.places s ++ [s.stop] := by
        show (s.recs ++ [_]).map _ = _
        rw [List.map_append]; rfl
      rw [Wl.append_fine hM (by omega), show ((0 : Nat) : Int) = 0 from rfl] at hc
      refine hc.mono ?_
      rintro e z3 ⟨rfl, V3, hL, hT, hG⟩
      have HL3 := Lib.hid hL
      have HV3 := Lib.hid (hG.from HV0.out HB.out.size)
      have HB3 := Lib.hid (HB.out.trans ((hT.under HV0.out HB.out.size).mono (Nat.le_refl _)))
      have HQ3 := Lib.hid (HQ.out.touch hT HW0.out.right)
      have HW3 := Lib.hid (HW0.out.left.both (HW0.out.right.grew hG HQ.out.lt))
      have HR1 := Lib.hid hR1
      have HPL := Lib.hid hpls
      have HSB : Hid (Wl.S.stop (Wl.app s (Wl.wr k bs)) ≤ 1000000000000) := Lib.hid (by show s.stop + Wl.size _ ≤ _; have := HR0.out.low; have := HLT.out; have := HLE.out; omega)
      obtain ⟨st, hst⟩ : ∃ st, st = s.stop := ⟨_, rfl⟩
      rw [← hst] at HPL ⊢
      clear hc hM hsz hroom hR1 hpls hL hT hG hS HL HB HQ HV0 HW0 hu32 HO2 HBL hst
      go_wp2_with fail
      refine (HA.out.flush (n := 66) HL3.out ⟨HA.out.dok (HA.out.dev HL3.out), HC0.out.sz, HC0.out.most⟩ HSB.out).mono ?_
      rintro e z4 hfl
      rcases hfl with ⟨U4, V4, d4, rfl, hL, -, hC, hT, hG1, hG2⟩ | ⟨hno, -⟩
      case inr => exact absurd HC0.out hno
      have HL4 := Lib.hid hL
      have HC4 := Lib.hid (hC HC0.out)
      have HU4 := Lib.hid (hG1.from HU0.out HB3.out.size)
      have HV4 := Lib.hid (hG2.from HV3.out HB3.out.size)
      have HB4 := Lib.hid (HB3.out.trans ((hT.under (from_both HU0.out HV3.out) HB3.out.size).mono (Nat.le_refl _)))
      have HQ4 := Lib.hid (HQ3.out.touch hT HW3.out)
      have HW4 := Lib.hid ((HW3.out.left.grew hG1 HQ3.out.lt).both (HW3.out.right.grew hG2 HQ3.out.lt))
      clear hL hC hT hG1 hG2 HL3 HU0 HV3 HB3 HQ3 HW3 HC0
      generalize hs1 : Wl.flush (Wl.app s (Wl.wr k bs)) = s1 at HL4 HR1 HPL
      clear hs1
      obtain ⟨mm, hmm⟩ : ∃ mm, mm = m + 1 := ⟨_, rfl⟩
      rw [← hmm] at HR1
      have HMM0 : Hid (mm ≤ H + 1) := Lib.hid (by have := HMH0.out; omega)
      have HMM : Hid (mm ≤ 6) := Lib.hid (by have := HMH0.out; have := HH.out; omega)
      have hqs := HQ4.out.slice
      rw [Wl.places_length, HR0.out.len] at hqs
      obtain ⟨qp, qc, rfl⟩ := hqs
      have HLQ : Hid ((Wl.places s).length = m) := by rw [Wl.places_length]; exact HR0.out.len
      go_upto_region 17 with (fail)
      iterate 10 go_step
      have hbx := below_new1 z4 (.cells #[.int .u64 (st : Int)] 30)
      have hcx : (z4.alloc (.cells #[.int .u64 (st : Int)] 30)).cell? ⟨z4.heap.size, 0, none⟩ = some (.int .u64 (st : Int)) := by rw [cell_of_row _ _ 0 _ _ (0, 0) (heap_alloc_last _ _)]; rfl
      refine wpList_append_Qu rfl (.tmp 82) (.tmp 84) rfl w.heap.size _ (Wl.places s) rfl (HQ4.out.below hbx) st z4.heap.size rfl hcx (by rw [HLQ.out]; have := HMH0.out; have := HH.out; omega) (HB4.out.trans (hbx.mono HB4.out.size)).size ?_
      intro av z5 hQ5 hg5 hn5
      rw [← HPL.out] at hQ5
      have HQ5 := Lib.hid hQ5
      have ht5 : Touch (fun i => Value.ownBlock (.slice qp m qc) = some i) (z4.alloc (.cells #[.int .u64 (st : Int)] 30)) z5 := ⟨hg5.os, hg5.tape, hg5.output, hg5.size, fun i hi hn => hg5.block i hi (fun e => hn e.symm)⟩
      have HL5 := Lib.hid (HA.out.pkeep (HA.out.below HL4.out hbx) ht5 (fun i hi e => HW4.out i e hi))
      have HB5 : Hid (Below w.heap.size w z5) := (HB4.out.trans (hbx.mono HB4.out.size)).grown hg5 (HB4.out.trans (hbx.mono HB4.out.size)).size (fun i e => by
        rcases HQ4.out with ⟨e2, -⟩ | ⟨g2, o2, c2, cur, e2, hb2, -⟩
        · rw [e2] at e; cases e
        · have e3 : some g2 = some i := (congrArg Value.ownBlock e2).symm.trans e
          have e4 := Option.some.inj e3
          omega)
      have HW5 : Hid (Aw av (Both U4 V4)) := fun i e hi => by
        rcases hn5 i e with h1 | h1
        · exact HW4.out i h1 hi
        · have h2 := HA.out.plt HL4.out i hi
          have h3 := hbx.size
          omega
      clear hbx hcx hQ5 hg5 ht5 hn5 HL4 HB4 HQ4 HW4 HPL HR0 HMH0 HLQ
      have hlen : (Wl.places s1).length = mm := by rw [Wl.places_length]; exact HR1.out.len
      obtain ⟨g2, o2, c2, hav, -, hq1, hq2, hq3⟩ := HQ5.out.some (by rw [hlen, hmm]; exact Nat.succ_pos m)
      rw [hlen] at hav hq1 hq3
      subst hav
      have hm1 : 1 ≤ mm := by rw [hmm]; exact Nat.le_add_left 1 m
      have HQ3 := Lib.hid hq3
      clear hlen hmm hq3
      by_cases hgt : mm ≤ H
      · as_aux_lemma =>
          have hgi : ¬ (H : Int) < (mm : Int) := by omega
          have HL := HL5
          have HQ := HQ5
          have HB := HB5
          have HC := HC4
          have HR := HR1
          have HAW := HW5
          have HFU := HU4
          have HFV := HV4
          have HMH : Hid (mm ≤ H) := Lib.hid hgt
          clear HL5 HQ5 HB5 HC4 HR1 HW5 HU4 HV4 HMM0 HQ3 hgt hq1 hq2 hm1
          go_wp2_with fail
          go_loopw [15] (fun jv wq => ∃ j : Nat, j ≤ mm ∧ jv = .int .i64 (j : Int) ∧ PL U4 V4 wq B L d4 s1 ∧ Qu w.heap.size wq (.slice (some ⟨g2, o2, none⟩) mm c2) (Wl.places s1) ∧ Below w.heap.size w wq) (fun jv _ => mm - (intOf jv).toNat)
          case atStart => exact ⟨0, Nat.zero_le _, rfl, HL.out, HQ.out, HB.out⟩
          case round =>
            clear HL HQ HB
            obtain ⟨j, hj, rfl, hL, hQ, hb⟩ := hrel
            have HL := Lib.hid hL
            have HQ := Lib.hid hQ
            have HB := Lib.hid hb
            clear hL hQ hb
            by_cases hjm : j < mm
            · as_aux_lemma =>
                have HJM := Lib.hid hjm
                obtain ⟨r, pl, nx, hpl, hrd, hpg, hln, hps⟩ := HR.out.get hjm
                have hlen : (Wl.places s1).length = mm := by rw [Wl.places_length]; exact HR.out.len
                obtain ⟨gq, oq, cq, hqv, -, hq1, hq2, hq3⟩ := HQ.out.some (by rw [hlen]; omega)
                rw [hlen] at hqv hq1 hq3
                simp only [Value.slice.injEq, Option.some.injEq, Addr.mk.injEq, and_true, true_and] at hqv
                obtain ⟨⟨rfl, rfl⟩, rfl⟩ := hqv
                have hcj := hq3 j hjm
                rw [hpl] at hcj
                have hst := HR.out.low
                have hc := HA.out.read (n := 66) pl HL.out HC.out (by have := HLE.out; have := HLT.out; omega) (by have := HLE.out; have := HLT.out; omega)
                rw [hrd, show ((0 : Nat) : Int) = 0 from rfl] at hc
                have HPG := Lib.hid hpg
                have HLN := Lib.hid hln
                have HCJ := Lib.hid hcj
                have hj0 : (0 : Int) ≤ (j : Int) := by omega
                have hj1 : (j : Int) < (mm : Int) := by omega
                clear hpl hrd hpg hln hps hst hlen hq3
                go_wp2_with fail
                refine hc.mono ?_
                rintro e z2 ⟨o, n2, u2, c2', t2, rfl, hO, hb⟩
                clear hc
                obtain ⟨p1, c1, p2, c2, p3, c3, p4, c4, p5, c5, rfl, rfl, rfl, rfl, rfl⟩ := rec_slices hO.at
                have HK := Lib.hid hb
                clear hO hb hcj
                go_upto_region 26 with (fail)
                obtain ⟨Y, hY⟩ : ∃ Y, Y = z2.alloc (.cells #[.int .i64 r.kind, .int .u64 (r.lsn : Int), .int .u32 (r.epoch : Int), .int .u64 (r.txn : Int), .int .u32 (r.page : Int), .int .u16 (r.off : Int), .slice p1 r.old.length c1, .slice p2 r.new.length c2, .slice p3 r.undo.length c3, .int .u64 (r.prev : Int), .int .u64 (r.next : Int), .bool r.clr, .int .u64 (r.stamp : Int), .slice p4 r.opn.length c4, .slice p5 r.dirt.length c5] 40) := ⟨_, rfl⟩
                have hbY : Below z2.heap.size z2 Y := by rw [hY]; exact below_new1 _ _
                have hrY : Y.heap[z2.heap.size]? = some (.cells #[.int .i64 r.kind, .int .u64 (r.lsn : Int), .int .u32 (r.epoch : Int), .int .u64 (r.txn : Int), .int .u32 (r.page : Int), .int .u16 (r.off : Int), .slice p1 r.old.length c1, .slice p2 r.new.length c2, .slice p3 r.undo.length c3, .int .u64 (r.prev : Int), .int .u64 (r.next : Int), .bool r.clr, .int .u64 (r.stamp : Int), .slice p4 r.opn.length c4, .slice p5 r.dirt.length c5] 40 (0, 0)) := by rw [hY]; exact heap_alloc_last _ _
                rw [← hY]
                obtain ⟨yy, hyy⟩ : ∃ y, y = z2.heap.size := ⟨_, rfl⟩
                rw [← hyy] at hrY ⊢
                have hbY2 := HK.out.trans (hbY.mono HK.out.size)
                obtain ⟨-, y1, -, -, y4, -, -, -, -, -, -, -, -, -, -⟩ := rec_cell hrY
                rw [HLN.out] at y1
                rw [HPG.out] at y4
                have hcj := (hbY2.cell (p := ⟨g2, o2 + j, none⟩) (block_lt_of_cell HCJ.out)).trans HCJ.out
                have HK2 := Lib.hid hbY2
                clear hY hbY hrY hyy hbY2
                have hp1 : wrap64 ((k : Int) - (mm : Int)) = (k : Int) - (mm : Int) := IntWalk.wrap64_in _ ⟨by have := HLE.out; have := HLT.out; have := HMM.out; omega, by have := HLE.out; have := HLT.out; have := HMM.out; omega⟩
                have hp2 : wrap64 ((k : Int) - (mm : Int) + 1) = (k : Int) - (mm : Int) + 1 := IntWalk.wrap64_in _ ⟨by have := HLE.out; have := HLT.out; have := HMM.out; omega, by have := HLE.out; have := HLT.out; have := HMM.out; omega⟩
                have hp3 : wrap64 ((k : Int) - (mm : Int) + 1 + (j : Int)) = (k : Int) - (mm : Int) + 1 + (j : Int) := IntWalk.wrap64_in _ ⟨by have := HLE.out; have := HLT.out; have := HMM.out; omega, by have := HLE.out; have := HLT.out; have := HMM.out; omega⟩
                obtain ⟨pg, hpg2⟩ : ∃ pg, pg = k + 1 - mm + j := ⟨_, rfl⟩
                rw [← hpg2] at y4
                have hp4 : IntKind.u32.wrap ((k : Int) - (mm : Int) + 1 + (j : Int)) = (pg : Int) := by
                  have h1 := HR.out.few
                  have h2 := HLE.out
                  have h3 := HLT.out
                  rw [IntKind.wrap_u32]; omega
                have hp5 : ((pg : Int) != (pg : Int)) = false := by simp
                have hp6 : ((pl : Int) != (pl : Int)) = false := by simp
                clear hpg2 hjm
                go_quiet (fail)
                have hdn : Below Y.heap.size Y (Y.drewN nq) := ⟨rfl, rfl, rfl, Nat.le_refl _, fun _ _ => rfl⟩
                have HK3 := Lib.hid (HK2.out.trans (hdn.mono HK2.out.size))
                generalize Y.drewN nq = Y2 at HK3 ⊢
                clear y1 y4 hcj hp1 hp2 hp3 hp4 hp5 hp6 hj0 hj1 hdn
                have hw1 := IntWalk.i64_in ((j : Int) + 1) (by have := HJM.out; have := HMM.out; omega)
                go_wp2_with fail
                go_roundw
                case rel => exact ⟨j + 1, HJM.out, by go_num, HA.out.below HL.out HK3.out, HQ.out.below HK3.out, HB.out.trans (HK3.out.mono HB.out.size)⟩
                case measure => have := HJM.out; simp [intOf]; omega
            · as_aux_lemma =>
                obtain rfl : mm = j := by omega
                have hjs : ¬ ((mm : Int) < (mm : Int)) := by omega
                have hw1 := IntWalk.i64_in ((k : Int) + 1) (by have := HLE.out; have := HLT.out; omega)
                go_wp2_with fail
                go_roundw
                case rel => exact ⟨k + 1, mm, HLT.out, by go_num, HMH.out, U4, V4, d4, s1, HL.out, HFU.out, HFV.out, HC.out, HR.out, HQ.out, HAW.out, HB.out⟩
                case measure => have := HLT.out; simp [intOf]; omega
      · as_aux_lemma =>
          have hgi : (H : Int) < (mm : Int) := by omega
          obtain ⟨m2, hm2⟩ : ∃ m2, mm = m2 + 2 := ⟨mm - 2, by have := HH.out; omega⟩
          have HRb : Hid (Wl.Ring (k + 1) (m2 + 2) s1) := Lib.hid (by rw [← hm2]; exact HR1.out)
          obtain ⟨a, ha, hmay, hR2, hpl, ha2, hast⟩ := HRb.out.drop
          have hc0 := HQ3.out 1 (by omega)
          rw [ha] at hc0
          have hx1 : (1 : Int) ≤ (mm : Int) := by omega
          have hx2 : mm ≤ c2 := hq1
          have hx3 : ¬ c2 = 1 := by omega
          have hx4 : (0 : Int) < ((mm - 1 : Nat) : Int) := by omega
          go_upto_region 20 with (fail)
          obtain ⟨m3, hm3⟩ : ∃ m3, m3 = m2 + 1 := ⟨_, rfl⟩
          rw [← hm3]
          rw [← hm3] at hR2
          clear hx1 hx2 hx3 hx4
          have hQ6 := HQ5.out
          rw [hpl, hm2] at hQ6
          have hQ6 := hQ6.tail
          have hlen2 : (Wl.places (Wl.master s1 a 0)).length = m3 := by rw [Wl.places_length]; exact hR2.len
          rw [hlen2] at hQ6
          have hy0 : (0 : Int) < (m3 : Int) := by omega
          have hy1 : o2 + 1 + 0 = o2 + 1 := rfl
          have hc0 : z5.cell? ⟨g2, o2 + 1, none⟩ = some (.int .u64 (a : Int)) := hc0
          have HR2 := Lib.hid hR2
          have HMAY := Lib.hid hmay
          have HQ6 := Lib.hid hQ6
          have HM3 : Hid (m3 ≤ H ∧ m3 ≤ 6) := Lib.hid (by have := HMM0.out; have := HH.out; omega)
          have HAB : Hid (s1.stop ≤ 1000000000000) := Lib.hid (by have := HR1.out.low; have := HLT.out; have := HLE.out; omega)
          clear hQ6 hR2 hmay hpl ha ha2 hast hlen2 hgi hm2 hm3 hgt hq1 hq2 hm1 HRb
          go_wp2_with fail
          refine (HA.out.master (n := 66) a 0 HL5.out HC4.out HMAY.out HAB.out).mono ?_
          rintro e z6 ⟨rfl, U6, V6, d6, hL, hC, hT, hG1, hG2⟩
          clear hc0 hy0 hy1
          have hW6 : Aw (.slice (some ⟨g2, o2 + 1, none⟩) m3 (c2 - 1)) (Both U4 V4) := fun i e hi => HW5.out i e hi
          have HL := Lib.hid hL
          have HC := Lib.hid hC
          have HFU := Lib.hid (hG1.from HU4.out HB5.out.size)
          have HFV := Lib.hid (hG2.from HV4.out HB5.out.size)
          have HB := Lib.hid (HB5.out.trans ((hT.under (from_both HU4.out HV4.out) HB5.out.size).mono (Nat.le_refl _)))
          have HQ := Lib.hid (HQ6.out.touch hT hW6)
          have HAW := Lib.hid ((hW6.left.grew hG1 HQ6.out.lt).both (hW6.right.grew hG2 HQ6.out.lt))
          have HR := HR2
          have HMH : Hid (m3 ≤ H) := HM3.out.1
          have HMM : Hid (m3 ≤ 6) := HM3.out.2
          obtain ⟨s2, hs2⟩ : ∃ s2, s2 = Wl.master s1 a 0 := ⟨_, rfl⟩
          rw [← hs2] at HL HR HQ
          obtain ⟨o3, ho3⟩ : ∃ o3, o3 = o2 + 1 := ⟨_, rfl⟩
          obtain ⟨c3, hc3⟩ : ∃ c3, c3 = c2 - 1 := ⟨_, rfl⟩
          rw [← ho3, ← hc3] at HQ HAW ⊢
          clear hL hC hT hG1 hG2 hW6 hs2 ho3 hc3 HL5 HQ5 HB5 HC4 HR1 HW5 HU4 HV4 HMM0 HQ3 HQ6 HR2 HMAY HM3 HAB
          go_wp2_with fail
          go_loopw [15] (fun jv wq => ∃ j : Nat, j ≤ m3 ∧ jv = .int .i64 (j : Int) ∧ PL U6 V6 wq B L d6 s2 ∧ Qu w.heap.size wq (.slice (some ⟨g2, o3, none⟩) m3 c3) (Wl.places s2) ∧ Below w.heap.size w wq) (fun jv _ => m3 - (intOf jv).toNat)
          case atStart => exact ⟨0, Nat.zero_le _, rfl, HL.out, HQ.out, HB.out⟩
          case round =>
            clear HL HQ HB
            obtain ⟨j, hj, rfl, hL, hQ, hb⟩ := hrel
            have HL := Lib.hid hL
            have HQ := Lib.hid hQ
            have HB := Lib.hid hb
            clear hL hQ hb
            by_cases hjm : j < m3
            · as_aux_lemma =>
                have HJM := Lib.hid hjm
                obtain ⟨r, pl, nx, hpl, hrd, hpg, hln, hps⟩ := HR.out.get hjm
                have hlen : (Wl.places s2).length = m3 := by rw [Wl.places_length]; exact HR.out.len
                obtain ⟨gq, oq, cq, hqv, -, hq1, hq2, hq3⟩ := HQ.out.some (by rw [hlen]; omega)
                rw [hlen] at hqv hq1 hq3
                simp only [Value.slice.injEq, Option.some.injEq, Addr.mk.injEq, and_true, true_and] at hqv
                obtain ⟨⟨rfl, rfl⟩, rfl⟩ := hqv
                have hcj := hq3 j hjm
                rw [hpl] at hcj
                have hst := HR.out.low
                have hc := HA.out.read (n := 66) pl HL.out HC.out (by have := HLE.out; have := HLT.out; omega) (by have := HLE.out; have := HLT.out; omega)
                rw [hrd, show ((0 : Nat) : Int) = 0 from rfl] at hc
                have HPG := Lib.hid hpg
                have HLN := Lib.hid hln
                have HCJ := Lib.hid hcj
                have hj0 : (0 : Int) ≤ (j : Int) := by omega
                have hj1 : (j : Int) < (m3 : Int) := by omega
                clear hpl hrd hpg hln hps hst hlen hq3
                go_wp2_with fail
                refine hc.mono ?_
                rintro e z2 ⟨o, n2, u2, c2', t2, rfl, hO, hb⟩
                clear hc
                obtain ⟨p1, c1, p2, c2, p3, c3, p4, c4, p5, c5, rfl, rfl, rfl, rfl, rfl⟩ := rec_slices hO.at
                have HK := Lib.hid hb
                clear hO hb hcj
                go_upto_region 26 with (fail)
                obtain ⟨Y, hY⟩ : ∃ Y, Y = z2.alloc (.cells #[.int .i64 r.kind, .int .u64 (r.lsn : Int), .int .u32 (r.epoch : Int), .int .u64 (r.txn : Int), .int .u32 (r.page : Int), .int .u16 (r.off : Int), .slice p1 r.old.length c1, .slice p2 r.new.length c2, .slice p3 r.undo.length c3, .int .u64 (r.prev : Int), .int .u64 (r.next : Int), .bool r.clr, .int .u64 (r.stamp : Int), .slice p4 r.opn.length c4, .slice p5 r.dirt.length c5] 40) := ⟨_, rfl⟩
                have hbY : Below z2.heap.size z2 Y := by rw [hY]; exact below_new1 _ _
                have hrY : Y.heap[z2.heap.size]? = some (.cells #[.int .i64 r.kind, .int .u64 (r.lsn : Int), .int .u32 (r.epoch : Int), .int .u64 (r.txn : Int), .int .u32 (r.page : Int), .int .u16 (r.off : Int), .slice p1 r.old.length c1, .slice p2 r.new.length c2, .slice p3 r.undo.length c3, .int .u64 (r.prev : Int), .int .u64 (r.next : Int), .bool r.clr, .int .u64 (r.stamp : Int), .slice p4 r.opn.length c4, .slice p5 r.dirt.length c5] 40 (0, 0)) := by rw [hY]; exact heap_alloc_last _ _
                rw [← hY]
                obtain ⟨yy, hyy⟩ : ∃ y, y = z2.heap.size := ⟨_, rfl⟩
                rw [← hyy] at hrY ⊢
                have hbY2 := HK.out.trans (hbY.mono HK.out.size)
                obtain ⟨-, y1, -, -, y4, -, -, -, -, -, -, -, -, -, -⟩ := rec_cell hrY
                rw [HLN.out] at y1
                rw [HPG.out] at y4
                have hcj := (hbY2.cell (p := ⟨g2, o3 + j, none⟩) (block_lt_of_cell HCJ.out)).trans HCJ.out
                have HK2 := Lib.hid hbY2
                clear hY hbY hrY hyy hbY2
                have hp1 : wrap64 ((k : Int) - (m3 : Int)) = (k : Int) - (m3 : Int) := IntWalk.wrap64_in _ ⟨by have := HLE.out; have := HLT.out; have := HMM.out; omega, by have := HLE.out; have := HLT.out; have := HMM.out; omega⟩
                have hp2 : wrap64 ((k : Int) - (m3 : Int) + 1) = (k : Int) - (m3 : Int) + 1 := IntWalk.wrap64_in _ ⟨by have := HLE.out; have := HLT.out; have := HMM.out; omega, by have := HLE.out; have := HLT.out; have := HMM.out; omega⟩
                have hp3 : wrap64 ((k : Int) - (m3 : Int) + 1 + (j : Int)) = (k : Int) - (m3 : Int) + 1 + (j : Int) := IntWalk.wrap64_in _ ⟨by have := HLE.out; have := HLT.out; have := HMM.out; omega, by have := HLE.out; have := HLT.out; have := HMM.out; omega⟩
                obtain ⟨pg, hpg2⟩ : ∃ pg, pg = k + 1 - m3 + j := ⟨_, rfl⟩
                rw [← hpg2] at y4
                have hp4 : IntKind.u32.wrap ((k : Int) - (m3 : Int) + 1 + (j : Int)) = (pg : Int) := by
                  have h1 := HR.out.few
                  have h2 := HLE.out
                  have h3 := HLT.out
                  rw [IntKind.wrap_u32]; omega
                have hp5 : ((pg : Int) != (pg : Int)) = false := by simp
                have hp6 : ((pl : Int) != (pl : Int)) = false := by simp
                clear hpg2 hjm
                go_quiet (fail)
                have hdn : Below Y.heap.size Y (Y.drewN nq) := ⟨rfl, rfl, rfl, Nat.le_refl _, fun _ _ => rfl⟩
                have HK3 := Lib.hid (HK2.out.trans (hdn.mono HK2.out.size))
                generalize Y.drewN nq = Y2 at HK3 ⊢
                clear y1 y4 hcj hp1 hp2 hp3 hp4 hp5 hp6 hj0 hj1 hdn
                have hw1 := IntWalk.i64_in ((j : Int) + 1) (by have := HJM.out; have := HMM.out; omega)
                go_wp2_with fail
                go_roundw
                case rel => exact ⟨j + 1, HJM.out, by go_num, HA.out.below HL.out HK3.out, HQ.out.below HK3.out, HB.out.trans (HK3.out.mono HB.out.size)⟩
                case measure => have := HJM.out; simp [intOf]; omega
            · as_aux_lemma =>
                obtain rfl : m3 = j := by omega
                have hjs : ¬ ((m3 : Int) < (m3 : Int)) := by omega
                have hw1 := IntWalk.i64_in ((k : Int) + 1) (by have := HLE.out; have := HLT.out; omega)
                go_wp2_with fail
                go_roundw
                case rel => exact ⟨k + 1, m3, HLT.out, by go_num, HMH.out, U6, V6, d6, s2, HL.out, HFU.out, HFV.out, HC.out, HR.out, HQ.out, HAW.out, HB.out⟩
                case measure => have := HLT.out; simp [intOf]; omega
    · have hstop : ¬ ((k : Int) < (l.length : Int)) := by omega
      clear hlt
      go_wp2_with fail
      have hkeep := HR0.out.good
      have hc := HA.out.open_ (n := 66) (s := s) (HA.out.dev HL0.out) HC0.out (by rw [HR0.out.at0, HR0.out.count]; exact ⟨by decide, by decide, by decide, by decide⟩) (HA.out.hold HL0.out) (by rw [HR0.out.epoch]; decide) (by have := HR0.out.low; have := HLE.out; omega)
      rw [HR0.out.at0, HR0.out.count, show ((0 : Nat) : Int) = 0 from rfl, show ((64 : Nat) : Int) = 64 from rfl] at hc
      refine hc.mono ?_
      clear hc
      rintro e z1 ⟨kk, L2, U5, V5, d5, hkk, hfl, rfl, hL, hC, hT, hG, hV⟩
      have hall := Wl.cut_all hkeep HR0.out.flushed hfl
      have HM2 := Lib.hid (HA.out.mem hL)
      have HM1 := Lib.hid (HA.out.mkeep (HA.out.mem HL0.out) hT (fun i hi hu => HA.out.away HL0.out i hu hi))
      have HB1 := Lib.hid (HB0.out.trans ((hT.under HU0.out HB0.out.size).mono (Nat.le_refl _)))
      have HWS : Hid (wr.heap.size ≤ z1.heap.size) := hT.size
      have HS1 : Hid (s.stop ≤ 1000000000000) := Lib.hid (by have := HR0.out.low; have := HLE.out; omega)
      have HL2 := Lib.hid hL
      have HALL := Lib.hid hall
      clear hL hC hT hG hV hkk hfl hall hkeep hstop HU0 HV0 HC0 HQ0 HW0
      go_wp2_with fail
      have hc := HA.out.end_ HM2.out (by show Wl.placeOf s kk ≤ _; rw [HALL.out]; exact HS1.out)
      rw [show (Wl.cut s kk).stop = s.stop from HALL.out] at hc
      refine hc.mono ?_
      rintro e z2 ⟨rfl, hb⟩
      have HL3 := Lib.hid (HA.out.below HL2.out hb)
      have HM3 := Lib.hid (HA.out.mkeep HM1.out (Touch.of_below (S := fun i => wr.heap.size ≤ i) hb (fun i _ h => Nat.le_trans HWS.out h)) (fun i hi hu => by have := HA.out.plt HL0.out i (Or.inr hi); omega))
      have HB2 := Lib.hid (HB1.out.trans (hb.mono HB1.out.size))
      have HZ2 : Hid (wr.heap.size ≤ z2.heap.size) := Nat.le_trans HWS.out hb.size
      clear hc hb HL2 HM1 HM2 HB1
      go_wp2_with fail
      refine (HA.out.end_ HM3.out HS1.out).mono ?_
      rintro e z3 ⟨rfl, hb⟩
      have HL4 := Lib.hid (HA.out.below HL3.out hb)
      have HM4 := Lib.hid (HA.out.mkeep HM3.out (Touch.of_below (S := fun i => wr.heap.size ≤ i) hb (fun i _ h => Nat.le_trans HZ2.out h)) (fun i hi hu => by have := HA.out.plt HL0.out i (Or.inr hi); omega))
      have HB3 := Lib.hid (HB2.out.trans (hb.mono HB2.out.size))
      have HZ3 : Hid (wr.heap.size ≤ z3.heap.size) := Nat.le_trans HZ2.out hb.size
      clear hb HL3 HM3 HB2
      have hss : ((s.stop : Int) == (s.stop : Int)) = true := by simp
      go_wp2_with fail
      have hc := HA.out.start (HA.out.mem HL4.out)
      rw [show (Wl.cut s kk).start = s.start from rfl] at hc
      refine hc.mono ?_
      rintro e z4 ⟨rfl, hb⟩
      have HM5 := Lib.hid (HA.out.mkeep HM4.out (Touch.of_below (S := fun i => wr.heap.size ≤ i) hb (fun i _ h => Nat.le_trans HZ3.out h)) (fun i hi hu => by have := HA.out.plt HL0.out i (Or.inr hi); omega))
      have HB4 := Lib.hid (HB3.out.trans (hb.mono HB3.out.size))
      clear hb hc HM4 HB3
      go_wp2_with fail
      refine (HA.out.start HM5.out).mono ?_
      rintro e z5 ⟨rfl, hb⟩
      have HB5 := Lib.hid (HB4.out.trans (hb.mono HB4.out.size))
      clear hb HM5 HB4
      have hst : ((s.start : Int) == (s.start : Int)) = true := by simp
      go_wp2_with fail
      refine (known_any HA.out _).mono ?_
      rintro e z6 ⟨rfl, hb⟩
      have HB6 := Lib.hid (HB5.out.trans (hb.mono HB5.out.size))
      clear hb
      go_wp2_with fail
      go_ret
      exact ⟨rfl, HB6.out⟩
end
end Go.Proofs.YtafpjcobagofcaaGreat
