/- What the law SlotsReads answers, for every bytes. Conditions: the slice's cells hold the bytes. -/
import Derived.Test.YtbfpmpomcaijcaaSlKnown
import Derived.Test.YtbfpmpomcaijcaaSlSame
import Derived.Test.YtbfpmpomcaijcaaSlRRd
import Derived.StillTailTactics
namespace Go.Proofs.Ytbfpmpomcaijcaa
open Go.RowKit

/-- What is read is small, whatever was read. -/
theorem Sl.readR_small (b : List Nat) (hs : ∀ x ∈ b, x < 256) : (Sl.readR b).1.full.length ≤ 1000000 ∧ (Sl.readR b).1.data.length ≤ 1000000 := by
  by_cases h : Sl.Good b
  · have h1 := h.most
    rw [Sl.readR_good h hs]
    refine ⟨?_, ?_⟩
    · show (Sl.fl b (Sl.cn b)).length ≤ _
      rw [Sl.fl_length]; omega
    · show (Sl.dt b (Sl.cn b)).length ≤ _
      rw [Sl.dt_length]; omega
  · rw [Sl.readR_bad h]
    decide
theorem sv_cellAt {base g n c : Nat} {w : World} {vs : List Value} (h : Sv.Own base w (.slice (some ⟨g, 0, none⟩) n c) vs) {i : Nat} (hi : i < vs.length) : w.cell? ⟨g, i, none⟩ = some (vs.getD i nilS) := by
  have hw := h.own
  have hn : n = vs.length := by
    rcases hw.2 with ⟨e, _⟩ | ⟨g', c', cur, e, _⟩
    · cases e
    · simp only [Value.slice.injEq] at e; exact e.2.1
  subst hn
  obtain ⟨-, -, -, -, hc⟩ := Sv.owns_cells hw
  exact hc i hi

/-- The texts of a body are written over: what stands. -/
structure TxW (base : Nat) (W0 : World) (X : Nat) (kv nv fv dv : Value) (vs : List Value) (ls : List (List Nat)) (w : World) : Prop where
  bel : Below base W0 w
  big : base ≤ W0.heap.size
  blk : w.heap[X]? = some (.cells #[kv, nv, fv, dv] 26 (0, 0))
  own : Sv.Own base w dv vs
  rows : ∀ i, i < ls.length → ∀ g c, vs.getD i nilS = .slice (some ⟨g, 0, none⟩) (ls.getD i []).length c → 0 < (ls.getD i []).length → base ≤ g ∧ Row w g (ls.getD i []).length
theorem TxW.set {base X g i c k x : Nat} {W0 w : World} {kv nv fv dv : Value} {vs : List Value} {ls : List (List Nat)} (h : TxW base W0 X kv nv fv dv vs ls w) (hi : i < ls.length) (hv : vs.getD i nilS = .slice (some ⟨g, 0, none⟩) (ls.getD i []).length c) (h0 : 0 < (ls.getD i []).length) (hx : x < 256) :
    TxW base W0 X kv nv fv dv vs ls (w.setCell ⟨g, k, none⟩ (.int .u8 (x : Int))) := by
  have hg := grownBy_setCell w g k (.int .u8 (x : Int))
  obtain ⟨hb, hr⟩ := h.rows i hi g c hv h0
  obtain ⟨cur, hh, -, -⟩ := hr
  refine ⟨below_grown h.bel hg (Nat.le_trans h.big h.bel.size) hb, h.big, ?_, h.own.grown hg (row_ne_blk h.own.own hh (by decide)), fun j hj g2 c2 hv2 h02 => ?_⟩
  · rw [hg.block X (lt_of_block h.blk) (fun e => by
      simp only [Option.some.injEq] at e
      rw [← e, h.blk] at hh
      simp only [Option.some.injEq, Obj.cells.injEq] at hh
      exact absurd hh.2.1 (by decide))]
    exact h.blk
  · obtain ⟨hb2, hr2⟩ := h.rows j hj g2 c2 hv2 h02
    refine ⟨hb2, ?_⟩
    by_cases e : g2 = g
    · subst e
      exact hr2.set k x hx
    · exact hr2.grown hg (fun e2 => e (Option.some.inj e2))
theorem DOwn.txs {base : Nat} {w : World} {dv : Value} {vs : List Value} {ls : List (List Nat)} (h : DOwn base w dv vs ls) : ∀ i, i < ls.length → ∀ g c, vs.getD i nilS = .slice (some ⟨g, 0, none⟩) (ls.getD i []).length c → 0 < (ls.getD i []).length → base ≤ g ∧ Row w g (ls.getD i []).length := by
  intro i hi g c hv h0
  obtain ⟨g2, c2, e1, e2, -, -, -, e3⟩ := own_some (h.each i hi) h0
  rw [hv] at e1
  simp only [Value.slice.injEq, Option.some.injEq, Addr.mk.injEq] at e1
  obtain ⟨⟨rfl, -⟩, -, rfl⟩ := e1
  exact ⟨e2, e3⟩

set_option maxHeartbeats 3200000 in
set_option maxRecDepth 20000 in
theorem slotsReads_any (A : SlApi) (s : Value) (l : List Nat) (w : World) (hB : Bts w s l) :
    Calls Try.prog 4 #[s] w fun e w' => e = .returned (.bool true) ∧ Below w.heap.size w w' := by
  have HA := Lib.hid A
  have HB := Lib.hid hB
  obtain ⟨p, cap, rfl, -, -, -⟩ := hB.form
  have hlen := hB.len
  clear hB
  by_cases hlg : 2000 < l.length
  · go_enter Try.func4, Try.ntmps4
    go_wp2_with fail
    refine (known_any HA.out _).mono ?_
    rintro e w2 ⟨rfl, hb2⟩
    have HW2 := Lib.hid hb2
    clear hb2
    go_wp2_with fail
    go_ret
    exact ⟨rfl, HW2.out⟩
  · have hdl : decide (2000 < (l.length : Int)) = false := by simp; omega
    have HL2 : Hid (l.length ≤ 2000) := by show _ ≤ _; omega
    have HOE := Lib.hid (own_empty w w.heap.size 0 #[] (Nat.le_refl _) (Nat.zero_le _) rfl)
    have HWE : Hid (Below w.heap.size w (w.alloc (.cells #[] 5))) := (Below.refl _ _).alloc (Nat.le_refl _) _
    go_enter Try.func4, Try.ntmps4
    go_upto_region 3 with (fail)
    iterate 7 go_step
    refine wpList_append_Own rfl (.tmp 14) (.tmp 15) rfl w.heap.size _ [] rfl HOE.out _ l rfl (HB.out.below HWE.out) (by simp; omega) HWE.out.size ?_
    intro v1 w1 hO1 hb1 _
    rw [List.nil_append] at hO1
    have HO1 := Lib.hid hO1
    have HW1 := Lib.hid (HWE.out.trans hb1)
    clear hO1 hb1
    iterate 3 go_step
    refine wpList_append_byte rfl (.tmp 16) (.tmp 17) rfl w.heap.size _ l rfl HO1.out rfl 77 rfl (by decide) (by omega) HW1.out.size ?_
    intro v2 w2 hO2 hb2
    have HW2 := Lib.hid (HW1.out.trans hb2)
    have hl1 : (l ++ [77]).length = l.length + 1 := by simp
    obtain ⟨g, c, hv2, -, -, hc1, hc2, -⟩ := own_some hO2 (by rw [hl1]; omega)
    rw [hl1] at hv2 hc1
    subst hv2
    have hin : Bts w2 (.slice (some ⟨g, 0, none⟩) l.length c) l := by
      have hb := hO2.bts
      rw [← hl1] at hb
      have := hb.take l.length (by simp)
      rwa [List.take_left' rfl] at this
    have hmark : w2.cell? ⟨g, l.length, none⟩ = some (.int .u8 77) := by
      have ho := hO2.own
      rw [hl1] at ho
      obtain ⟨_, _, _, _, h5⟩ := owns_cells ho
      rw [h5 l.length (by simp)]
      simp
    have HIN := Lib.hid hin
    have HMARK := Lib.hid hmark
    have HB2 := Lib.hid (HB.out.below HW2.out)
    clear hO2 hb2 hl1 hin hmark HO1 HW1 HOE HWE
    have hnc : l.length ≤ c := by omega
    go_wp2_with fail
    have hc1' := HA.out.read HIN.out HL2.out
    have HSZ := Lib.hid (Sl.readR_small l HB2.out.small)
    have hc2' := fun w (h : Bts w (.slice p l.length cap) l) => refRead_any (.slice p l.length cap) l w h
    have HC2 := Lib.hid hc2'
    obtain ⟨rr, hrr⟩ : ∃ rr, rr = Sl.readR l := ⟨_, rfl⟩
    rw [← hrr] at hc1' HSZ HC2
    clear hc2'
    obtain ⟨sb, er⟩ := rr
    clear hrr
    refine hc1'.mono ?_
    clear hc1'
    rintro en w3 ⟨f3, d3, vs3, rfl, hs3, hb3⟩
    simp only at hs3 HSZ HC2
    obtain ⟨p3, c3, rfl⟩ := bo_slice hs3.full
    obtain ⟨p4, n4, c4, rfl⟩ := sv_slice hs3.data.own
    obtain ⟨w4, hw4⟩ : ∃ w4, w4 = w3.alloc (.cells #[.int .u8 (sb.kind : Int), .int .u32 (sb.next : Int), .slice p3 (FB sb.full).length c3, .slice p4 n4 c4] 26) := ⟨_, rfl⟩
    have hb4 : Below w3.heap.size w3 w4 := by rw [hw4]; exact below_new _ _
    have hx4 : w4.heap[w3.heap.size]? = some (.cells #[.int .u8 (sb.kind : Int), .int .u32 (sb.next : Int), .slice p3 (FB sb.full).length c3, .slice p4 n4 c4] 26 (0, 0)) := by rw [hw4]; exact heap_alloc_last _ _
    obtain ⟨X, hX⟩ : ∃ X, X = w3.heap.size := ⟨_, rfl⟩
    rw [← hX] at hx4
    have HX4 := Lib.hid hx4
    have HO4 := Lib.hid (hs3.below hb4)
    have HB24 := Lib.hid (hb3.trans (hb4.mono hb3.size))
    clear hs3 hb3 hb4 hx4
    go_upto_region 5 with (fail)
    rw [← hw4, ← hX]
    clear hw4 hX
    have HB4 := Lib.hid (HB2.out.below HB24.out)
    go_wp2_with fail
    refine (HC2.out _ HB4.out).mono ?_
    rintro en w5 ⟨f5, d5, rfl, hs5, hb5⟩
    clear HC2
    obtain ⟨p5, c5, p6, c6, rfl, rfl⟩ := slv_slices hs5
    obtain ⟨w6, hw6⟩ : ∃ w6, w6 = w5.alloc (.cells #[.int .u8 (sb.kind : Int), .int .u32 (sb.next : Int), .slice p5 sb.full.length c5, .slice p6 sb.data.length c6] 26) := ⟨_, rfl⟩
    have hb6 : Below w5.heap.size w5 w6 := by rw [hw6]; exact below_new _ _
    have hy6 : w6.heap[w5.heap.size]? = some (.cells #[.int .u8 (sb.kind : Int), .int .u32 (sb.next : Int), .slice p5 sb.full.length c5, .slice p6 sb.data.length c6] 26 (0, 0)) := by rw [hw6]; exact heap_alloc_last _ _
    have hb46 := hb5.trans (hb6.mono hb5.size)
    have hx6 := hb46.block X (lt_of_block HX4.out)
    rw [HX4.out] at hx6
    obtain ⟨Y, hY⟩ : ∃ Y, Y = w5.heap.size := ⟨_, rfl⟩
    rw [← hY] at hy6
    have HX6 := Lib.hid hx6
    have HY6 := Lib.hid hy6
    have HS6 := Lib.hid (hs5.below hb6)
    have HO6 := Lib.hid (HO4.out.below hb46)
    have HB26 := Lib.hid (HB24.out.trans (hb46.mono HB24.out.size))
    clear hs5 hb5 hb6 hx6 hy6 hb46
    go_upto_region 6 with (fail)
    rw [← hw6, ← hY]
    clear hw6 hY
    obtain ⟨q0, q1, q2, q3⟩ := four_cell HX6.out
    obtain ⟨y0, y1, y2, y3⟩ := four_cell HY6.out
    have hee : ((er : Int) != (er : Int)) = false := by simp
    go_wp2_with fail
    refine (refSame_any _ _ _ _ sb sb w6 HO6.out.at HS6.out HSZ.out).mono ?_
    rintro en w7 ⟨rfl, hb7⟩
    rw [Sl.same_true rfl]
    have hx7 := hb7.block X (lt_of_block HX6.out)
    rw [HX6.out] at hx7
    have hO7 := HO6.out.below hb7
    have HT7 := Lib.hid (TxW.mk (X := X) (HB26.out.trans (hb7.mono HB26.out.size)) (Nat.le_refl _) hx7 hO7.data.own hO7.data.txs)
    have HEA : Hid (∀ i, i < sb.data.length → ∃ pi ci, vs3.getD i nilS = .slice pi (sb.data.getD i []).length ci ∧ (sb.data.getD i []).length ≤ ci ∧ ci ≤ 9223372036854775807 ∧ (0 < (sb.data.getD i []).length → ∃ gi, pi = some ⟨gi, 0, none⟩)) := fun i hi => by
      obtain ⟨pi, ci, e1, e2, -, -⟩ := (hO7.data.each i hi).bts.form
      refine ⟨pi, ci, e1, e2.1, e2.2, fun h0 => ?_⟩
      obtain ⟨gi, ci2, e3, -⟩ := own_some (hO7.data.each i hi) h0
      rw [e1] at e3
      simp only [Value.slice.injEq] at e3
      exact ⟨gi, e3.1⟩
    have HVN := Lib.hid hO7.data.len
    have hnv : n4 = vs3.length := by
      obtain ⟨_, _, e, -⟩ := hO7.data.own.bts.form
      simp only [Value.slice.injEq] at e
      exact e.2.1
    have HP4 : Hid (0 < sb.data.length → ∃ g4, p4 = some ⟨g4, 0, none⟩) := fun h0 => by
      rcases hO7.data.own.own.2 with ⟨_, e⟩ | ⟨g', c', cur, e, _⟩
      · have := HVN.out; omega
      · simp only [Value.slice.injEq] at e; exact ⟨g', e.1⟩
    obtain ⟨ls, hls⟩ : ∃ ls, ls = sb.data := ⟨_, rfl⟩
    obtain ⟨n, hn⟩ : ∃ n, n = ls.length := ⟨_, rfl⟩
    have hn4 : n4 = n := by rw [hnv, hn, hls]; exact HVN.out
    subst hn4
    rw [← hls] at HT7 HEA HP4 HVN
    rw [← hn] at HP4
    have HNN := Lib.hid hn
    have HNB : Hid (n4 ≤ 1000000) := by show _ ≤ _; have h1 := HSZ.out.2; rw [hn, hls]; exact h1
    have HVL : Hid (n4 = vs3.length) := hnv
    generalize (Value.int IntKind.u8 (sb.kind : Int)) = kv at *
    generalize (Value.int IntKind.u32 (sb.next : Int)) = nv at *
    generalize (Value.slice p3 (FB sb.full).length c3) = fv at *
    clear hnv hn hls hx7 hO7 hb7 hee q0 q1 q2 q3 y0 y1 y2 y3 HO4 HO6 HS6 HX4 HX6 HY6 HSZ HVN
    go_wp2_with fail
    go_loopw [8] (fun iv wr => ∃ j : Nat, j ≤ n4 ∧ iv = .int .i64 j ∧ TxW w2.heap.size w2 X kv nv fv (.slice p4 n4 c4) vs3 ls wr) (fun iv _ => n4 - (intOf iv).toNat)
    case atStart => exact ⟨0, Nat.zero_le _, rfl, HT7.out⟩
    case round =>
      obtain ⟨j, hj, rfl, ht⟩ := hrel
      have HT := Lib.hid ht
      obtain ⟨q0, q1, q2, q3⟩ := four_cell ht.blk
      clear ht
      by_cases hlt : j < n4
      · have HLT := Lib.hid hlt
        have hk1 : (0 : Int) ≤ (j : Int) := by omega
        have hk2 : (j : Int) < (n4 : Int) := by omega
        go_wp2_with fail
        clear q0 q1 q2 q3 hk1 hk2
        obtain ⟨pi, ci, hvi, hci1, hci2, hpi⟩ := HEA.out j (by rw [← HNN.out]; exact hlt)
        obtain ⟨ni, hni⟩ : ∃ ni, ni = (ls.getD j []).length := ⟨_, rfl⟩
        rw [← hni] at hvi hci1 hpi
        have HVI := Lib.hid hvi
        have HNI := Lib.hid hni
        have HPI := Lib.hid hpi
        obtain ⟨g4, rfl⟩ := HP4.out (by omega)
        clear hvi hni hpi
        go_loopw [9] (fun iv wq => ∃ k : Nat, k ≤ ni ∧ iv = .int .i64 k ∧ TxW w2.heap.size w2 X kv nv fv (.slice (some ⟨g4, 0, none⟩) n4 c4) vs3 ls wq) (fun iv _ => ni - (intOf iv).toNat)
        case atStart => exact ⟨0, Nat.zero_le _, rfl, HT.out⟩
        case round =>
          obtain ⟨k, hk, rfl, ht⟩ := hrel
          have HTk := Lib.hid ht
          obtain ⟨q0, q1, q2, q3⟩ := four_cell ht.blk
          have hcj := sv_cellAt ht.own (i := j) (by rw [← HVL.out]; exact HLT.out)
          rw [HVI.out] at hcj
          clear ht
          have hk1 : (0 : Int) ≤ (j : Int) := by omega
          have hk2 : (j : Int) < (n4 : Int) := by omega
          have hk3 : 0 + j = j := Nat.zero_add j
          by_cases hkt : k < ni
          · obtain ⟨gi, rfl⟩ := HPI.out (by omega)
            have hvj : vs3.getD j nilS = .slice (some ⟨gi, 0, none⟩) (ls.getD j []).length ci := by rw [← HNI.out]; exact HVI.out
            have HVJ := Lib.hid hvj
            have h0j : 0 < (ls.getD j []).length := by rw [← HNI.out]; omega
            have HNJ := Lib.hid h0j
            have HR := Lib.hid (HTk.out.rows j (by rw [← HNN.out]; exact HLT.out) gi ci hvj h0j)
            clear hvj h0j
            obtain ⟨b0, hb0, hcell⟩ := HR.out.2.cell k (by rw [← HNI.out]; exact hkt)
            have hfree := HR.out.2.free k
            have HKT := Lib.hid hkt
            have HB8 : Hid ((b0 + 1) % 256 < 256) := Nat.mod_lt _ (by decide)
            have hk4 : (0 : Int) ≤ (k : Int) := by omega
            have hk5 : (k : Int) < (ni : Int) := by omega
            have hk6 : 0 + k = k := Nat.zero_add k
            have HXO : Hid (((b0 : Int) + 1) % 256 = (((b0 + 1) % 256 : Nat) : Int)) := by show _ = _; omega
            have HWR : Hid (IntKind.u8.wrap ((b0 : Int) + 1) = (((b0 + 1) % 256 : Nat) : Int)) := by
              show _ = _
              rw [show IntKind.u8.wrap ((b0 : Int) + 1) = ((b0 : Int) + 1) % 256 by simp [IntKind.wrap, IntKind.bits, IntKind.signed]]
              omega
            have hwr := HWR.out
            go_wp2_with fail
            rw [HXO.out]
            go_roundw
            case rel => exact ⟨k + 1, by have := HKT.out; omega, by go_num, HTk.out.set (by rw [← HNN.out]; exact HLT.out) HVJ.out HNJ.out HB8.out⟩
            case measure => simp [intOf]; omega
          · obtain rfl : k = ni := by omega
            have hjb : j < n4 := HLT.out
            have hnb : n4 ≤ 1000000 := HNB.out
            go_wp2_with fail
            go_roundw
            case rel => exact ⟨j + 1, by omega, by go_num, HTk.out⟩
            case measure => simp [intOf]; omega
      · obtain rfl : j = n4 := by omega
        have HIN8 := Lib.hid (HIN.out.below HT.out.bel)
        have HB8 := Lib.hid (HB2.out.below HT.out.bel)
        have cv1 := strOf_conv HIN8.out
        have cv2 := strOf_conv HB8.out
        have hmk := (HT.out.bel.cell (p := ⟨g, l.length, none⟩) (block_lt_of_cell HMARK.out)).trans HMARK.out
        generalize strOfNums (l.map fun x : Nat => (x : Int)) = S at *
        go_wp2_with fail
        clear cv1 cv2 hmk
        refine (known_any HA.out _).mono ?_
        rintro en w11 ⟨rfl, hb11⟩
        have HW11 := Lib.hid (HW2.out.trans ((HT.out.bel.trans (hb11.mono HT.out.bel.size)).mono HW2.out.size))
        clear hb11
        go_wp2_with fail
        go_ret
        exact ⟨rfl, HW11.out⟩
end Go.Proofs.Ytbfpmpomcaijcaa
