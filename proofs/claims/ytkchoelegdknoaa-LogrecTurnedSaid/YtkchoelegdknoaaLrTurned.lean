/- What the law LogrecTurned answers, for every record. Conditions: the value reads as a record. -/
import Derived.Test.YtkchoelegdknoaaLrTurn
import Derived.Test.YtkchoelegdknoaaLrKnown
namespace Go.Proofs.Ytkchoelegdknoaa
open Go.RowKit

theorem from_nat (a m : Int) (h1 : 0 < m) (h2 : m ≤ 1125899906842624) : ∃ f : Nat, wrap64 ((IntKind.u64.wrap a).tmod m) = (f : Int) ∧ (f : Int) < m := by
  have hw : 0 ≤ IntKind.u64.wrap a := by rw [IntKind.wrap_u64]; exact Int.emod_nonneg _ (by decide)
  have e : (IntKind.u64.wrap a).tmod m = (IntKind.u64.wrap a) % m := Int.tmod_eq_emod_of_nonneg hw
  have l1 := Int.emod_nonneg (IntKind.u64.wrap a) (show m ≠ 0 by omega)
  have l2 := Int.emod_lt_of_pos (IntKind.u64.wrap a) h1
  rw [e]
  generalize IntKind.u64.wrap a % m = x at l1 l2 ⊢
  refine ⟨x.toNat, ?_, by omega⟩
  rw [IntWalk.wrap64_in x ⟨by omega, by omega⟩]
  omega
theorem Bts.take' {w : World} {p : Option Addr} {L cap : Nat} {l : List Nat} (h : Bts w (.slice p L cap) l) (n : Nat) (hL : L = l.length) (hn : n < L) : Bts w (.slice p n cap) (l.take n) := by subst hL; exact h.take n (Nat.le_of_lt hn)
theorem four_of {i : Nat} (h : i < 4) : i = 0 ∨ i = 1 ∨ i = 2 ∨ i = 3 := by omega
theorem turn_facts {w2 wr : World} {g3 k3 L fr t i : Nat} {F c : List Nat} (hLL : L = F.length) (hFR : 6 ≤ fr ∧ fr + 4 ≤ L) (hFM : L ≤ 1600) (hO : Own w2.heap.size wr (.slice (some ⟨g3, 0, none⟩) L k3) c) (hT : Lr.Tn F fr t i c) (hlt : i < 4) :
    wr.cell? ⟨g3, fr + i, none⟩ = some (.int .u8 (c.getD (fr + i) 0 : Nat)) ∧ wr.frozen? ⟨g3, fr + i, none⟩ = false ∧ wrap64 ((fr : Int) + (i : Int)) = ((fr + i : Nat) : Int) ∧ ((fr + i : Nat) : Int) < (L : Int) ∧ IntKind.i64.wrap ((i : Int) + 1) = (i : Int) + 1 ∧ wrap64 (8 * (i : Int)) = 8 * (i : Int) ∧ IntKind.u64.wrap (8 * (i : Int)) = 8 * (i : Int) := by
  have hcl : c.length = L := by rw [hT.len, ← hLL]
  have h := hO.own
  rw [hcl] at h
  obtain ⟨-, -, -, -, hcells⟩ := owns_cells h
  refine ⟨hcells (fr + i) (by omega), World.ownsRow.frozenAt h (fr + i), ?_, by omega, IntWalk.i64_in _ (by omega), IntWalk.wrap64_in _ ⟨by omega, by omega⟩, by rw [IntKind.wrap_u64]; omega⟩
  rw [IntWalk.wrap64_in _ ⟨by omega, by omega⟩]; omega
theorem turn_q0 (t : Nat) : (t : Int) % 256 = ((t / 2 ^ (8 * 0) % 256 : Nat) : Int) := by omega
theorem turn_q1 (t : Nat) : (t : Int) / 256 % 256 = ((t / 2 ^ (8 * 1) % 256 : Nat) : Int) := by omega
theorem turn_q2 (t : Nat) : (t : Int) / 65536 % 256 = ((t / 2 ^ (8 * 2) % 256 : Nat) : Int) := by omega
theorem turn_q3 (t : Nat) : (t : Int) / 16777216 % 256 = ((t / 2 ^ (8 * 3) % 256 : Nat) : Int) := by omega
theorem bump_own {base : Nat} {wr : World} {g4 k4 L : Nat} {c : List Nat} (hcl : c.length = L) (hO : Own base wr (.slice (some ⟨g4, 0, none⟩) L k4) c) (i : Nat) {b : Nat} (hb : b < 256) : Own base (wr.setCell ⟨g4, i, none⟩ (.int .u8 (b : Int))) (.slice (some ⟨g4, 0, none⟩) L k4) (c.set i b) := by
  obtain ⟨h1, -⟩ := World.ownsRow.stored (show wr.ownsRow base 5 1 (.slice (some ⟨g4, 0, none⟩) L k4) L (bytesV c) by have h := hO.own; rw [hcl] at h; exact h) i (.int .u8 (b : Int))
  refine ⟨?_, fun x hx => ?_, by rw [List.length_set]; exact hO.len⟩
  · rw [List.length_set, hcl, show bytesV (c.set i b) = (bytesV c).set i (.int .u8 (b : Int)) from List.map_set]
    exact h1
  · rcases List.mem_or_eq_of_mem_set hx with hx | rfl
    · exact hO.small x hx
    · exact hb
theorem turn_step {w2 w3 wr : World} {g3 k3 L fr t i yy j : Nat} {s q : Int} {F c : List Nat} (hLL : L = F.length) (hFR : 6 ≤ fr ∧ fr + 4 ≤ L) (_hFM : L ≤ 1600) (hO : Own w2.heap.size wr (.slice (some ⟨g3, 0, none⟩) L k3) c) (hT : Lr.Tn F fr t i c) (hlt : i < 4) (hy : c.getD (fr + i) 0 = yy) (hj : j = fr + i) (hle : w2.heap.size ≤ w3.heap.size) (hB : Below w2.heap.size w3 wr) (hs : s = (i : Int) + 1) (hq : q = ((t / 2 ^ (8 * i) % 256 : Nat) : Int)) :
    ∃ (i' : Nat) (c' : List Nat), i' ≤ 4 ∧ Value.int .i64 s = .int .i64 (i' : Int) ∧ Own w2.heap.size (wr.setCell ⟨g3, j, none⟩ (.int .u8 (bits .xor .u8 (yy : Int) q))) (.slice (some ⟨g3, 0, none⟩) L k3) c' ∧ Lr.Tn F fr t i' c' ∧ Below w2.heap.size w3 (wr.setCell ⟨g3, j, none⟩ (.int .u8 (bits .xor .u8 (yy : Int) q))) := by
  have hcl : c.length = L := by rw [hT.len, ← hLL]
  have hy8 : yy < 256 := by
    rw [← hy, List.getD_eq_getElem?_getD, List.getElem?_eq_getElem (by omega)]
    exact hO.small _ (List.getElem_mem _)
  have hq8 : t / 2 ^ (8 * i) % 256 < 256 := Nat.mod_lt _ (by decide)
  obtain ⟨g, k5, hq4, hg, -⟩ := own_some hO (by omega)
  simp only [Value.slice.injEq] at hq4
  obtain ⟨h1, -, -⟩ := hq4
  simp only [Option.some.injEq, Addr.mk.injEq] at h1
  obtain ⟨rfl, -, -⟩ := h1
  subst hj hs hq hy
  rw [u8_xor_nat _ _ hy8 hq8]
  have hst := hT.step hFR.1 (by omega)
  exact ⟨i + 1, _, hlt, by rw [Int.natCast_add]; rfl, bump_own hcl hO (fr + i) (Nat.xor_lt_two_pow (n := 8) hy8 hq8), hst, below_grown hB (grownBy_setCell _ _ _ _) (Nat.le_trans hle hB.size) hg⟩
theorem turn_len {F c : List Nat} {L fr t : Nat} (hLL : L = F.length) (hFM : L ≤ 1600) (hT : Lr.Tn F fr t 4 c) : c.length ≤ 10000 := by rw [hT.len, ← hLL]; omega
theorem turn_none {x : Lr.R} {F c : List Nat} {L fr t : Nat} (hM : Lr.May x) (hK : Lr.Ok x) (hF : F = Lr.form x) (hLL : L = F.length) (hT : Lr.Tn F fr t 4 c) (ht : t < 4294967296) (h0 : ¬ t = 0) (hFR : 6 ≤ fr ∧ fr + 4 ≤ L) (y : Lr.R) : ¬ Lr.Is c y := by
  subst hF
  exact Lr.tn_none hM hK hT ht h0 hFR.1 (by rw [← hLL]; exact hFR.2) y
theorem Own.bts' {base : Nat} {w : World} {v : Value} {l : List Nat} (h : Own base w v l) : Bts w v l := h.bts

set_option maxHeartbeats 6400000 in
set_option maxRecDepth 20000 in
theorem turned_any (x : Lr.R) (o n u c d m : Value) (at0 : Int) (t : Nat) (bh : List Nat) (w : World) (h : RecAt w x o n u c d) (ht : t < 4294967296) (hm : Bts w m bh) :
    Calls Try.prog 6 #[RecV x o n u c d, .int .i64 at0, .int .u32 (t : Int), m] w fun e w' => e = .returned (.bool true) ∧ Below w.heap.size w w' := by
  obtain ⟨W, hW⟩ : ∃ W, W = w.alloc (robj x o n u c d) := ⟨_, rfl⟩
  have hb := below_new1 w (robj x o n u c d)
  have hr := rblk w x o n u c d
  rw [← hW] at hb hr
  have HB := Lib.hid hb
  have HA := Lib.hid (h.below hb)
  obtain ⟨p1, c1, p2, c2, p3, c3, p4, c4, p5, c5, rfl, rfl, rfl, rfl, rfl⟩ := rec_slices h
  obtain ⟨pm, cm, rfl⟩ := hm.slice
  have HMB := Lib.hid hm
  have HT := Lib.hid ht
  clear h hb hm ht
  unfold robj at hW
  obtain ⟨la, hla⟩ : ∃ la, Lr.large x = la := ⟨_, rfl⟩
  have HLA := Lib.hid hla
  clear hla
  obtain ⟨P, hP⟩ : ∃ P, P = w.heap.size := ⟨_, rfl⟩
  rw [← hP] at hr
  have HROW := Lib.hid hr
  clear hr
  go_enter Try.func6, Try.ntmps6
  go_upto_region 1 with (fail)
  rw [← hW, ← hP]
  clear hW hP
  go_step
  refine wpList_load_rec rfl (.tmp 4) rfl P rfl _ HROW.out rfl ?_
  go_wp2_with fail
  refine (large_any x _ _ _ _ _ W HA.out).mono ?_
  rintro e w1 ⟨rfl, hb1⟩
  rw [HLA.out]
  have HB1 := Lib.hid (HB.out.trans (hb1.mono HB.out.size))
  have HA1 := Lib.hid (HA.out.below hb1)
  have HROW1 := Lib.hid ((hb1.block _ (lt_of_block HROW.out)).trans HROW.out)
  clear hb1
  cases la
  case true =>
    go_wp2_with fail
    refine (known_any _).mono ?_
    rintro e w' ⟨rfl, hb⟩
    have hb9 := HB1.out.trans (hb.mono HB1.out.size)
    clear hb
    go_wp2_with fail
    go_ret
    exact ⟨rfl, hb9⟩
  have HF := Lib.hid (Lr.few_of HLA.out)
  obtain ⟨q0, q1, q2, q3, q4, q5, q6, q7, q8, q9, q10, q11, q12, q13, q14⟩ := rec_cell HROW1.out
  go_wp2_with fail
  refine (may_any x _ _ _ _ _ w1 HA1.out HF.out).mono ?_
  rintro e w2 ⟨rfl, hb2⟩
  clear q0 q1 q2 q3 q4 q5 q6 q7 q8 q9 q10 q11 q12 q13 q14
  have HB2 := Lib.hid (HB1.out.trans (hb2.mono HB1.out.size))
  have HA2 := Lib.hid (HA1.out.below hb2)
  have HROW2 := Lib.hid ((hb2.block _ (lt_of_block HROW1.out)).trans HROW1.out)
  clear hb2
  by_cases hM : Lr.May x
  case neg =>
    rw [Lr.may_false hM]
    go_wp2_with fail
    refine (known_any _).mono ?_
    rintro e w' ⟨rfl, hb⟩
    have hb9 := HB2.out.trans (hb.mono HB2.out.size)
    clear hb
    go_wp2_with fail
    go_ret
    exact ⟨rfl, hb9⟩
  rw [Lr.may_true hM]
  have HM := Lib.hid hM
  clear hM
  by_cases hl : bh.length ≤ 5000
  case neg =>
    have h1 : (5000 : Int) < (bh.length : Int) := by omega
    go_wp2_with fail
    refine (known_any _).mono ?_
    rintro e w' ⟨rfl, hb⟩
    have hb9 := HB2.out.trans (hb.mono HB2.out.size)
    clear hb
    go_wp2_with fail
    go_ret
    exact ⟨rfl, hb9⟩
  have h1 : ¬ (5000 : Int) < (bh.length : Int) := by omega
  have HBL := Lib.hid hl
  clear hl
  go_upto_region 3 with (fail)
  clear h1
  go_step
  refine wpList_load_rec rfl (.tmp 4) rfl P rfl _ HROW2.out rfl ?_
  go_wp2_with fail
  have hc := bytes_any x _ _ _ _ _ w2 HA2.out HF.out
  rw [Lr.ifP_pos HM.out, Lr.ifP_pos HM.out, show ((0 : Nat) : Int) = 0 from rfl] at hc
  refine hc.mono ?_
  rintro e w3 ⟨v3, rfl, hO3, hb3⟩
  clear hc
  obtain ⟨q3, k3, rfl⟩ := hO3.bts.slice
  obtain ⟨F, hF⟩ : ∃ F, F = Lr.form x := ⟨_, rfl⟩
  rw [← hF] at hO3 ⊢
  have hfl := Lr.form_length x
  have hft := Lr.own_two HM.out.1
  have hfm := Lr.form_most HM.out.1
  rw [← hF] at hfl hfm
  have hL21 : 21 ≤ F.length := by omega
  have HL21 := Lib.hid hL21
  have HFM := Lib.hid hfm
  have HFE := Lib.hid hF
  have HFS := Lib.hid hO3.small
  have HO3 := Lib.hid hO3
  obtain ⟨g3, hg3⟩ : ∃ g, q3 = some ⟨g, 0, none⟩ := by
    rcases hO3.form with ⟨-, h⟩ | ⟨g, cap, hv, -⟩
    · rw [h] at hL21; simp at hL21
    · simp only [Value.slice.injEq] at hv
      exact ⟨g, hv.1⟩
  subst hg3
  have HB3 := Lib.hid (HB2.out.trans (hb3.mono HB2.out.size))
  have HA3 := Lib.hid (HA2.out.below hb3)
  have HROW3 := Lib.hid ((hb3.block _ (lt_of_block HROW2.out)).trans HROW2.out)
  have HM3 := Lib.hid (HMB.out.below HB3.out)
  have HLE := Lib.hid hb3.size
  clear hF hfl hft hfm hO3 hb3
  have h21 : ¬ (F.length : Int) < 21 := by omega
  clear hL21
  obtain ⟨L, hL⟩ : ∃ L, L = F.length := ⟨_, rfl⟩
  rw [← hL] at h21 HL21 HFM HO3 ⊢
  have HLL := Lib.hid hL
  clear hL
  go_upto_region 6 with (fail)
  clear h21
  iterate 7 go_step
  have hbe := below_new1 w3 (.cells #[] 5)
  have hoe := own_empty w3 w3.heap.size 0 #[] (Nat.le_refl _) (by decide) rfl
  refine wpList_append_Own rfl (.tmp 48) (.tmp 49) rfl w3.heap.size _ [] rfl hoe _ F rfl (HO3.out.bts'.below hbe) (by have := HFM.out; have := HLL.out; simp only [List.length_nil]; omega) hbe.size ?_
  intro v4 w4 hO4 hb4 _
  rw [List.nil_append] at hO4
  have HO4 := Lib.hid hO4
  have HK4 := Lib.hid (hbe.trans hb4)
  clear hO4 hb4 hbe hoe
  iterate 3 go_step
  refine wpList_append_Own rfl (.tmp 50) (.tmp 51) rfl w3.heap.size v4 F rfl HO4.out _ bh rfl (HM3.out.below HK4.out) (by have := HFM.out; have := HLL.out; have := HBL.out; omega) HK4.out.size ?_
  intro v5 w5 hO5 hb5 _
  have HO5 := Lib.hid hO5
  have HK5 := Lib.hid (HK4.out.trans hb5)
  clear hO5 hb5
  go_wp2_with fail
  have hc := read_any v5 _ w5 HO5.out.bts (by have := HFM.out; have := HLL.out; have := HBL.out; rw [List.length_append]; omega)
  have hi : Lr.Is (F ++ bh) x := by rw [HFE.out]; exact Lr.is_form HM.out HA.out.ok bh
  rw [Lr.readR_of hi, ← HFE.out, ← HLL.out] at hc
  refine hc.mono ?_
  rintro e w6 ⟨ov, nv, uv, cv, dv, rfl, hO6, hb6⟩
  obtain ⟨r1, s1, r2, s2, r3, s3, r4, s4, r5, s5, rfl, rfl, rfl, rfl, rfl⟩ := rec_slices hO6.at
  have HY6 := Lib.hid hO6.at
  have HK6 := Lib.hid (HK5.out.trans (hb6.mono HK5.out.size))
  clear hc hi hO6 hb6
  go_upto_region 7 with (fail)
  obtain ⟨W7, hY⟩ : ∃ Y, Y = w6.alloc (.cells #[.int .i64 x.kind, .int .u64 (x.lsn : Int), .int .u32 (x.epoch : Int), .int .u64 (x.txn : Int), .int .u32 (x.page : Int), .int .u16 (x.off : Int), .slice r1 x.old.length s1, .slice r2 x.new.length s2, .slice r3 x.undo.length s3, .int .u64 (x.prev : Int), .int .u64 (x.next : Int), .bool x.clr, .int .u64 (x.stamp : Int), .slice r4 x.opn.length s4, .slice r5 x.dirt.length s5] 30) := ⟨_, rfl⟩
  have hbY : Below w6.heap.size w6 W7 := by rw [hY]; exact below_new1 _ _
  have hrY : W7.heap[w6.heap.size]? = some (.cells #[.int .i64 x.kind, .int .u64 (x.lsn : Int), .int .u32 (x.epoch : Int), .int .u64 (x.txn : Int), .int .u32 (x.page : Int), .int .u16 (x.off : Int), .slice r1 x.old.length s1, .slice r2 x.new.length s2, .slice r3 x.undo.length s3, .int .u64 (x.prev : Int), .int .u64 (x.next : Int), .bool x.clr, .int .u64 (x.stamp : Int), .slice r4 x.opn.length s4, .slice r5 x.dirt.length s5] 30 (0, 0)) := by rw [hY]; exact heap_alloc_last _ _
  rw [← hY]
  obtain ⟨y, hy⟩ : ∃ y, y = w6.heap.size := ⟨_, rfl⟩
  rw [← hy] at hrY ⊢
  have HRY := Lib.hid hrY
  have HY7 := Lib.hid (HY6.out.below hbY)
  have HK7 := Lib.hid (HK6.out.trans (hbY.mono HK6.out.size))
  clear hY hbY hrY hy
  obtain ⟨k, hk, hkl⟩ := from_nat at0 (L : Int) (by have := HL21.out; omega) (by have := HFM.out; omega)
  have hkL : k < L := by omega
  have HKL := Lib.hid hkL
  have hwl : IntKind.u64.wrap (L : Int) = (L : Int) := by rw [IntKind.wrap_u64]; have := HFM.out; omega
  have hcap : (L : Int) ≤ (k3 : Int) ∧ k3 ≤ 9223372036854775807 := by
    obtain ⟨p', cap', e, h, -⟩ := HO3.out.bts.form
    simp only [Value.slice.injEq] at e
    obtain ⟨-, -, rfl⟩ := e
    rw [← HLL.out] at h
    omega
  obtain ⟨hcap1, hcap2⟩ := hcap
  have hL0 : ((L : Int) == 0) = false := by rw [beq_eq_false_iff_ne]; have := HL21.out; omega
  have hL1 : ¬ L = 0 := by have := HL21.out; omega
  go_wp2_with fail
  have hc := read_any _ (F.take k) W7 (((HO3.out.below HK7.out).bts.take' k HLL.out hkL)) (by rw [List.length_take]; have := HFM.out; omega)
  rw [Lr.readR_none (fun z => by rw [HFE.out]; exact Lr.cut_none HM.out k (by rw [← HFE.out, ← HLL.out]; exact hkL) z)] at hc
  refine hc.mono ?_
  rintro e w8 ⟨ov, nv, uv, cv, dv, rfl, hO8, hb8⟩
  obtain ⟨a1, b1, a2, b2, a3, b3, a4, b4, a5, b5, rfl, rfl, rfl, rfl, rfl⟩ := rec_slices hO8.at
  have HK8 := Lib.hid (HK7.out.trans (hb8.mono HK7.out.size))
  have HRY8 := Lib.hid ((hb8.block _ (lt_of_block HRY.out)).trans HRY.out)
  have HY8 := Lib.hid (HY7.out.below hb8)
  clear hc hO8 hb8 hk hkl hkL hwl hcap1 hcap2 hL0 hL1
  dsimp only [Lr.zero, List.length_nil]
  go_upto_region 8 with (fail)
  obtain ⟨W9, hY⟩ : ∃ Y, Y = w8.alloc (.cells #[.int .i64 0, .int .u64 0, .int .u32 0, .int .u64 0, .int .u32 0, .int .u16 0, .slice a1 0 b1, .slice a2 0 b2, .slice a3 0 b3, .int .u64 0, .int .u64 0, .bool false, .int .u64 0, .slice a4 0 b4, .slice a5 0 b5] 30) := ⟨_, rfl⟩
  have hbY : Below w8.heap.size w8 W9 := by rw [hY]; exact below_new1 _ _
  rw [← hY]
  have HK9 := Lib.hid (HK8.out.trans (hbY.mono HK8.out.size))
  have hry9 := (hbY.block _ (lt_of_block HRY8.out)).trans HRY8.out
  have hrp9 := (HK9.out.block _ (lt_of_block HROW3.out)).trans HROW3.out
  have HY9 := Lib.hid (HY8.out.below hbY)
  obtain ⟨e0, e1, e2, e3, e4, e5, e6, e7, e8, e9, e10, e11, e12, e13, e14⟩ := rec_cell hry9
  obtain ⟨q0, q1, q2, q3, q4, q5, q6, q7, q8, q9, q10, q11, q12, q13, q14⟩ := rec_cell hrp9
  clear hY hbY hry9 hrp9
  go_wp2_with fail
  have hc := same_any x x _ _ _ _ _ _ _ _ _ _ W9 (HA3.out.below HK9.out) HY9.out ⟨Nat.le_trans HF.out.opn (by decide), Nat.le_trans HF.out.dirt (by decide)⟩
  rw [Lr.same_true rfl] at hc
  refine hc.mono ?_
  rintro e wa ⟨rfl, hba⟩
  have HKa := Lib.hid (HK9.out.trans (hba.mono HK9.out.size))
  clear hc hba e0 e1 e2 e3 e4 e5 e6 e7 e8 e9 e10 e11 e12 e13 e14 q0 q1 q2 q3 q4 q5 q6 q7 q8 q9 q10 q11 q12 q13 q14
  by_cases h0 : t = 0
  case pos =>
    subst h0
    go_wp2_with fail
    refine (known_any _).mono ?_
    rintro e w' ⟨rfl, hb⟩
    have hb9 := (HB3.out.trans (HKa.out.mono HB3.out.size)).trans (hb.mono (Nat.le_trans HB3.out.size HKa.out.size))
    clear hb
    go_wp2_with fail
    go_ret
    exact ⟨rfl, hb9⟩
  have hn0 : ((t : Int) == 0) = false := by rw [beq_eq_false_iff_ne]; omega
  have HN0 := Lib.hid h0
  clear h0
  obtain ⟨f, hf, hfl⟩ := from_nat at0 ((L : Int) - 9) (by have := HL21.out; omega) (by have := HFM.out; omega)
  have hw9 : wrap64 ((L : Int) - 9) = (L : Int) - 9 := IntWalk.wrap64_in _ ⟨by have := HFM.out; omega, by have := HFM.out; omega⟩
  have hwl : IntKind.u64.wrap ((L : Int) - 9) = (L : Int) - 9 := by rw [IntKind.wrap_u64]; have := HFM.out; have := HL21.out; omega
  have hL0 : ((L : Int) - 9 == 0) = false := by rw [beq_eq_false_iff_ne]; have := HL21.out; omega
  have hL1 : ¬ (L : Int) - 9 = 0 := by have := HL21.out; omega
  have hwf : wrap64 (6 + (f : Int)) = 6 + (f : Int) := IntWalk.wrap64_in _ ⟨by omega, by have := HFM.out; omega⟩
  have HFL : Hid ((f : Int) < (L : Int) - 9) := hfl
  go_upto_region 13 with (fail)
  obtain ⟨fr, hfr⟩ : ∃ fr, fr = 6 + f := ⟨_, rfl⟩
  rw [hwf, show (6 + (f : Int)) = (fr : Int) by omega]
  have HFR := Lib.hid (show 6 ≤ fr ∧ fr + 4 ≤ L by have := HFL.out; have := HL21.out; omega)
  have HOa := Lib.hid (HO3.out.below HKa.out)
  clear hf hfl hw9 hwl hL0 hL1 hwf hfr hn0
  go_wp2_with fail
  go_loopw [18] (fun s wr => ∃ (i : Nat) (c : List Nat), i ≤ 4 ∧ s = .int .i64 (i : Int) ∧ Own w2.heap.size wr (.slice (some ⟨g3, 0, none⟩) L k3) c ∧ Lr.Tn F fr t i c ∧ Below w2.heap.size w3 wr) (fun s _ => 4 - (intOf s).toNat)
  case atStart => exact ⟨0, F, by omega, rfl, HOa.out, Lr.tn_first fr t HFS.out, HKa.out.mono HLE.out⟩
  case round =>
    obtain ⟨i, c, hi, rfl, hO, hT, hB⟩ := hrel
    have HO := Lib.hid hO
    have HTN := Lib.hid hT
    have HBr := Lib.hid hB
    have HI := Lib.hid hi
    clear hO hT hB hi
    by_cases hlt : i < 4
    · have HLT := Lib.hid hlt
      clear hlt
      obtain ⟨hcell, hfro, hw1, hix, hwi, hsh, hsu⟩ := turn_facts HLL.out HFR.out HFM.out HO.out HTN.out HLT.out
      generalize hyy : c.getD (fr + i) 0 = yy at hcell
      have HYY := Lib.hid hyy
      obtain ⟨j, hj⟩ : ∃ j, j = fr + i := ⟨_, rfl⟩
      rw [← hj] at hcell hfro hw1 hix
      have HJ := Lib.hid hj
      clear hyy hj
      have hi4 : i = 0 ∨ i = 1 ∨ i = 2 ∨ i = 3 := four_of HLT.out
      rcases hi4 with rfl | rfl | rfl | rfl
      · rw [show ((0 : Nat) : Int) = 0 from rfl] at hw1 hwi hsh hsu ⊢
        rw [Int.add_zero] at hw1
        go_wp2_with fail
        go_roundw
        case rel => exact turn_step HLL.out HFR.out HFM.out HO.out HTN.out HLT.out HYY.out HJ.out HLE.out HBr.out rfl (turn_q0 _)
        case measure => decide
      · rw [show ((1 : Nat) : Int) = 1 from rfl] at hw1 hwi hsh hsu ⊢
        go_wp2_with fail
        go_roundw
        case rel => exact turn_step HLL.out HFR.out HFM.out HO.out HTN.out HLT.out HYY.out HJ.out HLE.out HBr.out rfl (turn_q1 _)
        case measure => decide
      · rw [show ((2 : Nat) : Int) = 2 from rfl] at hw1 hwi hsh hsu ⊢
        go_wp2_with fail
        go_roundw
        case rel => exact turn_step HLL.out HFR.out HFM.out HO.out HTN.out HLT.out HYY.out HJ.out HLE.out HBr.out rfl (turn_q2 _)
        case measure => decide
      · rw [show ((3 : Nat) : Int) = 3 from rfl] at hw1 hwi hsh hsu ⊢
        go_wp2_with fail
        go_roundw
        case rel => exact turn_step HLL.out HFR.out HFM.out HO.out HTN.out HLT.out HYY.out HJ.out HLE.out HBr.out rfl (turn_q3 _)
        case measure => decide
    · obtain rfl : i = 4 := Nat.le_antisymm HI.out (Nat.le_of_not_lt hlt)
      clear hlt
      have hc := read_any _ c wr HO.out.bts (turn_len HLL.out HFM.out HTN.out)
      rw [Lr.readR_none (turn_none HM.out HA.out.ok HFE.out HLL.out HTN.out HT.out HN0.out HFR.out)] at hc
      rw [show ((4 : Nat) : Int) = 4 from rfl]
      go_wp2_with fail
      refine hc.mono ?_
      rintro e wx ⟨ov, nv, uv, cv, dv, rfl, hO8, hb8⟩
      obtain ⟨a1, b1, a2, b2, a3, b3, a4, b4, a5, b5, rfl, rfl, rfl, rfl, rfl⟩ := rec_slices hO8.at
      have HKx := Lib.hid (HBr.out.trans (hb8.mono (Nat.le_trans HLE.out HBr.out.size)))
      clear hc hO8 hb8
      dsimp only [Lr.zero, List.length_nil]
      go_upto_region 18 with (fail)
      obtain ⟨WZ, hY⟩ : ∃ Y, Y = wx.alloc (.cells #[.int .i64 0, .int .u64 0, .int .u32 0, .int .u64 0, .int .u32 0, .int .u16 0, .slice a1 0 b1, .slice a2 0 b2, .slice a3 0 b3, .int .u64 0, .int .u64 0, .bool false, .int .u64 0, .slice a4 0 b4, .slice a5 0 b5] 30) := ⟨_, rfl⟩
      have hbY : Below wx.heap.size wx WZ := by rw [hY]; exact below_new1 _ _
      rw [← hY]
      have HKz := Lib.hid (HKx.out.trans (hbY.mono (Nat.le_trans HLE.out HKx.out.size)))
      clear hY hbY
      go_wp2_with fail
      refine (known_any _).mono ?_
      rintro e w' ⟨rfl, hb⟩
      have hb9 := HB3.out.trans ((HKz.out.mono HB2.out.size).trans (hb.mono (Nat.le_trans HB3.out.size HKz.out.size)))
      clear hb
      go_wp2_with fail
      go_ret
      exact ⟨rfl, hb9⟩
end Go.Proofs.Ytkchoelegdknoaa
