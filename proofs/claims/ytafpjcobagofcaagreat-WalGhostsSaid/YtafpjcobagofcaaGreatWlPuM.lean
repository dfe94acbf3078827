/- A sector of the ring written anew, by the program. Conditions: the device is on; the halves are the log's. A sector of the ring put on the device, by the program. Conditions: the device is on; the halves are the log's. -/
import Derived.Test.YtafpjcobagofcaaGreatWlFill
import Derived.Test.YtafpjcobagofcaaGreatDkM
namespace Go.Proofs.YtafpjcobagofcaaGreat
open Go.RowKit

namespace Wl
def oldOf (fl i : Nat) : Nat := max (i * 52) fl - i * 52
def swOf (fl i : Nat) : Nat := i * 52 + oldOf fl i - fl
def freshOf (fl n i : Nat) : Nat := min (n - swOf fl i) (52 - oldOf fl i)
/-- A half as it is written. -/
def nw (fl ep n2 : Nat) (wl : List Nat) (x : Hf) (i : Nat) : Hf := fillHf x wl (oldOf fl i) (swOf fl i) (freshOf fl wl.length i) (i / n2) ep
/-- A sector of which the halves from h up to (and without) i are written. -/
structure Sn (fl ep n2 : Nat) (wl b0 : List Nat) (h i : Nat) (b : List Nat) : Prop where
  sec : Dk.Sec b
  new : ∀ t, h ≤ t → t < i → hfOf (hf b (t % 2)) = nw fl ep n2 wl (hfOf (hf b0 (t % 2))) t
  old : ∀ k, k < 2 → (∀ t, h ≤ t → t < i → t % 2 ≠ k) → hf b k = hf b0 k
theorem sn_start {fl ep n2 h : Nat} {wl b0 : List Nat} (hs : Dk.Sec b0) : Sn fl ep n2 wl b0 h h b0 := ⟨hs, fun t h1 h2 => absurd h2 (by omega), fun _ _ _ => rfl⟩
/-- One half of a sector's bytes is put in. -/
def ins (b l : List Nat) (j : Nat) : List Nat := b.take (64 * j) ++ l ++ b.drop (64 * j + 64)
theorem hf_ins {b l : List Nat} (hb : b.length = 128) (hl : l.length = 64) {j k : Nat} (hj : j < 2) (hk : k < 2) : hf (ins b l j) k = if k = j then l else hf b k := by
  obtain rfl | rfl : j = 0 ∨ j = 1 := by omega
  · obtain rfl | rfl : k = 0 ∨ k = 1 := by omega
    · rw [if_pos rfl]
      unfold hf ins
      rw [Nat.mul_zero, List.take_zero, List.nil_append, List.drop_zero, List.take_left' hl]
    · rw [if_neg (by decide)]
      unfold hf ins
      rw [Nat.mul_zero, List.take_zero, List.nil_append, Nat.mul_one, List.drop_left' hl, Nat.zero_add]
  · have ht : (b.take 64).length = 64 := by rw [List.length_take, hb]; rfl
    obtain rfl | rfl : k = 0 ∨ k = 1 := by omega
    · rw [if_neg (by decide)]
      unfold hf ins
      rw [Nat.mul_zero, List.drop_zero, List.drop_zero, List.append_assoc, Nat.mul_one, List.take_left' ht]
    · rw [if_pos rfl]
      unfold hf ins
      rw [Nat.mul_one, List.append_assoc, List.drop_left' ht, List.take_left' hl]
theorem ins_sec {b l : List Nat} (hb : Dk.Sec b) (hl : l.length = 64) (hs : ∀ x ∈ l, x < 256) {j : Nat} (hj : j < 2) : Dk.Sec (ins b l j) := by
  refine ⟨?_, fun x hx => ?_⟩
  · unfold ins
    rw [List.length_append, List.length_append, List.length_take, List.length_drop, hb.1, hl]
    omega
  · unfold ins at hx
    simp only [List.mem_append] at hx
    rcases hx with (hx | hx) | hx
    · exact hb.2 x (List.mem_of_mem_take hx)
    · exact hs x hx
    · exact hb.2 x (List.mem_of_mem_drop hx)
/-- What is asked of a half that is written. -/
structure NwOk (fl ep n2 : Nat) (wl : List Nat) (i : Nat) : Prop where
  old : oldOf fl i < 52
  sw : swOf fl i < wl.length
  round : i / n2 < 4294967296
  ep : ep < 4294967296
theorem NwOk.length {fl ep n2 i : Nat} {wl : List Nat} (h : NwOk fl ep n2 wl i) {x : Hf} (hx : x.log.length = 52) : (nw fl ep n2 wl x i).log.length = 52 := by
  have h1 := h.old
  refine fill2_length hx ?_ ?_
  · unfold freshOf; omega
  · unfold freshOf; omega
theorem NwOk.of {fl ep n2 i : Nat} {wl : List Nat} (h : NwOk fl ep n2 wl i) (x : Hf) : hfOf (hfB (nw fl ep n2 wl x i)) = nw fl ep n2 wl x i := by
  have h1 := h.old
  refine hfOf_hfB h.round h.ep ?_
  show oldOf fl i + freshOf fl wl.length i < _
  unfold freshOf
  omega
theorem hfOf_lt {b : List Nat} (h : ∀ x ∈ b, x < 256) : ∀ x ∈ (hfOf b).log, x < 256 := fun x hx => h x (List.mem_of_mem_drop hx)
theorem hf_lt {b : List Nat} (h : ∀ x ∈ b, x < 256) (k : Nat) : ∀ x ∈ hf b k, x < 256 := fun x hx => h x (List.mem_of_mem_drop (List.mem_of_mem_take hx))
theorem hfOf_len {b : List Nat} (h : b.length = 128) {k : Nat} (hk : k < 2) : (hfOf (hf b k)).log.length = 52 := by
  show (List.drop 12 _).length = 52
  rw [List.length_drop, hf_length h hk]
theorem hfB_lt {x : Hf} (h : ∀ b ∈ x.log, b < 256) : ∀ b ∈ hfB x, b < 256 := Lr.app_lt (Lr.app_lt (Lr.app_lt (Cod.le_lt _ _) (Cod.le_lt _ _)) (Cod.le_lt _ _)) h
theorem Sn.next {fl ep n2 h i : Nat} {wl b0 b : List Nat} (H : Sn fl ep n2 wl b0 h i b) (hb0 : Dk.Sec b0) (hw : ∀ x ∈ wl, x < 256) (hi : h ≤ i) (hno : ∀ t, h ≤ t → t < i → t % 2 ≠ i % 2) (hok : NwOk fl ep n2 wl i) :
    hf b (i % 2) = hf b0 (i % 2) ∧ Sn fl ep n2 wl b0 h (i + 1) (ins b (hfB (nw fl ep n2 wl (hfOf (hf b0 (i % 2))) i)) (i % 2)) := by
  have hj : i % 2 < 2 := by omega
  have hlen := hok.length (hfOf_len hb0.1 hj)
  have hl64 : (hfB (nw fl ep n2 wl (hfOf (hf b0 (i % 2))) i)).length = 64 := by rw [hfB_length, hlen]
  refine ⟨H.old _ hj hno, ins_sec H.sec hl64 (hfB_lt (fill2_lt (hfOf_lt (hf_lt hb0.2 _)) hw)) hj, fun t h1 h2 => ?_, fun k hk hn => ?_⟩
  · rw [hf_ins H.sec.1 hl64 hj (by omega)]
    by_cases e : t = i
    · subst e
      rw [if_pos rfl, hok.of]
    · rw [if_neg (hno t h1 (by omega))]
      exact H.new t h1 (by omega)
  · rw [hf_ins H.sec.1 hl64 hj hk, if_neg (fun e => hn i hi (by omega) e.symm)]
    exact H.old k hk fun t h1 h2 => hn t h1 (by omega)
end Wl

/-- 64 bytes are copied into a part of a sector of the call's own. -/
theorem copy_mine {base w g cap j} {b l : List Nat} {v : Value} (h : Mine base w (.slice (some ⟨g, 0, none⟩) 128 cap) b) (hb : b.length = 128) (hj : j < 2) (hB : Bts w v l) (hl : l.length = 64) :
    ∃ w', (∀ ty, (Builtin.copy_ #[36, 36] ty #[.slice (some ⟨g, 64 * j, none⟩) 64 (cap - 64 * j), v]).run Tryz.prog w = .ok (.int .i64 64) w') ∧ Mine base w' (.slice (some ⟨g, 0, none⟩) 128 cap) (Wl.ins b l j) ∧ Touch (· = g) w w' := by
  obtain ⟨g2, cap2, hv, hg, hlt, hc1, hc2, cur, T, hh, hs, hc⟩ := h.row (by omega)
  simp only [Value.slice.injEq, Option.some.injEq, Addr.mk.injEq, and_true] at hv
  obtain ⟨rfl, -, rfl⟩ := hv
  rw [hb] at hs hc
  obtain ⟨p, cs, hv2, -, -, hp⟩ := hB.form
  subst hv2
  obtain ⟨gs, off, rfl, hcs⟩ := hp (by omega)
  have hrun := fun ty => run_copy_row Tryz.prog w 36 36 ty 5 g (64 * j) 64 (cap - 64 * j) ⟨gs, off, none⟩ l.length cs cur T (bytesV l) Tryz.underlying36 info_byteW hh (by rw [bytesV_length, hl]; rfl) (fun i u hu => by
    have hadd : (⟨gs, off, none⟩ : Addr).add i = ⟨gs, off + i, none⟩ := by unfold Addr.add; split <;> simp_all
    have hi : i < l.length := by
      rcases Nat.lt_or_ge i l.length with hh | hh
      · exact hh
      · rw [List.getElem?_eq_none (by rw [bytesV_length]; omega)] at hu; cases hu
    rw [hadd, hcs i hi, ← hu]
    simp [bytesV, List.getD_eq_getElem?_getD, hi]) (by rw [bytesV_length, hl]; omega) (fun u hu => by
    obtain ⟨y, -, rfl⟩ := List.mem_map.1 hu
    rfl)
  have hrow := setRow_heap w g cur (cur.toList.take (64 * j) ++ bytesV l ++ cur.toList.drop (64 * j + (bytesV l).length)).toArray T (0, 0) hh
  have hlb : (Wl.ins b l j).length = 128 := by
    unfold Wl.ins
    rw [List.length_append, List.length_append, List.length_take, List.length_drop, hb, hl]
    omega
  have hsm : ∀ x ∈ Wl.ins b l j, x < 256 := by
    intro x hx
    unfold Wl.ins at hx
    simp only [List.mem_append] at hx
    rcases hx with (hx | hx) | hx
    · exact h.bts.small x (List.mem_of_mem_take hx)
    · exact hB.small x hx
    · exact h.bts.small x (List.mem_of_mem_drop hx)
  have hcell : ∀ i, i < 128 → cur[i]? = some (.int .u8 (b.getD i 0 : Nat)) := by
    intro i hi
    obtain ⟨p3, c3, hv3, -, -, hp3⟩ := h.bts.form
    simp only [Value.slice.injEq] at hv3
    obtain ⟨rfl, -, -⟩ := hv3
    obtain ⟨g4, o4, he4, hc4⟩ := hp3 (by omega)
    simp only [Option.some.injEq, Addr.mk.injEq, and_true] at he4
    obtain ⟨rfl, rfl⟩ := he4
    have := hc4 i (by omega)
    rw [Nat.zero_add, cell_of_row w g i cur T (0, 0) hh] at this
    exact this
  have hnew : ∀ i, i < 128 → (cur.toList.take (64 * j) ++ bytesV l ++ cur.toList.drop (64 * j + (bytesV l).length)).toArray[i]? = some (.int .u8 ((Wl.ins b l j).getD i 0 : Nat)) := by
    intro i hi
    have e1 : (cur.toList.take (64 * j)).length = 64 * j := by rw [List.length_take]; simp; omega
    rw [List.getElem?_toArray, bytesV_length, hl]
    unfold Wl.ins
    by_cases h1 : i < 64 * j
    · rw [List.append_assoc, List.getElem?_append_left (by omega), List.getElem?_take, if_pos h1, List.append_assoc, Wl.getD_app, List.length_take, if_pos (by omega), Wl.getD_take h1]
      rw [Array.getElem?_toList]; exact hcell i hi
    · by_cases h2 : i < 64 * j + 64
      · rw [List.append_assoc, List.getElem?_append_right (by omega), e1, List.getElem?_append_left (by rw [bytesV_length]; omega), List.append_assoc, Wl.getD_app, List.length_take, hb, if_neg (by omega), Wl.getD_app, if_pos (by omega)]
        rw [show min (64 * j) 128 = 64 * j by omega]
        simp [bytesV, List.getD_eq_getElem?_getD, show i - 64 * j < l.length by omega]
      · rw [List.append_assoc, List.getElem?_append_right (by omega), e1, List.getElem?_append_right (by rw [bytesV_length]; omega), bytesV_length, List.getElem?_drop, List.append_assoc, Wl.getD_app, List.length_take, hb, if_neg (by omega), Wl.getD_app, if_neg (by omega), Wl.getD_drop]
        rw [show min (64 * j) 128 = 64 * j by omega, hl, show 64 * j + 64 + (i - 64 * j - 64) = i by omega, Array.getElem?_toList]
        exact hcell i hi
  refine ⟨_, fun ty => by rw [hrun ty, bytesV_length, hl]; rfl, ⟨⟨⟨some ⟨g, 0, none⟩, cap, by rw [hlb], ⟨by rw [hlb]; omega, hc2⟩, (fun e => by cases e), fun _ => ⟨g, 0, rfl, fun i hi => ?_⟩⟩, hsm, by rw [hlb]; decide⟩, fun _ => ⟨g, cap, by rw [hlb], hg, by rw [size_setRow]; exact hlt, by rw [hlb]; omega, hc2, _, T, hrow, ?_, fun i hi => ?_⟩⟩, setRow_touch _ _⟩
  · rw [Nat.zero_add, cell_of_row _ g i _ T (0, 0) hrow]
    exact hnew i (by omega)
  · rw [hlb]
    simp only [List.size_toArray, List.length_append, List.length_take, List.length_drop, bytesV_length, hl, Array.length_toList]
    omega
  · exact ⟨_, by
      rw [List.getD_eq_getElem?_getD, List.getElem?_eq_getElem (by omega)]
      exact hsm _ (List.getElem_mem _), hnew i (by omega)⟩
end Go.Proofs.YtafpjcobagofcaaGreat

namespace Go.Proofs.YtafpjcobagofcaaGreat
open Go.RowKit

set_option maxHeartbeats 6400000 in
set_option maxRecDepth 20000 in
theorem wlPut_any {w : World} {L B a c m1 m2 : Nat} {k : Wl.Kn} {pl : Value} {gw ow cw : Nat} {wl : List Nat} {d : Dk.Dev} (h : LogAt w L k B a c pl (.slice (some ⟨gw, ow, none⟩) wl.length cw) false) (hP : PDev w B m1 m2 d) (hB : Bts w (.slice (some ⟨gw, ow, none⟩) wl.length cw) wl)
    (ho : d.off = false) (hc1 : 1 ≤ c) (hc2 : c ≤ 8192) (hfit : a + c + 2 ≤ Dk.size d) (g last : Nat) (hgl : g ≤ last) (hlast : last ≤ 1000000000000) (hok : ∀ i, g ≤ i → i ≤ last → Wl.NwOk k.flushed k.epoch (2 * c) wl i) (hLd : ¬ DS B m1 m2 L) (hfl : k.flushed ≤ 1000000000000000) :
    Calls Tryz.prog 58 #[.pointer (some ⟨L, 0, none⟩), .int .u64 (g : Int), .int .u64 (last : Int)] w fun e w' => ∃ b', Wl.Sn k.flushed k.epoch (2 * c) wl (Wl.eff d (a + 2 + g % (2 * c) / 2)) g (min last (g / 2 * 2 + 1) + 1) b' ∧
      e = .returned (.int .i64 ((Dk.write d ((a + 2 + g % (2 * c) / 2 : Nat) : Int) b').2 : Nat)) ∧ PDev w' B m1 m2 (Dk.write d ((a + 2 + g % (2 * c) / 2 : Nat) : Int) b').1 ∧ LogAt w' L k B a c pl (.slice (some ⟨gw, ow, none⟩) wl.length cw) (decide ((Dk.write d ((a + 2 + g % (2 * c) / 2 : Nat) : Int) b').2 ≠ 0)) ∧ Touch (PutS B m1 m2 L) w w' := by
  have HLG0 := Lib.hid h
  have hlt := Wl.sec_lt (n := c) (h := g) hc1
  have hsz := hP.own.size
  have hsec := wlSector_any h g hc1 hc2 (show a ≤ 65536 by omega)
  obtain ⟨σ, hσ⟩ : ∃ s, s = a + 2 + g % (2 * c) / 2 := ⟨_, rfl⟩
  rw [← hσ] at hsec ⊢
  have HSZ : Hid (σ < Dk.size d) := by show _ < _; omega
  have HSEC := Lib.hid hsec
  have HPD0 := Lib.hid hP
  have HBW0 := Lib.hid hB
  have HOF := Lib.hid ho
  have HOK := Lib.hid hok
  have HLD := Lib.hid hLd
  have HC1 := Lib.hid hc1
  have HC2 := Lib.hid hc2
  have HFL := Lib.hid hfl
  have HLA : Hid (last ≤ 1000000000000) := hlast
  have HSC := Lib.hid (Wl.eff_sec hP.own.ok HSZ.out)
  obtain ⟨top, htop⟩ : ∃ t, t = min last (g / 2 * 2 + 1) := ⟨_, rfl⟩
  have HTOP : Hid (g ≤ top ∧ top ≤ last ∧ top ≤ g / 2 * 2 + 1) := by show _ ∧ _ ∧ _; omega
  have hm1 : IntKind.u64.wrap ((g : Int) / 2) = ((g / 2 : Nat) : Int) := by rw [IntWalk.u64_in _ (by omega)]; omega
  obtain ⟨g2, hg2⟩ : ∃ n, n = g / 2 := ⟨_, rfl⟩
  rw [← hg2] at hm1
  obtain ⟨g4, hg4⟩ : ∃ n, n = g2 * 2 := ⟨_, rfl⟩
  have hm2 : IntKind.u64.wrap ((g2 : Int) * 2) = (g4 : Int) := by rw [IntWalk.u64_in _ (by omega)]; omega
  obtain ⟨g5, hg5⟩ : ∃ n, n = g4 + 1 := ⟨_, rfl⟩
  have hm3 : IntKind.u64.wrap ((g4 : Int) + 1) = (g5 : Int) := by rw [IntWalk.u64_in _ (by omega)]; omega
  have hm4 : min (last : Int) (g5 : Int) = (top : Int) := by omega
  rw [← htop]
  clear h hP hB ho hc1 hc2 hfit hok hLd hfl hlt hsz hsec hσ hgl hlast htop hg2 hg4 hg5
  go_enter Tryz.func58, Tryz.ntmps58
  go_wp2_with fail
  refine HSEC.out.mono ?_
  rintro e w1 ⟨rfl, q, rfl⟩
  have hb1 := below_drewN w.heap.size w q
  have HLG := Lib.hid (HLG0.out.below hb1)
  have HPD := Lib.hid (HPD0.out.below hb1)
  have HBW := Lib.hid (HBW0.out.below hb1)
  have HT1 : Hid (Touch (PutS B m1 m2 L) w (w.drewN q)) := (Touch.refl _ _).drewN q
  clear HSEC hb1
  generalize w.drewN q = W1 at *
  have c4 := HLG.out.cell 4 (v := .pointer (some ⟨B, 0, none⟩)) rfl
  go_wp2_with fail
  refine (wlRead_any HPD.out HOF.out HSZ.out).mono ?_
  rintro e w2 ⟨u, rfl, hM, hb2⟩
  obtain ⟨gb, cap, hu, hgb, hgl2, hcap1, hcap2⟩ := hM.some (by rw [HSC.out.1]; decide)
  rw [HSC.out.1] at hu hcap1
  subst hu
  have HM := Lib.hid hM
  have HB2 := Lib.hid hb2
  have HGB : Hid (W1.heap.size ≤ gb) := hgb
  clear hM hb2 hgb hgl2 c4
  go_wp2_with fail
  go_loopw [10] (fun i wr => ∃ (t : Nat) (bb : List Nat), i = .int .u64 (t : Int) ∧ g ≤ t ∧ t ≤ top + 1 ∧ Mine W1.heap.size wr (.slice (some ⟨gb, 0, none⟩) 128 cap) bb ∧ Wl.Sn k.flushed k.epoch (2 * c) wl (Wl.eff d σ) g t bb ∧ Below W1.heap.size W1 wr) (fun i _ => (top + 1) - (intOf i).toNat)
  case atStart => exact ⟨g, _, rfl, Nat.le_refl _, by have := HTOP.out; omega, HM.out, Wl.sn_start HSC.out, HB2.out⟩
  case round =>
    obtain ⟨t, bb, rfl, ht1, ht2, hm, hsn, hb⟩ := hrel
    have HMM := Lib.hid hm
    have HSN := Lib.hid hsn
    have HB := Lib.hid hb
    have HT12 : Hid (g ≤ t ∧ t ≤ top + 1) := ⟨ht1, ht2⟩
    clear hm hsn hb ht1 ht2
    by_cases hlt : t ≤ top
    · have hi : (t : Int) ≤ (top : Int) := by omega
      have HTT := Lib.hid hlt
      obtain ⟨hh1, hh2⟩ := HSN.out.next HSC.out HBW.out.small HT12.out.1 (fun s h1 h2 => by have := HTOP.out; omega) (HOK.out t HT12.out.1 (by have := HTOP.out; omega))
      have hj1 : (t : Int) % 2 = ((t % 2 : Nat) : Int) := by omega
      have hj2 : t % 2 < 2 := by omega
      have HH1 := Lib.hid hh1
      have HH2 := Lib.hid hh2
      clear hh1 hh2 hlt
      generalize t % 2 = j at *
      have hj3 : IntKind.u64.wrap ((j : Int) * 64) = ((64 * j : Nat) : Int) := by rw [IntWalk.u64_in _ (by omega)]; omega
      have hcj : ¬ cap = 64 * j := by omega
      have hle1 : ((64 * j : Nat) : Int) ≤ 128 := by omega
      have hle2 : (64 : Int) ≤ 128 - ((64 * j : Nat) : Int) := by omega
      have HJ := Lib.hid hj2
      have hbt := hf_bts HMM.out.bts HSN.out.sec.1 hcap1 hj2
      rw [HH1.out] at hbt
      have HCON := Lib.hid (halfOf_any _ _ wr hbt (Wl.hf_length HSC.out.1 hj2))
      have HXL := Lib.hid (Wl.hfOf_len HSC.out.1 hj2)
      have HXS := Lib.hid (Wl.hfOf_lt (Wl.hf_lt HSC.out.2 j))
      clear hbt
      generalize hxg : Wl.hfOf (Wl.hf (Wl.eff d σ) j) = x at *
      have HN := Lib.hid (HOK.out t HT12.out.1 (by have := HTOP.out; have := HTT.out; omega))
      have hmt : IntKind.u64.wrap ((t : Int) + 1) = ((t + 1 : Nat) : Int) := by have := HTOP.out; have := HLA.out; have := HTT.out; rw [IntWalk.u64_in _ (by omega)]; omega
      clear hxg
      go_wp2_with fail
      refine HCON.out.mono ?_
      rintro e w3 ⟨rfl, hb3⟩
      have HB3 := Lib.hid (HB.out.trans (hb3.mono HB.out.size))
      have HM3 := Lib.hid (HMM.out.below hb3)
      clear hb3 HCON
      go_wp2_with fail
      have HFC : Hid (Calls Tryz.prog 91 #[.pointer (some ⟨L, 0, none⟩), .int .u64 (t : Int), HfV x] w3 fun e w' => e = .returned (HfV (Wl.nw k.flushed k.epoch (2 * c) wl x t)) ∧ Below w3.heap.size w3 w') :=
        wlFilled_any (HLG.out.below HB3.out) (HBW.out.below HB3.out) HC1.out HC2.out t HN.out.round x HXL.out HXS.out (by have := HTOP.out; have := HLA.out; have := HTT.out; omega) HFL.out rfl HN.out.old rfl HN.out.sw rfl
      refine HFC.out.mono ?_
      clear HFC
      rintro e w4 ⟨rfl, hb4⟩
      have HB4 := Lib.hid (HB3.out.trans (hb4.mono HB3.out.size))
      have HM4 := Lib.hid (HM3.out.below hb4)
      have hyl : (Wl.nw k.flushed k.epoch (2 * c) wl x t).log.length = 52 := HN.out.length HXL.out
      have hys : ∀ b ∈ (Wl.nw k.flushed k.epoch (2 * c) wl x t).log, b < 256 := Wl.fill2_lt HXS.out HBW.out.small
      generalize hyg : Wl.nw k.flushed k.epoch (2 * c) wl x t = y at *
      have HYL := Lib.hid hyl
      have HYS := Lib.hid hys
      clear hyl hys hb4 hyg
      go_wp2_with fail
      refine (hfBytes_any y w4 HYL.out HYS.out).mono ?_
      rintro e w5 ⟨u5, rfl, hO5, hb5⟩
      have HB5 := Lib.hid (HB4.out.trans (hb5.mono HB4.out.size))
      have HM5 := Lib.hid (HM4.out.below hb5)
      have hl5 : (Wl.hfB y).length = 64 := by rw [Wl.hfB_length, HYL.out]
      obtain ⟨w6, hrun, hM6, ht6⟩ := copy_mine HM5.out HSN.out.sec.1 HJ.out hO5.bts hl5
      have hrun := hrun 3
      have HM6 := Lib.hid hM6
      have HB6 := Lib.hid (HB5.out.trans (ht6.below (base := W1.heap.size) (fun i hi => by rw [hi]; exact HGB.out) HB5.out.size))
      clear hb5 hO5 hl5 hM6 ht6
      go_wp2_with fail
      go_roundw
      case rel => exact ⟨t + 1, _, by go_num, by have := HT12.out; omega, by have := HTT.out; omega, HM6.out, HH2.out, HB6.out⟩
      case measure => simp [intOf]; have := HTT.out; omega
    · obtain rfl : t = top + 1 := by have := HT12.out; omega
      have hi : ¬ ((top + 1 : Nat) : Int) ≤ (top : Int) := by omega
      have HLG2 := Lib.hid (HLG.out.below HB.out)
      have HPD2 := Lib.hid (HPD.out.below HB.out)
      have c4 := HLG2.out.cell 4 (v := .pointer (some ⟨B, 0, none⟩)) rfl
      have hwr := write_any HPD2.out (σ : Int) _ bb HMM.out.bts (fun _ g' e hd => by
        simp only [Value.ownBlock, Option.some.injEq] at e
        subst e
        have h1 := HPD.out.lt _ hd
        have h2 := HGB.out
        omega)
      have HWR := Lib.hid hwr
      clear hwr hlt
      go_wp2_with fail
      refine HWR.out.mono ?_
      rintro e w7 ⟨rfl, hP7, ht7⟩
      have HP7 := Lib.hid hP7
      have HLG7 := Lib.hid (HLG2.out.touch ht7 HLD.out)
      have HT7 := Lib.hid ((HT1.out.trans (Touch.of_new HB.out)).trans (ht7.mono fun i _ hi => Or.inl hi))
      clear hP7 ht7 c4 HWR
      go_wp2_with fail
      refine (wlTold_any HLG7.out _).mono ?_
      rintro e w8 ⟨rfl, hL8, ht8⟩
      have HE := Lib.hid (HT7.out.trans (ht8.mono fun i _ hi => Or.inr hi))
      have HL8 := Lib.hid hL8
      have HP8 := Lib.hid (HP7.out.keep ht8 (fun i hi e => HLD.out (e ▸ hi)))
      clear hL8 ht8
      go_wp2_with fail
      go_ret
      exact ⟨bb, HSN.out, rfl, HP8.out, HL8.out, HE.out⟩
end Go.Proofs.YtafpjcobagofcaaGreat
