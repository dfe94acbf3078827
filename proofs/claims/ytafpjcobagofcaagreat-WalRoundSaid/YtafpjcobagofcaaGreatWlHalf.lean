/- Half a sector of the ring as a value, as the program reads it out of bytes and writes it. Conditions: 64 bytes. -/
import Derived.Test.YtafpjcobagofcaaGreatWlHead
import Derived.Test.YtafpjcobagofcaaGreatCodeM
import Derived.Test.YtafpjcobagofcaaGreatLrEq
import Derived.Test.YtafpjcobagofcaaGreatRgn
import Derived.Laws.CopyRow
namespace Go.Proofs.YtafpjcobagofcaaGreat
open Go.RowKit

/-- A half's cells. -/
def HfC (x : Wl.Hf) : Array Value := (.int .u32 (x.round : Int) :: .int .u32 (x.epoch : Int) :: .int .u32 (x.fill : Int) :: bytesV x.log).toArray
abbrev HfV (x : Wl.Hf) : Value := .agg (HfC x)
def HfAt (w : World) (g : Nat) (x : Wl.Hf) : Prop := w.heap[g]? = some (.cells (HfC x) 93 (0, 0))
/-- Noughts. -/
abbrev HfZ : Array Value := #[.int .u32 0, .int .u32 0, .int .u32 0, .int .u8 0, .int .u8 0, .int .u8 0, .int .u8 0, .int .u8 0, .int .u8 0, .int .u8 0, .int .u8 0, .int .u8 0, .int .u8 0, .int .u8 0, .int .u8 0, .int .u8 0, .int .u8 0, .int .u8 0, .int .u8 0, .int .u8 0, .int .u8 0, .int .u8 0, .int .u8 0, .int .u8 0, .int .u8 0, .int .u8 0, .int .u8 0, .int .u8 0, .int .u8 0, .int .u8 0, .int .u8 0, .int .u8 0, .int .u8 0, .int .u8 0, .int .u8 0, .int .u8 0, .int .u8 0, .int .u8 0, .int .u8 0, .int .u8 0, .int .u8 0, .int .u8 0, .int .u8 0, .int .u8 0, .int .u8 0, .int .u8 0, .int .u8 0, .int .u8 0, .int .u8 0, .int .u8 0, .int .u8 0, .int .u8 0, .int .u8 0, .int .u8 0, .int .u8 0]
abbrev HfL (r e f : Nat) : Array Value := #[.int .u32 (r : Int), .int .u32 (e : Int), .int .u32 (f : Int), .int .u8 0, .int .u8 0, .int .u8 0, .int .u8 0, .int .u8 0, .int .u8 0, .int .u8 0, .int .u8 0, .int .u8 0, .int .u8 0, .int .u8 0, .int .u8 0, .int .u8 0, .int .u8 0, .int .u8 0, .int .u8 0, .int .u8 0, .int .u8 0, .int .u8 0, .int .u8 0, .int .u8 0, .int .u8 0, .int .u8 0, .int .u8 0, .int .u8 0, .int .u8 0, .int .u8 0, .int .u8 0, .int .u8 0, .int .u8 0, .int .u8 0, .int .u8 0, .int .u8 0, .int .u8 0, .int .u8 0, .int .u8 0, .int .u8 0, .int .u8 0, .int .u8 0, .int .u8 0, .int .u8 0, .int .u8 0, .int .u8 0, .int .u8 0, .int .u8 0, .int .u8 0, .int .u8 0, .int .u8 0, .int .u8 0, .int .u8 0, .int .u8 0, .int .u8 0]
theorem hfZ_eq : HfZ = HfC ⟨0, 0, 0, List.replicate 52 0⟩ := by kernel_rfl
theorem hfL_eq (r e f : Nat) : HfL r e f = HfC ⟨r, e, f, List.replicate 52 0⟩ := by kernel_rfl
theorem hfC_size (x : Wl.Hf) : (HfC x).size = 3 + x.log.length := by
  unfold HfC
  simp only [List.size_toArray, List.length_cons, bytesV_length]; omega
theorem hf_info {x : Wl.Hf} (h : x.log.length = 52) : (Tryz.prog.info? 93).map (·.size) = some (HfC x).size := by
  rw [hfC_size, h]; kernel_rfl
theorem hfC_ones (x : Wl.Hf) : (HfC x).all (·.oneCell') = true := by
  unfold HfC
  rw [Array.all_eq_true]
  intro i hi
  simp only [List.size_toArray, List.length_cons] at hi
  obtain rfl | rfl | rfl | ⟨j, rfl⟩ : i = 0 ∨ i = 1 ∨ i = 2 ∨ ∃ j, i = j + 3 := by
    by_cases h : i < 3
    · omega
    · exact Or.inr (Or.inr (Or.inr ⟨i - 3, by omega⟩))
  · rfl
  · rfl
  · rfl
  · simp only [List.getElem_toArray, List.getElem_cons_succ]
    have hm : (bytesV x.log)[j] ∈ bytesV x.log := List.getElem_mem _
    obtain ⟨y, -, hy⟩ := List.mem_map.1 hm
    rw [← hy]; rfl
theorem HfAt.cell {w : World} {g : Nat} {x : Wl.Hf} (h : HfAt w g x) {i : Nat} (hi : i < x.log.length) : w.cell? ⟨g, 3 + i, none⟩ = some (.int .u8 (x.log.getD i 0 : Nat)) := by
  rw [cell_of_row w g _ _ _ _ h]
  unfold HfC
  rw [show 3 + i = i + 1 + 1 + 1 by omega]
  simp [bytesV, hi, List.getD_eq_getElem?_getD]
theorem HfAt.c0 {w : World} {g : Nat} {x : Wl.Hf} (h : HfAt w g x) : w.cell? ⟨g, 0, none⟩ = some (.int .u32 (x.round : Int)) := by rw [cell_of_row w g _ _ _ _ h]; rfl
theorem HfAt.c1 {w : World} {g : Nat} {x : Wl.Hf} (h : HfAt w g x) : w.cell? ⟨g, 1, none⟩ = some (.int .u32 (x.epoch : Int)) := by rw [cell_of_row w g _ _ _ _ h]; rfl
theorem HfAt.c2 {w : World} {g : Nat} {x : Wl.Hf} (h : HfAt w g x) : w.cell? ⟨g, 2, none⟩ = some (.int .u32 (x.fill : Int)) := by rw [cell_of_row w g _ _ _ _ h]; rfl
/-- Its bytes of the log, as a slice. -/
theorem HfAt.bts {w : World} {g : Nat} {x : Wl.Hf} (h : HfAt w g x) (hl : x.log.length = 52) (hs : ∀ b ∈ x.log, b < 256) : Bts w (.slice (some ⟨g, 3, none⟩) 52 52) x.log :=
  ⟨⟨some ⟨g, 3, none⟩, 52, by rw [hl], ⟨by rw [hl]; exact Nat.le_refl _, by decide⟩, (fun h => by cases h), fun _ => ⟨g, 3, rfl, fun i hi => h.cell hi⟩⟩, hs, by rw [hl]; decide⟩
theorem info_byteW : (Tryz.prog.info? 5).map (·.size) = some 1 := by kernel_rfl
/-- Bytes are copied into it. -/
theorem copy_half {w : World} {g o dl dc : Nat} {x : Wl.Hf} {v : Value} {l : List Nat} (hg : HfAt w g x) (hx : x.log.length = 52) (ho : o + dl ≤ 52) (hB : Bts w v l) :
    ∃ w', (∀ ty, (Builtin.copy_ #[36, 36] ty #[.slice (some ⟨g, 3 + o, none⟩) dl dc, v]).run Tryz.prog w = .ok (.int .i64 ((min l.length dl : Nat) : Int)) w') ∧
      HfAt w' g { x with log := x.log.take o ++ l.take (min l.length dl) ++ x.log.drop (o + min l.length dl) } ∧ Touch (· = g) w w' := by
  obtain ⟨n, hn⟩ : ∃ n, min l.length dl = n := ⟨_, rfl⟩
  rw [hn]
  obtain ⟨p, cap, rfl, -, hnn, hp⟩ := hB.form
  have hcs : (bytesV (l.take n)).length = n := by rw [bytesV_length, List.length_take]; omega
  by_cases h0 : n = 0
  · subst h0
    refine ⟨w, fun ty => ?_, ?_, .refl _ _⟩
    · rw [run_copy_none w _ _ ty 5 _ _ _ _ _ _ Tryz.underlying36 info_byteW hn]; rfl
    · rw [List.take_zero, List.append_nil, Nat.add_zero, List.take_append_drop]; exact hg
  · obtain ⟨b, off, rfl, hc⟩ := hp (by omega)
    have hr := fun ty => run_copy_row Tryz.prog w 36 36 ty 5 g (3 + o) dl dc ⟨b, off, none⟩ l.length cap (HfC x) _ (bytesV (l.take n)) Tryz.underlying36 info_byteW hg (by rw [hcs]; exact hn.symm) (fun j u hu => by
      have hadd : (⟨b, off, none⟩ : Addr).add j = ⟨b, off + j, none⟩ := by unfold Addr.add; split <;> simp_all
      have hj : j < n := by
        rcases Nat.lt_or_ge j n with hh | hh
        · exact hh
        · rw [List.getElem?_eq_none (by omega)] at hu; cases hu
      rw [hadd, hc j (by omega), ← hu]
      simp [bytesV, List.getD_eq_getElem?_getD, show j < l.length by omega, hj]) (by rw [hcs, hfC_size, hx]; omega) (fun u hu => by
      obtain ⟨y, -, rfl⟩ := List.mem_map.1 hu
      rfl)
    have e : (HfC x).toList.take (3 + o) ++ bytesV (l.take n) ++ (HfC x).toList.drop (3 + o + n) = (.int .u32 (x.round : Int) :: .int .u32 (x.epoch : Int) :: .int .u32 (x.fill : Int) :: bytesV (x.log.take o ++ l.take n ++ x.log.drop (o + n))) := by
      unfold HfC
      rw [show 3 + o = o + 1 + 1 + 1 by omega, show o + 1 + 1 + 1 + n = o + n + 1 + 1 + 1 by omega]
      simp [bytesV, List.map_take, List.map_drop]
    refine ⟨_, fun ty => ?_, setRow_heap _ _ _ (HfC { x with log := x.log.take o ++ l.take n ++ x.log.drop (o + n) }) _ _ hg, ⟨rfl, rfl, rfl, by simp, fun i _ hi => setRow_other w g i _ hi⟩⟩
    rw [hr ty, hcs, e]
    rfl
theorem rd_at {b : List Nat} {i : Nat} (h : i + 4 ≤ b.length) : Cod.rdNum 4 (b.drop i) 0 = (Cod.num ((b.drop i).take 4), b.drop (i + 4), 0) := by
  unfold Cod.rdNum
  rw [if_neg (by decide), if_neg (by rw [List.length_drop]; omega), List.drop_drop]
theorem hfOf_new {b : List Nat} (hl : b.length = 64) {nr ne nf : Nat} (h1 : Cod.num (((b.take 12).drop 0).take 4) = nr) (h2 : Cod.num (((b.take 12).drop (0 + 4)).take 4) = ne) (h3 : Cod.num (((b.take 12).drop (0 + 4 + 4)).take 4) = nf) :
    Wl.hfOf b = ⟨nr, ne, nf, (List.replicate 52 0).take 0 ++ (b.drop 12).take 52 ++ (List.replicate 52 0).drop (0 + 52)⟩ := by
  unfold Wl.hfOf
  rw [← h1, ← h2, ← h3]
  have e1 : ((b.take 12).drop 0).take 4 = b.take 4 := by rw [List.drop_zero, List.take_take]; rfl
  have e2 : ((b.take 12).drop (0 + 4)).take 4 = (b.drop 4).take 4 := by rw [List.drop_take, List.take_take]; rfl
  have e3 : ((b.take 12).drop (0 + 4 + 4)).take 4 = (b.drop 8).take 4 := by rw [List.drop_take, List.take_take]; rfl
  have e4 : (List.replicate 52 0).take 0 ++ (b.drop 12).take 52 ++ (List.replicate 52 0).drop (0 + 52) = b.drop 12 := by
    rw [List.take_zero, List.nil_append, List.drop_of_length_le (l := List.replicate 52 0) (by simp), List.append_nil, List.take_of_length_le (by rw [List.length_drop]; omega)]
  rw [e1, e2, e3, e4]

def HoF (g off cap Q : Nat) (i : Nat) (v : Value) (_ : World) : Prop :=
  match i with
  | 0 => v = .pointer (some ⟨Q, 3, none⟩)
  | 1 => v = .slice (some ⟨Q, 3, none⟩) 52 52
  | 2 => v = .slice (some ⟨g, off, none⟩) 64 cap
  | 3 => v = .slice (some ⟨g, off + 12, none⟩) 52 (cap - 12)
  | _ => True
theorem HoF_later (g off cap Q : Nat) {Q1 : Nat} (i : Nat) (v : Value) (w w' : World) (_ : Touch (· = Q1) w w') (h : HoF g off cap Q i v w) : HoF g off cap Q i v w' := h

set_option maxHeartbeats 3200000 in
set_option maxRecDepth 20000 in
theorem halfOf_any (v : Value) (b : List Nat) (w : World) (hB : Bts w v b) (hl : b.length = 64) :
    Calls Tryz.prog 82 #[v] w fun e w' => e = .returned (HfV (Wl.hfOf b)) ∧ Below w.heap.size w w' := by
  obtain ⟨W, hW⟩ : ∃ W, W = w.alloc (.cells HfZ 93) := ⟨_, rfl⟩
  have hb0 : Below w.heap.size w W := by rw [hW]; exact below_new1 _ _
  have hrow : W.heap[w.heap.size]? = some (.cells HfZ 93 (0, 0)) := by rw [hW]; exact heap_alloc_last _ _
  obtain ⟨Q1, hQ⟩ : ∃ Q, Q = w.heap.size := ⟨_, rfl⟩
  rw [← hQ] at hrow
  obtain ⟨p, cap, rfl, hcap, hn, hp⟩ := hB.form
  obtain ⟨g, off, rfl, hc⟩ := hp (by omega)
  rw [hl] at hcap hB ⊢
  have HV0 := Lib.hid (hB.below hb0)
  have HL := Lib.hid hl
  have HROW := Lib.hid hrow
  have HB0 := Lib.hid hb0
  have HQ := Lib.hid hQ
  have hcap1 := hcap.1
  have hcap2 := hcap.2
  clear hb0 hrow hp hn hc hcap hB
  go_enter Tryz.func82, Tryz.ntmps82
  go_upto_region 1 with (fail)
  rw [← hW]
  rw [← hQ]
  clear hW hQ
  go_wp2_with fail
  refine (newReader_any _ (b.take 12) W ((HL.out ▸ HV0.out : Bts W (.slice (some ⟨g, off, none⟩) b.length cap) b).take 12 (by rw [HL.out]; decide))).mono ?_
  rintro e w1 ⟨R, rfl, hR, hWR, hb1⟩
  have HB1 := Lib.hid hb1
  have HWR := Lib.hid hWR
  have hlt : (b.take 12).length = 12 := by rw [List.length_take, hl]; rfl
  obtain ⟨nr, hnr⟩ : ∃ n, Cod.num (((b.take 12).drop 0).take 4) = n := ⟨_, rfl⟩
  obtain ⟨ne, hne⟩ : ∃ n, Cod.num (((b.take 12).drop (0 + 4)).take 4) = n := ⟨_, rfl⟩
  obtain ⟨nf, hnf⟩ : ∃ n, Cod.num (((b.take 12).drop (0 + 4 + 4)).take 4) = n := ⟨_, rfl⟩
  have HNR := Lib.hid hnr
  have HNE := Lib.hid hne
  have HNF := Lib.hid hnf
  have h1 := U32_any _ R 0 _ w1 hR
  rw [show b.take 12 = (b.take 12).drop 0 from rfl, rd_at (by rw [hlt]; decide), hnr] at h1
  have H1 := Lib.hid h1
  have HLT := Lib.hid hlt
  clear hR hb1 hWR h1 hlt hl hnr hne hnf
  go_wp2_with fail
  refine H1.out.mono ?_
  rintro e w1a ⟨rfl, hR1, hg1⟩
  have HBa := Lib.hid (below_grown HB1.out hg1 HB1.out.size HWR.out)
  have h2 := U32_any _ R 0 _ w1a hR1
  rw [rd_at (by rw [HLT.out]; decide), HNE.out] at h2
  have H2 := Lib.hid h2
  clear h2 hR1 hg1 H1
  go_wp2_with fail
  refine H2.out.mono ?_
  rintro e w1b ⟨rfl, hR1, hg1⟩
  have HBb := Lib.hid (below_grown HBa.out hg1 HBa.out.size HWR.out)
  have h2 := U32_any _ R 0 _ w1b hR1
  rw [rd_at (by rw [HLT.out]; decide), HNF.out] at h2
  have H3 := Lib.hid h2
  clear h2 hR1 hg1 H2
  go_wp2_with fail
  refine H3.out.mono ?_
  rintro e w3 ⟨rfl, hR1, hg1⟩
  have HBd := Lib.hid (below_grown HBb.out hg1 HBb.out.size HWR.out)
  clear hR1 hg1 H3
  dsimp only
  iterate 10 go_step
  have hr3 : (w3.alloc (.cells HfZ 93)).heap[w3.heap.size]? = some (.cells HfZ 93 (0, 0)) := heap_alloc_last _ _
  refine wpList_store_row rfl 93 (.tmp 4) (.tmp 15) rfl w3.heap.size (HfL nr ne nf) rfl rfl _ _ hr3 (by kernel_rfl) rfl (by rw [hfL_eq]; exact hfC_ones _) ?_
  obtain ⟨Q4, hQ4⟩ : ∃ Q, Q = w3.heap.size := ⟨_, rfl⟩
  have hrow4 := setRow_heap _ _ _ (HfL nr ne nf) _ _ hr3
  have hb4 : Below w3.heap.size w3 ((w3.alloc (.cells HfZ 93)).setRow w3.heap.size (HfL nr ne nf)) := (below_new1 _ _).trans ((setRow_touch _ _).below (base := w3.heap.size) (fun i hi => by rw [hi]; exact Nat.le_refl _) (by simp))
  generalize (w3.alloc (.cells HfZ 93)).setRow w3.heap.size (HfL nr ne nf) = W4 at hrow4 hb4 ⊢
  rw [hfL_eq, ← hQ4] at hrow4
  rw [← hQ4]
  have HQ4 : Hid (W.heap.size ≤ Q4) := by show _ ≤ _; rw [hQ4]; exact HBd.out.size
  have HB4 := Lib.hid (HBd.out.trans (hb4.mono HBd.out.size))
  have HR4 := Lib.hid hrow4
  have hv4 := ((HL.out ▸ HV0.out.below HB4.out : Bts W4 (.slice (some ⟨g, off, none⟩) b.length cap) b).drop 12 (by rw [HL.out]; decide))
  have HVN : Hid (¬ g = Q4) := fun e => by have h1 := HV0.out.block_lt (by rw [HL.out]; decide) g rfl; have h2 := HQ4.out; omega
  rw [HL.out] at hv4
  have HV4 : Hid (Bts W4 (.slice (some ⟨g, off + 12, none⟩) 52 (cap - 12)) (b.drop 12)) := hv4
  clear hv4
  clear hr3 hQ4 hb4 hrow4
  go_upto_region 3 with (fail)
  refine Ord.walk (HoF g off cap Q4) (fun D _ w' => TR W4 Q4 93 (HfC ⟨nr, ne, nf, List.replicate 52 0⟩) (HfC (Wl.hfOf b)) 4 D w') (fun a b => Touch (· = Q4) a b)
    (by kernel_rfl) (by kernel_rfl) ?fra ?hfra (fun i v w w' hb h => HoF_later _ _ _ _  i v w w' hb h) (fun xs => TR.first HR4.out) ?hea ?henda
  case hfra =>
    intro xs
    simp only [Ord.fill, Act.put, List.setIfInBounds_toArray, List.set_cons_zero, List.set_cons_succ]
    rfl
  case hea =>
    refine Ord.each_cons (fun D xs w2 hD hC hP hR hA K hK => ?_) ?_
    · -- 0
      clear hA
      go_simp
      exact hK _ _ ⟨_, rfl, Touch.refl _ _, hR.skip 0 (by decide), rfl⟩
    refine Ord.each_cons (fun D xs w2 hD hC hP hR hA K hK => ?_) ?_
    · -- 1
      have q0 := Ord.ahead_get _ hA 0 (by decide)
      simp only [HoF] at q0
      simp only [q0] at hK
      clear hA
      go_simp
      exact hK _ _ ⟨_, rfl, Touch.refl _ _, hR.skip 1 (by decide), rfl⟩
    refine Ord.each_cons (fun D xs w2 hD hC hP hR hA K hK => ?_) ?_
    · -- 2
      clear hA
      go_simp
      exact hK _ _ ⟨_, rfl, Touch.refl _ _, hR.skip 2 (by decide), rfl⟩
    refine Ord.each_cons (fun D xs w2 hD hC hP hR hA K hK => ?_) ?_
    · -- 3
      have q2 := Ord.ahead_get _ hA 2 (by decide)
      simp only [HoF] at q2
      simp only [q2] at hK
      clear hA
      go_simp
      rw [if_neg (by omega)]
      exact hK _ _ ⟨_, rfl, Touch.refl _ _, hR.skip 3 (by decide), rfl⟩
    refine Ord.each_cons (fun D xs w2 hD hC hP hR hA K hK => ?_) ?_
    · -- 4
      have q1 := Ord.ahead_get _ hA 1 (by decide)
      simp only [HoF] at q1
      have q3 := Ord.ahead_get _ hA 3 (by decide)
      simp only [HoF] at q3
      simp only [q1, q3] at hK
      clear hA
      have hnow := hR.now hD
      obtain ⟨w8, hrun, hrow8, ht8⟩ := copy_half (o := 0) (dl := 52) (dc := 52) (x := ⟨nr, ne, nf, List.replicate 52 0⟩) hnow (by simp) (by decide) (hR.touch.bts HV4.out (fun _ g' e => by simp only [Value.ownBlock, Option.some.injEq] at e; subst e; exact HVN.out))
      rw [show min (b.drop 12).length 52 = 52 by rw [List.length_drop, HL.out]; decide] at hrun hrow8
      have hrow9 : HfAt w8 Q4 (Wl.hfOf b) := by
        rw [show (Wl.hfOf b) = ⟨nr, ne, nf, (List.replicate 52 0).take 0 ++ (b.drop 12).take 52 ++ (List.replicate 52 0).drop (0 + 52)⟩ from hfOf_new HL.out HNR.out HNE.out HNF.out]
        exact hrow8
      have hrun := hrun 3
      go_simp
      exact hK _ _ ⟨_, rfl, ht8, hR.put ht8 hrow9, trivial⟩
    exact Ord.each_nil
  case henda =>
    intro D xs w9 hR hF
    have hD4 := (hF 4 (by decide)).1
    have e0 := (hF 0 (by decide)).2
    have e1 := (hF 1 (by decide)).2
    have e2 := (hF 2 (by decide)).2
    have e3 := (hF 3 (by decide)).2
    simp only [HoF] at e0 e1 e2 e3
    rw [e0]
    rw [e1]
    rw [e2]
    rw [e3]
    clear e0 e1 e2 e3
    clear hF
    generalize xs 4 = x4 at *
    have hrow := hR.done hD4
    have HB9 := Lib.hid (HB4.out.trans (hR.touch.below (base := W.heap.size) (fun i hi => by rw [hi]; exact HQ4.out) HB4.out.size))
    clear hD4 hR
    have HR9 := Lib.hid hrow
    have HQ9 := Lib.hid ((HB9.out.block Q1 (lt_of_block HROW.out)).trans HROW.out)
    clear hrow
    have hxl : (Wl.hfOf b).log.length = 52 := by show (b.drop 12).length = 52; rw [List.length_drop, HL.out]
    go_upto_region 4 with (fail)
    go_step
    refine wpList_load_row rfl 93 (.tmp 4) rfl Q4 rfl _ _ _ _ HR9.out Tryz.underlying93 rfl (hf_info hxl) ?_
    refine wpList_store_row rfl 93 (.tmp 2) (.tmp 21) rfl Q1 _ rfl rfl _ _ HQ9.out (hf_info hxl) (by rw [hfC_size, hxl]; rfl) (hfC_ones _) ?_
    have hrow10 := setRow_heap _ _ _ (HfC (Wl.hfOf b)) _ _ HQ9.out
    have HE := Lib.hid ((HB0.out.trans (HB9.out.mono HB0.out.size)).trans ((setRow_touch (w := w9) Q1 (HfC (Wl.hfOf b))).below (base := w.heap.size) (fun i hi => by rw [hi, HQ.out]; exact Nat.le_refl _) (Nat.le_trans HB0.out.size HB9.out.size)))
    generalize w9.setRow Q1 (HfC (Wl.hfOf b)) = w10 at hrow10 HE ⊢
    go_wp2_with fail
    refine bodyPost_ret (v := HfV (Wl.hfOf b)) ?_ rfl ⟨rfl, HE.out⟩
    exact results_cell_row rfl _ _ Q1 93 _ _ _ rfl hrow10 Tryz.underlying93 rfl (hf_info hxl)
end Go.Proofs.YtafpjcobagofcaaGreat
