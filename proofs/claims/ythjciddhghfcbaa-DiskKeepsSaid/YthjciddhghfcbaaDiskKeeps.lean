/- What was synced is there behind a crash; of what waited either half is the old one or the new one: the law DiskKeeps. Conditions: what came in reads as it does. -/
import Derived.Test.YthjciddhghfcbaaDiskKeptP
import Derived.Test.YthjciddhghfcbaaDiskAll
import Derived.BigQuiet
namespace Go.Proofs.Ythjciddhghfcbaa
open Go.RowKit

/-- A block that holds sixteen texts. -/
def Txt (w : World) (g : Nat) (l : List (List Nat)) : Prop := w.heap[g]? = some (.cells (l.map sv).toArray 51 (0, 0))
theorem Txt.touch {w w' : World} {g : Nat} {l : List (List Nat)} {S : Nat → Prop} (h : Txt w g l) (ht : Touch S w w') (hs : ¬ S g) : Txt w' g l := ht.row h hs
theorem Txt.below {w w' : World} {g : Nat} {l : List (List Nat)} (h : Txt w g l) (hb : Below w.heap.size w w') : Txt w' g l := by
  show w'.heap[g]? = _
  rw [hb.block g (lt_of_block h)]; exact h
theorem zero_txt : (∀ w, (zeroValue 51).run Try.prog w = .ok (.agg ((List.replicate 16 []).map sv).toArray) w) ∧ (Try.prog.info? 51).map (·.size) = some 16 :=
  ⟨fun w => by kernel_rfl, by kernel_rfl⟩
theorem txt_ones (l : List (List Nat)) : (l.map sv).toArray.all (·.oneCell') = true := by
  rw [Array.all_eq_true_iff_forall_mem]
  intro x hx
  simp only [List.mem_toArray, List.mem_map] at hx
  obtain ⟨y, _, rfl⟩ := hx
  rfl
theorem txt_info {l : List (List Nat)} (h : l.length = 16) : (Try.prog.info? 51).map (·.size) = some (l.map sv).toArray.size := by
  rw [List.size_toArray, List.length_map, h]; exact zero_txt.2
/-- The law's own two blocks lie apart from the device's. -/
def TS (g7 g8 : Nat) (i : Nat) : Prop := i = g7 ∨ i = g8

set_option maxHeartbeats 6400000 in
set_option maxRecDepth 20000 in
theorem diskKeeps_any (v0 : Value) (l : List Opr) (v1 : Value) (ps : List Nat) (W : World) (h0 : OpsIn W v0 l) (z0 : l.length ≤ 140737488351232) (h1 : Bts W v1 ps) :
    Calls Try.prog 5 #[v0, v1] W fun e w' => e = .returned (.bool true) ∧ Below W.heap.size W w' := by
  obtain ⟨p0, c0, rfl, hcap0, hops0⟩ := ops_cells h0
  obtain ⟨p1, c1, rfl, -, -, -⟩ := h1.form
  have H1 := Lib.hid h1
  have HOPS := Lib.hid hops0
  have hz := zero_txt.1
  obtain ⟨Z, hZ⟩ : ∃ Z : Array Value, ((List.replicate 16 []).map sv).toArray = Z := ⟨_, rfl⟩
  rw [hZ] at hz
  have HZ := Lib.hid hZ
  clear h0 h1 hops0 hZ
  go_enter Try.func5, Try.ntmps5
  go_wp2_with fail
  refine (new_good_any 16 16 W (by decide) (by decide) (by decide)).mono ?_
  rintro e w1 ⟨B, x1, y1, rfl, hP, hS, hb1⟩
  have HD := Lib.hid (show Mine1 W w1 B x1 y1 (Dk.fresh 16 16) from ⟨hP, hS, hb1⟩)
  clear hP hS hb1
  have HC := Lib.hid (Dk.calm_fresh (n := 16) (by decide) (by decide))
  go_wp2_with fail
  obtain ⟨W2, hW2⟩ : ∃ W2, W2 = (w1.alloc (.cells Z 51)).alloc (.cells Z 51) := ⟨_, rfl⟩
  rw [← hW2]
  have hb2 : Below w1.heap.size w1 W2 := by rw [hW2]; exact ((Below.refl _ _).alloc (Nat.le_refl _) _).alloc (by simp) _
  have hr7 : Txt W2 w1.heap.size (List.replicate 16 []) := by
    show W2.heap[_]? = _
    rw [HZ.out, hW2]
    rw [Below.heap_alloc _ _ _ (by simp)]
    exact heap_alloc_last _ _
  have hr8 : Txt W2 (w1.heap.size + 1) (List.replicate 16 []) := by
    show W2.heap[_]? = _
    rw [HZ.out, hW2]
    have := heap_alloc_last (w1.alloc (.cells Z 51)) (.cells Z 51)
    rwa [show (w1.alloc (.cells Z 51)).heap.size = w1.heap.size + 1 by simp] at this
  have HT := Lib.hid (show ∀ i, DS B x1 y1 i → ¬ TS w1.heap.size (w1.heap.size + 1) i from fun i hi ht => by have := HD.out.1.lt i hi; rcases ht with rfl | rfl <;> omega)
  have HL := Lib.hid (show W.heap.size ≤ w1.heap.size from HD.out.2.2.size)
  have HD := Lib.hid (HD.out.below hb2)
  obtain ⟨g7, hg7⟩ : ∃ g, w1.heap.size = g := ⟨_, rfl⟩
  rw [hg7] at hr7 hr8 HT HL ⊢
  have HR7 := Lib.hid hr7
  have HR8 := Lib.hid hr8
  clear hW2 hb2 hr7 hr8 hz hg7
  have hbl : Bts W (.slice none 0 0) [] := bts_none W
  clear hbl
  go_loopw [9] (fun i wr => ∃ (k : Nat) (a b : List (List Nat)), k ≤ 16 ∧ i = .int .i64 k ∧ Mine1 W wr B x1 y1 (Dk.fresh 16 16) ∧ Txt wr g7 a ∧ Txt wr (g7 + 1) b ∧ a.length = 16 ∧ b.length = 16 ∧ ∀ j, j < k → a.getD j [] = Dk.blank ∧ b.getD j [] = Dk.blank) (fun i _ => 16 - (intOf i).toNat)
  case atStart => exact ⟨0, _, _, by omega, rfl, HD.out, HR7.out, HR8.out, by simp, by simp, fun j hj => absurd hj (Nat.not_lt_zero _)⟩
  case round =>
    obtain ⟨k, a, b, hk, rfl, hm, h7, h8, ha, hb, hj⟩ := hrel
    have HM := Lib.hid hm
    have H7 := Lib.hid h7
    have H8 := Lib.hid h8
    have HLA := Lib.hid ha
    have HLB := Lib.hid hb
    have HJ := Lib.hid hj
    clear hm h7 h8 ha hb hj
    by_cases hlt : k < 16
    · have hki : (k : Int) < 16 := by omega
      have HLT := Lib.hid hlt
      have hmk := made_bytes 128 (by decide) wr
      obtain ⟨A, hA⟩ : ∃ A, wr.alloc (.cells (List.replicate 128 (.int .u8 0)).toArray 5) = A := ⟨_, rfl⟩
      rw [hA] at hmk
      have hmk : (Instr.makeSlice 32 (.int .i64 128) (.int .i64 128)).run Try.prog wr = .ok (.slice (some ⟨wr.heap.size, 0, none⟩) 128 128) A := hmk
      have hba : Below wr.heap.size wr A := by rw [← hA]; exact (Below.refl _ _).alloc (Nat.le_refl _) _
      have hbt : Bts A (.slice (some ⟨wr.heap.size, 0, none⟩) 128 128) Dk.blank := by
        have := bts_alloc wr Dk.blank 128 (by decide) 5 (0, 0) Dk.sec_blank.2 (by decide)
        rw [← hA]
        exact this
      have hcv := strOf_conv hbt
      have h7a := H7.out.below hba
      have h8a := H8.out.below hba
      have d7 := blk_at (f := sv) h7a [] (i := k) (by rw [HLA.out]; exact hlt)
      have f7 := blk_free h7a k
      have h7b := blk_map (f := sv) (i := k) h7a Dk.blank
      have d8 := blk_at (f := sv) h8a [] (i := k) (by rw [HLB.out]; exact hlt)
      have t7 : Touch (TS g7 (g7 + 1)) A (A.setCell ⟨g7, k, none⟩ (sv Dk.blank)) := .set _ _ _ (Or.inl rfl)
      have h8b : Txt (A.setCell ⟨g7, k, none⟩ (sv Dk.blank)) (g7 + 1) b := h8a.touch (S := (· = g7)) (.set _ _ _ rfl) (by omega)
      have l7 := blk_at (f := sv) h7b [] (i := k) (by rw [List.length_set, HLA.out]; exact hlt)
      rw [Dk.getD_set_self (by rw [HLA.out]; exact hlt)] at l7
      have d8b := blk_at (f := sv) h8b [] (i := k) (by rw [HLB.out]; exact hlt)
      have f8 := blk_free h8b k
      have h8c := blk_map (f := sv) (i := k) h8b Dk.blank
      have h7c : Txt ((A.setCell ⟨g7, k, none⟩ (sv Dk.blank)).setCell ⟨g7 + 1, k, none⟩ (sv Dk.blank)) g7 (a.set k Dk.blank) := Txt.touch (S := (· = g7 + 1)) h7b (.set _ _ _ rfl) (by omega)
      have t8 : Touch (TS g7 (g7 + 1)) A ((A.setCell ⟨g7, k, none⟩ (sv Dk.blank)).setCell ⟨g7 + 1, k, none⟩ (sv Dk.blank)) := t7.trans (.set _ _ _ (Or.inr rfl))
      have HM2 := Lib.hid ((HM.out.below hba).keep t8 HT.out ((HM.out.below hba).2.2.trans (t8.below (base := W.heap.size) (fun i hi => by have := HL.out; rcases hi with rfl | rfl <;> omega) (HM.out.below hba).2.2.size)))
      have H7c := Lib.hid h7c
      have H8c := Lib.hid h8c
      obtain ⟨S, hS⟩ : ∃ S, strOfNums (Dk.blank.map fun x : Nat => (x : Int)) = S := ⟨_, rfl⟩
      have hsv : sv Dk.blank = .string S := by rw [← hS]; rfl
      rw [hS] at hcv
      rw [hsv] at HM2 H7c H8c l7 d8b f8
      obtain ⟨u7, hu7⟩ : ∃ u, sv (a.getD k []) = .string u := ⟨_, rfl⟩
      obtain ⟨u8, hu8⟩ : ∃ u, sv (b.getD k []) = .string u := ⟨_, rfl⟩
      rw [hu7] at d7
      rw [hu8] at d8b
      clear hA hba hbt h7a h8a h7b d8 t7 h8b h8c h7c t8 hS hsv hlt hu7 hu8
      go_wp2_with fail
      go_roundw
      case rel => exact ⟨k + 1, _, _, by have := HLT.out; omega, by go_num, HM2.out, H7c.out, H8c.out, by rw [List.length_set]; exact HLA.out, by rw [List.length_set]; exact HLB.out, fun j hj => by
        by_cases e : k = j
        · subst e
          rw [Dk.getD_set_self (by rw [HLA.out]; exact HLT.out), Dk.getD_set_self (by rw [HLB.out]; exact HLT.out)]
          exact ⟨rfl, rfl⟩
        · rw [Dk.getD_set_ne e, Dk.getD_set_ne e]
          exact HJ.out j (by omega)⟩
      case measure => have := HLT.out; simp [intOf]; omega
    · obtain rfl : k = 16 := by omega
      have ea : a = (Dk.fresh 16 16).lasts := Dk.ext_getD [] (by rw [HLA.out]; exact HC.out.sz.symm) fun j hj => by rw [HLA.out] at hj; rw [(HJ.out j hj).1, Dk.fresh_lasts hj]
      have eb : b = (Dk.last (Dk.fresh 16 16)).lasts := Dk.ext_getD [] (by rw [HLB.out]; exact HC.out.sync.2.sz.symm) fun j hj => by rw [HLB.out] at hj; rw [(HJ.out j hj).2, Dk.fresh_last, Dk.fresh_lasts hj]
      rw [ea] at H7
      rw [eb] at H8
      clear ea eb HJ HLA HLB hlt
      rw [show ((16 : Nat) : Int) = 16 from rfl]
      generalize Dk.fresh 16 16 = d0 at *
      go_wp2_with fail
      go_loopw [10] (fun i wr => ∃ (k : Nat) (d : Dk.Dev), k ≤ l.length ∧ k ≤ 200 ∧ i = .int .i64 k ∧ Dk.Calm 16 d ∧ Mine1 W wr B x1 y1 d ∧ Txt wr g7 d.lasts ∧ Txt wr (g7 + 1) (Dk.last d).lasts) (fun i _ => 200 - (intOf i).toNat)
      case atStart => exact ⟨0, d0, by omega, by omega, rfl, HC.out, HM.out, H7.out, H8.out⟩
      case round =>
        obtain ⟨k, d, hk, hk2, rfl, hc, hm, h7, h8⟩ := hrel
        have HC := Lib.hid hc
        have HM := Lib.hid hm
        have H7 := Lib.hid h7
        have H8 := Lib.hid h8
        clear hc hm h7 h8
        by_cases hlt : k < l.length ∧ k < 200
        · obtain ⟨b0, off, rfl, hbW, hop⟩ := HOPS.out (by omega)
          have ho := hop k hlt.1
          obtain ⟨o, hoo⟩ : ∃ o, l.getD k default = o := ⟨_, rfl⟩
          rw [hoo] at ho
          have HBW := Lib.hid hbW
          have HO2 := Lib.hid ho.c2
          have y1c := (HM.out.2.2.cell (p := ⟨b0, off + k * 5 + 1, none⟩) hbW).trans ho.c1
          have y2c := (HM.out.2.2.cell (p := ⟨b0, off + k * 5 + 2, none⟩) hbW).trans ho.c2
          have HLT := Lib.hid hlt
          have hki : (k : Int) < (l.length : Int) := by omega
          have hki2 : (k : Int) < 200 := by omega
          obtain ⟨q, hq⟩ : ∃ q, atN 16 o.at_ = q := ⟨_, rfl⟩
          have hq1 : (IntKind.u64.wrap o.at_).tmod 16 = (q : Int) := by rw [← hq]; exact atN_eq (n := 16) (by decide) o.at_
          have hq2 : q < 16 := by rw [← hq]; exact atN_lt (by decide) _
          have hq3 : wrap64 (q : Int) = q := by unfold wrap64; omega
          obtain ⟨hwf, hcp⟩ := HC.out.write hq2 (sec_secL o.fill)
          have HWF := Lib.hid hwf
          have HCP := Lib.hid hcp
          have HLP := Lib.hid (Dk.last_put HC.out.own.ok (i := q) (by rw [HC.out.sz]; exact hq2) (secL o.fill))
          have HL16 := Lib.hid (show d.lasts.length = 16 from HC.out.sz)
          have HN16 := Lib.hid (show (Dk.last d).lasts.length = 16 from HC.out.sync.2.sz)
          clear ho hop hoo hlt hq hbW hwf hcp
          go_wp2_with fail
          refine (sector_own o.fill _).mono ?_
          rintro e w3 ⟨g, rfl, hg, hO, hb⟩
          have HWC := Lib.hid (write_sec HM.out hb hg hO.bts (q : Int))
          have H7 := Lib.hid (H7.out.below hb)
          have H8 := Lib.hid (H8.out.below hb)
          clear hg hO hb y1c y2c
          go_wp2_with fail
          refine HWC.out.mono ?_
          rintro e w4 ⟨rfl, hm, ht⟩
          rw [HWF.out] at hm ⊢
          have HM := Lib.hid hm
          have H7 := Lib.hid (H7.out.touch ht (fun h => HT.out _ h (Or.inl rfl)))
          have H8 := Lib.hid (H8.out.touch ht (fun h => HT.out _ h (Or.inr rfl)))
          clear hm ht HWC
          have y2c := (HM.out.2.2.cell (p := ⟨b0, off + k * 5 + 2, none⟩) HBW.out).trans HO2.out
          go_wp2_with fail
          refine (sector_own o.fill _).mono ?_
          rintro e w5 ⟨g, rfl, hg, hO, hb⟩
          have hcv := strOf_conv hO.bts
          obtain ⟨S, hS⟩ : ∃ S, strOfNums ((secL o.fill).map fun x : Nat => (x : Int)) = S := ⟨_, rfl⟩
          have hsv : sv (secL o.fill) = .string S := by rw [← hS]; rfl
          rw [hS] at hcv
          have h7 := H7.out.below hb
          have h8 := H8.out.below hb
          have hm := HM.out.below hb
          have d8 := blk_at (f := sv) h8 [] (i := q) (by rw [HN16.out]; exact hq2)
          obtain ⟨u8, hu8⟩ : ∃ u, sv ((Dk.last d).lasts.getD q []) = .string u := ⟨_, rfl⟩
          rw [hu8] at d8
          have f8 := blk_free h8 q
          have h8n := blk_map (f := sv) (i := q) h8 (secL o.fill)
          rw [← HLP.out] at h8n
          have t8 : Touch (TS g7 (g7 + 1)) w5 (w5.setCell ⟨g7 + 1, q, none⟩ (sv (secL o.fill))) := .set _ _ _ (Or.inr rfl)
          have h7n : Txt (w5.setCell ⟨g7 + 1, q, none⟩ (sv (secL o.fill))) g7 d.lasts := h7.touch (S := (· = g7 + 1)) (.set _ _ _ rfl) (by omega)
          have hmn := hm.keep t8 HT.out (hm.2.2.trans (t8.below (base := W.heap.size) (fun i hi => by have := HL.out; rcases hi with rfl | rfl <;> omega) hm.2.2.size))
          rw [hsv] at h8n h7n hmn
          have H7 := Lib.hid h7n
          have H8 := Lib.hid (show Txt _ _ _ from h8n)
          have HM := Lib.hid hmn
          have y2c := (HM.out.2.2.cell (p := ⟨b0, off + k * 5 + 2, none⟩) HBW.out).trans HO2.out
          clear hg hO hb hS hsv h7 h8 hm hu8 h8n t8 h7n hmn
          by_cases h7f : o.fill % 7 = 0
          · have h7i : (o.fill.tmod 7 == 0) = true := by rw [beq_iff_eq]; exact Int.tmod_eq_zero_of_dvd (by omega)
            have hsy := mine_sync HM.out
            rw [HCP.out.sync.1] at hsy
            clear h7f
            go_wp2_with fail
            refine hsy.mono ?_
            rintro e w6 ⟨rfl, hm, ht⟩
            have HM := Lib.hid hm
            have H7 := Lib.hid (H7.out.touch ht (fun h => HT.out _ h (Or.inl rfl)))
            have H8 := Lib.hid (H8.out.touch ht (fun h => HT.out _ h (Or.inr rfl)))
            have HX16 := Lib.hid (show (Dk.last (Dk.put d q (secL o.fill))).lasts.length = 16 from HCP.out.sync.2.sz)
            clear hm ht hsy d8 f8 hcv y2c
            go_upto_region 20 with (fail)
            go_step
            refine wpList_load_row rfl 51 (.tmp 8) rfl (g7 + 1) rfl _ _ _ _ H8.out Try.underlying51 rfl (txt_info HX16.out) ?_
            refine wpList_store_row rfl 51 (.tmp 7) (.tmp 82) rfl g7 _ rfl rfl _ _ H7.out (txt_info HX16.out) (by simp [HX16.out, HL16.out]) (txt_ones _) ?_
            have t7 : Touch (TS g7 (g7 + 1)) w6 (w6.setRow g7 ((Dk.last (Dk.put d q (secL o.fill))).lasts.map sv).toArray) := ⟨rfl, rfl, rfl, by simp, fun i _ hi => setRow_other w6 g7 i _ (fun e => hi (Or.inl e))⟩
            have h7n : Txt (w6.setRow g7 ((Dk.last (Dk.put d q (secL o.fill))).lasts.map sv).toArray) g7 (Dk.last (Dk.put d q (secL o.fill))).lasts := setRow_heap _ _ _ _ _ _ H7.out
            have h8n : Txt (w6.setRow g7 ((Dk.last (Dk.put d q (secL o.fill))).lasts.map sv).toArray) (g7 + 1) (Dk.last (Dk.put d q (secL o.fill))).lasts := H8.out.touch (S := (· = g7)) ⟨rfl, rfl, rfl, by simp, fun i _ hi => setRow_other w6 g7 i _ hi⟩ (by omega)
            have hmn := HM.out.keep t7 HT.out (HM.out.2.2.trans (t7.below (base := W.heap.size) (fun i hi => by have := HL.out; rcases hi with rfl | rfl <;> omega) HM.out.2.2.size))
            generalize w6.setRow g7 ((Dk.last (Dk.put d q (secL o.fill))).lasts.map sv).toArray = w7 at *
            have H7 := Lib.hid h7n
            have H8 := Lib.hid (show Txt w7 (g7 + 1) (Dk.last (Dk.last (Dk.put d q (secL o.fill)))).lasts by rw [Dk.last_last HCP.out.own.ok]; exact h8n)
            have HM := Lib.hid hmn
            clear t7 h7n h8n hmn
            go_wp2_with fail
            go_roundw
            case rel => exact ⟨k + 1, _, by have := HLT.out; omega, by have := HLT.out; omega, by go_num, HCP.out.sync.2, HM.out, H7.out, H8.out⟩
            case measure => have := HLT.out; simp [intOf]; omega
          · have h7i : (o.fill.tmod 7 == 0) = false := by rw [beq_eq_false_iff_ne]; intro h; exact h7f (by have := Int.dvd_of_tmod_eq_zero h; omega)
            clear h7f
            go_wp2_with fail
            go_roundw
            case rel => exact ⟨k + 1, _, by have := HLT.out; omega, by have := HLT.out; omega, by go_num, HCP.out, HM.out, H7.out, H8.out⟩
            case measure => have := HLT.out; simp [intOf]; omega
        · by_cases hke : k = l.length
          · have hki : ¬ ((k : Int) < (l.length : Int)) := by omega
            clear hlt hke
            go_wp2_with fail
            refine (HM.out.crash H1.out).mono ?_
            rintro e w3 ⟨rfl, hm, ht⟩
            have HM := Lib.hid hm
            have H7 := Lib.hid (H7.out.touch ht (fun h => HT.out _ h (Or.inl rfl)))
            have H8 := Lib.hid (H8.out.touch ht (fun h => HT.out _ h (Or.inr rfl)))
            clear hm ht
            go_wp2_with fail
            refine (waits_any HM.out.1).mono ?_
            rintro e w4 ⟨u, rfl, hO, hb⟩
            rw [Dk.list_crash] at hO
            obtain ⟨qp, qc, rfl, -, -⟩ := ints_form (l := []) hO
            have HM := Lib.hid (HM.out.below hb)
            have H7 := Lib.hid (H7.out.below hb)
            have H8 := Lib.hid (H8.out.below hb)
            clear hO hb
            rw [List.length_nil]
            go_wp2_with fail
            go_loopw [12] (fun i wr => ∃ k : Nat, k ≤ 16 ∧ i = .int .i64 k ∧ Mine1 W wr B x1 y1 (Dk.crash d ps) ∧ Txt wr g7 d.lasts ∧ Txt wr (g7 + 1) (Dk.last d).lasts) (fun i _ => 16 - (intOf i).toNat)
            case atStart => exact ⟨0, by omega, rfl, HM.out, H7.out, H8.out⟩
            case round =>
              obtain ⟨k, hk, rfl, hm, h7, h8⟩ := hrel
              have HM := Lib.hid hm
              have H7 := Lib.hid h7
              have H8 := Lib.hid h8
              clear hm h7 h8
              by_cases hlt : k < 16
              · have hki : (k : Int) < 16 := by omega
                have HLT := Lib.hid hlt
                have hrd := Dk.read_crash HC.out.own.ok ps (i := k) (by rw [HC.out.sz]; exact hlt)
                have hsec := (HC.out.crash ps).sec hlt
                have hhv := Dk.crash_halves HC.out ps hlt
                have hla := (HC.out.sec hlt).1
                have hna := (HC.out.lastsec hlt).1
                obtain ⟨r, hr⟩ : ∃ r, (Dk.crash d ps).lasts.getD k [] = r := ⟨_, rfl⟩
                rw [hr] at hrd hsec hhv
                have HRD := Lib.hid hrd
                have HSEC := Lib.hid hsec.1
                have HL16 := Lib.hid (show d.lasts.length = 16 from HC.out.sz)
                have HN16 := Lib.hid (show (Dk.last d).lasts.length = 16 from HC.out.sync.2.sz)
                obtain ⟨a, ha⟩ : ∃ a, d.lasts.getD k [] = a := ⟨_, rfl⟩
                obtain ⟨b, hb⟩ : ∃ b, (Dk.last d).lasts.getD k [] = b := ⟨_, rfl⟩
                rw [ha, hb] at hhv
                rw [ha] at hla
                rw [hb] at hna
                have HHV := Lib.hid hhv
                have HA := Lib.hid ha
                have HB := Lib.hid hb
                have HLA := Lib.hid hla
                have HNA := Lib.hid hna
                clear hlt hrd hsec hhv hr ha hb hla hna
                go_wp2_with fail
                refine (read_any HM.out.1 (k : Int)).mono ?_
                rintro e w5 ⟨u, rfl, hO, hb⟩
                rw [HRD.out.2] at hO
                rw [show (((Dk.read (Dk.crash d ps) (k : Int)).2 : Nat) : Int) = 0 by rw [HRD.out.1]; rfl]
                obtain ⟨pr, cr, rfl, -, -, -⟩ := hO.bts.form
                rw [HSEC.out] at hO ⊢
                have HM := Lib.hid (HM.out.below hb)
                have h7 := H7.out.below hb
                have h8 := H8.out.below hb
                have d7 := blk_at (f := sv) h7 [] (i := k) (by rw [HL16.out]; exact HLT.out)
                have d8 := blk_at (f := sv) h8 [] (i := k) (by rw [HN16.out]; exact HLT.out)
                rw [HA.out] at d7
                rw [HB.out] at d8
                have H7 := Lib.hid h7
                have H8 := Lib.hid h8
                have hcv := strOf_conv hO.bts
                obtain ⟨S, hS⟩ : ∃ S, strOfNums (r.map fun x : Nat => (x : Int)) = S := ⟨_, rfl⟩
                obtain ⟨L, hL⟩ : ∃ S, strOfNums (a.map fun x : Nat => (x : Int)) = S := ⟨_, rfl⟩
                obtain ⟨N, hN⟩ : ∃ S, strOfNums (b.map fun x : Nat => (x : Int)) = S := ⟨_, rfl⟩
                rw [show sv a = .string L by rw [← hL]; rfl] at d7
                rw [show sv b = .string N by rw [← hN]; rfl] at d8
                rw [hS] at hcv
                have zS : S.size = 128 := by rw [← hS, str_size, HSEC.out]
                have zL : L.size = 128 := by rw [← hL, str_size, HLA.out]
                have zN : N.size = 128 := by rw [← hN, str_size, HNA.out]
                have hA1 : S.extract 0 64 = L.extract 0 64 ∨ S.extract 0 64 = N.extract 0 64 := by
                  rw [← hS, ← hL, ← hN, str_take, str_take, str_take]
                  exact HHV.out.1.imp (fun h => by rw [h]) (fun h => by rw [h])
                have hB1 : S.extract 64 128 = L.extract 64 128 ∨ S.extract 64 128 = N.extract 64 128 := by
                  have e1 := str_drop r 64
                  have e2 := str_drop a 64
                  have e3 := str_drop b 64
                  rw [HSEC.out, hS] at e1
                  rw [HLA.out, hL] at e2
                  rw [HNA.out, hN] at e3
                  rw [e1, e2, e3]
                  exact HHV.out.2.imp (fun h => by rw [h]) (fun h => by rw [h])
                have HA1 := Lib.hid hA1
                have HB1 := Lib.hid hB1
                clear hO hb h7 h8 hS hL hN hA1 hB1
                go_upto_region 30 with (fail)
                clear hcv
                obtain ⟨S0, hS0⟩ : ∃ x, S.extract 0 64 = x := ⟨_, rfl⟩
                obtain ⟨S1, hS1⟩ : ∃ x, S.extract 64 128 = x := ⟨_, rfl⟩
                obtain ⟨L0, hL0⟩ : ∃ x, L.extract 0 64 = x := ⟨_, rfl⟩
                obtain ⟨L1, hL1⟩ : ∃ x, L.extract 64 128 = x := ⟨_, rfl⟩
                obtain ⟨N0, hN0⟩ : ∃ x, N.extract 0 64 = x := ⟨_, rfl⟩
                obtain ⟨N1, hN1⟩ : ∃ x, N.extract 64 128 = x := ⟨_, rfl⟩
                rw [hS0, hL0, hN0] at HA1
                rw [hS1, hL1, hN1] at HB1
                by_cases hA : S0.toList = L0.toList
                · have hA1 : (S0.toList == L0.toList) = true := beq_iff_eq.2 hA
                  clear hA
                  by_cases hB : S1.toList = L1.toList
                  · have hB1 : (S1.toList == L1.toList) = true := beq_iff_eq.2 hB
                    clear hB
                    go_quiet (fail)
                    have hdn : Below w5.heap.size w5 (w5.drewN nq) := ⟨rfl, rfl, rfl, Nat.le_refl _, fun _ _ => rfl⟩
                    have HM := Lib.hid (HM.out.below hdn)
                    have H7 := Lib.hid (H7.out.below hdn)
                    have H8 := Lib.hid (H8.out.below hdn)
                    clear hdn
                    go_wp2_with fail
                    go_roundw
                    case rel => exact ⟨k + 1, by have := HLT.out; omega, by go_num, HM.out, H7.out, H8.out⟩
                    case measure => have := HLT.out; simp [intOf]; omega
                  · have hB1 : (S1.toList == L1.toList) = false := beq_eq_false_iff_ne.2 hB
                    have hB2 : (S1.toList == N1.toList) = true := beq_iff_eq.2 (congrArg ByteArray.toList (HB1.out.resolve_left fun e => hB (congrArg ByteArray.toList e)))
                    clear hB
                    go_quiet (fail)
                    have hdn : Below w5.heap.size w5 (w5.drewN nq) := ⟨rfl, rfl, rfl, Nat.le_refl _, fun _ _ => rfl⟩
                    have HM := Lib.hid (HM.out.below hdn)
                    have H7 := Lib.hid (H7.out.below hdn)
                    have H8 := Lib.hid (H8.out.below hdn)
                    clear hdn
                    go_wp2_with fail
                    go_roundw
                    case rel => exact ⟨k + 1, by have := HLT.out; omega, by go_num, HM.out, H7.out, H8.out⟩
                    case measure => have := HLT.out; simp [intOf]; omega
                · have hA1 : (S0.toList == L0.toList) = false := beq_eq_false_iff_ne.2 hA
                  have hA2 : (S0.toList == N0.toList) = true := beq_iff_eq.2 (congrArg ByteArray.toList (HA1.out.resolve_left fun e => hA (congrArg ByteArray.toList e)))
                  clear hA
                  by_cases hB : S1.toList = L1.toList
                  · have hB1 : (S1.toList == L1.toList) = true := beq_iff_eq.2 hB
                    clear hB
                    go_quiet (fail)
                    have hdn : Below w5.heap.size w5 (w5.drewN nq) := ⟨rfl, rfl, rfl, Nat.le_refl _, fun _ _ => rfl⟩
                    have HM := Lib.hid (HM.out.below hdn)
                    have H7 := Lib.hid (H7.out.below hdn)
                    have H8 := Lib.hid (H8.out.below hdn)
                    clear hdn
                    go_wp2_with fail
                    go_roundw
                    case rel => exact ⟨k + 1, by have := HLT.out; omega, by go_num, HM.out, H7.out, H8.out⟩
                    case measure => have := HLT.out; simp [intOf]; omega
                  · have hB1 : (S1.toList == L1.toList) = false := beq_eq_false_iff_ne.2 hB
                    have hB2 : (S1.toList == N1.toList) = true := beq_iff_eq.2 (congrArg ByteArray.toList (HB1.out.resolve_left fun e => hB (congrArg ByteArray.toList e)))
                    clear hB
                    go_quiet (fail)
                    have hdn : Below w5.heap.size w5 (w5.drewN nq) := ⟨rfl, rfl, rfl, Nat.le_refl _, fun _ _ => rfl⟩
                    have HM := Lib.hid (HM.out.below hdn)
                    have H7 := Lib.hid (H7.out.below hdn)
                    have H8 := Lib.hid (H8.out.below hdn)
                    clear hdn
                    go_wp2_with fail
                    go_roundw
                    case rel => exact ⟨k + 1, by have := HLT.out; omega, by go_num, HM.out, H7.out, H8.out⟩
                    case measure => have := HLT.out; simp [intOf]; omega
              · obtain rfl : k = 16 := by omega
                go_wp2_with fail
                refine (known_any own_api wr).mono ?_
                rintro e w2 ⟨rfl, hb2⟩
                have HB2 := Lib.hid (HM.out.2.2.trans (hb2.mono HM.out.2.2.size))
                clear hb2
                go_wp2_with fail
                go_ret
                exact ⟨rfl, HB2.out⟩
          · have hki : (k : Int) < (l.length : Int) := by omega
            have hki2 : ¬ ((k : Int) < 200) := by omega
            clear hlt hke
            go_wp2_with fail
            refine (HM.out.crash H1.out).mono ?_
            rintro e w3 ⟨rfl, hm, ht⟩
            have HM := Lib.hid hm
            have H7 := Lib.hid (H7.out.touch ht (fun h => HT.out _ h (Or.inl rfl)))
            have H8 := Lib.hid (H8.out.touch ht (fun h => HT.out _ h (Or.inr rfl)))
            clear hm ht
            go_wp2_with fail
            refine (waits_any HM.out.1).mono ?_
            rintro e w4 ⟨u, rfl, hO, hb⟩
            rw [Dk.list_crash] at hO
            obtain ⟨qp, qc, rfl, -, -⟩ := ints_form (l := []) hO
            have HM := Lib.hid (HM.out.below hb)
            have H7 := Lib.hid (H7.out.below hb)
            have H8 := Lib.hid (H8.out.below hb)
            clear hO hb
            rw [List.length_nil]
            go_wp2_with fail
            go_loopw [12] (fun i wr => ∃ k : Nat, k ≤ 16 ∧ i = .int .i64 k ∧ Mine1 W wr B x1 y1 (Dk.crash d ps) ∧ Txt wr g7 d.lasts ∧ Txt wr (g7 + 1) (Dk.last d).lasts) (fun i _ => 16 - (intOf i).toNat)
            case atStart => exact ⟨0, by omega, rfl, HM.out, H7.out, H8.out⟩
            case round =>
              obtain ⟨k, hk, rfl, hm, h7, h8⟩ := hrel
              have HM := Lib.hid hm
              have H7 := Lib.hid h7
              have H8 := Lib.hid h8
              clear hm h7 h8
              by_cases hlt : k < 16
              · have hki : (k : Int) < 16 := by omega
                have HLT := Lib.hid hlt
                have hrd := Dk.read_crash HC.out.own.ok ps (i := k) (by rw [HC.out.sz]; exact hlt)
                have hsec := (HC.out.crash ps).sec hlt
                have hhv := Dk.crash_halves HC.out ps hlt
                have hla := (HC.out.sec hlt).1
                have hna := (HC.out.lastsec hlt).1
                obtain ⟨r, hr⟩ : ∃ r, (Dk.crash d ps).lasts.getD k [] = r := ⟨_, rfl⟩
                rw [hr] at hrd hsec hhv
                have HRD := Lib.hid hrd
                have HSEC := Lib.hid hsec.1
                have HL16 := Lib.hid (show d.lasts.length = 16 from HC.out.sz)
                have HN16 := Lib.hid (show (Dk.last d).lasts.length = 16 from HC.out.sync.2.sz)
                obtain ⟨a, ha⟩ : ∃ a, d.lasts.getD k [] = a := ⟨_, rfl⟩
                obtain ⟨b, hb⟩ : ∃ b, (Dk.last d).lasts.getD k [] = b := ⟨_, rfl⟩
                rw [ha, hb] at hhv
                rw [ha] at hla
                rw [hb] at hna
                have HHV := Lib.hid hhv
                have HA := Lib.hid ha
                have HB := Lib.hid hb
                have HLA := Lib.hid hla
                have HNA := Lib.hid hna
                clear hlt hrd hsec hhv hr ha hb hla hna
                go_wp2_with fail
                refine (read_any HM.out.1 (k : Int)).mono ?_
                rintro e w5 ⟨u, rfl, hO, hb⟩
                rw [HRD.out.2] at hO
                rw [show (((Dk.read (Dk.crash d ps) (k : Int)).2 : Nat) : Int) = 0 by rw [HRD.out.1]; rfl]
                obtain ⟨pr, cr, rfl, -, -, -⟩ := hO.bts.form
                rw [HSEC.out] at hO ⊢
                have HM := Lib.hid (HM.out.below hb)
                have h7 := H7.out.below hb
                have h8 := H8.out.below hb
                have d7 := blk_at (f := sv) h7 [] (i := k) (by rw [HL16.out]; exact HLT.out)
                have d8 := blk_at (f := sv) h8 [] (i := k) (by rw [HN16.out]; exact HLT.out)
                rw [HA.out] at d7
                rw [HB.out] at d8
                have H7 := Lib.hid h7
                have H8 := Lib.hid h8
                have hcv := strOf_conv hO.bts
                obtain ⟨S, hS⟩ : ∃ S, strOfNums (r.map fun x : Nat => (x : Int)) = S := ⟨_, rfl⟩
                obtain ⟨L, hL⟩ : ∃ S, strOfNums (a.map fun x : Nat => (x : Int)) = S := ⟨_, rfl⟩
                obtain ⟨N, hN⟩ : ∃ S, strOfNums (b.map fun x : Nat => (x : Int)) = S := ⟨_, rfl⟩
                rw [show sv a = .string L by rw [← hL]; rfl] at d7
                rw [show sv b = .string N by rw [← hN]; rfl] at d8
                rw [hS] at hcv
                have zS : S.size = 128 := by rw [← hS, str_size, HSEC.out]
                have zL : L.size = 128 := by rw [← hL, str_size, HLA.out]
                have zN : N.size = 128 := by rw [← hN, str_size, HNA.out]
                have hA1 : S.extract 0 64 = L.extract 0 64 ∨ S.extract 0 64 = N.extract 0 64 := by
                  rw [← hS, ← hL, ← hN, str_take, str_take, str_take]
                  exact HHV.out.1.imp (fun h => by rw [h]) (fun h => by rw [h])
                have hB1 : S.extract 64 128 = L.extract 64 128 ∨ S.extract 64 128 = N.extract 64 128 := by
                  have e1 := str_drop r 64
                  have e2 := str_drop a 64
                  have e3 := str_drop b 64
                  rw [HSEC.out, hS] at e1
                  rw [HLA.out, hL] at e2
                  rw [HNA.out, hN] at e3
                  rw [e1, e2, e3]
                  exact HHV.out.2.imp (fun h => by rw [h]) (fun h => by rw [h])
                have HA1 := Lib.hid hA1
                have HB1 := Lib.hid hB1
                clear hO hb h7 h8 hS hL hN hA1 hB1
                go_upto_region 30 with (fail)
                clear hcv
                obtain ⟨S0, hS0⟩ : ∃ x, S.extract 0 64 = x := ⟨_, rfl⟩
                obtain ⟨S1, hS1⟩ : ∃ x, S.extract 64 128 = x := ⟨_, rfl⟩
                obtain ⟨L0, hL0⟩ : ∃ x, L.extract 0 64 = x := ⟨_, rfl⟩
                obtain ⟨L1, hL1⟩ : ∃ x, L.extract 64 128 = x := ⟨_, rfl⟩
                obtain ⟨N0, hN0⟩ : ∃ x, N.extract 0 64 = x := ⟨_, rfl⟩
                obtain ⟨N1, hN1⟩ : ∃ x, N.extract 64 128 = x := ⟨_, rfl⟩
                rw [hS0, hL0, hN0] at HA1
                rw [hS1, hL1, hN1] at HB1
                by_cases hA : S0.toList = L0.toList
                · have hA1 : (S0.toList == L0.toList) = true := beq_iff_eq.2 hA
                  clear hA
                  by_cases hB : S1.toList = L1.toList
                  · have hB1 : (S1.toList == L1.toList) = true := beq_iff_eq.2 hB
                    clear hB
                    go_quiet (fail)
                    have hdn : Below w5.heap.size w5 (w5.drewN nq) := ⟨rfl, rfl, rfl, Nat.le_refl _, fun _ _ => rfl⟩
                    have HM := Lib.hid (HM.out.below hdn)
                    have H7 := Lib.hid (H7.out.below hdn)
                    have H8 := Lib.hid (H8.out.below hdn)
                    clear hdn
                    go_wp2_with fail
                    go_roundw
                    case rel => exact ⟨k + 1, by have := HLT.out; omega, by go_num, HM.out, H7.out, H8.out⟩
                    case measure => have := HLT.out; simp [intOf]; omega
                  · have hB1 : (S1.toList == L1.toList) = false := beq_eq_false_iff_ne.2 hB
                    have hB2 : (S1.toList == N1.toList) = true := beq_iff_eq.2 (congrArg ByteArray.toList (HB1.out.resolve_left fun e => hB (congrArg ByteArray.toList e)))
                    clear hB
                    go_quiet (fail)
                    have hdn : Below w5.heap.size w5 (w5.drewN nq) := ⟨rfl, rfl, rfl, Nat.le_refl _, fun _ _ => rfl⟩
                    have HM := Lib.hid (HM.out.below hdn)
                    have H7 := Lib.hid (H7.out.below hdn)
                    have H8 := Lib.hid (H8.out.below hdn)
                    clear hdn
                    go_wp2_with fail
                    go_roundw
                    case rel => exact ⟨k + 1, by have := HLT.out; omega, by go_num, HM.out, H7.out, H8.out⟩
                    case measure => have := HLT.out; simp [intOf]; omega
                · have hA1 : (S0.toList == L0.toList) = false := beq_eq_false_iff_ne.2 hA
                  have hA2 : (S0.toList == N0.toList) = true := beq_iff_eq.2 (congrArg ByteArray.toList (HA1.out.resolve_left fun e => hA (congrArg ByteArray.toList e)))
                  clear hA
                  by_cases hB : S1.toList = L1.toList
                  · have hB1 : (S1.toList == L1.toList) = true := beq_iff_eq.2 hB
                    clear hB
                    go_quiet (fail)
                    have hdn : Below w5.heap.size w5 (w5.drewN nq) := ⟨rfl, rfl, rfl, Nat.le_refl _, fun _ _ => rfl⟩
                    have HM := Lib.hid (HM.out.below hdn)
                    have H7 := Lib.hid (H7.out.below hdn)
                    have H8 := Lib.hid (H8.out.below hdn)
                    clear hdn
                    go_wp2_with fail
                    go_roundw
                    case rel => exact ⟨k + 1, by have := HLT.out; omega, by go_num, HM.out, H7.out, H8.out⟩
                    case measure => have := HLT.out; simp [intOf]; omega
                  · have hB1 : (S1.toList == L1.toList) = false := beq_eq_false_iff_ne.2 hB
                    have hB2 : (S1.toList == N1.toList) = true := beq_iff_eq.2 (congrArg ByteArray.toList (HB1.out.resolve_left fun e => hB (congrArg ByteArray.toList e)))
                    clear hB
                    go_quiet (fail)
                    have hdn : Below w5.heap.size w5 (w5.drewN nq) := ⟨rfl, rfl, rfl, Nat.le_refl _, fun _ _ => rfl⟩
                    have HM := Lib.hid (HM.out.below hdn)
                    have H7 := Lib.hid (H7.out.below hdn)
                    have H8 := Lib.hid (H8.out.below hdn)
                    clear hdn
                    go_wp2_with fail
                    go_roundw
                    case rel => exact ⟨k + 1, by have := HLT.out; omega, by go_num, HM.out, H7.out, H8.out⟩
                    case measure => have := HLT.out; simp [intOf]; omega
              · obtain rfl : k = 16 := by omega
                go_wp2_with fail
                refine (known_any own_api wr).mono ?_
                rintro e w2 ⟨rfl, hb2⟩
                have HB2 := Lib.hid (HM.out.2.2.trans (hb2.mono HM.out.2.2.size))
                clear hb2
                go_wp2_with fail
                go_ret
                exact ⟨rfl, HB2.out⟩
end Go.Proofs.Ythjciddhghfcbaa
