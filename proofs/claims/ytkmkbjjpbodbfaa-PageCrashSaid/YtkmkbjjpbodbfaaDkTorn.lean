/- What lasts of a sector behind a crash, by the program. Conditions: both sectors are whole. -/
import Derived.Test.YtkmkbjjpbodbfaaDkRead
import Derived.Test.YtkmkbjjpbodbfaaOrd
import Derived.Laws.CopyRow
namespace Go.Proofs.Ytkmkbjjpbodbfaa
open Go.RowKit

theorem bytesV_append (a b : List Nat) : bytesV (a ++ b) = bytesV a ++ bytesV b := by simp [bytesV]
theorem bytesV_take (a : List Nat) (n : Nat) : bytesV (a.take n) = (bytesV a).take n := by simp [bytesV, List.map_take]
theorem bytesV_drop (a : List Nat) (n : Nat) : bytesV (a.drop n) = (bytesV a).drop n := by simp [bytesV, List.map_drop]
theorem bytesV_one (b : List Nat) : ∀ v ∈ bytesV b, v.oneCell' = true := by
  intro x hx
  obtain ⟨y, _, rfl⟩ := List.mem_map.1 hx
  rfl
theorem info_byte : (Try.prog.info? 5).map (·.size) = some 1 := by kernel_rfl
/-- A part of the one sector is copied over the same part of the other. -/
theorem copy_part {w : World} {g h o : Nat} {a b : List Nat} (ha : SecAt w g a) (hb : SecAt w h b) (hla : a.length = 128) (hlb : b.length = 128) (ho : o = 0 ∨ o = 64) (c1 c2 : Nat) :
    ∃ w', (∀ ty, (Builtin.copy_ #[23, 23] ty #[.slice (some ⟨g, o, none⟩) 64 c1, .slice (some ⟨h, o, none⟩) 64 c2]).run Try.prog w = .ok (.int .i64 64) w') ∧
      SecAt w' g (a.take o ++ (b.drop o).take 64 ++ a.drop (o + 64)) ∧ Touch (· = g) w w' := by
  have hcs : (bytesV ((b.drop o).take 64)).length = 64 := by rw [bytesV_length, List.length_take, List.length_drop]; omega
  refine ⟨_, fun ty => ?_, setRow_heap _ _ _ (bytesV (a.take o ++ (b.drop o).take 64 ++ a.drop (o + 64))).toArray _ _ ha, ⟨rfl, rfl, rfl, by simp, fun i _ hi => setRow_other w g i _ hi⟩⟩
  have hr := run_copy_row Try.prog w 23 23 ty 5 g o 64 c1 ⟨h, o, none⟩ 64 c2 (bytesV a).toArray _ (bytesV ((b.drop o).take 64)) Try.underlying23 info_byte ha (by rw [hcs]; rfl) (fun j v hv => by
    have hadd : (⟨h, o, none⟩ : Addr).add j = ⟨h, o + j, none⟩ := by unfold Addr.add; split <;> simp_all
    have hj : j < 64 := by
      rcases Nat.lt_or_ge j 64 with hh | hh
      · exact hh
      · rw [List.getElem?_eq_none (by omega)] at hv; cases hv
    rw [hadd, hb.cell (by omega), ← hv, bytesV_take, bytesV_drop, List.getElem?_take, if_pos hj, List.getElem?_drop]
    simp [bytesV, List.getD_eq_getElem?_getD, show o + j < b.length by omega]) (by rw [hcs, List.size_toArray, bytesV_length]; omega) (bytesV_one _)
  rw [hr, hcs]
  have e : (bytesV a).toArray.toList.take o ++ bytesV ((b.drop o).take 64) ++ (bytesV a).toArray.toList.drop (o + 64) = bytesV (a.take o ++ (b.drop o).take 64 ++ a.drop (o + 64)) := by
    rw [bytesV_append, bytesV_append, bytesV_take a, bytesV_drop a]
  rw [e]
  rfl

def ToF (g3 g4 o c : Nat) (i : Nat) (x : Value) (_ : World) : Prop :=
  match i with
  | 0 => x = .slice (some ⟨g3, o, none⟩) 64 c
  | 1 => x = .slice (some ⟨g4, o, none⟩) 64 c
  | _ => True
def ToR (W : World) (g3 : Nat) (r : List Nat) (D : Nat → Bool) (_ : Nat → Value) (w : World) : Prop :=
  Touch (· = g3) W w ∧ (D 2 = false → Touch (fun _ => False) W w) ∧ (D 2 = true → SecAt w g3 r)

theorem pick_cases (p : Nat) (a b : List Nat) (ha : a.length = 128) (hb : b.length = 128) :
    (p % 4 = 0 ∧ Dk.pick p a b = a) ∨ (p % 4 = 1 ∧ Dk.pick p a b = b) ∨ (p % 4 = 2 ∧ Dk.pick p a b = a.take 0 ++ (b.drop 0).take 64 ++ a.drop (0 + 64)) ∨ (p % 4 = 3 ∧ Dk.pick p a b = a.take 64 ++ (b.drop 64).take 64 ++ a.drop (64 + 64)) := by
  unfold Dk.pick
  have h : p % 4 = 0 ∨ p % 4 = 1 ∨ p % 4 = 2 ∨ p % 4 = 3 := by omega
  rcases h with h | h | h | h
  · exact Or.inl ⟨h, by rw [if_pos h]⟩
  · exact Or.inr (Or.inl ⟨h, by rw [if_neg (by omega), if_pos h]⟩)
  · exact Or.inr (Or.inr (Or.inl ⟨h, by rw [if_neg (by omega), if_neg (by omega), if_pos h]; simp⟩))
  · refine Or.inr (Or.inr (Or.inr ⟨h, ?_⟩))
    rw [if_neg (by omega), if_neg (by omega), if_neg (by omega), List.take_of_length_le (l := b.drop 64) (by rw [List.length_drop]; omega), List.drop_of_length_le (l := a) (by omega), List.append_nil]

set_option maxHeartbeats 3200000 in
set_option maxRecDepth 20000 in
theorem torn_any (a b : List Nat) (p : Nat) (w : World) (ha : Dk.Sec a) (hb : Dk.Sec b) (hp : p < 256) :
    Calls Try.prog 44 #[av a, av b, .int .u8 (p : Int)] w fun e w' => e = .returned (av (Dk.pick p a b)) ∧ Below w.heap.size w w' := by
  have hla := ha.1
  have hlb := hb.1
  have hz := zero_arr.1
  have hrem : ((p : Int) % 4) = ((p % 4 : Nat) : Int) := by omega
  unfold av
  obtain ⟨W, hW⟩ : ∃ W, W = ((w.alloc (.cells (bytesV a).toArray 77)).alloc (.cells (bytesV b).toArray 77)).alloc (.cells (bytesV Dk.blank).toArray 77) := ⟨_, rfl⟩
  have hb0 : Below w.heap.size w W := by rw [hW]; exact (((Below.refl _ _).alloc (Nat.le_refl _) _).alloc (by simp) _).alloc (by simp; omega) _
  have h3 : SecAt W w.heap.size a := by
    rw [hW]
    show (World.alloc _ _).heap[_]? = _
    rw [Below.heap_alloc _ _ _ (by simp; omega), Below.heap_alloc _ _ _ (by simp)]
    exact heap_alloc_last _ _
  have h4 : SecAt W (w.heap.size + 1) b := by
    rw [hW]
    show (World.alloc _ _).heap[_]? = _
    rw [Below.heap_alloc _ _ _ (by simp)]
    have := heap_alloc_last (w.alloc (.cells (bytesV a).toArray 77)) (.cells (bytesV b).toArray 77)
    rwa [show (w.alloc (.cells (bytesV a).toArray 77)).heap.size = w.heap.size + 1 by simp] at this
  have h6 : SecAt W (w.heap.size + 1 + 1) Dk.blank := by
    rw [hW]
    have := heap_alloc_last ((w.alloc (.cells (bytesV a).toArray 77)).alloc (.cells (bytesV b).toArray 77)) (.cells (bytesV Dk.blank).toArray 77)
    rwa [show ((w.alloc (.cells (bytesV a).toArray 77)).alloc (.cells (bytesV b).toArray 77)).heap.size = w.heap.size + 1 + 1 by simp] at this
  have H3 := Lib.hid h3
  have H4 := Lib.hid h4
  have H6 := Lib.hid h6
  have HB0 := Lib.hid hb0
  have HW := Lib.hid hW
  have HLA := Lib.hid hla
  have HLB := Lib.hid hlb
  obtain ⟨g, hg⟩ : ∃ g, w.heap.size = g := ⟨_, rfl⟩
  have hpc := pick_cases p a b hla hlb
  clear hW hb0 h3 h4 h6 hla hlb ha hb
  rcases hpc with ⟨hp4, hv⟩ | ⟨hp4, hv⟩ | ⟨hp4, hv⟩ | ⟨hp4, hv⟩ <;> rw [hp4] at hrem <;> rw [hv] <;> clear hv hp4
  · -- 0
    go_enter Try.func44, Try.ntmps44
    go_upto_region 8 with (fail)
    rw [← HW.out]
    have HG := Lib.hid hg
    rw [hg] at H3 H4 H6 HB0
    have HB1 := Lib.hid HB0.out
    clear hg hz hrem
    go_step
    refine wpList_load_sec rfl (.tmp 3) rfl g rfl _ H3.out HLA.out ?_
    refine wpList_store_sec rfl (.tmp 6) (.tmp 22) rfl (g + 1 + 1) rfl (a) rfl _ H6.out (by decide) HLA.out ?_
    intro w2 r2 t2
    have R2 := Lib.hid r2
    have HBE := Lib.hid (HB1.out.trans (t2.below (base := g) (fun i hi => by rw [hi]; omega) (by have := HB1.out.size; have := HG.out; omega)))
    clear r2 t2
    go_wp2_with fail
    refine bodyPost_ret (v := .agg (bytesV (a)).toArray) ?_ rfl ⟨rfl, by rw [HG.out]; exact HBE.out⟩
    exact results_cell_row rfl _ _ (g + 1 + 1) 77 _ _ _ rfl R2.out Try.underlying77 rfl (sec_info HLA.out)
  · -- 1
    go_enter Try.func44, Try.ntmps44
    go_upto_region 3 with (fail)
    rw [← HW.out]
    have HG := Lib.hid hg
    rw [hg] at H3 H4 H6 HB0
    have HB1 := Lib.hid HB0.out
    clear hg hz hrem
    go_step
    refine wpList_load_sec rfl (.tmp 4) rfl (g + 1) rfl _ H4.out HLB.out ?_
    refine wpList_store_sec rfl (.tmp 6) (.tmp 11) rfl (g + 1 + 1) rfl (b) rfl _ H6.out (by decide) HLB.out ?_
    intro w2 r2 t2
    have R2 := Lib.hid r2
    have HBE := Lib.hid (HB1.out.trans (t2.below (base := g) (fun i hi => by rw [hi]; omega) (by have := HB1.out.size; have := HG.out; omega)))
    clear r2 t2
    go_wp2_with fail
    refine bodyPost_ret (v := .agg (bytesV (b)).toArray) ?_ rfl ⟨rfl, by rw [HG.out]; exact HBE.out⟩
    exact results_cell_row rfl _ _ (g + 1 + 1) 77 _ _ _ rfl R2.out Try.underlying77 rfl (sec_info HLB.out)
  · -- 2
    go_enter Try.func44, Try.ntmps44
    go_upto_region 5 with (fail)
    rw [← HW.out]
    have HG := Lib.hid hg
    rw [hg] at H3 H4 H6 HB0
    have HB1 := Lib.hid HB0.out
    clear hg hz hrem
    refine Ord.walk (ToF g (g + 1) 0 128) (ToR W g (a.take 0 ++ (b.drop 0).take 64 ++ a.drop (0 + 64))) (fun _ _ => True)
      (by kernel_rfl) (by kernel_rfl) ?frP2 ?hfrP2 (fun _ _ _ _ _ h => h) ?hsP2 ?heP2 ?hendP2
    case hsP2 => exact fun _ => ⟨(Touch.refl _ _).drew, fun _ => (Touch.refl _ _).drew, fun h => by cases h⟩
    case hfrP2 =>
      intro xs
      simp only [Ord.fill, Act.put, List.setIfInBounds_toArray, List.set_cons_zero, List.set_cons_succ]
      rfl
    case heP2 =>
      refine Ord.each_cons (fun D xs w2 hD hC hP hR hA K hK => ?_) ?_
      · -- 0
        clear hA
        go_simp
        exact hK _ _ ⟨_, rfl, trivial, hR, rfl⟩
      refine Ord.each_cons (fun D xs w2 hD hC hP hR hA K hK => ?_) ?_
      · -- 1
        clear hA
        go_simp
        exact hK _ _ ⟨_, rfl, trivial, hR, rfl⟩
      refine Ord.each_cons (fun D xs w2 hD hC hP hR hA K hK => ?_) ?_
      · -- 2
        have q0 := Ord.ahead_get _ hA 0 (by decide)
        simp only [ToF] at q0
        have q1 := Ord.ahead_get _ hA 1 (by decide)
        simp only [ToF] at q1
        simp only [q0, q1] at hK
        clear hA
        have hn := hR.2.1 hD
        obtain ⟨w9, hrun, hs9, ht9⟩ := copy_part (w := w2) (o := 0) (H3.out.touch hn id) (H4.out.touch hn id) HLA.out HLB.out (by decide) 128 128
        go_simp
        exact hK _ _ ⟨_, rfl, trivial, ⟨hR.1.trans ht9, fun h => (by cases h), fun _ => hs9⟩, trivial⟩
      exact Ord.each_nil
    case hendP2 =>
      intro D xs w9 hR hF
      have hs9 := hR.2.2 (hF 2 (by decide)).1
      have H6 := Lib.hid (H6.out.touch hR.1 (by omega))
      have HB1 := Lib.hid (HB1.out.trans (hR.1.below (base := g) (fun i hi => by rw [hi]; exact Nat.le_refl _) (by have := HB1.out.size; have := HG.out; omega)))
      have H3 := Lib.hid hs9
      have hlr : (a.take 0 ++ (b.drop 0).take 64 ++ a.drop (0 + 64)).length = 128 := by simp only [List.length_append, List.length_take, List.length_drop, HLA.out, HLB.out]; rfl
      have HLR := Lib.hid hlr
      clear hs9 hR hF hlr
      generalize xs 0 = z0
      generalize xs 1 = z1
      generalize xs 2 = z2
      obtain ⟨r, hr⟩ : ∃ r, a.take 0 ++ (b.drop 0).take 64 ++ a.drop (0 + 64) = r := ⟨_, rfl⟩
      rw [hr] at HLR H3
      have HRR := Lib.hid hr
      clear hr
      go_upto_region 8 with (fail)
      go_step
      refine wpList_load_sec rfl (.tmp 3) rfl g rfl _ H3.out HLR.out ?_
      refine wpList_store_sec rfl (.tmp 6) (.tmp 22) rfl (g + 1 + 1) rfl (r) rfl _ H6.out (by decide) HLR.out ?_
      intro w2 r2 t2
      have R2 := Lib.hid r2
      have HBE := Lib.hid (HB1.out.trans (t2.below (base := g) (fun i hi => by rw [hi]; omega) (by have := HB1.out.size; have := HG.out; omega)))
      clear r2 t2
      go_wp2_with fail
      refine bodyPost_ret (v := .agg (bytesV (r)).toArray) ?_ rfl ⟨by rw [← HRR.out], by rw [HG.out]; exact HBE.out⟩
      exact results_cell_row rfl _ _ (g + 1 + 1) 77 _ _ _ rfl R2.out Try.underlying77 rfl (sec_info HLR.out)
  · -- 3
    go_enter Try.func44, Try.ntmps44
    go_upto_region 7 with (fail)
    rw [← HW.out]
    have HG := Lib.hid hg
    rw [hg] at H3 H4 H6 HB0
    have HB1 := Lib.hid HB0.out
    clear hg hz hrem
    refine Ord.walk (ToF g (g + 1) 64 64) (ToR W g (a.take 64 ++ (b.drop 64).take 64 ++ a.drop (64 + 64))) (fun _ _ => True)
      (by kernel_rfl) (by kernel_rfl) ?frP3 ?hfrP3 (fun _ _ _ _ _ h => h) ?hsP3 ?heP3 ?hendP3
    case hsP3 => exact fun _ => ⟨(Touch.refl _ _).drew, fun _ => (Touch.refl _ _).drew, fun h => by cases h⟩
    case hfrP3 =>
      intro xs
      simp only [Ord.fill, Act.put, List.setIfInBounds_toArray, List.set_cons_zero, List.set_cons_succ]
      rfl
    case heP3 =>
      refine Ord.each_cons (fun D xs w2 hD hC hP hR hA K hK => ?_) ?_
      · -- 0
        clear hA
        go_simp
        exact hK _ _ ⟨_, rfl, trivial, hR, rfl⟩
      refine Ord.each_cons (fun D xs w2 hD hC hP hR hA K hK => ?_) ?_
      · -- 1
        clear hA
        go_simp
        exact hK _ _ ⟨_, rfl, trivial, hR, rfl⟩
      refine Ord.each_cons (fun D xs w2 hD hC hP hR hA K hK => ?_) ?_
      · -- 2
        have q0 := Ord.ahead_get _ hA 0 (by decide)
        simp only [ToF] at q0
        have q1 := Ord.ahead_get _ hA 1 (by decide)
        simp only [ToF] at q1
        simp only [q0, q1] at hK
        clear hA
        have hn := hR.2.1 hD
        obtain ⟨w9, hrun, hs9, ht9⟩ := copy_part (w := w2) (o := 64) (H3.out.touch hn id) (H4.out.touch hn id) HLA.out HLB.out (by decide) 64 64
        go_simp
        exact hK _ _ ⟨_, rfl, trivial, ⟨hR.1.trans ht9, fun h => (by cases h), fun _ => hs9⟩, trivial⟩
      exact Ord.each_nil
    case hendP3 =>
      intro D xs w9 hR hF
      have hs9 := hR.2.2 (hF 2 (by decide)).1
      have H6 := Lib.hid (H6.out.touch hR.1 (by omega))
      have HB1 := Lib.hid (HB1.out.trans (hR.1.below (base := g) (fun i hi => by rw [hi]; exact Nat.le_refl _) (by have := HB1.out.size; have := HG.out; omega)))
      have H3 := Lib.hid hs9
      have hlr : (a.take 64 ++ (b.drop 64).take 64 ++ a.drop (64 + 64)).length = 128 := by simp only [List.length_append, List.length_take, List.length_drop, HLA.out, HLB.out]; rfl
      have HLR := Lib.hid hlr
      clear hs9 hR hF hlr
      generalize xs 0 = z0
      generalize xs 1 = z1
      generalize xs 2 = z2
      obtain ⟨r, hr⟩ : ∃ r, a.take 64 ++ (b.drop 64).take 64 ++ a.drop (64 + 64) = r := ⟨_, rfl⟩
      rw [hr] at HLR H3
      have HRR := Lib.hid hr
      clear hr
      go_upto_region 8 with (fail)
      go_step
      refine wpList_load_sec rfl (.tmp 3) rfl g rfl _ H3.out HLR.out ?_
      refine wpList_store_sec rfl (.tmp 6) (.tmp 22) rfl (g + 1 + 1) rfl (r) rfl _ H6.out (by decide) HLR.out ?_
      intro w2 r2 t2
      have R2 := Lib.hid r2
      have HBE := Lib.hid (HB1.out.trans (t2.below (base := g) (fun i hi => by rw [hi]; omega) (by have := HB1.out.size; have := HG.out; omega)))
      clear r2 t2
      go_wp2_with fail
      refine bodyPost_ret (v := .agg (bytesV (r)).toArray) ?_ rfl ⟨by rw [← HRR.out], by rw [HG.out]; exact HBE.out⟩
      exact results_cell_row rfl _ _ (g + 1 + 1) 77 _ _ _ rfl R2.out Try.underlying77 rfl (sec_info HLR.out)
end Go.Proofs.Ytkmkbjjpbodbfaa
