/- What the program's device reads. Conditions: the device's blocks. -/
import Derived.Test.YtkmkbjjpbodbfaaDkSmall
import Derived.Laws.Tables
namespace Go.Proofs.Ytkmkbjjpbodbfaa
open Go.RowKit

theorem zero_arr : (∀ w, (zeroValue 77).run Try.prog w = .ok (.agg (bytesV Dk.blank).toArray) w) ∧ (Try.prog.info? 77).map (·.size) = some 128 :=
  ⟨fun w => by kernel_rfl, by kernel_rfl⟩

/-- A block that holds a sector as an array. -/
def SecAt (w : World) (g : Nat) (b : List Nat) : Prop := w.heap[g]? = some (.cells (bytesV b).toArray 77 (0, 0))
theorem bytesV_ones (b : List Nat) : (bytesV b).toArray.all (·.oneCell') = true := by
  rw [Array.all_eq_true_iff_forall_mem]
  intro x hx
  simp only [List.mem_toArray, bytesV, List.mem_map] at hx
  obtain ⟨y, _, rfl⟩ := hx
  rfl
theorem sec_info {b : List Nat} (hb : b.length = 128) : (Try.prog.info? 77).map (·.size) = some (bytesV b).toArray.size := by
  rw [List.size_toArray, bytesV_length, hb]; exact zero_arr.2
/-- A sector is stored. -/
theorem wpList_store_sec {ops : Array Oper} {rest : List Oper} {o : Oper} {a : Act} {w : World} {Q : Exit → Act → World → Prop} (hgd : o.guard = none) (x y : Operand) (ho : o.op = .store 77 x y)
    (g : Nat) (hx : a.eval x = .pointer (some ⟨g, 0, none⟩)) (b : List Nat) (hy : a.eval y = av b) (old : List Nat) (hg : SecAt w g old) (hold : old.length = 128) (hb : b.length = 128)
    (h : ∀ w', SecAt w' g b → Touch (· = g) w w' → wpList Try.prog ops Q rest (a.put o.dst undef) w') : wpList Try.prog ops Q (o :: rest) a w := by
  refine wpList_store_row hgd 77 x y ho g _ hx hy _ _ hg (sec_info hb) (by simp [bytesV_length, hb, hold]) (bytesV_ones b) (h _ (setRow_heap _ _ _ _ _ _ hg) ?_)
  exact ⟨rfl, rfl, rfl, by simp, fun i _ hi => setRow_other w g i _ hi⟩
/-- A sector is loaded. -/
theorem wpList_load_sec {ops : Array Oper} {rest : List Oper} {o : Oper} {a : Act} {w : World} {Q : Exit → Act → World → Prop} (hgd : o.guard = none) (x : Operand) (ho : o.op = .load 77 x)
    (g : Nat) (hx : a.eval x = .pointer (some ⟨g, 0, none⟩)) (b : List Nat) (hg : SecAt w g b) (hb : b.length = 128)
    (h : wpList Try.prog ops Q rest (a.put o.dst (av b)) w) : wpList Try.prog ops Q (o :: rest) a w :=
  wpList_load_row hgd 77 x ho g hx _ _ _ _ hg Try.underlying77 rfl (sec_info hb) h
theorem SecAt.cell {w : World} {g : Nat} {b : List Nat} (h : SecAt w g b) {i : Nat} (hi : i < b.length) : w.cell? ⟨g, i, none⟩ = some (.int .u8 (b.getD i 0 : Nat)) := by
  rw [cell_of_row w g i _ _ _ h]
  simp [bytesV, hi, List.getD_eq_getElem?_getD]
/-- A slice of a whole sector. -/
theorem SecAt.mine {w : World} {g base : Nat} {b : List Nat} (h : SecAt w g b) (hb : Dk.Sec b) (hg : base ≤ g) : Mine base w (.slice (some ⟨g, 0, none⟩) 128 128) b := by
  have hl := hb.1
  have hgl := lt_of_block h
  refine ⟨⟨⟨some ⟨g, 0, none⟩, 128, by rw [hl], ⟨by omega, by decide⟩, (fun h => by cases h), fun _ => ⟨g, 0, rfl, fun i hi => by rw [Nat.zero_add]; exact h.cell hi⟩⟩, hb.2, by omega⟩, fun _ => ⟨g, 128, by rw [hl], hg, hgl, by omega, by decide, ?_⟩⟩
  refine ⟨(bytesV b).toArray, _, h, by simp [bytesV_length], fun i hi => ⟨b.getD i 0, ?_, ?_⟩⟩
  · rw [List.getD_eq_getElem?_getD, List.getElem?_eq_getElem hi]
    exact hb.2 _ (List.getElem_mem _)
  · simp [bytesV, hi, List.getD_eq_getElem?_getD]
theorem SecAt.touch {w w' : World} {g : Nat} {b : List Nat} {S : Nat → Prop} (h : SecAt w g b) (ht : Touch S w w') (hs : ¬ S g) : SecAt w' g b := ht.row h hs
theorem gz_sec {w : World} {m : Nat} {L : List (Option (List Nat))} (h : MapAt w m L) (z : Int) : Dk.Sec ((gz L z).getD Dk.blank) := by
  cases hz : gz L z with
  | none => exact Dk.sec_blank
  | some b => exact h.sec hz
theorem gz_pos {L : List (Option (List Nat))} {a : Int} (h : 0 ≤ a) : gz L a = L.getD a.toNat none := if_pos h

set_option maxHeartbeats 800000 in
set_option maxRecDepth 20000 in
theorem read_any {B m1 m2 : Nat} {d : Dk.Dev} {w : World} (h : PDev w B m1 m2 d) (a : Int) :
    Calls Try.prog 38 #[.pointer (some ⟨B, 0, none⟩), .int .i64 a] w fun e w' => ∃ u, e = .returned (.tuple #[u, .int .i64 ((Dk.read d a).2 : Nat)]) ∧ Mine w.heap.size w' u (Dk.read d a).1 ∧ Below w.heap.size w w' := by
  have HH := Lib.hid h
  have hr := ready_any h
  by_cases ho : d.off = true
  · have hg : Dk.read d a = ([], 6) := if_pos ho
    rw [hg]
    rw [ho] at hr
    clear hg ho h
    go_enter Try.func38, Try.ntmps38
    go_wp2_with (go_at_call 39; refine hr.mono ?_; rintro e w' ⟨rfl, rfl⟩)
    go_ret2
    exact ⟨_, rfl, ⟨bts_none _, fun h => absurd h (by decide)⟩, Below.refl _ _⟩
  have hof : d.off = false := by cases h : d.off <;> simp_all
  rw [hof] at hr
  have hh := has_any h a
  by_cases hn : Dk.bad d a
  · have hg : Dk.read d a = ([], 2) := by unfold Dk.read; rw [if_neg ho, if_pos hn]
    rw [hg]
    rw [show decide (¬ Dk.bad d a) = false by simp [hn]] at hh
    clear hg ho hof h hn
    go_enter Try.func38, Try.ntmps38
    go_wp2_with (first | (go_at_call 39; refine hr.mono ?_; rintro e w' ⟨rfl, rfl⟩) | (go_at_call 52; refine hh.mono ?_; rintro e w' ⟨rfl, rfl⟩))
    go_ret2
    exact ⟨_, rfl, ⟨bts_none _, fun h => absurd h (by decide)⟩, Below.refl _ _⟩
  · have hg : Dk.read d a = ((d.waits.getD a.toNat none).getD (d.lasts.getD a.toNat []), 0) := by unfold Dk.read; rw [if_neg ho, if_neg hn]
    rw [hg]
    rw [show decide (¬ Dk.bad d a) = true by simp [hn]] at hh
    have hsz := h.own.size
    have hb2 : 0 ≤ a ∧ a < (Dk.size d : Int) := by unfold Dk.bad at hn; omega
    have HW := Lib.hid h.waits
    have HL := Lib.hid h.lasts
    have e1 := gz_pos (L := d.waits) hb2.1
    have hv : gz d.waits a = none → d.lasts.getD a.toNat [] = (gz (Dk.seenL d) a).getD Dk.blank := fun _ => by
      rw [gz_pos hb2.1, Dk.seenL_getD (i := a.toNat) h.own.ok (by omega)]
      cases hs : d.seen.getD a.toNat false with
      | true => rfl
      | false => exact h.own.blank a.toNat (by omega) hs
    have hz := zero_arr.1
    have c3 := h.c3
    have hl2 := h.waits.look_ok (a := a) (by omega) (by omega)
    obtain ⟨G, hG⟩ : ∃ G, w.heap.size = G := ⟨_, rfl⟩
    have HG := Lib.hid hG
    have hB2 := Lib.hid hb2
    have S2 := Lib.hid (gz_sec HW.out a)
    have S1 := Lib.hid (gz_sec HL.out a)
    have HSZ := Lib.hid hsz
    rw [← e1]
    clear hg ho hof e1 hsz hb2 h hn hG
    cases hx : gz d.waits a with
    | some b =>
      rw [hx] at hl2 S2
      have hx' := Lib.hid hx
      clear hx hv
      go_enter Try.func38, Try.ntmps38
      go_upto_region 6 with (first | (go_at_call 39; refine hr.mono ?_; rintro e w' ⟨rfl, rfl⟩) | (go_at_call 52; refine hh.mono ?_; rintro e w' ⟨rfl, rfl⟩))
      iterate 31 go_step
      have hrow : SecAt (w'.alloc (.cells (bytesV Dk.blank).toArray 77)) w'.heap.size Dk.blank := heap_alloc_last _ _
      refine wpList_store_sec rfl (.tmp 7) (.tmp 25) rfl w'.heap.size rfl _ rfl _ hrow (by decide) S2.out.1 ?_
      intro w1 r1 t1
      have hb1 : Below w'.heap.size w' w1 := ((Below.refl _ w').alloc (Nat.le_refl _) _).trans (t1.below (fun i hi => by rw [hi]; exact Nat.le_refl _) (by simp))
      have R1 := Lib.hid r1
      have B1 := Lib.hid hb1
      clear r1 t1 hrow hl2 c3 hz hr hh hb1
      go_wp2_with fail
      go_ret2
      exact ⟨_, rfl, R1.out.mine S2.out (Nat.le_refl _), B1.out⟩
    | none =>
      have hv := hv hx
      rw [hx] at hl2 S2
      have hx' := Lib.hid hx
      rw [Option.getD_none, hv]
      clear hx hv
      go_enter Try.func38, Try.ntmps38
      go_upto_region 6 with (first | (go_at_call 39; refine hr.mono ?_; rintro e w' ⟨rfl, rfl⟩) | (go_at_call 52; refine hh.mono ?_; rintro e w' ⟨rfl, rfl⟩))
      iterate 31 go_step
      have hrow : SecAt (w'.alloc (.cells (bytesV Dk.blank).toArray 77)) w'.heap.size Dk.blank := heap_alloc_last _ _
      refine wpList_store_sec rfl (.tmp 7) (.tmp 25) rfl w'.heap.size rfl _ rfl _ hrow (by decide) S2.out.1 ?_
      intro w1 r1 t1
      have hb1 : Below w'.heap.size w' w1 := ((Below.refl _ w').alloc (Nat.le_refl _) _).trans (t1.below (fun i hi => by rw [hi]; exact Nat.le_refl _) (by simp))
      have R1 := Lib.hid r1
      have B1 := Lib.hid hb1
      have P1 := HH.out.below hb1
      have d2 := P1.c2
      have hl3 := P1.lasts.look (a := a) (by have := hB2.out; omega) (by have := hB2.out; have := HSZ.out; omega)
      clear r1 t1 hrow hl2 c3 hz hr hh hb1 P1
      go_upto_region 8 with (fail)
      iterate 19 go_step
      refine wpList_store_sec rfl (.tmp 7) (.tmp 34) rfl w'.heap.size rfl _ rfl _ R1.out S2.out.1 S1.out.1 ?_
      intro w2 r2 t2
      have hb3 := Lib.hid (B1.out.trans (t2.below (base := w'.heap.size) (fun i hi => by rw [hi]; exact Nat.le_refl _) (by have := lt_of_block R1.out; omega)))
      have R2 := Lib.hid r2
      clear r2 t2 hl3 d2
      go_wp2_with fail
      go_ret2
      exact ⟨_, rfl, R2.out.mine S1.out (Nat.le_refl _), hb3.out⟩
theorem nothing_touch {w w' : World} {S : Nat → Prop} (h : Touch (fun _ => False) w w') : Touch S w w' := h.mono fun _ _ h => h.elim
end Go.Proofs.Ytkmkbjjpbodbfaa
