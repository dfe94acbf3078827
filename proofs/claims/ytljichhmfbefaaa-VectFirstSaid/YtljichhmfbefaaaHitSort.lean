/- What the library's sort leaves of hits by the program's Order: the sorted list, in its place. Conditions: the slice is the call's own; at most a million. -/
import Derived.Shelf.SlSortCmp.NoneTotal
import Derived.Test.YtljichhmfbefaaaHitLay
import Derived.Test.YtljichhmfbefaaaHitSame
namespace Go.Proofs.Ytljichhmfbefaaa
open Go.RowKit Go.Shelf Go.Sort

theorem flat_cells (l : List Hit) : (flatK encH 2 l.toArray).toList = cellsH l := by
  apply List.ext_getElem?
  intro t
  by_cases ht : t < l.length * 2
  · have h1 : t < (flatK encH 2 l.toArray).size := by rw [size_flatK]; simpa using ht
    have h2 := get_flatK encH 2 l.toArray t (by simpa using ht)
    rw [getElem!_pos _ t h1] at h2
    rw [Array.getElem?_toList, Array.getElem?_eq_getElem h1, h2]
    have hd : l.toArray[t / 2]! = l.getD (t / 2) default := by
      have : t / 2 < l.length := by omega
      simp [List.getD_eq_getElem?_getD, this]
    rw [hd]
    rcases Nat.mod_two_eq_zero_or_one t with h | h
    · have e : t / 2 * 2 = t := by omega
      have := cellsH_key l (t / 2) (by omega)
      rw [e] at this
      rw [this, h]
      rfl
    · have e : t / 2 * 2 + 1 = t := by omega
      have := cellsH_dist l (t / 2) (by omega)
      rw [e] at this
      rw [this, h]
      rfl
  · rw [List.getElem?_eq_none (by rw [Array.length_toList, size_flatK]; simpa using ht), List.getElem?_eq_none (by rw [cellsH_length]; omega)]

theorem lt_ord (x y : Hit) : ltOf Hp.ord x y = decide (Hp.rk x < Hp.rk y) := by
  unfold ltOf
  have := @Hp.ord_lt x y
  by_cases h : Hp.rk x < Hp.rk y
  · simp [h, this.2 h]
  · have h2 : ¬ Hp.ord x y < 0 := fun h3 => h (this.1 h3)
    simp [h, h2]

theorem swoH : SWO (ltOf Hp.ord) where
  irrefl x := by rw [lt_ord]; simp
  trans x y z h1 h2 := by rw [lt_ord] at *; simp at *; omega
  ntrans x y z h1 h2 := by rw [lt_ord] at *; simp at *; omega

theorem totH (x y : Hit) (h1 : ltOf Hp.ord x y = false) (h2 : ltOf Hp.ord y x = false) : x = y := by
  rw [lt_ord] at h1 h2
  simp at h1 h2
  exact Hp.rk_inj (by omega)

theorem merge_srt (l : List Hit) : (l.mergeSort fun x y => !(ltOf Hp.ord) y x) = Hp.srt l := by
  unfold Hp.srt
  congr 1
  funext x y
  rw [lt_ord]
  by_cases h : Hp.rk y < Hp.rk x
  · simp [h]
  · simp [h]; omega

theorem cmpH (blk off size : Nat) (w : World) : CmpLays Try.prog 17 #[] encH 2 Hp.ord blk off size w :=
  fun _ _ _ _ x y => order_any x y _

/-! A row behind a sort. -/

theorem heap_sorted (F : Array Value) {w : World} {g n : Nat} {os : Array Obj} {cur : Array Value} {e : TypeId} {fr : Nat × Nat} (hb : w.heap[g]? = some (.cells cur e fr)) :
    (grow (putRow id (Sort.ahead w n) g 0 F) os).heap[g]? = some (.cells (putCells id 0 F cur) e fr) := by
  have hg : g < w.heap.size := (Array.getElem?_eq_some_iff.1 hb).1
  rw [heap_grow_old _ _ (by simpa using hg)]
  simp [putRow, mapBlock, Sort.ahead, Array.getElem?_modify, hb, onCells]

theorem grownBy_sorted (F : Array Value) {w : World} {g n : Nat} {os : Array Obj} : w.grownBy (grow (putRow id (Sort.ahead w n) g 0 F) os) (some g) := by
  refine ⟨rfl, rfl, rfl, by simp, fun k hk hne => ?_⟩
  rw [heap_grow_old _ _ (by simpa using hk)]
  have : g ≠ k := fun e => hne (by rw [e])
  simp [putRow, mapBlock, Sort.ahead, Array.getElem?_modify, this]

theorem take_putCells (cur : Array Value) (ts : List Value) (h : ts.length ≤ cur.size) : (putCells id 0 ts.toArray cur).toList.take ts.length = ts := by
  apply List.ext_getElem?
  intro j
  by_cases hj : j < ts.length
  · rw [List.getElem?_take_of_lt hj, Array.getElem?_toList]
    simp [putCells, hj, show j < cur.size by omega]
  · rw [List.getElem?_take_eq_none (by omega), List.getElem?_eq_none (by omega)]

set_option maxHeartbeats 1000000 in
theorem sortFunc_any (base g cap : Nat) (l : List Hit) (w : World) (hO : HOwn base w (.slice (some ⟨g, 0, none⟩) l.length cap) l) (hl : l.length ≤ 1000000) :
    Calls Try.prog 34 #[.slice (some ⟨g, 0, none⟩) l.length cap, .func (.func 17) #[] #[]] w fun e w' =>
      e = .returned (.tuple #[]) ∧ HOwn base w' (.slice (some ⟨g, 0, none⟩) l.length cap) (Hp.srt l) ∧ w.grownBy w' (some g) := by
  obtain ⟨g', cap', cur, hv, hg, hb, h3, h4, h5, h6⟩ : ∃ g' cap' cur, Value.slice (some ⟨g, 0, none⟩) l.length cap = .slice (some ⟨g', 0, none⟩) l.length cap' ∧ base ≤ g' ∧ w.heap[g']? = some (.cells cur 35 (0, 0)) ∧ l.length ≤ cap' ∧ cap' ≤ maxLen ∧ cur.size = cap' * 2 ∧ cur.toList.take (l.length * 2) = cellsH l := by
    rcases hO.2 with ⟨h, _⟩ | h
    · simp at h
    · exact h
  simp only [Value.slice.injEq, Option.some.injEq, Addr.mk.injEq, and_true, true_and] at hv
  obtain ⟨rfl, rfl⟩ := hv
  have hH : HoldsK encH 2 w g 0 l.toArray := by
    intro j hj
    rw [size_flatK] at hj
    have hj' : j < l.length * 2 := by simpa using hj
    refine ⟨?_, by simp [World.frozen?, hb]⟩
    rw [Nat.zero_add, cell_of_row _ g j cur 35 (0, 0) hb]
    have h7 : (cur.toList.take (l.length * 2))[j]? = (cellsH l)[j]? := by rw [h6]
    rw [List.getElem?_take, if_pos hj', Array.getElem?_toList, ← flat_cells, Array.getElem?_toList] at h7
    rw [h7, getElem!_pos _ j (by rw [size_flatK]; exact hj), Array.getElem?_eq_getElem (by rw [size_flatK]; exact hj)]
    rfl
  have eg : ∀ args w, (callFunc 17 args).run Try.prog w = .ok (.enter 17 args) w := enters_of Try.func17 (by kernel_rfl) rfl
  have hlt : g < w.heap.size := (Array.getElem?_eq_some_iff.1 hb).1
  have hcon := AnyQ.slices_SortFunc_total sortH_lays 2 Try.isAgg35 Try.sizeOf35 encH (fun _ => rfl) (fun x v hv => by simp [encH] at hv; rcases hv with rfl | rfl <;> rfl) Hp.ord swoH 17 #[] g 0 cap l.toArray w eg (cmpH g 0 _ w) hH hlt (by simp; omega) totH
  rw [merge_srt] at hcon
  have hsz : l.toArray.size = l.length := by simp
  rw [hsz] at hcon
  change Calls Try.prog 34 _ _ _ at hcon
  refine hcon.mono ?_
  rintro e w' ⟨rfl, n, os, rfl⟩
  have hsl := Hp.srt_length l
  unfold sortWorldK putRowK
  refine ⟨rfl, ⟨by rw [cellsH_length], .inr ⟨g, cap, _, by rw [hsl], hg, heap_sorted _ hb, by rw [hsl]; exact h3, h4, by simp [putCells, h5], ?_⟩⟩, grownBy_sorted _⟩
  have hfc := flat_cells (Hp.srt l)
  have hF : flatK encH 2 (Hp.srt l).toArray = (cellsH (Hp.srt l)).toArray := by rw [← hfc]
  rw [hF]
  have := take_putCells cur (cellsH (Hp.srt l)) (by rw [cellsH_length, hsl, h5]; omega)
  rw [cellsH_length] at this
  exact this

theorem sortNone_any (p : Option Addr) (cap : Nat) (w : World) : Calls Try.prog 34 #[.slice p 0 cap, .func (.func 17) #[] #[]] w fun e w' => e = .returned (.tuple #[]) ∧ w' = w :=
  AnyF.slices_SortFunc_none (P := Try.prog) (ρ := sortH_ren) { sortH_lays with } p cap (.func (.func 17) #[] #[]) w
end Go.Proofs.Ytljichhmfbefaaa
