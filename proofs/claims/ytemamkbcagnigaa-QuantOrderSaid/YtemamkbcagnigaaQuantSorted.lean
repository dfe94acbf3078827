/- What the program's Sorted answers: the same numbers in the order of Total, in new memory. Conditions: the slice's cells hold the numbers; at most a million. -/
import Derived.Shelf.SlSortCmp.Whole1
import Derived.Test.YtemamkbcagnigaaQuantLay
import Derived.Test.YtemamkbcagnigaaQuantSeq
import Derived.Test.YtemamkbcagnigaaQuantTotal
namespace Go.Proofs.Ytemamkbcagnigaa
open Go.RowKit Go.Shelf Go.Sort

/-- A number of 64 bits as it lies in a cell. -/
def encU (x : UInt64) : Value := .int .u64 (x.toNat : Int)
def toU (z : Int) : UInt64 := UInt64.ofNat z.toNat
def cfU (x y : UInt64) : Int := Qf.tot x.toNat y.toNat

theorem okk_toU {z : Int} (h : U64.Okk z) : ((toU z).toNat : Int) = z := by
  unfold U64.Okk at h
  have h1 : IntKind.u64.min = 0 := rfl
  have h2 : IntKind.u64.max = 18446744073709551615 := rfl
  simp only [Lit.wf, Bool.and_eq_true, decide_eq_true_eq] at h
  have e : (toU z).toNat = z.toNat % 18446744073709551616 := by unfold toU; simp
  omega

theorem okk_enc (x : UInt64) : U64.Okk (x.toNat : Int) := by
  have h := x.toNat_lt
  have h1 : IntKind.u64.min = 0 := rfl
  have h2 : IntKind.u64.max = 18446744073709551615 := rfl
  unfold U64.Okk
  simp only [Lit.wf, Bool.and_eq_true, decide_eq_true_eq]
  omega

theorem ltU (x y : UInt64) : ltOf cfU x y = decide (Qf.rk x.toNat < Qf.rk y.toNat) := by
  unfold ltOf cfU
  have := @Qf.tot_lt x.toNat y.toNat
  by_cases h : Qf.rk x.toNat < Qf.rk y.toNat
  · simp [h, this.2 h]
  · have h2 : ¬ Qf.tot x.toNat y.toNat < 0 := fun h3 => h (this.1 h3)
    simp [h, h2]

theorem swoU : SWO (ltOf cfU) where
  irrefl x := by rw [ltU]; simp
  trans x y z h1 h2 := by rw [ltU] at *; simp at *; omega
  ntrans x y z h1 h2 := by rw [ltU] at *; simp at *; omega

theorem cmpU (blk off size : Nat) (w : World) : CmpLays1 Try.prog 20 #[] encU cfU blk off size w :=
  CmpReads.lays fun _ _ _ _ x y => (total_any x.toNat y.toNat _ x.toNat_lt y.toNat_lt).mono fun _ _ ⟨he, hw⟩ => ⟨he, 0, hw.symm⟩

/-! A row behind a sort, whatever its elements. -/

theorem heap_sorted_any {α : Type} [Inhabited α] (enc : α → Value) {w : World} {g n : Nat} {os : Array Obj} {cur : Array Value} {e : TypeId} {fr : Nat × Nat} (d : Array α) (hb : w.heap[g]? = some (.cells cur e fr)) :
    (grow (putRow enc (Sort.ahead w n) g 0 d) os).heap[g]? = some (.cells (putCells enc 0 d cur) e fr) := by
  have hg : g < w.heap.size := (Array.getElem?_eq_some_iff.1 hb).1
  rw [heap_grow_old _ _ (by simpa using hg)]
  simp [putRow, mapBlock, Sort.ahead, Array.getElem?_modify, hb, onCells]

theorem grownBy_sorted_any {α : Type} [Inhabited α] (enc : α → Value) {w : World} {g n : Nat} {os : Array Obj} (d : Array α) : w.grownBy (grow (putRow enc (Sort.ahead w n) g 0 d) os) (some g) := by
  refine ⟨rfl, rfl, rfl, by simp, fun k hk hne => ?_⟩
  rw [heap_grow_old _ _ (by simpa using hk)]
  have : g ≠ k := fun e => hne (by rw [e])
  simp [putRow, mapBlock, Sort.ahead, Array.getElem?_modify, this]

theorem take_putCells_any {α : Type} [Inhabited α] (enc : α → Value) (cur : Array Value) (ts : List α) (h : ts.length ≤ cur.size) : (putCells enc 0 ts.toArray cur).toList.take ts.length = ts.map enc := by
  apply List.ext_getElem?
  intro j
  by_cases hj : j < ts.length
  · rw [List.getElem?_take_of_lt hj, Array.getElem?_toList]
    simp [putCells, hj, show j < cur.size by omega]
  · rw [List.getElem?_take_eq_none (by omega), List.getElem?_eq_none (by simp; omega)]

theorem holds_row (enc : UInt64 → Value) {w : World} {g : Nat} {cur : Array Value} {e : TypeId} {ss : List UInt64} (hb : w.heap[g]? = some (.cells cur e (0, 0))) (ht : cur.toList.take ss.length = ss.map enc) : Holds enc w g 0 ss.toArray := by
  intro j hj
  have hj' : j < ss.length := by simpa using hj
  refine ⟨?_, by simp [World.frozen?, hb]⟩
  have h1 : (cur.toList.take ss.length)[j]? = (ss.map enc)[j]? := by rw [ht]
  rw [List.getElem?_take_of_lt hj'] at h1
  simp only [World.cell?, hb, Nat.zero_add]
  simp only [Option.isSome_none, Bool.false_eq_true, if_false]
  rw [← Array.getElem?_toList, h1]
  simp [hj']

/-- Nothing that stands behind stands ahead. -/
def Rising (ts : List Int) : Prop := ∀ i j, i < j → j < ts.length → Qf.tot (ts.getD i 0).toNat (ts.getD j 0).toNat ≤ 0

set_option maxHeartbeats 1000000 in
theorem sortFunc_any (base g cap : Nat) (zs : List Int) (w : World) (hO : U64.Own base w (.slice (some ⟨g, 0, none⟩) zs.length cap) zs) (hl : zs.length ≤ 1000000) :
    Calls Try.prog 42 #[.slice (some ⟨g, 0, none⟩) zs.length cap, .func (.func 20) #[] #[]] w fun e w' =>
      e = .returned (.tuple #[]) ∧ ∃ ts : List Int, ts.Perm zs ∧ Rising ts ∧ U64.Own base w' (.slice (some ⟨g, 0, none⟩) zs.length cap) ts ∧ w.grownBy w' (some g) := by
  obtain ⟨g', cap', cur, hv, hg, hb, h3, h4, h5, h6⟩ : ∃ g' cap' cur, Value.slice (some ⟨g, 0, none⟩) zs.length cap = .slice (some ⟨g', 0, none⟩) zs.length cap' ∧ base ≤ g' ∧ w.heap[g']? = some (.cells cur 22 (0, 0)) ∧ zs.length ≤ cap' ∧ cap' ≤ maxLen ∧ cur.size = cap' * 1 ∧ cur.toList.take (zs.length * 1) = U64.bytesV zs := by
    rcases hO.own.2 with ⟨h, _⟩ | h
    · simp at h
    · exact h
  simp only [Value.slice.injEq, Option.some.injEq, Addr.mk.injEq, and_true, true_and] at hv
  obtain ⟨rfl, rfl⟩ := hv
  have hmap : U64.bytesV zs = (zs.map toU).map encU := by
    unfold U64.bytesV
    rw [List.map_map]
    apply List.map_congr_left
    intro z hz
    show Value.int .u64 z = Value.int .u64 ((toU z).toNat : Int)
    rw [okk_toU (hO.small z hz)]
  have hH : Holds encU w g 0 (zs.map toU).toArray := holds_row encU hb (by rw [← hmap]; simpa using h6)
  have eg : ∀ args w, (callFunc 20 args).run Try.prog w = .ok (.enter 20 args) w := enters_of Try.func20 (by kernel_rfl) rfl
  have hlt : g < w.heap.size := (Array.getElem?_eq_some_iff.1 hb).1
  have hcon := Any.slices_SortFunc sortU_lays encU (fun _ => rfl) cfU swoU 20 #[] g 0 cap (zs.map toU).toArray w eg (cmpU g 0 _ w) hH hlt (by simp; omega)
  have hsz : (zs.map toU).toArray.size = zs.length := by simp
  rw [hsz] at hcon
  change Calls Try.prog 42 _ _ _ at hcon
  refine hcon.mono ?_
  rintro e w' ⟨rfl, d', n, os, hp, hs, rfl⟩
  obtain ⟨hp1, -, hp3⟩ := hp
  rw [hsz] at hp1
  have hdl : d'.toList.length = zs.length := by simpa using hp1
  refine ⟨rfl, d'.toList.map (fun x => (x.toNat : Int)), ?_, ?_, ?_, grownBy_sorted_any encU d'⟩
  · have e1 : d'.extract 0 zs.length = d' := by rw [← hp1]; simp
    have e2 : (zs.map toU).toArray.extract 0 zs.length = (zs.map toU).toArray := by
      have h8 : (zs.map toU).toArray.extract 0 (zs.map toU).toArray.size = (zs.map toU).toArray := Array.extract_size
      rw [hsz] at h8
      exact h8
    try rw [hsz] at hp3
    rw [e1, e2] at hp3
    have hq := hp3.map (fun x : UInt64 => (x.toNat : Int))
    have e3 : ((zs.map toU).toArray.toList.map fun x : UInt64 => (x.toNat : Int)) = zs := by
      simp only [List.map_map]
      conv => rhs; rw [← List.map_id zs]
      apply List.map_congr_left
      intro z hz
      exact okk_toU (hO.small z hz)
    rw [e3] at hq
    exact hq
  · intro i j hij hj
    have hj' : j < d'.size := by simpa using hj
    have := hs i j (Nat.zero_le _) hij (by omega)
    rw [ltU] at this
    simp only [decide_eq_false_iff_not] at this
    have ei : ((d'.toList.map fun x : UInt64 => (x.toNat : Int)).getD i 0).toNat = (d'[i]!).toNat := by
      simp [List.getD_eq_getElem?_getD, show i < d'.size by omega]
    have ej : ((d'.toList.map fun x : UInt64 => (x.toNat : Int)).getD j 0).toNat = (d'[j]!).toNat := by
      simp [List.getD_eq_getElem?_getD, hj']
    rw [ei, ej]
    have h7 := @Qf.tot_gt (d'[i]!).toNat (d'[j]!).toNat
    rcases Int.lt_or_le 0 (Qf.tot (d'[i]!).toNat (d'[j]!).toNat) with h | h
    · exact absurd (h7.1 h) this
    · exact h
  · refine ⟨⟨by simp [U64.bytesV, hdl], .inr ⟨g, cap, _, by rw [List.length_map, hdl], hg, heap_sorted_any encU d' hb, by rw [List.length_map, hdl]; exact h3, h4, by simp [putCells, h5], ?_⟩⟩, ?_, by rw [List.length_map, hdl]; omega⟩
    · rw [Nat.mul_one, List.length_map]
      have := take_putCells_any encU cur d'.toList (by omega)
      rw [Array.toArray_toList] at this
      rw [this]
      simp [U64.bytesV, encU]
    · intro x hx
      obtain ⟨y, _, rfl⟩ := List.mem_map.1 hx
      exact okk_enc y
theorem callsValues (v : Value) (w : World) (p : Option Addr) (n cap : Nat) (hv : v = .slice p n cap) :
    Calls Try.prog 36 #[v] w fun e w' => e = .returned (.func (.func 43) #[] #[.pointer (some ⟨w.heap.size, 0, none⟩)]) ∧ w' = w.alloc (.cells #[v] 34) := by
  subst hv
  go_enter Try.func36, Try.ntmps36
  go_wp2
  go_ret
  exact ⟨rfl, rfl⟩

/-- What Sorted answers. -/
def SortedAns2 (l : List Int) (w : World) (e : Ending) (w' : World) : Prop := ∃ sv ts, e = .returned sv ∧ ts.Perm l ∧ Rising ts ∧ U64.Own w.heap.size w' sv ts ∧ Below w.heap.size w w'
end Go.Proofs.Ytemamkbcagnigaa
