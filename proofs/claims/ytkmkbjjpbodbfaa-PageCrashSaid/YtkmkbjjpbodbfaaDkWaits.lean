/- The numbers of the sectors that wait, of the program's device: the library's sorted keys of a map, in this program. Conditions: the device's blocks. -/
import Derived.Test.YtkmkbjjpbodbfaaDkSmall
import Derived.Test.YtkmkbjjpbodbfaaDkLay
import Derived.Shelf.SlIterI.Nil
import Derived.Shelf.SortM.Plain
import Derived.Shelf.SortM.SortNone
namespace Go.Proofs.Ytkmkbjjpbodbfaa
open Go.RowKit Go.Maps Go.Sort Go.Shelf

theorem sorts_in (m : Nat) : AnyZI.SortsIn Try.prog sortedI_ren Fence.wide m :=
  ⟨fun blk off cap ss W hH hblk hsz => callsIn_wide.2 (AnyM.slices_Sort_int sortI_lays blk off cap ss W hH hblk hsz),
   fun p cap W => callsIn_wide.2 (AnyM.slices_Sort_int_none sortI_lays p cap W)⟩

theorem keys_ents : ∀ (L : List (Option (List Nat))) (i : Nat), intKeys (DataW.map (ents i L)) = (Dk.listL i L).map fun x : Nat => (x : Int)
  | [], _ => rfl
  | none :: r, i => by
    have := keys_ents r (i + 1)
    simpa [ents, Dk.listL] using this
  | some b :: r, i => by
    have := keys_ents r (i + 1)
    simp only [ents, Dk.listL, List.map_cons]
    rw [← this]; rfl
theorem listL_rising : ∀ (ws : List (Option (List Nat))) (i : Nat), (Dk.listL i ws).Pairwise (· < ·) ∧ ∀ x ∈ Dk.listL i ws, i ≤ x ∧ x < i + ws.length
  | [], _ => ⟨List.Pairwise.nil, fun x hx => by cases hx⟩
  | none :: r, i => by
    obtain ⟨h1, h2⟩ := listL_rising r (i + 1)
    exact ⟨h1, fun x hx => by have := h2 x hx; simp only [List.length_cons]; omega⟩
  | some b :: r, i => by
    obtain ⟨h1, h2⟩ := listL_rising r (i + 1)
    refine ⟨List.Pairwise.cons (fun y hy => by have := h2 y hy; omega) h1, fun x hx => ?_⟩
    rcases List.mem_cons.1 hx with rfl | hx
    · simp only [List.length_cons]; omega
    · have := h2 x hx; simp only [List.length_cons]; omega
theorem sorted_keys {ss : List Int} {L : List (Option (List Nat))} (h : ss.Perm (intKeys (mapD L))) : ss.mergeSort (fun x y => decide (x ≤ y)) = (Dk.listL 0 L).map fun x : Nat => (x : Int) := by
  rw [show mapD L = DataW.map (ents 0 L) from rfl, keys_ents] at h
  have h1 : (ss.mergeSort fun x y => decide (x ≤ y)).Pairwise (fun x y => x ≤ y) := by
    have := List.pairwise_mergeSort (le := fun x y : Int => decide (x ≤ y)) (by intro a b c h1 h2; simp at *; omega) (by intro a b; simp; omega) ss
    exact this.imp (by intro a b h; simpa using h)
  have h2 : ((Dk.listL 0 L).map fun x : Nat => (x : Int)).Pairwise (fun x y => x ≤ y) :=
    List.pairwise_map.2 ((listL_rising L 0).1.imp fun {a b} h => by omega)
  exact List.Perm.eq_of_pairwise (fun _ _ _ _ h1 h2 => Int.le_antisymm h1 h2) h1 h2 ((List.mergeSort_perm _ _).trans h)

theorem keys_call (m : Nat) (w : World) : Calls Try.prog 54 #[.map (some m)] w fun e w' =>
    e = .returned (.func (.func 64) #[] #[.pointer (some ⟨w.heap.size, 0, none⟩)]) ∧ w' = w.alloc (.cells #[.map (some m)] 68) :=
  (callsIn_wide (n := 5)).1 (AnyZI.keys_in keysI_lays Fence.wide 5 trivial rfl (some m) w)

theorem sorted_call {m : Nat} {L : List (Option (List Nat))} {w : World} (h : MapAt w m L) : Calls Try.prog 53 #[.func (.func 64) #[] #[.pointer (some ⟨w.heap.size, 0, none⟩)]] (w.alloc (.cells #[.map (some m)] 68)) fun e w' =>
    ∃ v, e = .returned v ∧ Ints.Own w.heap.size w' v ((Dk.listL 0 L).map fun x : Nat => (x : Int)) ∧ Below w.heap.size w w' := by
  have hbl := h.lt
  have hseq : SeqGives Fence.wide 2 Try.prog 64 #[.pointer (some ⟨w.heap.size, 0, none⟩)] encZ (fun ss => ss.Perm (intKeys (mapD L))) (Maps.size (mapD L)) (w.alloc (.cells #[.map (some m)] 68)) :=
    AnyZI.keys_gives (ρ := keysI_ren) { keysI_lays with } Fence.wide _ trivial rfl (by omega) w.heap.size m _ (mapD L) _ (by simp) (by simp) (h.own.alloc _)
  have hc := count_le L
  have hl := h.len
  have cS := AnyZI.sorted_in sortedI_lays Fence.wide 5 trivial trivial trivial trivial rfl (by omega) (sorts_in _) (enters_of Try.func63 (by kernel_rfl) rfl) 64 #[.pointer (some ⟨w.heap.size, 0, none⟩)] trivial (enters_of Try.func64 (by kernel_rfl) rfl) _ _ (by rw [size_mapD]; unfold maxLen; omega) (by rw [size_mapD]; omega) _ hseq
  refine (callsIn_wide (n := 5)).1 (cS.mono ?_)
  rintro e w' ⟨v, ss, rfl, hS, hrow, _, hb⟩
  have hb1 : Below w.heap.size w (w.alloc (.cells #[.map (some m)] 68)) := (Below.refl _ w).alloc (Nat.le_refl _) _
  have hrow' := ownsRow_base_a hrow (show w.heap.size ≤ _ by simp)
  rw [sorted_keys hS] at hrow'
  have hlen : ss.length = ((Dk.listL 0 L).map fun x : Nat => (x : Int)).length := by rw [← sorted_keys hS]; exact (List.mergeSort_perm _ _).length_eq.symm
  rw [hlen] at hrow'
  refine ⟨v, rfl, ⟨hrow', fun x hx => ?_, ?_⟩, hb1.trans (hb.mono (by simp))⟩
  · obtain ⟨y, hy, rfl⟩ := List.mem_map.1 hx
    have := (listL_rising L 0).2 y hy
    exact okk_small y (by omega)
  · rw [← hlen, hS.length_eq]
    have : (intKeys (mapD L)).length = (ents 0 L).length := by simp [intKeys, mapD]
    rw [this, ents_length]; omega

theorem waits_any {B m1 m2 : Nat} {d : Dk.Dev} {w : World} (h : PDev w B m1 m2 d) :
    Calls Try.prog 43 #[.pointer (some ⟨B, 0, none⟩)] w fun e w' => ∃ u, e = .returned u ∧ Ints.Own w.heap.size w' u ((Dk.list d).map fun x : Nat => (x : Int)) ∧ Below w.heap.size w w' := by
  have hn := none_any h
  have c3 := h.c3
  have HW := Lib.hid h.waits
  have hk := keys_call m2 w
  have hs := sorted_call h.waits
  clear h
  go_enter Try.func43, Try.ntmps43
  go_wp2_with (go_at_call 42; refine hn.mono ?_; rintro e w' ⟨rfl, rfl⟩)
  refine hk.mono ?_
  rintro e w1 ⟨rfl, rfl⟩
  go_wp2_with fail
  refine hs.mono ?_
  rintro e w1 ⟨v, rfl, hO, hb⟩
  have HO := Lib.hid hO
  have HB := Lib.hid hb
  clear hO hb hs hk
  go_wp2_with fail
  go_ret
  exact ⟨v, rfl, HO.out, HB.out⟩
end Go.Proofs.Ytkmkbjjpbodbfaa
