/- The library's keys, sorted and clone of a map, found in this program: each function is the library's own text, each type is what it is there. The numbers of the sectors that wait, of the program's device: the library's sorted keys of a map, in this program. Conditions: the device's blocks. What lasts of a sector behind a crash, by the program. Conditions: both sectors are whole. A crash, sector by sector of those that wait, plainly. Conditions: none. What the program's device makes of a crash. Conditions: the device's blocks; the picks are none of them. -/
import Derived.Shelf.SlLaysZI
import Derived.Shelf.SlLaysM
import Derived.Test.YtafpjcobagofcaaGreatProg
import Derived.Test.YtafpjcobagofcaaGreatChecked
import Derived.KernelRfl
import Derived.Test.YtafpjcobagofcaaGreatDkM
import Derived.Shelf.SlIterI.Nil
import Derived.Shelf.SortM.Plain
import Derived.Shelf.SortM.SortNone
import Derived.Test.YtafpjcobagofcaaGreatBase
import Derived.Laws.CopyRow
namespace Go.Proofs.YtafpjcobagofcaaGreat
open Go.Shelf

def keysI_ren : Go.Shelf.Ren := ⟨fun | 7 => 62 | 10 => 96 | n => n, fun | 23 => 56 | 26 => 3 | 3 => 76 | 28 => 104 | 0 => 0 | 27 => 103 | 33 => 130 | 4 => 4 | n => n, fun n => n⟩

theorem keysI_lays : Go.Proofs.SlLaysZI.n7 Tryz.prog keysI_ren := {
  mixed := by kernel_rfl,
  f7 := ⟨Tryz.f62.name, by decide, Tryz.func62.trans (congrArg some (by kernel_rfl))⟩,
  f10 := ⟨Tryz.f96.name, by decide, Tryz.func96.trans (congrArg some (by kernel_rfl))⟩,
  t0 := Tryz.underlying0,
  a0 := Tryz.isAgg0,
  z0 := Tryz.sizeOf0,
  v0 := Tryz.zeroValue0,
  t4 := Tryz.underlying4,
  a4 := Tryz.isAgg4,
  z4 := Tryz.sizeOf4,
  v4 := Tryz.zeroValue4,
  t23 := Tryz.underlying56,
  a23 := Tryz.isAgg56,
  z23 := Tryz.sizeOf56,
  v23 := Tryz.zeroValue56,
  t26 := Tryz.underlying3,
  a26 := Tryz.isAgg3,
  z26 := Tryz.sizeOf3,
  v26 := Tryz.zeroValue3,
  t27 := Tryz.underlying103,
  a27 := Tryz.isAgg103,
  z27 := Tryz.sizeOf103,
  v27 := Tryz.zeroValue103,
  t28 := Tryz.underlying104,
  a28 := Tryz.isAgg104,
  z28 := Tryz.sizeOf104,
  v28 := Tryz.zeroValue104,
  t33 := Tryz.underlying130,
  a33 := Tryz.isAgg130,
  z33 := Tryz.sizeOf130,
  v33 := Tryz.zeroValue130 }

def sortedI_ren : Go.Shelf.Ren := ⟨fun | 6 => 61 | 8 => 94 | 9 => 95 | 11 => 115 | 13 => 117 | 12 => 116 | 23 => 130 | 24 => 118 | 14 => 121 | 15 => 122 | 16 => 123 | 17 => 124 | 18 => 125 | 19 => 126 | 20 => 127 | 21 => 128 | 22 => 129 | 25 => 131 | 26 => 132 | 27 => 133 | 28 => 134 | 29 => 135 | 30 => 136 | 31 => 137 | n => n, fun | 26 => 3 | 28 => 104 | 24 => 53 | 0 => 0 | 3 => 3 | 37 => 86 | 48 => 34 | 50 => 30 | 4 => 4 | 40 => 156 | 39 => 155 | 45 => 67 | 5 => 5 | 9 => 9 | 51 => 163 | 55 => 166 | 57 => 168 | 58 => 169 | 33 => 130 | n => n, fun n => n⟩

theorem sortedI_lays : Go.Proofs.SlLaysZI.n6 Tryz.prog sortedI_ren := {
  mixed := by kernel_rfl,
  f6 := ⟨Tryz.f61.name, by decide, Tryz.func61.trans (congrArg some (by kernel_rfl))⟩,
  f8 := ⟨Tryz.f94.name, by decide, Tryz.func94.trans (congrArg some (by kernel_rfl))⟩,
  f11 := ⟨Tryz.f115.name, by decide, Tryz.func115.trans (congrArg some (by kernel_rfl))⟩,
  t0 := Tryz.underlying0,
  a0 := Tryz.isAgg0,
  z0 := Tryz.sizeOf0,
  v0 := Tryz.zeroValue0,
  t24 := Tryz.underlying53,
  a24 := Tryz.isAgg53,
  z24 := Tryz.sizeOf53,
  v24 := Tryz.zeroValue53,
  t26 := Tryz.underlying3,
  a26 := Tryz.isAgg3,
  z26 := Tryz.sizeOf3,
  v26 := Tryz.zeroValue3,
  t28 := Tryz.underlying104,
  a28 := Tryz.isAgg104,
  z28 := Tryz.sizeOf104,
  v28 := Tryz.zeroValue104,
  i26 := by kernel_rfl }

def sortI_ren : Go.Shelf.Ren := ⟨fun | 5 => 95 | 8 => 117 | 7 => 116 | 19 => 130 | 20 => 118 | 10 => 121 | 11 => 122 | 12 => 123 | 13 => 124 | 14 => 125 | 15 => 126 | 16 => 127 | 17 => 128 | 18 => 129 | 30 => 131 | 31 => 132 | 32 => 133 | 33 => 134 | 34 => 135 | 35 => 136 | 40 => 137 | n => n, fun | 23 => 53 | 25 => 3 | 3 => 3 | 32 => 86 | 22 => 53 | 0 => 0 | 44 => 34 | 46 => 30 | 4 => 4 | 36 => 156 | 35 => 155 | 41 => 67 | 5 => 5 | 9 => 9 | 53 => 163 | 57 => 166 | 63 => 168 | 64 => 169 | n => n, fun n => n⟩

theorem sortI_lays : Go.Proofs.SlLaysM.n5 Tryz.prog sortI_ren := {
  mixed := by kernel_rfl,
  f5 := ⟨Tryz.f95.name, by decide, Tryz.func95.trans (congrArg some (by kernel_rfl))⟩,
  f7 := ⟨Tryz.f116.name, by decide, Tryz.func116.trans (congrArg some (by kernel_rfl))⟩,
  f8 := Tryz.func117.trans (congrArg some (by kernel_rfl)),
  f10 := ⟨Tryz.f121.name, by decide, Tryz.func121.trans (congrArg some (by kernel_rfl))⟩,
  f11 := ⟨Tryz.f122.name, by decide, Tryz.func122.trans (congrArg some (by kernel_rfl))⟩,
  f12 := ⟨Tryz.f123.name, by decide, Tryz.func123.trans (congrArg some (by kernel_rfl))⟩,
  f13 := ⟨Tryz.f124.name, by decide, Tryz.func124.trans (congrArg some (by kernel_rfl))⟩,
  f14 := ⟨Tryz.f125.name, by decide, Tryz.func125.trans (congrArg some (by kernel_rfl))⟩,
  f15 := ⟨Tryz.f126.name, by decide, Tryz.func126.trans (congrArg some (by kernel_rfl))⟩,
  f16 := ⟨Tryz.f127.name, by decide, Tryz.func127.trans (congrArg some (by kernel_rfl))⟩,
  f17 := ⟨Tryz.f128.name, by decide, Tryz.func128.trans (congrArg some (by kernel_rfl))⟩,
  f18 := ⟨Tryz.f129.name, by decide, Tryz.func129.trans (congrArg some (by kernel_rfl))⟩,
  f19 := Tryz.func130.trans (congrArg some (by kernel_rfl)),
  f20 := Tryz.func118.trans (congrArg some (by kernel_rfl)),
  f30 := ⟨Tryz.f131.name, by decide, Tryz.func131.trans (congrArg some (by kernel_rfl))⟩,
  f31 := Tryz.func132.trans (congrArg some (by kernel_rfl)),
  f32 := Tryz.func133.trans (congrArg some (by kernel_rfl)),
  f33 := ⟨Tryz.f134.name, by decide, Tryz.func134.trans (congrArg some (by kernel_rfl))⟩,
  f34 := ⟨Tryz.f135.name, by decide, Tryz.func135.trans (congrArg some (by kernel_rfl))⟩,
  f35 := ⟨Tryz.f136.name, by decide, Tryz.func136.trans (congrArg some (by kernel_rfl))⟩,
  f40 := ⟨Tryz.f137.name, by decide, Tryz.func137.trans (congrArg some (by kernel_rfl))⟩,
  t0 := Tryz.underlying0,
  a0 := Tryz.isAgg0,
  z0 := Tryz.sizeOf0,
  v0 := Tryz.zeroValue0,
  t3 := Tryz.underlying3,
  a3 := Tryz.isAgg3,
  z3 := Tryz.sizeOf3,
  v3 := Tryz.zeroValue3,
  t4 := Tryz.underlying4,
  a4 := Tryz.isAgg4,
  z4 := Tryz.sizeOf4,
  v4 := Tryz.zeroValue4,
  t5 := Tryz.underlying5,
  a5 := Tryz.isAgg5,
  z5 := Tryz.sizeOf5,
  v5 := Tryz.zeroValue5,
  t9 := Tryz.underlying9,
  a9 := Tryz.isAgg9,
  z9 := Tryz.sizeOf9,
  v9 := Tryz.zeroValue9,
  t22 := Tryz.underlying53,
  a22 := Tryz.isAgg53,
  z22 := Tryz.sizeOf53,
  v22 := Tryz.zeroValue53,
  t23 := Tryz.underlying53,
  a23 := Tryz.isAgg53,
  z23 := Tryz.sizeOf53,
  v23 := Tryz.zeroValue53,
  t25 := Tryz.underlying3,
  a25 := Tryz.isAgg3,
  z25 := Tryz.sizeOf3,
  v25 := Tryz.zeroValue3,
  t32 := Tryz.underlying86,
  a32 := Tryz.isAgg86,
  z32 := Tryz.sizeOf86,
  v32 := Tryz.zeroValue86,
  t35 := Tryz.underlying155,
  a35 := Tryz.isAgg155,
  z35 := Tryz.sizeOf155,
  v35 := Tryz.zeroValue155,
  t36 := Tryz.underlying156,
  a36 := Tryz.isAgg156,
  z36 := Tryz.sizeOf156,
  v36 := Tryz.zeroValue156,
  t41 := Tryz.underlying67,
  a41 := Tryz.isAgg67,
  z41 := Tryz.sizeOf67,
  v41 := Tryz.zeroValue67,
  t44 := Tryz.underlying34,
  a44 := Tryz.isAgg34,
  z44 := Tryz.sizeOf34,
  v44 := Tryz.zeroValue34,
  t46 := Tryz.underlying30,
  a46 := Tryz.isAgg30,
  z46 := Tryz.sizeOf30,
  v46 := Tryz.zeroValue30,
  t53 := Tryz.underlying163,
  a53 := Tryz.isAgg163,
  z53 := Tryz.sizeOf163,
  v53 := Tryz.zeroValue163,
  t57 := Tryz.underlying166,
  a57 := Tryz.isAgg166,
  z57 := Tryz.sizeOf166,
  v57 := Tryz.zeroValue166,
  t63 := Tryz.underlying168,
  a63 := Tryz.isAgg168,
  z63 := Tryz.sizeOf168,
  v63 := Tryz.zeroValue168,
  t64 := Tryz.underlying169,
  a64 := Tryz.isAgg169,
  z64 := Tryz.sizeOf169,
  v64 := Tryz.zeroValue169 }

end Go.Proofs.YtafpjcobagofcaaGreat

namespace Go.Proofs.YtafpjcobagofcaaGreat
open Go.RowKit Go.Maps Go.Sort Go.Shelf

theorem sorts_in (m : Nat) : AnyZI.SortsIn Tryz.prog sortedI_ren Fence.wide m :=
  ⟨fun blk off cap ss W hH hblk hsz => callsIn_wide.2 (AnyM.slices_Sort_int sortI_lays blk off cap ss W hH hblk hsz),
   fun p cap W => callsIn_wide.2 (AnyM.slices_Sort_int_none sortI_lays p cap W)⟩

theorem keys_ents : ∀ (L : List (Option (List Nat))) (i : Nat), intKeys (DataW.map (ents i L)) = (Dk.listL i L).map fun x : Nat => (x : Int)
  | [], _ => rfl
  | none :: r, i => by
    have := keys_ents r (i + 1)
    simpa [ents, Dk.listL] using this
  | some b :: r, i => by
    have := keys_ents r (i + 1)
    simp only [ents, Dk.listL, List.map_cons]
    rw [← this]; rfl
theorem listL_rising : ∀ (ws : List (Option (List Nat))) (i : Nat), (Dk.listL i ws).Pairwise (· < ·) ∧ ∀ x ∈ Dk.listL i ws, i ≤ x ∧ x < i + ws.length
  | [], _ => ⟨List.Pairwise.nil, fun x hx => by cases hx⟩
  | none :: r, i => by
    obtain ⟨h1, h2⟩ := listL_rising r (i + 1)
    exact ⟨h1, fun x hx => by have := h2 x hx; simp only [List.length_cons]; omega⟩
  | some b :: r, i => by
    obtain ⟨h1, h2⟩ := listL_rising r (i + 1)
    refine ⟨List.Pairwise.cons (fun y hy => by have := h2 y hy; omega) h1, fun x hx => ?_⟩
    rcases List.mem_cons.1 hx with rfl | hx
    · simp only [List.length_cons]; omega
    · have := h2 x hx; simp only [List.length_cons]; omega
theorem sorted_keys {ss : List Int} {L : List (Option (List Nat))} (h : ss.Perm (intKeys (mapD L))) : ss.mergeSort (fun x y => decide (x ≤ y)) = (Dk.listL 0 L).map fun x : Nat => (x : Int) := by
  rw [show mapD L = DataW.map (ents 0 L) from rfl, keys_ents] at h
  have h1 : (ss.mergeSort fun x y => decide (x ≤ y)).Pairwise (fun x y => x ≤ y) := by
    have := List.pairwise_mergeSort (le := fun x y : Int => decide (x ≤ y)) (by intro a b c h1 h2; simp at *; omega) (by intro a b; simp; omega) ss
    exact this.imp (by intro a b h; simpa using h)
  have h2 : ((Dk.listL 0 L).map fun x : Nat => (x : Int)).Pairwise (fun x y => x ≤ y) :=
    List.pairwise_map.2 ((listL_rising L 0).1.imp fun {a b} h => by omega)
  exact List.Perm.eq_of_pairwise (fun _ _ _ _ h1 h2 => Int.le_antisymm h1 h2) h1 h2 ((List.mergeSort_perm _ _).trans h)

theorem keys_call (m : Nat) (w : World) : Calls Tryz.prog 62 #[.map (some m)] w fun e w' =>
    e = .returned (.func (.func 96) #[] #[.pointer (some ⟨w.heap.size, 0, none⟩)]) ∧ w' = w.alloc (.cells #[.map (some m)] 56) :=
  (callsIn_wide (n := 5)).1 (AnyZI.keys_in keysI_lays Fence.wide 5 trivial rfl (some m) w)

theorem sorted_call {m : Nat} {L : List (Option (List Nat))} {w : World} (h : MapAt w m L) : Calls Tryz.prog 61 #[.func (.func 96) #[] #[.pointer (some ⟨w.heap.size, 0, none⟩)]] (w.alloc (.cells #[.map (some m)] 56)) fun e w' =>
    ∃ v, e = .returned v ∧ Ints.Own w.heap.size w' v ((Dk.listL 0 L).map fun x : Nat => (x : Int)) ∧ Below w.heap.size w w' := by
  have hbl := h.lt
  have hseq : SeqGives Fence.wide 2 Tryz.prog 96 #[.pointer (some ⟨w.heap.size, 0, none⟩)] encZ (fun ss => ss.Perm (intKeys (mapD L))) (Maps.size (mapD L)) (w.alloc (.cells #[.map (some m)] 56)) :=
    AnyZI.keys_gives (ρ := keysI_ren) { keysI_lays with } Fence.wide _ trivial rfl (by omega) w.heap.size m _ (mapD L) _ (by simp) (by simp) (h.own.alloc _)
  have hc := count_le L
  have hl := h.len
  have cS := AnyZI.sorted_in sortedI_lays Fence.wide 5 trivial trivial trivial trivial rfl (by omega) (sorts_in _) (enters_of Tryz.func95 (by kernel_rfl) rfl) 96 #[.pointer (some ⟨w.heap.size, 0, none⟩)] trivial (enters_of Tryz.func96 (by kernel_rfl) rfl) _ _ (by rw [size_mapD]; unfold maxLen; omega) (by rw [size_mapD]; omega) _ hseq
  refine (callsIn_wide (n := 5)).1 (cS.mono ?_)
  rintro e w' ⟨v, ss, rfl, hS, hrow, _, hb⟩
  have hb1 : Below w.heap.size w (w.alloc (.cells #[.map (some m)] 56)) := (Below.refl _ w).alloc (Nat.le_refl _) _
  have hrow' := ownsRow_base_a hrow (show w.heap.size ≤ _ by simp)
  rw [sorted_keys hS] at hrow'
  have hlen : ss.length = ((Dk.listL 0 L).map fun x : Nat => (x : Int)).length := by rw [← sorted_keys hS]; exact (List.mergeSort_perm _ _).length_eq.symm
  rw [hlen] at hrow'
  refine ⟨v, rfl, ⟨hrow', fun x hx => ?_, ?_⟩, hb1.trans (hb.mono (by simp))⟩
  · obtain ⟨y, hy, rfl⟩ := List.mem_map.1 hx
    have := (listL_rising L 0).2 y hy
    exact okk_small y (by omega)
  · rw [← hlen, hS.length_eq]
    have : (intKeys (mapD L)).length = (ents 0 L).length := by simp [intKeys, mapD]
    rw [this, ents_length]; omega

theorem waits_any {B m1 m2 : Nat} {d : Dk.Dev} {w : World} (h : PDev w B m1 m2 d) :
    Calls Tryz.prog 38 #[.pointer (some ⟨B, 0, none⟩)] w fun e w' => ∃ u, e = .returned u ∧ Ints.Own w.heap.size w' u ((Dk.list d).map fun x : Nat => (x : Int)) ∧ Below w.heap.size w w' := by
  have hn := none_any h
  have c3 := h.c3
  have HW := Lib.hid h.waits
  have hk := keys_call m2 w
  have hs := sorted_call h.waits
  clear h
  go_enter Tryz.func38, Tryz.ntmps38
  go_wp2_with (go_at_call 37; refine hn.mono ?_; rintro e w' ⟨rfl, rfl⟩)
  refine hk.mono ?_
  rintro e w1 ⟨rfl, rfl⟩
  go_wp2_with fail
  refine hs.mono ?_
  rintro e w1 ⟨v, rfl, hO, hb⟩
  have HO := Lib.hid hO
  have HB := Lib.hid hb
  clear hO hb hs hk
  go_wp2_with fail
  go_ret
  exact ⟨v, rfl, HO.out, HB.out⟩
end Go.Proofs.YtafpjcobagofcaaGreat

namespace Go.Proofs.YtafpjcobagofcaaGreat
open Go.RowKit

theorem bytesV_append (a b : List Nat) : bytesV (a ++ b) = bytesV a ++ bytesV b := by simp [bytesV]
theorem bytesV_take (a : List Nat) (n : Nat) : bytesV (a.take n) = (bytesV a).take n := by simp [bytesV, List.map_take]
theorem bytesV_drop (a : List Nat) (n : Nat) : bytesV (a.drop n) = (bytesV a).drop n := by simp [bytesV, List.map_drop]
theorem bytesV_one (b : List Nat) : ∀ v ∈ bytesV b, v.oneCell' = true := by
  intro x hx
  obtain ⟨y, _, rfl⟩ := List.mem_map.1 hx
  rfl
theorem info_byte : (Tryz.prog.info? 5).map (·.size) = some 1 := by kernel_rfl
/-- A part of the one sector is copied over the same part of the other. -/
theorem copy_part {w : World} {g h o : Nat} {a b : List Nat} (ha : SecAt w g a) (hb : SecAt w h b) (hla : a.length = 128) (hlb : b.length = 128) (ho : o = 0 ∨ o = 64) (c1 c2 : Nat) :
    ∃ w', (∀ ty, (Builtin.copy_ #[36, 36] ty #[.slice (some ⟨g, o, none⟩) 64 c1, .slice (some ⟨h, o, none⟩) 64 c2]).run Tryz.prog w = .ok (.int .i64 64) w') ∧
      SecAt w' g (a.take o ++ (b.drop o).take 64 ++ a.drop (o + 64)) ∧ Touch (· = g) w w' := by
  have hcs : (bytesV ((b.drop o).take 64)).length = 64 := by rw [bytesV_length, List.length_take, List.length_drop]; omega
  refine ⟨_, fun ty => ?_, setRow_heap _ _ _ (bytesV (a.take o ++ (b.drop o).take 64 ++ a.drop (o + 64))).toArray _ _ ha, ⟨rfl, rfl, rfl, by simp, fun i _ hi => setRow_other w g i _ hi⟩⟩
  have hr := run_copy_row Tryz.prog w 36 36 ty 5 g o 64 c1 ⟨h, o, none⟩ 64 c2 (bytesV a).toArray _ (bytesV ((b.drop o).take 64)) Tryz.underlying36 info_byte ha (by rw [hcs]; rfl) (fun j v hv => by
    have hadd : (⟨h, o, none⟩ : Addr).add j = ⟨h, o + j, none⟩ := by unfold Addr.add; split <;> simp_all
    have hj : j < 64 := by
      rcases Nat.lt_or_ge j 64 with hh | hh
      · exact hh
      · rw [List.getElem?_eq_none (by omega)] at hv; cases hv
    rw [hadd, hb.cell (by omega), ← hv, bytesV_take, bytesV_drop, List.getElem?_take, if_pos hj, List.getElem?_drop]
    simp [bytesV, List.getD_eq_getElem?_getD, show o + j < b.length by omega]) (by rw [hcs, List.size_toArray, bytesV_length]; omega) (bytesV_one _)
  rw [hr, hcs]
  have e : (bytesV a).toArray.toList.take o ++ bytesV ((b.drop o).take 64) ++ (bytesV a).toArray.toList.drop (o + 64) = bytesV (a.take o ++ (b.drop o).take 64 ++ a.drop (o + 64)) := by
    rw [bytesV_append, bytesV_append, bytesV_take a, bytesV_drop a]
  rw [e]
  rfl

def ToF (g3 g4 o c : Nat) (i : Nat) (x : Value) (_ : World) : Prop :=
  match i with
  | 0 => x = .slice (some ⟨g3, o, none⟩) 64 c
  | 1 => x = .slice (some ⟨g4, o, none⟩) 64 c
  | _ => True
def ToR (W : World) (g3 : Nat) (r : List Nat) (D : Nat → Bool) (_ : Nat → Value) (w : World) : Prop :=
  Touch (· = g3) W w ∧ (D 2 = false → Touch (fun _ => False) W w) ∧ (D 2 = true → SecAt w g3 r)

theorem pick_cases (p : Nat) (a b : List Nat) (ha : a.length = 128) (hb : b.length = 128) :
    (p % 4 = 0 ∧ Dk.pick p a b = a) ∨ (p % 4 = 1 ∧ Dk.pick p a b = b) ∨ (p % 4 = 2 ∧ Dk.pick p a b = a.take 0 ++ (b.drop 0).take 64 ++ a.drop (0 + 64)) ∨ (p % 4 = 3 ∧ Dk.pick p a b = a.take 64 ++ (b.drop 64).take 64 ++ a.drop (64 + 64)) := by
  unfold Dk.pick
  have h : p % 4 = 0 ∨ p % 4 = 1 ∨ p % 4 = 2 ∨ p % 4 = 3 := by omega
  rcases h with h | h | h | h
  · exact Or.inl ⟨h, by rw [if_pos h]⟩
  · exact Or.inr (Or.inl ⟨h, by rw [if_neg (by omega), if_pos h]⟩)
  · exact Or.inr (Or.inr (Or.inl ⟨h, by rw [if_neg (by omega), if_neg (by omega), if_pos h]; simp⟩))
  · refine Or.inr (Or.inr (Or.inr ⟨h, ?_⟩))
    rw [if_neg (by omega), if_neg (by omega), if_neg (by omega), List.take_of_length_le (l := b.drop 64) (by rw [List.length_drop]; omega), List.drop_of_length_le (l := a) (by omega), List.append_nil]

set_option maxHeartbeats 3200000 in
set_option maxRecDepth 20000 in
theorem torn_any (a b : List Nat) (p : Nat) (w : World) (ha : Dk.Sec a) (hb : Dk.Sec b) (hp : p < 256) :
    Calls Tryz.prog 39 #[av a, av b, .int .u8 (p : Int)] w fun e w' => e = .returned (av (Dk.pick p a b)) ∧ Below w.heap.size w w' := by
  have hla := ha.1
  have hlb := hb.1
  have hz := zero_arr.1
  have hrem : ((p : Int) % 4) = ((p % 4 : Nat) : Int) := by omega
  unfold av
  obtain ⟨W, hW⟩ : ∃ W, W = ((w.alloc (.cells (bytesV a).toArray 76)).alloc (.cells (bytesV b).toArray 76)).alloc (.cells (bytesV Dk.blank).toArray 76) := ⟨_, rfl⟩
  have hb0 : Below w.heap.size w W := by rw [hW]; exact (((Below.refl _ _).alloc (Nat.le_refl _) _).alloc (by simp) _).alloc (by simp; omega) _
  have h3 : SecAt W w.heap.size a := by
    rw [hW]
    show (World.alloc _ _).heap[_]? = _
    rw [Below.heap_alloc _ _ _ (by simp; omega), Below.heap_alloc _ _ _ (by simp)]
    exact heap_alloc_last _ _
  have h4 : SecAt W (w.heap.size + 1) b := by
    rw [hW]
    show (World.alloc _ _).heap[_]? = _
    rw [Below.heap_alloc _ _ _ (by simp)]
    have := heap_alloc_last (w.alloc (.cells (bytesV a).toArray 76)) (.cells (bytesV b).toArray 76)
    rwa [show (w.alloc (.cells (bytesV a).toArray 76)).heap.size = w.heap.size + 1 by simp] at this
  have h6 : SecAt W (w.heap.size + 1 + 1) Dk.blank := by
    rw [hW]
    have := heap_alloc_last ((w.alloc (.cells (bytesV a).toArray 76)).alloc (.cells (bytesV b).toArray 76)) (.cells (bytesV Dk.blank).toArray 76)
    rwa [show ((w.alloc (.cells (bytesV a).toArray 76)).alloc (.cells (bytesV b).toArray 76)).heap.size = w.heap.size + 1 + 1 by simp] at this
  have H3 := Lib.hid h3
  have H4 := Lib.hid h4
  have H6 := Lib.hid h6
  have HB0 := Lib.hid hb0
  have HW := Lib.hid hW
  have HLA := Lib.hid hla
  have HLB := Lib.hid hlb
  obtain ⟨g, hg⟩ : ∃ g, w.heap.size = g := ⟨_, rfl⟩
  have hpc := pick_cases p a b hla hlb
  clear hW hb0 h3 h4 h6 hla hlb ha hb
  rcases hpc with ⟨hp4, hv⟩ | ⟨hp4, hv⟩ | ⟨hp4, hv⟩ | ⟨hp4, hv⟩ <;> rw [hp4] at hrem <;> rw [hv] <;> clear hv hp4
  · -- 0
    go_enter Tryz.func39, Tryz.ntmps39
    go_upto_region 8 with (fail)
    rw [← HW.out]
    have HG := Lib.hid hg
    rw [hg] at H3 H4 H6 HB0
    have HB1 := Lib.hid HB0.out
    clear hg hz hrem
    go_step
    refine wpList_load_sec rfl (.tmp 3) rfl g rfl _ H3.out HLA.out ?_
    refine wpList_store_sec rfl (.tmp 6) (.tmp 22) rfl (g + 1 + 1) rfl (a) rfl _ H6.out (by decide) HLA.out ?_
    intro w2 r2 t2
    have R2 := Lib.hid r2
    have HBE := Lib.hid (HB1.out.trans (t2.below (base := g) (fun i hi => by rw [hi]; omega) (by have := HB1.out.size; have := HG.out; omega)))
    clear r2 t2
    go_wp2_with fail
    refine bodyPost_ret (v := .agg (bytesV (a)).toArray) ?_ rfl ⟨rfl, by rw [HG.out]; exact HBE.out⟩
    exact results_cell_row rfl _ _ (g + 1 + 1) 76 _ _ _ rfl R2.out Tryz.underlying76 rfl (sec_info HLA.out)
  · -- 1
    go_enter Tryz.func39, Tryz.ntmps39
    go_upto_region 3 with (fail)
    rw [← HW.out]
    have HG := Lib.hid hg
    rw [hg] at H3 H4 H6 HB0
    have HB1 := Lib.hid HB0.out
    clear hg hz hrem
    go_step
    refine wpList_load_sec rfl (.tmp 4) rfl (g + 1) rfl _ H4.out HLB.out ?_
    refine wpList_store_sec rfl (.tmp 6) (.tmp 11) rfl (g + 1 + 1) rfl (b) rfl _ H6.out (by decide) HLB.out ?_
    intro w2 r2 t2
    have R2 := Lib.hid r2
    have HBE := Lib.hid (HB1.out.trans (t2.below (base := g) (fun i hi => by rw [hi]; omega) (by have := HB1.out.size; have := HG.out; omega)))
    clear r2 t2
    go_wp2_with fail
    refine bodyPost_ret (v := .agg (bytesV (b)).toArray) ?_ rfl ⟨rfl, by rw [HG.out]; exact HBE.out⟩
    exact results_cell_row rfl _ _ (g + 1 + 1) 76 _ _ _ rfl R2.out Tryz.underlying76 rfl (sec_info HLB.out)
  · -- 2
    go_enter Tryz.func39, Tryz.ntmps39
    go_upto_region 5 with (fail)
    rw [← HW.out]
    have HG := Lib.hid hg
    rw [hg] at H3 H4 H6 HB0
    have HB1 := Lib.hid HB0.out
    clear hg hz hrem
    refine Ord.walk (ToF g (g + 1) 0 128) (ToR W g (a.take 0 ++ (b.drop 0).take 64 ++ a.drop (0 + 64))) (fun _ _ => True)
      (by kernel_rfl) (by kernel_rfl) ?frP2 ?hfrP2 (fun _ _ _ _ _ h => h) ?hsP2 ?heP2 ?hendP2
    case hsP2 => exact fun _ => ⟨(Touch.refl _ _).drew, fun _ => (Touch.refl _ _).drew, fun h => by cases h⟩
    case hfrP2 =>
      intro xs
      simp only [Ord.fill, Act.put, List.setIfInBounds_toArray, List.set_cons_zero, List.set_cons_succ]
      rfl
    case heP2 =>
      refine Ord.each_cons (fun D xs w2 hD hC hP hR hA K hK => ?_) ?_
      · -- 0
        clear hA
        go_simp
        exact hK _ _ ⟨_, rfl, trivial, hR, rfl⟩
      refine Ord.each_cons (fun D xs w2 hD hC hP hR hA K hK => ?_) ?_
      · -- 1
        clear hA
        go_simp
        exact hK _ _ ⟨_, rfl, trivial, hR, rfl⟩
      refine Ord.each_cons (fun D xs w2 hD hC hP hR hA K hK => ?_) ?_
      · -- 2
        have q0 := Ord.ahead_get _ hA 0 (by decide)
        simp only [ToF] at q0
        have q1 := Ord.ahead_get _ hA 1 (by decide)
        simp only [ToF] at q1
        simp only [q0, q1] at hK
        clear hA
        have hn := hR.2.1 hD
        obtain ⟨w9, hrun, hs9, ht9⟩ := copy_part (w := w2) (o := 0) (H3.out.touch hn id) (H4.out.touch hn id) HLA.out HLB.out (by decide) 128 128
        go_simp
        exact hK _ _ ⟨_, rfl, trivial, ⟨hR.1.trans ht9, fun h => (by cases h), fun _ => hs9⟩, trivial⟩
      exact Ord.each_nil
    case hendP2 =>
      intro D xs w9 hR hF
      have hs9 := hR.2.2 (hF 2 (by decide)).1
      have H6 := Lib.hid (H6.out.touch hR.1 (by omega))
      have HB1 := Lib.hid (HB1.out.trans (hR.1.below (base := g) (fun i hi => by rw [hi]; exact Nat.le_refl _) (by have := HB1.out.size; have := HG.out; omega)))
      have H3 := Lib.hid hs9
      have hlr : (a.take 0 ++ (b.drop 0).take 64 ++ a.drop (0 + 64)).length = 128 := by simp only [List.length_append, List.length_take, List.length_drop, HLA.out, HLB.out]; rfl
      have HLR := Lib.hid hlr
      clear hs9 hR hF hlr
      generalize xs 0 = z0
      generalize xs 1 = z1
      generalize xs 2 = z2
      obtain ⟨r, hr⟩ : ∃ r, a.take 0 ++ (b.drop 0).take 64 ++ a.drop (0 + 64) = r := ⟨_, rfl⟩
      rw [hr] at HLR H3
      have HRR := Lib.hid hr
      clear hr
      go_upto_region 8 with (fail)
      go_step
      refine wpList_load_sec rfl (.tmp 3) rfl g rfl _ H3.out HLR.out ?_
      refine wpList_store_sec rfl (.tmp 6) (.tmp 22) rfl (g + 1 + 1) rfl (r) rfl _ H6.out (by decide) HLR.out ?_
      intro w2 r2 t2
      have R2 := Lib.hid r2
      have HBE := Lib.hid (HB1.out.trans (t2.below (base := g) (fun i hi => by rw [hi]; omega) (by have := HB1.out.size; have := HG.out; omega)))
      clear r2 t2
      go_wp2_with fail
      refine bodyPost_ret (v := .agg (bytesV (r)).toArray) ?_ rfl ⟨by rw [← HRR.out], by rw [HG.out]; exact HBE.out⟩
      exact results_cell_row rfl _ _ (g + 1 + 1) 76 _ _ _ rfl R2.out Tryz.underlying76 rfl (sec_info HLR.out)
  · -- 3
    go_enter Tryz.func39, Tryz.ntmps39
    go_upto_region 7 with (fail)
    rw [← HW.out]
    have HG := Lib.hid hg
    rw [hg] at H3 H4 H6 HB0
    have HB1 := Lib.hid HB0.out
    clear hg hz hrem
    refine Ord.walk (ToF g (g + 1) 64 64) (ToR W g (a.take 64 ++ (b.drop 64).take 64 ++ a.drop (64 + 64))) (fun _ _ => True)
      (by kernel_rfl) (by kernel_rfl) ?frP3 ?hfrP3 (fun _ _ _ _ _ h => h) ?hsP3 ?heP3 ?hendP3
    case hsP3 => exact fun _ => ⟨(Touch.refl _ _).drew, fun _ => (Touch.refl _ _).drew, fun h => by cases h⟩
    case hfrP3 =>
      intro xs
      simp only [Ord.fill, Act.put, List.setIfInBounds_toArray, List.set_cons_zero, List.set_cons_succ]
      rfl
    case heP3 =>
      refine Ord.each_cons (fun D xs w2 hD hC hP hR hA K hK => ?_) ?_
      · -- 0
        clear hA
        go_simp
        exact hK _ _ ⟨_, rfl, trivial, hR, rfl⟩
      refine Ord.each_cons (fun D xs w2 hD hC hP hR hA K hK => ?_) ?_
      · -- 1
        clear hA
        go_simp
        exact hK _ _ ⟨_, rfl, trivial, hR, rfl⟩
      refine Ord.each_cons (fun D xs w2 hD hC hP hR hA K hK => ?_) ?_
      · -- 2
        have q0 := Ord.ahead_get _ hA 0 (by decide)
        simp only [ToF] at q0
        have q1 := Ord.ahead_get _ hA 1 (by decide)
        simp only [ToF] at q1
        simp only [q0, q1] at hK
        clear hA
        have hn := hR.2.1 hD
        obtain ⟨w9, hrun, hs9, ht9⟩ := copy_part (w := w2) (o := 64) (H3.out.touch hn id) (H4.out.touch hn id) HLA.out HLB.out (by decide) 64 64
        go_simp
        exact hK _ _ ⟨_, rfl, trivial, ⟨hR.1.trans ht9, fun h => (by cases h), fun _ => hs9⟩, trivial⟩
      exact Ord.each_nil
    case hendP3 =>
      intro D xs w9 hR hF
      have hs9 := hR.2.2 (hF 2 (by decide)).1
      have H6 := Lib.hid (H6.out.touch hR.1 (by omega))
      have HB1 := Lib.hid (HB1.out.trans (hR.1.below (base := g) (fun i hi => by rw [hi]; exact Nat.le_refl _) (by have := HB1.out.size; have := HG.out; omega)))
      have H3 := Lib.hid hs9
      have hlr : (a.take 64 ++ (b.drop 64).take 64 ++ a.drop (64 + 64)).length = 128 := by simp only [List.length_append, List.length_take, List.length_drop, HLA.out, HLB.out]; rfl
      have HLR := Lib.hid hlr
      clear hs9 hR hF hlr
      generalize xs 0 = z0
      generalize xs 1 = z1
      generalize xs 2 = z2
      obtain ⟨r, hr⟩ : ∃ r, a.take 64 ++ (b.drop 64).take 64 ++ a.drop (64 + 64) = r := ⟨_, rfl⟩
      rw [hr] at HLR H3
      have HRR := Lib.hid hr
      clear hr
      go_upto_region 8 with (fail)
      go_step
      refine wpList_load_sec rfl (.tmp 3) rfl g rfl _ H3.out HLR.out ?_
      refine wpList_store_sec rfl (.tmp 6) (.tmp 22) rfl (g + 1 + 1) rfl (r) rfl _ H6.out (by decide) HLR.out ?_
      intro w2 r2 t2
      have R2 := Lib.hid r2
      have HBE := Lib.hid (HB1.out.trans (t2.below (base := g) (fun i hi => by rw [hi]; omega) (by have := HB1.out.size; have := HG.out; omega)))
      clear r2 t2
      go_wp2_with fail
      refine bodyPost_ret (v := .agg (bytesV (r)).toArray) ?_ rfl ⟨by rw [← HRR.out], by rw [HG.out]; exact HBE.out⟩
      exact results_cell_row rfl _ _ (g + 1 + 1) 76 _ _ _ rfl R2.out Tryz.underlying76 rfl (sec_info HLR.out)
end Go.Proofs.YtafpjcobagofcaaGreat

namespace Go.Proofs.YtafpjcobagofcaaGreat.Dk

theorem listL_length : ∀ (ws : List (Option (List Nat))) (i : Nat), (listL i ws).length = ws.countP Option.isSome
  | [], _ => rfl
  | none :: r, i => by rw [listL, listL_length r]; simp
  | some b :: r, i => by rw [listL, List.length_cons, listL_length r]; simp
theorem listL_get : ∀ (ws : List (Option (List Nat))) (i j : Nat), j < (listL i ws).length → ∃ m b, (listL i ws).getD j 0 = i + m ∧ m < ws.length ∧ ws.getD m none = some b ∧ (ws.take m).countP Option.isSome = j
  | [], _, _, h => by simp [listL] at h
  | none :: r, i, j, h => by
    obtain ⟨m, b, h1, h2, h3, h4⟩ := listL_get r (i + 1) j h
    refine ⟨m + 1, b, ?_, by simp; omega, by simpa using h3, by simpa using h4⟩
    show (listL (i + 1) r).getD j 0 = _
    omega
  | some c :: r, i, 0, _ => ⟨0, c, by simp [listL], by simp, by simp, by simp⟩
  | some c :: r, i, j + 1, h => by
    obtain ⟨m, b, h1, h2, h3, h4⟩ := listL_get r (i + 1) j (by simpa [listL] using h)
    refine ⟨m + 1, b, ?_, by simp; omega, by simpa using h3, by simpa using h4⟩
    have : (listL i (some c :: r)).getD (j + 1) 0 = (listL (i + 1) r).getD j 0 := by simp [listL]
    omega
theorem cnt_lt {d : Dev} {m n : Nat} (h : m < n) (hl : m < d.waits.length) (hs : (d.waits.getD m none).isSome = true) : cnt d m < (d.waits.take n).countP Option.isSome := by
  have h1 := cnt_next d m hl
  rw [if_pos hs] at h1
  have h2 : (d.waits.take (m + 1)).countP Option.isSome ≤ (d.waits.take n).countP Option.isSome := by
    have e : d.waits.take (m + 1) = (d.waits.take n).take (m + 1) := by rw [List.take_take]; congr 1; omega
    rw [e]
    exact (List.take_sublist _ _).countP_le
  unfold cnt at *
  omega
theorem cnt_inj {d : Dev} {m n : Nat} (h1 : m < d.waits.length) (h2 : n < d.waits.length) (s1 : (d.waits.getD m none).isSome = true) (s2 : (d.waits.getD n none).isSome = true) (h : cnt d m = cnt d n) : m = n := by
  rcases Nat.lt_trichotomy m n with hlt | he | hlt
  · have := cnt_lt hlt h1 s1
    unfold cnt at *; omega
  · exact he
  · have := cnt_lt hlt h2 s2
    unfold cnt at *; omega
theorem cnt_total {d : Dev} {m : Nat} (h1 : m < d.waits.length) (s1 : (d.waits.getD m none).isSome = true) : cnt d m < (list d).length := by
  have := cnt_lt h1 h1 s1
  rw [List.take_length] at this
  unfold list
  rw [listL_length]
  exact this

/-- What the map of lasting sectors tells when the first k of those that waited are done. -/
def crAt (d : Dev) (ps : List Nat) (k : Nat) : List (Option (List Nat)) :=
  (List.range (size d)).map fun i => if (d.waits.getD i none).isSome = true ∧ cnt d i < k then some ((crash d ps).lasts.getD i []) else (seenL d).getD i none
theorem crAt_length (d : Dev) (ps : List Nat) (k : Nat) : (crAt d ps k).length = size d := by simp [crAt]
theorem crAt_getD {d : Dev} {ps : List Nat} {k i : Nat} (hi : i < size d) : (crAt d ps k).getD i none = if (d.waits.getD i none).isSome = true ∧ cnt d i < k then some ((crash d ps).lasts.getD i []) else (seenL d).getD i none := by
  rw [crAt, List.getD_eq_getElem?_getD, List.getElem?_map, List.getElem?_range hi]; rfl
theorem crAt_zero {d : Dev} (h : Ok d) (ps : List Nat) : crAt d ps 0 = seenL d := by
  refine ext_getD none (by rw [crAt_length, seenL_length h]) fun i hi => ?_
  rw [crAt_length] at hi
  rw [crAt_getD hi, if_neg (by omega)]
theorem crAt_full {d : Dev} (h : Own d) (ps : List Nat) : crAt d ps (list d).length = seenL (crash d ps) := by
  have hk := ok_crash h.ok ps
  refine ext_getD none (by rw [crAt_length, seenL_length hk, crashed_size h.ok]) fun i hi => ?_
  rw [crAt_length] at hi
  rw [crAt_getD hi, seenL_getD hk (by rw [crashed_size h.ok]; exact hi)]
  show _ = if d.seen.getD i false then _ else _
  cases hw : d.waits.getD i none with
  | none =>
    rw [if_neg (by rintro ⟨h, _⟩; cases h), seenL_getD h.ok hi, crash_lasts h.ok ps hi, hw]
  | some b =>
    rw [if_pos ⟨rfl, cnt_total (by rw [h.ok.w]; exact hi) (by rw [hw]; rfl)⟩, h.wseen i b hw]; rfl
theorem crAt_next {d : Dev} (h : Own d) (ps : List Nat) {k i : Nat} {b : List Nat} (hi : i < size d) (hw : d.waits.getD i none = some b) (hc : cnt d i = k) :
    (crAt d ps k).set i (some (pick (ps.getD k 0) (d.lasts.getD i []) b)) = crAt d ps (k + 1) := by
  refine ext_getD none (by rw [List.length_set, crAt_length, crAt_length]) fun j hj => ?_
  rw [List.length_set, crAt_length] at hj
  by_cases e : i = j
  · subst e
    rw [getD_set_self (by rw [crAt_length]; exact hi), crAt_getD hi, if_pos ⟨by rw [hw]; rfl, by omega⟩, crash_lasts h.ok ps hi, hw]
    dsimp only
    rw [hc]
  · rw [getD_set_ne e, crAt_getD hj, crAt_getD hj]
    by_cases hs : (d.waits.getD j none).isSome = true
    · have hne : cnt d j ≠ k := fun hk => e (cnt_inj (by rw [h.ok.w]; exact hi) (by rw [h.ok.w]; exact hj) (by rw [hw]; rfl) hs (by omega))
      by_cases hk : cnt d j < k
      · rw [if_pos ⟨hs, hk⟩, if_pos ⟨hs, by omega⟩]
      · rw [if_neg (by rintro ⟨_, h⟩; exact hk h), if_neg (by rintro ⟨_, h⟩; omega)]
    · rw [if_neg (by rintro ⟨h, _⟩; exact hs h), if_neg (by rintro ⟨h, _⟩; exact hs h)]
/-- The k-th sector that waits. -/
theorem list_get {d : Dev} (h : Own d) (ps : List Nat) {k : Nat} (hk : k < (list d).length) :
    ∃ i b, (list d).getD k 0 = i ∧ i < size d ∧ d.waits.getD i none = some b ∧ cnt d i = k ∧ (crAt d ps k).getD i none = some (d.lasts.getD i []) := by
  obtain ⟨m, b, h1, h2, h3, h4⟩ := listL_get d.waits 0 k hk
  rw [h.ok.w] at h2
  refine ⟨m, b, by unfold list; omega, h2, h3, h4, ?_⟩
  rw [crAt_getD h2, if_neg (by unfold cnt; omega), seenL_getD h.ok h2, if_pos (h.wseen m b h3)]
end Go.Proofs.YtafpjcobagofcaaGreat.Dk

namespace Go.Proofs.YtafpjcobagofcaaGreat
open Go.RowKit

/-- One sector's crash: what the operations leave. -/
def Ch (B m1 m2 i : Nat) (a b : List Nat) (p : Nat) (k : Nat) (x : Value) (_ : World) : Prop :=
  match k with
  | 0 => x = .pointer (some ⟨B, 0, none⟩)
  | 1 => x = .pointer (some ⟨B, 0, none⟩)
  | 2 => x = .pointer (some ⟨B, 2, none⟩)
  | 3 => x = .map (some m1)
  | 4 => x = .int .i64 (i : Int)
  | 5 => x = .pointer (some ⟨B, 0, none⟩)
  | 6 => x = .pointer (some ⟨B, 0, none⟩)
  | 7 => x = .pointer (some ⟨B, 2, none⟩)
  | 8 => x = .map (some m1)
  | 9 => x = .int .i64 (i : Int)
  | 10 => x = av a
  | 11 => x = .pointer (some ⟨B, 0, none⟩)
  | 12 => x = .pointer (some ⟨B, 0, none⟩)
  | 13 => x = .pointer (some ⟨B, 3, none⟩)
  | 14 => x = .map (some m2)
  | 15 => x = .int .i64 (i : Int)
  | 16 => x = av b
  | 17 => x = .int .u8 (p : Int)
  | 18 => x = av (Dk.pick p a b)
  | _ => True
def ChR (wr : World) (m1 : Nat) (L : List (Option (List Nat))) (D : Nat → Bool) (_ : Nat → Value) (w : World) : Prop :=
  Touch (· = m1) wr w ∧ (D 19 = false → Touch (fun _ => False) wr w) ∧ (D 19 = true → MapAt w m1 L)

theorem ints_form {base : Nat} {w : World} {v : Value} {l : List Nat} (h : Ints.Own base w v (l.map fun x : Nat => (x : Int))) :
    ∃ p cap, v = .slice p l.length cap ∧ (l.length ≤ cap ∧ cap ≤ 9223372036854775807) ∧ (0 < l.length → ∃ g, p = some ⟨g, 0, none⟩ ∧ base ≤ g ∧ ∀ i, i < l.length → w.cell? ⟨g, i, none⟩ = some (.int .i64 (l.getD i 0 : Nat))) := by
  have hl : (l.map fun x : Nat => (x : Int)).length = l.length := by simp
  rcases h.form with ⟨rfl, ht⟩ | ⟨g, cap, rfl, h1, h2, h3, h4⟩
  · have : l = [] := by simpa using ht
    subst this
    exact ⟨none, 0, rfl, by decide, fun h => absurd h (by decide)⟩
  · refine ⟨some ⟨g, 0, none⟩, cap, by rw [hl], ⟨by omega, by unfold maxLen at h3; omega⟩, fun h0 => ⟨g, rfl, h1, fun i hi => ?_⟩⟩
    obtain ⟨p', cap', hv, _, _, hp⟩ := h.bts.form
    obtain ⟨b, off, hpe, hc⟩ := hp (by omega)
    simp only [Value.slice.injEq] at hv
    rw [← hv.1] at hpe
    simp only [Option.some.injEq, Addr.mk.injEq, and_true] at hpe
    obtain ⟨rfl, rfl⟩ := hpe
    have := hc i (by omega)
    rw [Nat.zero_add] at this
    rw [this]
    simp [List.getD_eq_getElem?_getD, hi]

set_option maxHeartbeats 6400000 in
set_option maxRecDepth 20000 in
theorem crash_any {B m1 m2 : Nat} {d : Dk.Dev} {w : World} (h : PDev w B m1 m2 d) (v : Value) (ps : List Nat) (hB : Bts w v ps) (hv : 0 < ps.length → ∀ g, v.ownBlock = some g → ¬ DS B m1 m2 g) :
    Calls Tryz.prog 22 #[.pointer (some ⟨B, 0, none⟩), v] w fun e w' => e = .returned (.int .i64 0) ∧ PDev w' B m1 m2 (Dk.crash d ps) ∧ Touch (DS B m1 m2) w w' := by
  have hn := none_any h
  have hwt := waits_any h
  have hbl := hB.len
  have HBT := Lib.hid hB
  have HV := Lib.hid hv
  obtain ⟨pp, pcap, rfl, hpcap, -, -⟩ := hB.form
  have HH := Lib.hid h
  have hsz := h.own.size
  have hnl : (Dk.list d).length ≤ 65536 := by
    unfold Dk.list
    rw [Dk.listL_length]
    have := count_le d.waits
    rw [h.own.ok.w] at this
    omega
  clear h hB hv
  go_enter Tryz.func22, Tryz.ntmps22
  go_wp2_with (go_at_call 37; refine hn.mono ?_; rintro e w' ⟨rfl, rfl⟩)
  refine hwt.mono ?_
  rintro e w1 ⟨u, rfl, hO, hb1⟩
  obtain ⟨qp, qcap, rfl, hqcap, hcell⟩ := ints_form hO
  have HCL := Lib.hid hcell
  have HB1 := Lib.hid hb1
  have HP1 := Lib.hid (HH.out.below hb1)
  have HBT1 := Lib.hid (HBT.out.below hb1)
  clear hcell hO hb1 hwt hn
  generalize hnn : (Dk.list d).length = n at *
  go_wp2_with fail
  go_loopw [13] (fun x wr => ∃ k : Nat, k ≤ n ∧ x = .int .i64 k ∧ MapAt wr m1 (Dk.crAt d ps k) ∧ Touch (· = m1) w1 wr) (fun x _ => n - (intOf x).toNat)
  case atStart => exact ⟨0, Nat.zero_le _, rfl, by rw [Dk.crAt_zero HP1.out.own.ok]; exact HP1.out.lasts, .refl _ _⟩
  case round =>
    obtain ⟨k, hk, rfl, hM, hT⟩ := hrel
    have HM := Lib.hid hM
    have HT := Lib.hid hT
    clear hM hT
    have HBK := Lib.hid (HT.out.row HP1.out.blk (fun e => HP1.out.b1 e))
    have HWT := Lib.hid (HP1.out.waits.touch HT.out (fun e => HP1.out.n12 e.symm))
    by_cases hlt : k < n
    · obtain ⟨i, b, hli, hi, hwi, hci, hcr⟩ := Dk.list_get HP1.out.own ps (k := k) (by rw [hnn]; exact hlt)
      obtain ⟨g, rfl, hg, hc⟩ := HCL.out (by omega)
      have hcell := HT.out.cell (hc k hlt) (fun e => by have := HP1.out.lasts.lt; have := HH.out.lasts.lt; simp only at e; omega)
      rw [hli] at hcell
      have hsa : Dk.Sec (d.lasts.getD i []) := HM.out.sec (z := (i : Int)) (by rw [gz_nat]; exact hcr)
      have hsb : Dk.Sec b := HWT.out.sec (z := (i : Int)) (by rw [gz_nat]; exact hwi)
      have hx1 : (gz (Dk.crAt d ps k) (i : Int)).getD Dk.blank = d.lasts.getD i [] := by rw [gz_nat, hcr]; rfl
      have hx2 : (gz d.waits (i : Int)).getD Dk.blank = b := by rw [gz_nat, hwi]; rfl
      have HX1 := Lib.hid hx1
      have HX2 := Lib.hid hx2
      have hnext := Dk.crAt_next HP1.out.own ps hi hwi hci
      have HIC := Lib.hid (show i < (Dk.crAt d ps k).length by rw [Dk.crAt_length]; exact hi)
      have hpk : ps.getD k 0 < 256 := HBT1.out.getD k
      obtain ⟨a, ha⟩ : ∃ a, d.lasts.getD i [] = a := ⟨_, rfl⟩
      rw [ha] at hsa HX1 hnext
      have HSA := Lib.hid hsa
      have HSB := Lib.hid hsb
      have HNX := Lib.hid hnext
      have HIZ := Lib.hid (show i ≤ 65536 by omega)
      obtain ⟨p, hp⟩ : ∃ p, ps.getD k 0 = p := ⟨_, rfl⟩
      rw [hp] at hpk HNX
      have HPK := Lib.hid hpk
      have HLT := Lib.hid hlt
      have hki : (k : Int) < (n : Int) := by omega
      clear hli hci hcr hc hx1 hx2 hsa hsb hnext ha hpk hwi hi hg hlt
      by_cases hkp : k < ps.length
      · have hpc : wr.cell? ⟨0, 0, none⟩ = wr.cell? ⟨0, 0, none⟩ := rfl
        obtain ⟨pg, off, rfl, hpcell⟩ : ∃ pg off, pp = some ⟨pg, off, none⟩ ∧ wr.cell? ⟨pg, off + k, none⟩ = some (.int .u8 (p : Int)) := by
          obtain ⟨p', cap', hv', _, _, hpp⟩ := HBT1.out.form
          simp only [Value.slice.injEq] at hv'
          obtain ⟨b', off', he', hc'⟩ := hpp (by omega)
          refine ⟨b', off', by rw [hv'.1, he'], ?_⟩
          have h1 := hc' k hkp
          rw [hp] at h1
          refine HT.out.cell h1 fun e => ?_
          exact HV.out (by omega) b' (by rw [hv'.1, he']; rfl) (Or.inr (Or.inl e))
        clear hpc hp
        have hkpi : (k : Int) < (ps.length : Int) := by omega
        go_upto_region 9 with (fail)
        clear hcell hpcell
        refine Ord.walk (Ch B m1 m2 i a b p) (ChR wr m1 (Dk.crAt d ps (k + 1))) (fun _ _ => True)
          (by kernel_rfl) (by kernel_rfl) ?frC1 ?hfrC1 (fun _ _ _ _ _ h => h) ?hsC1 ?heC1 ?hendC1
        case hsC1 => exact fun _ => ⟨(Touch.refl _ _).drew, fun _ => (Touch.refl _ _).drew, fun h => by cases h⟩
        case hfrC1 =>
          intro xs
          simp only [Ord.fill, Act.put, List.setIfInBounds_toArray, List.set_cons_zero, List.set_cons_succ]
          rfl
        case heC1 =>
          refine Ord.each_cons (fun D xs w2 hD hC hP hR hA K hK => ?_) ?_
          · -- 0
            clear hA
            go_simp
            exact hK _ _ ⟨_, rfl, trivial, hR, rfl⟩
          refine Ord.each_cons (fun D xs w2 hD hC hP hR hA K hK => ?_) ?_
          · -- 1
            have q0 := Ord.ahead_get _ hA 0 (by decide)
            simp only [Ch] at q0
            simp only [q0] at hK
            clear hA
            go_simp
            exact hK _ _ ⟨_, rfl, trivial, hR, rfl⟩
          refine Ord.each_cons (fun D xs w2 hD hC hP hR hA K hK => ?_) ?_
          · -- 2
            have q1 := Ord.ahead_get _ hA 1 (by decide)
            simp only [Ch] at q1
            simp only [q1] at hK
            clear hA
            go_simp
            exact hK _ _ ⟨_, rfl, trivial, hR, rfl⟩
          refine Ord.each_cons (fun D xs w2 hD hC hP hR hA K hK => ?_) ?_
          · -- 3
            have q2 := Ord.ahead_get _ hA 2 (by decide)
            simp only [Ch] at q2
            simp only [q2] at hK
            clear hA
            have c0 := blk_cell (v := .map (some m1)) (hR.1.row HBK.out (fun e => HP1.out.b1 e)) 2 rfl
            go_simp
            exact hK _ _ ⟨_, rfl, trivial, hR, rfl⟩
          refine Ord.each_cons (fun D xs w2 hD hC hP hR hA K hK => ?_) ?_
          · -- 4
            clear hA
            go_simp
            exact hK _ _ ⟨_, rfl, trivial, hR, rfl⟩
          refine Ord.each_cons (fun D xs w2 hD hC hP hR hA K hK => ?_) ?_
          · -- 5
            clear hA
            go_simp
            exact hK _ _ ⟨_, rfl, trivial, hR, rfl⟩
          refine Ord.each_cons (fun D xs w2 hD hC hP hR hA K hK => ?_) ?_
          · -- 6
            have q5 := Ord.ahead_get _ hA 5 (by decide)
            simp only [Ch] at q5
            simp only [q5] at hK
            clear hA
            go_simp
            exact hK _ _ ⟨_, rfl, trivial, hR, rfl⟩
          refine Ord.each_cons (fun D xs w2 hD hC hP hR hA K hK => ?_) ?_
          · -- 7
            have q6 := Ord.ahead_get _ hA 6 (by decide)
            simp only [Ch] at q6
            simp only [q6] at hK
            clear hA
            go_simp
            exact hK _ _ ⟨_, rfl, trivial, hR, rfl⟩
          refine Ord.each_cons (fun D xs w2 hD hC hP hR hA K hK => ?_) ?_
          · -- 8
            have q7 := Ord.ahead_get _ hA 7 (by decide)
            simp only [Ch] at q7
            simp only [q7] at hK
            clear hA
            have c0 := blk_cell (v := .map (some m1)) (hR.1.row HBK.out (fun e => HP1.out.b1 e)) 2 rfl
            go_simp
            exact hK _ _ ⟨_, rfl, trivial, hR, rfl⟩
          refine Ord.each_cons (fun D xs w2 hD hC hP hR hA K hK => ?_) ?_
          · -- 9
            clear hA
            go_simp
            exact hK _ _ ⟨_, rfl, trivial, hR, rfl⟩
          refine Ord.each_cons (fun D xs w2 hD hC hP hR hA K hK => ?_) ?_
          · -- 10
            have q8 := Ord.ahead_get _ hA 8 (by decide)
            simp only [Ch] at q8
            have q9 := Ord.ahead_get _ hA 9 (by decide)
            simp only [Ch] at q9
            simp only [q8, q9] at hK
            clear hA
            have hN : D 19 = false := by
              cases h : D 19
              · rfl
              · have h18 := Ord.closed_at hC 19 18 (by kernel_rfl) h
                have := Ord.closed_at hC 18 10 (by kernel_rfl) h18
                rw [hD] at this; cases this
            have hl := (HM.out.touch (hR.2.1 hN) id).look (a := (i : Int)) (by omega) (by have := HIZ.out; omega)
            rw [HX1.out] at hl
            go_simp
            exact hK _ _ ⟨_, rfl, trivial, hR, rfl⟩
          refine Ord.each_cons (fun D xs w2 hD hC hP hR hA K hK => ?_) ?_
          · -- 11
            clear hA
            go_simp
            exact hK _ _ ⟨_, rfl, trivial, hR, rfl⟩
          refine Ord.each_cons (fun D xs w2 hD hC hP hR hA K hK => ?_) ?_
          · -- 12
            have q11 := Ord.ahead_get _ hA 11 (by decide)
            simp only [Ch] at q11
            simp only [q11] at hK
            clear hA
            go_simp
            exact hK _ _ ⟨_, rfl, trivial, hR, rfl⟩
          refine Ord.each_cons (fun D xs w2 hD hC hP hR hA K hK => ?_) ?_
          · -- 13
            have q12 := Ord.ahead_get _ hA 12 (by decide)
            simp only [Ch] at q12
            simp only [q12] at hK
            clear hA
            go_simp
            exact hK _ _ ⟨_, rfl, trivial, hR, rfl⟩
          refine Ord.each_cons (fun D xs w2 hD hC hP hR hA K hK => ?_) ?_
          · -- 14
            have q13 := Ord.ahead_get _ hA 13 (by decide)
            simp only [Ch] at q13
            simp only [q13] at hK
            clear hA
            have c0 := blk_cell (v := .map (some m2)) (hR.1.row HBK.out (fun e => HP1.out.b1 e)) 3 rfl
            go_simp
            exact hK _ _ ⟨_, rfl, trivial, hR, rfl⟩
          refine Ord.each_cons (fun D xs w2 hD hC hP hR hA K hK => ?_) ?_
          · -- 15
            clear hA
            go_simp
            exact hK _ _ ⟨_, rfl, trivial, hR, rfl⟩
          refine Ord.each_cons (fun D xs w2 hD hC hP hR hA K hK => ?_) ?_
          · -- 16
            have q14 := Ord.ahead_get _ hA 14 (by decide)
            simp only [Ch] at q14
            have q15 := Ord.ahead_get _ hA 15 (by decide)
            simp only [Ch] at q15
            simp only [q14, q15] at hK
            clear hA
            have hl := (HWT.out.touch hR.1 (fun e => HP1.out.n12 e.symm)).look (a := (i : Int)) (by omega) (by have := HIZ.out; omega)
            rw [HX2.out] at hl
            go_simp
            exact hK _ _ ⟨_, rfl, trivial, hR, rfl⟩
          refine Ord.each_cons (fun D xs w2 hD hC hP hR hA K hK => ?_) ?_
          · -- 17
            clear hA
            go_simp
            exact hK _ _ ⟨_, rfl, trivial, hR, rfl⟩
          refine Ord.each_cons (fun D xs w2 hD hC hP hR hA K hK => ?_) ?_
          · -- 18
            have q10 := Ord.ahead_get _ hA 10 (by decide)
            simp only [Ch] at q10
            have q16 := Ord.ahead_get _ hA 16 (by decide)
            simp only [Ch] at q16
            have q17 := Ord.ahead_get _ hA 17 (by decide)
            simp only [Ch] at q17
            simp only [q10, q16, q17] at hK
            clear hA
            go_simp
            refine (torn_any a b p w2 HSA.out HSB.out HPK.out).mono ?_
            rintro e w3 ⟨rfl, hb3⟩
            exact hK _ _ ⟨_, rfl, trivial, ⟨hR.1.trans (.of_new hb3), fun h => (hR.2.1 h).trans (.of_new hb3), fun h => (hR.2.2 h).below hb3⟩, rfl⟩
          refine Ord.each_cons (fun D xs w2 hD hC hP hR hA K hK => ?_) ?_
          · -- 19
            have q3 := Ord.ahead_get _ hA 3 (by decide)
            simp only [Ch] at q3
            have q4 := Ord.ahead_get _ hA 4 (by decide)
            simp only [Ch] at q4
            have q18 := Ord.ahead_get _ hA 18 (by decide)
            simp only [Ch] at q18
            simp only [q3, q4, q18] at hK
            clear hA
            obtain ⟨w9, hrun, hm9, ht9⟩ := (HM.out.touch (hR.2.1 hD) id).put (i := i) HIC.out (Dk.sec_pick (p := p) HSA.out HSB.out)
            rw [HNX.out] at hm9
            go_simp
            exact hK _ _ ⟨undef, rfl, trivial, ⟨hR.1.trans ht9, fun h => (by cases h), fun _ => hm9⟩, trivial⟩
          exact Ord.each_nil
        case hendC1 =>
          intro D xs w3 hR hF
          have HM3 := Lib.hid (hR.2.2 (hF 19 (by decide)).1)
          have HT3 := Lib.hid (HT.out.trans hR.1)
          clear hR hF
          generalize xs 0 = z0
          generalize xs 1 = z1
          generalize xs 2 = z2
          generalize xs 3 = z3
          generalize xs 4 = z4
          generalize xs 5 = z5
          generalize xs 6 = z6
          generalize xs 7 = z7
          generalize xs 8 = z8
          generalize xs 9 = z9
          generalize xs 10 = z10
          generalize xs 11 = z11
          generalize xs 12 = z12
          generalize xs 13 = z13
          generalize xs 14 = z14
          generalize xs 15 = z15
          generalize xs 16 = z16
          generalize xs 17 = z17
          generalize xs 18 = z18
          go_wp2_with fail
          go_roundw
          case rel => exact ⟨k + 1, by have := HLT.out; omega, by go_num, HM3.out, HT3.out⟩
          case measure => have := HLT.out; simp [intOf]; omega
      · have hp0 : p = 0 := by
          rw [← hp, List.getD_eq_getElem?_getD, List.getElem?_eq_none (by omega)]; rfl
        clear hp
        subst hp0
        have hkpi : (ps.length : Int) ≤ (k : Int) := by omega
        go_upto_region 9 with (fail)
        clear hcell
        refine Ord.walk (Ch B m1 m2 i a b 0) (ChR wr m1 (Dk.crAt d ps (k + 1))) (fun _ _ => True)
          (by kernel_rfl) (by kernel_rfl) ?frC2 ?hfrC2 (fun _ _ _ _ _ h => h) ?hsC2 ?heC2 ?hendC2
        case hsC2 => exact fun _ => ⟨(Touch.refl _ _).drew, fun _ => (Touch.refl _ _).drew, fun h => by cases h⟩
        case hfrC2 =>
          intro xs
          simp only [Ord.fill, Act.put, List.setIfInBounds_toArray, List.set_cons_zero, List.set_cons_succ]
          rfl
        case heC2 =>
          refine Ord.each_cons (fun D xs w2 hD hC hP hR hA K hK => ?_) ?_
          · -- 0
            clear hA
            go_simp
            exact hK _ _ ⟨_, rfl, trivial, hR, rfl⟩
          refine Ord.each_cons (fun D xs w2 hD hC hP hR hA K hK => ?_) ?_
          · -- 1
            have q0 := Ord.ahead_get _ hA 0 (by decide)
            simp only [Ch] at q0
            simp only [q0] at hK
            clear hA
            go_simp
            exact hK _ _ ⟨_, rfl, trivial, hR, rfl⟩
          refine Ord.each_cons (fun D xs w2 hD hC hP hR hA K hK => ?_) ?_
          · -- 2
            have q1 := Ord.ahead_get _ hA 1 (by decide)
            simp only [Ch] at q1
            simp only [q1] at hK
            clear hA
            go_simp
            exact hK _ _ ⟨_, rfl, trivial, hR, rfl⟩
          refine Ord.each_cons (fun D xs w2 hD hC hP hR hA K hK => ?_) ?_
          · -- 3
            have q2 := Ord.ahead_get _ hA 2 (by decide)
            simp only [Ch] at q2
            simp only [q2] at hK
            clear hA
            have c0 := blk_cell (v := .map (some m1)) (hR.1.row HBK.out (fun e => HP1.out.b1 e)) 2 rfl
            go_simp
            exact hK _ _ ⟨_, rfl, trivial, hR, rfl⟩
          refine Ord.each_cons (fun D xs w2 hD hC hP hR hA K hK => ?_) ?_
          · -- 4
            clear hA
            go_simp
            exact hK _ _ ⟨_, rfl, trivial, hR, rfl⟩
          refine Ord.each_cons (fun D xs w2 hD hC hP hR hA K hK => ?_) ?_
          · -- 5
            clear hA
            go_simp
            exact hK _ _ ⟨_, rfl, trivial, hR, rfl⟩
          refine Ord.each_cons (fun D xs w2 hD hC hP hR hA K hK => ?_) ?_
          · -- 6
            have q5 := Ord.ahead_get _ hA 5 (by decide)
            simp only [Ch] at q5
            simp only [q5] at hK
            clear hA
            go_simp
            exact hK _ _ ⟨_, rfl, trivial, hR, rfl⟩
          refine Ord.each_cons (fun D xs w2 hD hC hP hR hA K hK => ?_) ?_
          · -- 7
            have q6 := Ord.ahead_get _ hA 6 (by decide)
            simp only [Ch] at q6
            simp only [q6] at hK
            clear hA
            go_simp
            exact hK _ _ ⟨_, rfl, trivial, hR, rfl⟩
          refine Ord.each_cons (fun D xs w2 hD hC hP hR hA K hK => ?_) ?_
          · -- 8
            have q7 := Ord.ahead_get _ hA 7 (by decide)
            simp only [Ch] at q7
            simp only [q7] at hK
            clear hA
            have c0 := blk_cell (v := .map (some m1)) (hR.1.row HBK.out (fun e => HP1.out.b1 e)) 2 rfl
            go_simp
            exact hK _ _ ⟨_, rfl, trivial, hR, rfl⟩
          refine Ord.each_cons (fun D xs w2 hD hC hP hR hA K hK => ?_) ?_
          · -- 9
            clear hA
            go_simp
            exact hK _ _ ⟨_, rfl, trivial, hR, rfl⟩
          refine Ord.each_cons (fun D xs w2 hD hC hP hR hA K hK => ?_) ?_
          · -- 10
            have q8 := Ord.ahead_get _ hA 8 (by decide)
            simp only [Ch] at q8
            have q9 := Ord.ahead_get _ hA 9 (by decide)
            simp only [Ch] at q9
            simp only [q8, q9] at hK
            clear hA
            have hN : D 19 = false := by
              cases h : D 19
              · rfl
              · have h18 := Ord.closed_at hC 19 18 (by kernel_rfl) h
                have := Ord.closed_at hC 18 10 (by kernel_rfl) h18
                rw [hD] at this; cases this
            have hl := (HM.out.touch (hR.2.1 hN) id).look (a := (i : Int)) (by omega) (by have := HIZ.out; omega)
            rw [HX1.out] at hl
            go_simp
            exact hK _ _ ⟨_, rfl, trivial, hR, rfl⟩
          refine Ord.each_cons (fun D xs w2 hD hC hP hR hA K hK => ?_) ?_
          · -- 11
            clear hA
            go_simp
            exact hK _ _ ⟨_, rfl, trivial, hR, rfl⟩
          refine Ord.each_cons (fun D xs w2 hD hC hP hR hA K hK => ?_) ?_
          · -- 12
            have q11 := Ord.ahead_get _ hA 11 (by decide)
            simp only [Ch] at q11
            simp only [q11] at hK
            clear hA
            go_simp
            exact hK _ _ ⟨_, rfl, trivial, hR, rfl⟩
          refine Ord.each_cons (fun D xs w2 hD hC hP hR hA K hK => ?_) ?_
          · -- 13
            have q12 := Ord.ahead_get _ hA 12 (by decide)
            simp only [Ch] at q12
            simp only [q12] at hK
            clear hA
            go_simp
            exact hK _ _ ⟨_, rfl, trivial, hR, rfl⟩
          refine Ord.each_cons (fun D xs w2 hD hC hP hR hA K hK => ?_) ?_
          · -- 14
            have q13 := Ord.ahead_get _ hA 13 (by decide)
            simp only [Ch] at q13
            simp only [q13] at hK
            clear hA
            have c0 := blk_cell (v := .map (some m2)) (hR.1.row HBK.out (fun e => HP1.out.b1 e)) 3 rfl
            go_simp
            exact hK _ _ ⟨_, rfl, trivial, hR, rfl⟩
          refine Ord.each_cons (fun D xs w2 hD hC hP hR hA K hK => ?_) ?_
          · -- 15
            clear hA
            go_simp
            exact hK _ _ ⟨_, rfl, trivial, hR, rfl⟩
          refine Ord.each_cons (fun D xs w2 hD hC hP hR hA K hK => ?_) ?_
          · -- 16
            have q14 := Ord.ahead_get _ hA 14 (by decide)
            simp only [Ch] at q14
            have q15 := Ord.ahead_get _ hA 15 (by decide)
            simp only [Ch] at q15
            simp only [q14, q15] at hK
            clear hA
            have hl := (HWT.out.touch hR.1 (fun e => HP1.out.n12 e.symm)).look (a := (i : Int)) (by omega) (by have := HIZ.out; omega)
            rw [HX2.out] at hl
            go_simp
            exact hK _ _ ⟨_, rfl, trivial, hR, rfl⟩
          refine Ord.each_cons (fun D xs w2 hD hC hP hR hA K hK => ?_) ?_
          · -- 17
            clear hA
            go_simp
            exact hK _ _ ⟨_, rfl, trivial, hR, rfl⟩
          refine Ord.each_cons (fun D xs w2 hD hC hP hR hA K hK => ?_) ?_
          · -- 18
            have q10 := Ord.ahead_get _ hA 10 (by decide)
            simp only [Ch] at q10
            have q16 := Ord.ahead_get _ hA 16 (by decide)
            simp only [Ch] at q16
            have q17 := Ord.ahead_get _ hA 17 (by decide)
            simp only [Ch] at q17
            simp only [q10, q16, q17] at hK
            clear hA
            go_simp
            refine (torn_any a b 0 w2 HSA.out HSB.out HPK.out).mono ?_
            rintro e w3 ⟨rfl, hb3⟩
            exact hK _ _ ⟨_, rfl, trivial, ⟨hR.1.trans (.of_new hb3), fun h => (hR.2.1 h).trans (.of_new hb3), fun h => (hR.2.2 h).below hb3⟩, rfl⟩
          refine Ord.each_cons (fun D xs w2 hD hC hP hR hA K hK => ?_) ?_
          · -- 19
            have q3 := Ord.ahead_get _ hA 3 (by decide)
            simp only [Ch] at q3
            have q4 := Ord.ahead_get _ hA 4 (by decide)
            simp only [Ch] at q4
            have q18 := Ord.ahead_get _ hA 18 (by decide)
            simp only [Ch] at q18
            simp only [q3, q4, q18] at hK
            clear hA
            obtain ⟨w9, hrun, hm9, ht9⟩ := (HM.out.touch (hR.2.1 hD) id).put (i := i) HIC.out (Dk.sec_pick (p := 0) HSA.out HSB.out)
            rw [HNX.out] at hm9
            go_simp
            exact hK _ _ ⟨undef, rfl, trivial, ⟨hR.1.trans ht9, fun h => (by cases h), fun _ => hm9⟩, trivial⟩
          exact Ord.each_nil
        case hendC2 =>
          intro D xs w3 hR hF
          have HM3 := Lib.hid (hR.2.2 (hF 19 (by decide)).1)
          have HT3 := Lib.hid (HT.out.trans hR.1)
          clear hR hF
          generalize xs 0 = z0
          generalize xs 1 = z1
          generalize xs 2 = z2
          generalize xs 3 = z3
          generalize xs 4 = z4
          generalize xs 5 = z5
          generalize xs 6 = z6
          generalize xs 7 = z7
          generalize xs 8 = z8
          generalize xs 9 = z9
          generalize xs 10 = z10
          generalize xs 11 = z11
          generalize xs 12 = z12
          generalize xs 13 = z13
          generalize xs 14 = z14
          generalize xs 15 = z15
          generalize xs 16 = z16
          generalize xs 17 = z17
          generalize xs 18 = z18
          go_wp2_with fail
          go_roundw
          case rel => exact ⟨k + 1, by have := HLT.out; omega, by go_num, HM3.out, HT3.out⟩
          case measure => have := HLT.out; simp [intOf]; omega
    · obtain rfl : k = n := by omega
      have hM := HM.out
      rw [← hnn, Dk.crAt_full HP1.out.own] at hM
      have HMF := Lib.hid hM
      have c3 := blk_cell (v := .map (some m2)) HBK.out 3 rfl
      obtain ⟨w4, hrun, hm4, ht4⟩ := HWT.out.clear_run
      have hb4 := ht4.row HBK.out (fun e => HP1.out.b2 e)
      have f4 := blk_free hb4 4
      have c4 := blk_cell (v := .int .i64 (d.armed : Int)) hb4 4 rfl
      have s1 := blk_set (i := 4) hb4 (.int .i64 0)
      have f5 := blk_free s1 5
      have c5 := blk_cell (v := .bool d.off) s1 5 rfl
      have s2 := blk_set (i := 5) s1 (.bool false)
      have htb : Touch (· = B) w4 ((w4.setCell ⟨B, 4, none⟩ (.int .i64 0)).setCell ⟨B, 5, none⟩ (.bool false)) := (Touch.set (S := (· = B)) B 4 (.int .i64 0) rfl).trans (.set B 5 (.bool false) rfl)
      have HFIN := Lib.hid (show PDev ((w4.setCell ⟨B, 4, none⟩ (.int .i64 0)).setCell ⟨B, 5, none⟩ (.bool false)) B m1 m2 (Dk.crash d ps) from ⟨Dk.own_crash HP1.out.own ps, by rw [Dk.crashed_size HP1.out.own.ok]; exact s2, (HMF.out.touch ht4 (fun e => HP1.out.n12 e)).touch htb (fun e => HP1.out.b1 e.symm),
        by rw [HP1.out.own.ok.w] at hm4; exact hm4.touch htb (fun e => HP1.out.b2 e.symm), HP1.out.b1, HP1.out.b2, HP1.out.n12⟩)
      have HTF := Lib.hid ((((Touch.of_new (S := DS B m1 m2) HB1.out).trans (HT.out.mono (T := DS B m1 m2) fun _ _ h => Or.inr (Or.inl h))).trans (ht4.mono (T := DS B m1 m2) fun _ _ h => Or.inr (Or.inr h))).trans (htb.mono (T := DS B m1 m2) fun _ _ h => Or.inl h))
      clear hm4 ht4 hb4 s1 s2 htb hM
      go_wp2_with fail
      go_ret
      exact ⟨rfl, HFIN.out, HTF.out⟩
end Go.Proofs.YtafpjcobagofcaaGreat
