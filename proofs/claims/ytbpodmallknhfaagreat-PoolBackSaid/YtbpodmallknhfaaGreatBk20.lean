/- Parts of a proof. Conditions: as each row says. -/
import Derived.Test.YtbpodmallknhfaaGreatBk03
import Derived.Test.YtbpodmallknhfaaGreatBk09
import Derived.Shelf.SlLaysZI
import Derived.Shelf.SlLaysM
import Derived.Test.YtbpodmallknhfaaGreatProg
import Derived.Test.YtbpodmallknhfaaGreatChecked
import Derived.KernelRfl
import Derived.Shelf.SlIterI.Nil
import Derived.Shelf.SortM.Plain
import Derived.Shelf.SortM.SortNone
import Derived.Laws.CopyRow
namespace Go.Proofs.YtbpodmallknhfaaGreat
open Go.Shelf
def sortedI_ren : Go.Shelf.Ren := ⟨fun | 6 => 39 | 8 => 63 | 9 => 64 | 11 => 94 | 13 => 96 | 12 => 95 | 23 => 139 | 24 => 140 | 14 => 130 | 15 => 131 | 16 => 132 | 17 => 133 | 18 => 134 | 19 => 135 | 20 => 136 | 21 => 137 | 22 => 138 | 25 => 167 | 26 => 168 | 27 => 169 | 28 => 170 | 29 => 171 | 30 => 172 | 31 => 184 | n => n, fun | 26 => 3 | 28 => 91 | 24 => 34 | 0 => 0 | 3 => 3 | 37 => 125 | 48 => 74 | 50 => 56 | 4 => 4 | 40 => 189 | 39 => 188 | 45 => 131 | 5 => 5 | 9 => 9 | 51 => 218 | 55 => 221 | 57 => 233 | 58 => 234 | 33 => 130 | n => n, fun n => n⟩
theorem sortedI_lays : Go.Proofs.SlLaysZI.n6 Tryz.prog sortedI_ren := {
  mixed := by kernel_rfl,
  f6 := ⟨Tryz.f39.name, by decide, Tryz.func39.trans (congrArg some (by kernel_rfl))⟩,
  f8 := ⟨Tryz.f63.name, by decide, Tryz.func63.trans (congrArg some (by kernel_rfl))⟩,
  f11 := ⟨Tryz.f94.name, by decide, Tryz.func94.trans (congrArg some (by kernel_rfl))⟩,
  t0 := Tryz.underlying0,
  a0 := Tryz.isAgg0,
  z0 := Tryz.sizeOf0,
  v0 := Tryz.zeroValue0,
  t24 := Tryz.underlying34,
  a24 := Tryz.isAgg34,
  z24 := Tryz.sizeOf34,
  v24 := Tryz.zeroValue34,
  t26 := Tryz.underlying3,
  a26 := Tryz.isAgg3,
  z26 := Tryz.sizeOf3,
  v26 := Tryz.zeroValue3,
  t28 := Tryz.underlying91,
  a28 := Tryz.isAgg91,
  z28 := Tryz.sizeOf91,
  v28 := Tryz.zeroValue91,
  i26 := by kernel_rfl }
def sortI_ren : Go.Shelf.Ren := ⟨fun | 5 => 64 | 8 => 96 | 7 => 95 | 19 => 139 | 20 => 140 | 10 => 130 | 11 => 131 | 12 => 132 | 13 => 133 | 14 => 134 | 15 => 135 | 16 => 136 | 17 => 137 | 18 => 138 | 30 => 167 | 31 => 168 | 32 => 169 | 33 => 170 | 34 => 171 | 35 => 172 | 40 => 184 | n => n, fun | 23 => 34 | 25 => 3 | 3 => 3 | 32 => 125 | 22 => 34 | 0 => 0 | 44 => 74 | 46 => 56 | 4 => 4 | 36 => 189 | 35 => 188 | 41 => 131 | 5 => 5 | 9 => 9 | 53 => 218 | 57 => 221 | 63 => 233 | 64 => 234 | n => n, fun n => n⟩
theorem sortI_lays : Go.Proofs.SlLaysM.n5 Tryz.prog sortI_ren := {
  mixed := by kernel_rfl,
  f5 := ⟨Tryz.f64.name, by decide, Tryz.func64.trans (congrArg some (by kernel_rfl))⟩,
  f7 := ⟨Tryz.f95.name, by decide, Tryz.func95.trans (congrArg some (by kernel_rfl))⟩,
  f8 := Tryz.func96.trans (congrArg some (by kernel_rfl)),
  f10 := ⟨Tryz.f130.name, by decide, Tryz.func130.trans (congrArg some (by kernel_rfl))⟩,
  f11 := ⟨Tryz.f131.name, by decide, Tryz.func131.trans (congrArg some (by kernel_rfl))⟩,
  f12 := ⟨Tryz.f132.name, by decide, Tryz.func132.trans (congrArg some (by kernel_rfl))⟩,
  f13 := ⟨Tryz.f133.name, by decide, Tryz.func133.trans (congrArg some (by kernel_rfl))⟩,
  f14 := ⟨Tryz.f134.name, by decide, Tryz.func134.trans (congrArg some (by kernel_rfl))⟩,
  f15 := ⟨Tryz.f135.name, by decide, Tryz.func135.trans (congrArg some (by kernel_rfl))⟩,
  f16 := ⟨Tryz.f136.name, by decide, Tryz.func136.trans (congrArg some (by kernel_rfl))⟩,
  f17 := ⟨Tryz.f137.name, by decide, Tryz.func137.trans (congrArg some (by kernel_rfl))⟩,
  f18 := ⟨Tryz.f138.name, by decide, Tryz.func138.trans (congrArg some (by kernel_rfl))⟩,
  f19 := Tryz.func139.trans (congrArg some (by kernel_rfl)),
  f20 := Tryz.func140.trans (congrArg some (by kernel_rfl)),
  f30 := ⟨Tryz.f167.name, by decide, Tryz.func167.trans (congrArg some (by kernel_rfl))⟩,
  f31 := Tryz.func168.trans (congrArg some (by kernel_rfl)),
  f32 := Tryz.func169.trans (congrArg some (by kernel_rfl)),
  f33 := ⟨Tryz.f170.name, by decide, Tryz.func170.trans (congrArg some (by kernel_rfl))⟩,
  f34 := ⟨Tryz.f171.name, by decide, Tryz.func171.trans (congrArg some (by kernel_rfl))⟩,
  f35 := ⟨Tryz.f172.name, by decide, Tryz.func172.trans (congrArg some (by kernel_rfl))⟩,
  f40 := ⟨Tryz.f184.name, by decide, Tryz.func184.trans (congrArg some (by kernel_rfl))⟩,
  t0 := Tryz.underlying0,
  a0 := Tryz.isAgg0,
  z0 := Tryz.sizeOf0,
  v0 := Tryz.zeroValue0,
  t3 := Tryz.underlying3,
  a3 := Tryz.isAgg3,
  z3 := Tryz.sizeOf3,
  v3 := Tryz.zeroValue3,
  t4 := Tryz.underlying4,
  a4 := Tryz.isAgg4,
  z4 := Tryz.sizeOf4,
  v4 := Tryz.zeroValue4,
  t5 := Tryz.underlying5,
  a5 := Tryz.isAgg5,
  z5 := Tryz.sizeOf5,
  v5 := Tryz.zeroValue5,
  t9 := Tryz.underlying9,
  a9 := Tryz.isAgg9,
  z9 := Tryz.sizeOf9,
  v9 := Tryz.zeroValue9,
  t22 := Tryz.underlying34,
  a22 := Tryz.isAgg34,
  z22 := Tryz.sizeOf34,
  v22 := Tryz.zeroValue34,
  t23 := Tryz.underlying34,
  a23 := Tryz.isAgg34,
  z23 := Tryz.sizeOf34,
  v23 := Tryz.zeroValue34,
  t25 := Tryz.underlying3,
  a25 := Tryz.isAgg3,
  z25 := Tryz.sizeOf3,
  v25 := Tryz.zeroValue3,
  t32 := Tryz.underlying125,
  a32 := Tryz.isAgg125,
  z32 := Tryz.sizeOf125,
  v32 := Tryz.zeroValue125,
  t35 := Tryz.underlying188,
  a35 := Tryz.isAgg188,
  z35 := Tryz.sizeOf188,
  v35 := Tryz.zeroValue188,
  t36 := Tryz.underlying189,
  a36 := Tryz.isAgg189,
  z36 := Tryz.sizeOf189,
  v36 := Tryz.zeroValue189,
  t41 := Tryz.underlying131,
  a41 := Tryz.isAgg131,
  z41 := Tryz.sizeOf131,
  v41 := Tryz.zeroValue131,
  t44 := Tryz.underlying74,
  a44 := Tryz.isAgg74,
  z44 := Tryz.sizeOf74,
  v44 := Tryz.zeroValue74,
  t46 := Tryz.underlying56,
  a46 := Tryz.isAgg56,
  z46 := Tryz.sizeOf56,
  v46 := Tryz.zeroValue56,
  t53 := Tryz.underlying218,
  a53 := Tryz.isAgg218,
  z53 := Tryz.sizeOf218,
  v53 := Tryz.zeroValue218,
  t57 := Tryz.underlying221,
  a57 := Tryz.isAgg221,
  z57 := Tryz.sizeOf221,
  v57 := Tryz.zeroValue221,
  t63 := Tryz.underlying233,
  a63 := Tryz.isAgg233,
  z63 := Tryz.sizeOf233,
  v63 := Tryz.zeroValue233,
  t64 := Tryz.underlying234,
  a64 := Tryz.isAgg234,
  z64 := Tryz.sizeOf234,
  v64 := Tryz.zeroValue234 }
end Go.Proofs.YtbpodmallknhfaaGreat
namespace Go.Proofs.YtbpodmallknhfaaGreat
open Go.RowKit Go.Maps Go.Sort Go.Shelf
theorem sorts_in (m : Nat) : AnyZI.SortsIn Tryz.prog sortedI_ren Fence.wide m :=
  ⟨fun blk off cap ss W hH hblk hsz => callsIn_wide.2 (AnyM.slices_Sort_int sortI_lays blk off cap ss W hH hblk hsz),
   fun p cap W => callsIn_wide.2 (AnyM.slices_Sort_int_none sortI_lays p cap W)⟩
theorem keys_ents : ∀ (L : List (Option (List Nat))) (i : Nat), intKeys (DataW.map (ents i L)) = (Dk.listL i L).map fun x : Nat => (x : Int)
  | [], _ => rfl
  | none :: r, i => by
    have := keys_ents r (i + 1)
    simpa [ents, Dk.listL] using this
  | some b :: r, i => by
    have := keys_ents r (i + 1)
    simp only [ents, Dk.listL, List.map_cons]
    rw [← this]; rfl
theorem listL_rising : ∀ (ws : List (Option (List Nat))) (i : Nat), (Dk.listL i ws).Pairwise (· < ·) ∧ ∀ x ∈ Dk.listL i ws, i ≤ x ∧ x < i + ws.length
  | [], _ => ⟨List.Pairwise.nil, fun x hx => by cases hx⟩
  | none :: r, i => by
    obtain ⟨h1, h2⟩ := listL_rising r (i + 1)
    exact ⟨h1, fun x hx => by have := h2 x hx; simp only [List.length_cons]; omega⟩
  | some b :: r, i => by
    obtain ⟨h1, h2⟩ := listL_rising r (i + 1)
    refine ⟨List.Pairwise.cons (fun y hy => by have := h2 y hy; omega) h1, fun x hx => ?_⟩
    rcases List.mem_cons.1 hx with rfl | hx
    · simp only [List.length_cons]; omega
    · have := h2 x hx; simp only [List.length_cons]; omega
theorem sorted_keys {ss : List Int} {L : List (Option (List Nat))} (h : ss.Perm (intKeys (mapD L))) : ss.mergeSort (fun x y => decide (x ≤ y)) = (Dk.listL 0 L).map fun x : Nat => (x : Int) := by
  rw [show mapD L = DataW.map (ents 0 L) from rfl, keys_ents] at h
  have h1 : (ss.mergeSort fun x y => decide (x ≤ y)).Pairwise (fun x y => x ≤ y) := by
    have := List.pairwise_mergeSort (le := fun x y : Int => decide (x ≤ y)) (by intro a b c h1 h2; simp at *; omega) (by intro a b; simp; omega) ss
    exact this.imp (by intro a b h; simpa using h)
  have h2 : ((Dk.listL 0 L).map fun x : Nat => (x : Int)).Pairwise (fun x y => x ≤ y) :=
    List.pairwise_map.2 ((listL_rising L 0).1.imp fun {a b} h => by omega)
  exact List.Perm.eq_of_pairwise (fun _ _ _ _ h1 h2 => Int.le_antisymm h1 h2) h1 h2 ((List.mergeSort_perm _ _).trans h)
end Go.Proofs.YtbpodmallknhfaaGreat
namespace Go.Proofs.YtbpodmallknhfaaGreat
open Go.RowKit
end Go.Proofs.YtbpodmallknhfaaGreat
namespace Go.Proofs.YtbpodmallknhfaaGreat
open Go.RowKit
def Ch (B m1 m2 i : Nat) (a b : List Nat) (p : Nat) (k : Nat) (x : Value) (_ : World) : Prop :=
  match k with
  | 0 => x = .pointer (some ⟨B, 0, none⟩)
  | 1 => x = .pointer (some ⟨B, 0, none⟩)
  | 2 => x = .pointer (some ⟨B, 2, none⟩)
  | 3 => x = .map (some m1)
  | 4 => x = .int .i64 (i : Int)
  | 5 => x = .pointer (some ⟨B, 0, none⟩)
  | 6 => x = .pointer (some ⟨B, 0, none⟩)
  | 7 => x = .pointer (some ⟨B, 2, none⟩)
  | 8 => x = .map (some m1)
  | 9 => x = .int .i64 (i : Int)
  | 10 => x = av a
  | 11 => x = .pointer (some ⟨B, 0, none⟩)
  | 12 => x = .pointer (some ⟨B, 0, none⟩)
  | 13 => x = .pointer (some ⟨B, 3, none⟩)
  | 14 => x = .map (some m2)
  | 15 => x = .int .i64 (i : Int)
  | 16 => x = av b
  | 17 => x = .int .u8 (p : Int)
  | 18 => x = av (Dk.pick p a b)
  | _ => True
end Go.Proofs.YtbpodmallknhfaaGreat
namespace Go.Proofs.YtbpodmallknhfaaGreat
open Go.RowKit Go.Maps Go.Sort Go.Shelf
open Classical in
noncomputable def idxR (v : Value) : Option (DataW (List Nat) × List MemPlace) :=
  if h : ∃ i : Nat, i < 64 ∧ v = .int .i64 (i : Int) then some (.held [h.choose], []) else none
theorem idxR_of {i : Nat} (h : i < 64) : idxR (.int .i64 (i : Int)) = some (.held [i], []) := by
  have h1 : ∃ j : Nat, j < 64 ∧ Value.int .i64 (i : Int) = .int .i64 (j : Int) := ⟨i, h, rfl⟩
  have h2 : h1.choose = i := by
    exact (Int.ofNat_inj.1 (Value.int.inj h1.choose_spec.2).2).symm
  unfold idxR
  rw [dif_pos h1, h2]
theorem idxR_inv {v : Value} {y : DataW (List Nat) × List MemPlace} (h : idxR v = some y) : ∃ i : Nat, i < 64 ∧ v = .int .i64 (i : Int) ∧ y = (.held [i], []) := by
  unfold idxR at h
  split at h
  · next h1 =>
    cases h
    exact ⟨_, h1.choose_spec.1, h1.choose_spec.2, rfl⟩
  · cases h
def lst (H : List (Option Nat)) : List (Option (List Nat)) := H.map (Option.map fun i => [i])
theorem lst_length (H : List (Option Nat)) : (lst H).length = H.length := List.length_map ..
theorem lst_set (H : List (Option Nat)) (k : Nat) (x : Option Nat) : lst (H.set k x) = (lst H).set k (x.map fun i => [i]) := by unfold lst; rw [List.map_set]
theorem lst_count (H : List (Option Nat)) : (lst H).countP Option.isSome = H.countP Option.isSome := by
  unfold lst
  rw [List.countP_map]
  congr 1
  funext x
  cases x <;> rfl
def hz (H : List (Option Nat)) (z : Int) : Option Nat := if 0 ≤ z then H.getD z.toNat none else none
theorem gz_lst (H : List (Option Nat)) (z : Int) : gz (lst H) z = (hz H z).map fun i => [i] := by
  unfold gz hz lst
  split
  · rw [List.getD_eq_getElem?_getD, List.getElem?_map, List.getD_eq_getElem?_getD]
    cases H[z.toNat]? <;> rfl
  · rfl
theorem hz_nat (H : List (Option Nat)) (i : Nat) : hz H (i : Int) = H.getD i none := by simp [hz]
structure HmAt (w : World) (m : Nat) (H : List (Option Nat)) : Prop where
  own : w.ownsMap Tryz.prog 3 idxR m ((lst H).countP Option.isSome) (mapD (lst H))
  len : H.length ≤ 65536
theorem HmAt.of {w : World} {m n : Nat} {H : List (Option Nat)} (h : w.ownsMap Tryz.prog 3 idxR m n (mapD (lst H))) (hL : H.length ≤ 65536) : HmAt w m H :=
  ⟨size_mapD (lst H) ▸ ownsMap_tight h, hL⟩
theorem HmAt.lt {w : World} {m : Nat} {H : List (Option Nat)} (h : HmAt w m H) : m < w.heap.size := h.own.lt
theorem HmAt.touch {w w' : World} {m : Nat} {H : List (Option Nat)} {S : Nat → Prop} (h : HmAt w m H) (ht : Touch S w w') (hs : ¬ S m) : HmAt w' m H := by
  obtain ⟨es, clock, hb, F, hc, hD⟩ := h.own
  exact ⟨⟨es, clock, ht.row hb hs, F, hc, hD⟩, h.len⟩
theorem HmAt.below {w w' : World} {m : Nat} {H : List (Option Nat)} (h : HmAt w m H) (hb : Below w.heap.size w w') : HmAt w' m H := h.touch (.of_new (S := fun _ => False) hb) id
theorem hm_made (w : World) {n : Nat} (hn : n ≤ 65536) : HmAt (w.alloc (.map #[] 0)) w.heap.size (List.replicate n none) :=
  HmAt.of (by
    have e : lst (List.replicate n none) = List.replicate n none := by unfold lst; rw [List.map_replicate]; rfl
    rw [e, mapD_none]; exact World.ownsMap_made w _ _ _) (by simpa using hn)
theorem zero_int (w : World) : (zeroValue 3).run Tryz.prog w = .ok (.int .i64 0) w := by kernel_rfl
theorem HmAt.look_ok {w : World} {m : Nat} {H : List (Option Nat)} (h : HmAt w m H) {a : Int} (h1 : -9223372036854775808 ≤ a) (h2 : a ≤ 9223372036854775807) :
    (Instr.lookup 93 (.map (some m)) (.int .i64 a) true).run Tryz.prog w = .ok (.tuple #[.int .i64 (((hz H a).getD 0 : Nat) : Int), .bool (hz H a).isSome]) w := by
  obtain ⟨v, ps, hrun, hv⟩ := h.own.look_ok ikey Tryz.underlying93 (zero_int w) (idxR_of (i := 0) (by decide)) (ikey_of h1 h2)
  rw [has_mapD, gz_lst] at hrun
  rw [at_mapD, gz_lst] at hv
  have hb : v = .int .i64 (((hz H a).getD 0 : Nat) : Int) := by
    obtain ⟨b, _, rfl, e⟩ := idxR_inv hv
    have e1 := congrArg Prod.fst e
    cases hg : hz H a with
    | none =>
      rw [hg] at e1
      have e2 : (DataW.held [0] : DataW (List Nat)) = .held [b] := e1
      cases e2
      rfl
    | some c =>
      rw [hg] at e1
      have e2 : (DataW.held [c] : DataW (List Nat)) = .held [b] := e1
      cases e2
      rfl
  subst hb
  rw [hrun]
  cases hz H a <;> rfl
theorem HmAt.small {w : World} {m : Nat} {H : List (Option Nat)} (h : HmAt w m H) {a : Int} (h1 : -9223372036854775808 ≤ a) (h2 : a ≤ 9223372036854775807) {i : Nat} (hi : hz H a = some i) : i < 64 := by
  obtain ⟨v, ps, hrun, hv⟩ := h.own.look_ok ikey Tryz.underlying93 (zero_int w) (idxR_of (i := 0) (by decide)) (ikey_of h1 h2)
  rw [at_mapD, gz_lst, hi] at hv
  obtain ⟨b, hb, rfl, e⟩ := idxR_inv hv
  have e2 : (DataW.held [i] : DataW (List Nat)) = .held [b] := congrArg Prod.fst e
  cases e2
  exact hb
theorem HmAt.put {w : World} {m : Nat} {H : List (Option Nat)} (h : HmAt w m H) {k : Nat} (hk : k < H.length) {i : Nat} (hi : i < 64) :
    ∃ w', (Instr.mapUpdate 93 (.map (some m)) (.int .i64 (k : Int)) (.int .i64 (i : Int))).run Tryz.prog w = .ok () w' ∧ HmAt w' m (H.set k (some i)) ∧ Touch (· = m) w w' := by
  have hl := h.len
  have hc := count_le (lst H)
  rw [lst_length] at hc
  obtain ⟨w', hrun, h1, h2⟩ := h.own.update ikey Tryz.underlying93 (by unfold maxLen; omega) (ikey_of (a := (k : Int)) (by omega) (by omega)) (idxR_of hi)
  rw [mapD_put (by rw [lst_length]; exact hl) (by rw [lst_length]; exact hk)] at h1
  exact ⟨w', hrun, .of (by rw [lst_set]; exact h1) (by rw [List.length_set]; exact hl), .of_grown h2 rfl⟩
theorem canonK_del {D : DataW (List Nat)} {P : Lit → Prop} (h : CanonK P D) (k : Lit) : CanonK P (D.del k) := by
  obtain ⟨es, rfl, h1, h2⟩ := h
  rw [DataW.del_eq]
  exact ⟨_, rfl, h1.sublist List.filter_sublist, fun p hp => h2 p (List.mem_filter.1 hp).1⟩
theorem mapD_del {L : List (Option (List Nat))} (hL : L.length ≤ 65536) {i : Nat} (hi : i < L.length) : (mapD L).del (.int .i64 (i : Int)) = mapD (L.set i none) := by
  refine mapD_ext (canonK_del (canonK_mapD hL) _) (fun z => ?_) (fun z zd c hc => ?_)
  · rw [gz_set hi]
    by_cases h : z = i
    · subst h
      rw [if_pos rfl, has_del_same]; rfl
    · rw [if_neg h, has_del_other (by intro e; cases e; exact h rfl), has_mapD]
  · rw [gz_set hi] at hc
    by_cases h : z = i
    · rw [if_pos h] at hc; cases hc
    · rw [if_neg h] at hc
      rw [atKey_del_other (by intro e; cases e; exact h rfl), at_mapD, hc]
theorem HmAt.drop {w : World} {m : Nat} {H : List (Option Nat)} (h : HmAt w m H) {k : Nat} (hk : k < H.length) :
    ∃ w', (∀ ty : TypeId, (Builtin.delete_ #[93, 3] ty #[.map (some m), .int .i64 (k : Int)]).run Tryz.prog w = .ok (.tuple #[]) w') ∧ HmAt w' m (H.set k none) ∧ Touch (· = m) w w' := by
  have hl := h.len
  obtain ⟨w', hrun, h1, h2⟩ := h.own.drop ikey Tryz.underlying93 (ikey_of (a := (k : Int)) (by omega) (by omega)) 3
  rw [mapD_del (by rw [lst_length]; exact hl) (by rw [lst_length]; exact hk)] at h1
  exact ⟨w', fun ty => hrun, .of (by rw [lst_set]; exact h1) (by rw [List.length_set]; exact hl), .of_grown h2.grown rfl⟩
theorem HmAt.len_run {w : World} {m : Nat} {H : List (Option Nat)} (h : HmAt w m H) (ty : TypeId) : (Builtin.len_ #[93] ty #[.map (some m)]).run Tryz.prog w = .ok (.int .i64 (H.countP Option.isSome : Nat)) w := by
  rw [← lst_count, ← size_mapD]
  exact h.own.len Tryz.underlying93 ty
def keysP_ren : Go.Shelf.Ren := ⟨fun | 7 => 40 | 10 => 65 | n => n, fun | 23 => 93 | 26 => 3 | 3 => 3 | 28 => 91 | 0 => 0 | 27 => 90 | 33 => 130 | 4 => 4 | n => n, fun n => n⟩
theorem keysP_lays : Go.Proofs.SlLaysZI.n7 Tryz.prog keysP_ren := {
  mixed := by kernel_rfl,
  f7 := ⟨Tryz.f40.name, by decide, Tryz.func40.trans (congrArg some (by kernel_rfl))⟩,
  f10 := ⟨Tryz.f65.name, by decide, Tryz.func65.trans (congrArg some (by kernel_rfl))⟩,
  t0 := Tryz.underlying0,
  a0 := Tryz.isAgg0,
  z0 := Tryz.sizeOf0,
  v0 := Tryz.zeroValue0,
  t4 := Tryz.underlying4,
  a4 := Tryz.isAgg4,
  z4 := Tryz.sizeOf4,
  v4 := Tryz.zeroValue4,
  t23 := Tryz.underlying93,
  a23 := Tryz.isAgg93,
  z23 := Tryz.sizeOf93,
  v23 := Tryz.zeroValue93,
  t26 := Tryz.underlying3,
  a26 := Tryz.isAgg3,
  z26 := Tryz.sizeOf3,
  v26 := Tryz.zeroValue3,
  t27 := Tryz.underlying90,
  a27 := Tryz.isAgg90,
  z27 := Tryz.sizeOf90,
  v27 := Tryz.zeroValue90,
  t28 := Tryz.underlying91,
  a28 := Tryz.isAgg91,
  z28 := Tryz.sizeOf91,
  v28 := Tryz.zeroValue91,
  t33 := Tryz.underlying130,
  a33 := Tryz.isAgg130,
  z33 := Tryz.sizeOf130,
  v33 := Tryz.zeroValue130 }
def heldL (H : List (Option Nat)) : List Nat := Dk.listL 0 (lst H)
theorem heldL_rising (H : List (Option Nat)) : (heldL H).Pairwise (· < ·) ∧ ∀ x ∈ heldL H, x < H.length := by
  obtain ⟨h1, h2⟩ := listL_rising (lst H) 0
  refine ⟨h1, fun x hx => ?_⟩
  have := (h2 x hx).2
  rw [lst_length] at this
  omega
theorem keysP_call (m : Nat) (w : World) : Calls Tryz.prog 40 #[.map (some m)] w fun e w' =>
    e = .returned (.func (.func 65) #[] #[.pointer (some ⟨w.heap.size, 0, none⟩)]) ∧ w' = w.alloc (.cells #[.map (some m)] 93) :=
  (callsIn_wide (n := 5)).1 (AnyZI.keys_in keysP_lays Fence.wide 5 trivial rfl (some m) w)
theorem sortedP_call {m : Nat} {H : List (Option Nat)} {w : World} (h : HmAt w m H) : Calls Tryz.prog 39 #[.func (.func 65) #[] #[.pointer (some ⟨w.heap.size, 0, none⟩)]] (w.alloc (.cells #[.map (some m)] 93)) fun e w' =>
    ∃ v, e = .returned v ∧ Ints.Own w.heap.size w' v ((heldL H).map fun x : Nat => (x : Int)) ∧ Below w.heap.size w w' := by
  have hbl := h.lt
  have hseq : SeqGives Fence.wide 2 Tryz.prog 65 #[.pointer (some ⟨w.heap.size, 0, none⟩)] encZ (fun ss => ss.Perm (intKeys (mapD (lst H)))) (Maps.size (mapD (lst H))) (w.alloc (.cells #[.map (some m)] 93)) :=
    AnyZI.keys_gives (ρ := keysP_ren) { keysP_lays with } Fence.wide _ trivial rfl (by omega) w.heap.size m _ (mapD (lst H)) _ (by simp) (by simp) (h.own.alloc _)
  have hc := count_le (lst H)
  have hl : (lst H).length ≤ 65536 := by rw [lst_length]; exact h.len
  have cS := AnyZI.sorted_in sortedI_lays Fence.wide 5 trivial trivial trivial trivial rfl (by omega) (sorts_in _) (enters_of Tryz.func64 (by kernel_rfl) rfl) 65 #[.pointer (some ⟨w.heap.size, 0, none⟩)] trivial (enters_of Tryz.func65 (by kernel_rfl) rfl) _ _ (by rw [size_mapD]; unfold maxLen; omega) (by rw [size_mapD]; omega) _ hseq
  refine (callsIn_wide (n := 5)).1 (cS.mono ?_)
  rintro e w' ⟨v, ss, rfl, hS, hrow, _, hb⟩
  have hb1 : Below w.heap.size w (w.alloc (.cells #[.map (some m)] 93)) := (Below.refl _ w).alloc (Nat.le_refl _) _
  have hrow' := ownsRow_base_a hrow (show w.heap.size ≤ _ by simp)
  rw [sorted_keys hS] at hrow'
  have hlen : ss.length = ((Dk.listL 0 (lst H)).map fun x : Nat => (x : Int)).length := by rw [← sorted_keys hS]; exact (List.mergeSort_perm _ _).length_eq.symm
  rw [hlen] at hrow'
  refine ⟨v, rfl, ⟨hrow', fun x hx => ?_, ?_⟩, hb1.trans (hb.mono (by simp))⟩
  · obtain ⟨y, hy, rfl⟩ := List.mem_map.1 hx
    have := (listL_rising (lst H) 0).2 y hy
    exact okk_small y (by omega)
  · show ((Dk.listL 0 (lst H)).map _).length ≤ _
    rw [← hlen, hS.length_eq]
    have : (intKeys (mapD (lst H))).length = (ents 0 (lst H)).length := by simp [intKeys, mapD]
    rw [this, ents_length]; omega
end Go.Proofs.YtbpodmallknhfaaGreat
