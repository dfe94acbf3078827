/- Parts of a proof. Conditions: as each row says. -/
import Derived.Test.YtbpodmallknhfaaGreatAr03
import Derived.Test.YtbpodmallknhfaaGreatAr08
import Derived.Shelf.SlLaysZI
import Derived.Shelf.SlLaysM
import Derived.Test.YtbpodmallknhfaaGreatProg
import Derived.Test.YtbpodmallknhfaaGreatChecked
import Derived.KernelRfl
import Derived.Shelf.SlIterI.Nil
import Derived.Shelf.SortM.Plain
import Derived.Shelf.SortM.SortNone
import Derived.Laws.CopyRow
namespace Go.Proofs.YtbpodmallknhfaaGreat
open Go.Shelf
end Go.Proofs.YtbpodmallknhfaaGreat
namespace Go.Proofs.YtbpodmallknhfaaGreat
open Go.RowKit Go.Maps Go.Sort Go.Shelf
theorem listL_rising : ∀ (ws : List (Option (List Nat))) (i : Nat), (Dk.listL i ws).Pairwise (· < ·) ∧ ∀ x ∈ Dk.listL i ws, i ≤ x ∧ x < i + ws.length
  | [], _ => ⟨List.Pairwise.nil, fun x hx => by cases hx⟩
  | none :: r, i => by
    obtain ⟨h1, h2⟩ := listL_rising r (i + 1)
    exact ⟨h1, fun x hx => by have := h2 x hx; simp only [List.length_cons]; omega⟩
  | some b :: r, i => by
    obtain ⟨h1, h2⟩ := listL_rising r (i + 1)
    refine ⟨List.Pairwise.cons (fun y hy => by have := h2 y hy; omega) h1, fun x hx => ?_⟩
    rcases List.mem_cons.1 hx with rfl | hx
    · simp only [List.length_cons]; omega
    · have := h2 x hx; simp only [List.length_cons]; omega
end Go.Proofs.YtbpodmallknhfaaGreat
namespace Go.Proofs.YtbpodmallknhfaaGreat
open Go.RowKit
end Go.Proofs.YtbpodmallknhfaaGreat
namespace Go.Proofs.YtbpodmallknhfaaGreat
open Go.RowKit
def Ch (B m1 m2 i : Nat) (a b : List Nat) (p : Nat) (k : Nat) (x : Value) (_ : World) : Prop :=
  match k with
  | 0 => x = .pointer (some ⟨B, 0, none⟩)
  | 1 => x = .pointer (some ⟨B, 0, none⟩)
  | 2 => x = .pointer (some ⟨B, 2, none⟩)
  | 3 => x = .map (some m1)
  | 4 => x = .int .i64 (i : Int)
  | 5 => x = .pointer (some ⟨B, 0, none⟩)
  | 6 => x = .pointer (some ⟨B, 0, none⟩)
  | 7 => x = .pointer (some ⟨B, 2, none⟩)
  | 8 => x = .map (some m1)
  | 9 => x = .int .i64 (i : Int)
  | 10 => x = av a
  | 11 => x = .pointer (some ⟨B, 0, none⟩)
  | 12 => x = .pointer (some ⟨B, 0, none⟩)
  | 13 => x = .pointer (some ⟨B, 3, none⟩)
  | 14 => x = .map (some m2)
  | 15 => x = .int .i64 (i : Int)
  | 16 => x = av b
  | 17 => x = .int .u8 (p : Int)
  | 18 => x = av (Dk.pick p a b)
  | _ => True
end Go.Proofs.YtbpodmallknhfaaGreat
namespace Go.Proofs.YtbpodmallknhfaaGreat
open Go.RowKit Go.Maps Go.Sort Go.Shelf
open Classical in
noncomputable def idxR (v : Value) : Option (DataW (List Nat) × List MemPlace) :=
  if h : ∃ i : Nat, i < 64 ∧ v = .int .i64 (i : Int) then some (.held [h.choose], []) else none
theorem idxR_of {i : Nat} (h : i < 64) : idxR (.int .i64 (i : Int)) = some (.held [i], []) := by
  have h1 : ∃ j : Nat, j < 64 ∧ Value.int .i64 (i : Int) = .int .i64 (j : Int) := ⟨i, h, rfl⟩
  have h2 : h1.choose = i := by
    exact (Int.ofNat_inj.1 (Value.int.inj h1.choose_spec.2).2).symm
  unfold idxR
  rw [dif_pos h1, h2]
theorem idxR_inv {v : Value} {y : DataW (List Nat) × List MemPlace} (h : idxR v = some y) : ∃ i : Nat, i < 64 ∧ v = .int .i64 (i : Int) ∧ y = (.held [i], []) := by
  unfold idxR at h
  split at h
  · next h1 =>
    cases h
    exact ⟨_, h1.choose_spec.1, h1.choose_spec.2, rfl⟩
  · cases h
def lst (H : List (Option Nat)) : List (Option (List Nat)) := H.map (Option.map fun i => [i])
theorem lst_length (H : List (Option Nat)) : (lst H).length = H.length := List.length_map ..
theorem lst_set (H : List (Option Nat)) (k : Nat) (x : Option Nat) : lst (H.set k x) = (lst H).set k (x.map fun i => [i]) := by unfold lst; rw [List.map_set]
theorem lst_count (H : List (Option Nat)) : (lst H).countP Option.isSome = H.countP Option.isSome := by
  unfold lst
  rw [List.countP_map]
  congr 1
  funext x
  cases x <;> rfl
def hz (H : List (Option Nat)) (z : Int) : Option Nat := if 0 ≤ z then H.getD z.toNat none else none
theorem gz_lst (H : List (Option Nat)) (z : Int) : gz (lst H) z = (hz H z).map fun i => [i] := by
  unfold gz hz lst
  split
  · rw [List.getD_eq_getElem?_getD, List.getElem?_map, List.getD_eq_getElem?_getD]
    cases H[z.toNat]? <;> rfl
  · rfl
theorem hz_nat (H : List (Option Nat)) (i : Nat) : hz H (i : Int) = H.getD i none := by simp [hz]
structure HmAt (w : World) (m : Nat) (H : List (Option Nat)) : Prop where
  own : w.ownsMap Tryz.prog 3 idxR m ((lst H).countP Option.isSome) (mapD (lst H))
  len : H.length ≤ 65536
theorem HmAt.of {w : World} {m n : Nat} {H : List (Option Nat)} (h : w.ownsMap Tryz.prog 3 idxR m n (mapD (lst H))) (hL : H.length ≤ 65536) : HmAt w m H :=
  ⟨size_mapD (lst H) ▸ ownsMap_tight h, hL⟩
theorem HmAt.lt {w : World} {m : Nat} {H : List (Option Nat)} (h : HmAt w m H) : m < w.heap.size := h.own.lt
theorem HmAt.touch {w w' : World} {m : Nat} {H : List (Option Nat)} {S : Nat → Prop} (h : HmAt w m H) (ht : Touch S w w') (hs : ¬ S m) : HmAt w' m H := by
  obtain ⟨es, clock, hb, F, hc, hD⟩ := h.own
  exact ⟨⟨es, clock, ht.row hb hs, F, hc, hD⟩, h.len⟩
theorem HmAt.below {w w' : World} {m : Nat} {H : List (Option Nat)} (h : HmAt w m H) (hb : Below w.heap.size w w') : HmAt w' m H := h.touch (.of_new (S := fun _ => False) hb) id
theorem hm_made (w : World) {n : Nat} (hn : n ≤ 65536) : HmAt (w.alloc (.map #[] 0)) w.heap.size (List.replicate n none) :=
  HmAt.of (by
    have e : lst (List.replicate n none) = List.replicate n none := by unfold lst; rw [List.map_replicate]; rfl
    rw [e, mapD_none]; exact World.ownsMap_made w _ _ _) (by simpa using hn)
theorem zero_int (w : World) : (zeroValue 3).run Tryz.prog w = .ok (.int .i64 0) w := by kernel_rfl
theorem HmAt.look_ok {w : World} {m : Nat} {H : List (Option Nat)} (h : HmAt w m H) {a : Int} (h1 : -9223372036854775808 ≤ a) (h2 : a ≤ 9223372036854775807) :
    (Instr.lookup 93 (.map (some m)) (.int .i64 a) true).run Tryz.prog w = .ok (.tuple #[.int .i64 (((hz H a).getD 0 : Nat) : Int), .bool (hz H a).isSome]) w := by
  obtain ⟨v, ps, hrun, hv⟩ := h.own.look_ok ikey Tryz.underlying93 (zero_int w) (idxR_of (i := 0) (by decide)) (ikey_of h1 h2)
  rw [has_mapD, gz_lst] at hrun
  rw [at_mapD, gz_lst] at hv
  have hb : v = .int .i64 (((hz H a).getD 0 : Nat) : Int) := by
    obtain ⟨b, _, rfl, e⟩ := idxR_inv hv
    have e1 := congrArg Prod.fst e
    cases hg : hz H a with
    | none =>
      rw [hg] at e1
      have e2 : (DataW.held [0] : DataW (List Nat)) = .held [b] := e1
      cases e2
      rfl
    | some c =>
      rw [hg] at e1
      have e2 : (DataW.held [c] : DataW (List Nat)) = .held [b] := e1
      cases e2
      rfl
  subst hb
  rw [hrun]
  cases hz H a <;> rfl
theorem HmAt.small {w : World} {m : Nat} {H : List (Option Nat)} (h : HmAt w m H) {a : Int} (h1 : -9223372036854775808 ≤ a) (h2 : a ≤ 9223372036854775807) {i : Nat} (hi : hz H a = some i) : i < 64 := by
  obtain ⟨v, ps, hrun, hv⟩ := h.own.look_ok ikey Tryz.underlying93 (zero_int w) (idxR_of (i := 0) (by decide)) (ikey_of h1 h2)
  rw [at_mapD, gz_lst, hi] at hv
  obtain ⟨b, hb, rfl, e⟩ := idxR_inv hv
  have e2 : (DataW.held [i] : DataW (List Nat)) = .held [b] := congrArg Prod.fst e
  cases e2
  exact hb
theorem HmAt.put {w : World} {m : Nat} {H : List (Option Nat)} (h : HmAt w m H) {k : Nat} (hk : k < H.length) {i : Nat} (hi : i < 64) :
    ∃ w', (Instr.mapUpdate 93 (.map (some m)) (.int .i64 (k : Int)) (.int .i64 (i : Int))).run Tryz.prog w = .ok () w' ∧ HmAt w' m (H.set k (some i)) ∧ Touch (· = m) w w' := by
  have hl := h.len
  have hc := count_le (lst H)
  rw [lst_length] at hc
  obtain ⟨w', hrun, h1, h2⟩ := h.own.update ikey Tryz.underlying93 (by unfold maxLen; omega) (ikey_of (a := (k : Int)) (by omega) (by omega)) (idxR_of hi)
  rw [mapD_put (by rw [lst_length]; exact hl) (by rw [lst_length]; exact hk)] at h1
  exact ⟨w', hrun, .of (by rw [lst_set]; exact h1) (by rw [List.length_set]; exact hl), .of_grown h2 rfl⟩
theorem canonK_del {D : DataW (List Nat)} {P : Lit → Prop} (h : CanonK P D) (k : Lit) : CanonK P (D.del k) := by
  obtain ⟨es, rfl, h1, h2⟩ := h
  rw [DataW.del_eq]
  exact ⟨_, rfl, h1.sublist List.filter_sublist, fun p hp => h2 p (List.mem_filter.1 hp).1⟩
theorem mapD_del {L : List (Option (List Nat))} (hL : L.length ≤ 65536) {i : Nat} (hi : i < L.length) : (mapD L).del (.int .i64 (i : Int)) = mapD (L.set i none) := by
  refine mapD_ext (canonK_del (canonK_mapD hL) _) (fun z => ?_) (fun z zd c hc => ?_)
  · rw [gz_set hi]
    by_cases h : z = i
    · subst h
      rw [if_pos rfl, has_del_same]; rfl
    · rw [if_neg h, has_del_other (by intro e; cases e; exact h rfl), has_mapD]
  · rw [gz_set hi] at hc
    by_cases h : z = i
    · rw [if_pos h] at hc; cases hc
    · rw [if_neg h] at hc
      rw [atKey_del_other (by intro e; cases e; exact h rfl), at_mapD, hc]
theorem HmAt.drop {w : World} {m : Nat} {H : List (Option Nat)} (h : HmAt w m H) {k : Nat} (hk : k < H.length) :
    ∃ w', (∀ ty : TypeId, (Builtin.delete_ #[93, 3] ty #[.map (some m), .int .i64 (k : Int)]).run Tryz.prog w = .ok (.tuple #[]) w') ∧ HmAt w' m (H.set k none) ∧ Touch (· = m) w w' := by
  have hl := h.len
  obtain ⟨w', hrun, h1, h2⟩ := h.own.drop ikey Tryz.underlying93 (ikey_of (a := (k : Int)) (by omega) (by omega)) 3
  rw [mapD_del (by rw [lst_length]; exact hl) (by rw [lst_length]; exact hk)] at h1
  exact ⟨w', fun ty => hrun, .of (by rw [lst_set]; exact h1) (by rw [List.length_set]; exact hl), .of_grown h2.grown rfl⟩
theorem HmAt.len_run {w : World} {m : Nat} {H : List (Option Nat)} (h : HmAt w m H) (ty : TypeId) : (Builtin.len_ #[93] ty #[.map (some m)]).run Tryz.prog w = .ok (.int .i64 (H.countP Option.isSome : Nat)) w := by
  rw [← lst_count, ← size_mapD]
  exact h.own.len Tryz.underlying93 ty
def heldL (H : List (Option Nat)) : List Nat := Dk.listL 0 (lst H)
theorem heldL_rising (H : List (Option Nat)) : (heldL H).Pairwise (· < ·) ∧ ∀ x ∈ heldL H, x < H.length := by
  obtain ⟨h1, h2⟩ := listL_rising (lst H) 0
  refine ⟨h1, fun x hx => ?_⟩
  have := (h2 x hx).2
  rw [lst_length] at this
  omega
end Go.Proofs.YtbpodmallknhfaaGreat
