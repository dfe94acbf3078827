/- The maps by which the program keeps its sectors, told as a list: number by number what is there. Conditions: none. -/
import Derived.Test.YtkmkbjjpbodbfaaTouch
import Derived.Test.YtkmkbjjpbodbfaaDiskPure
import Derived.Maps.OwnSet
import Derived.Lib.SlMapMerge
import Derived.Maps.RangeWalk
namespace Go.Proofs.Ytkmkbjjpbodbfaa
open Go.RowKit Go.Maps

/-- A sector as a value. -/
def av (b : List Nat) : Value := .agg (bytesV b).toArray

theorem bytesV_inj : ∀ {a b : List Nat}, bytesV a = bytesV b → a = b
  | [], [], _ => rfl
  | [], _ :: _, h => by simp [bytesV] at h
  | _ :: _, [], h => by simp [bytesV] at h
  | x :: a, y :: b, h => by
    simp only [bytesV, List.map_cons, List.cons.injEq, Value.int.injEq, true_and] at h
    have h1 : x = y := by omega
    rw [h1, bytesV_inj (a := a) (b := b) h.2]
theorem av_inj {a b : List Nat} (h : av a = av b) : a = b := by
  simp only [av, Value.agg.injEq] at h
  exact bytesV_inj (congrArg Array.toList h)

open Classical in
/-- How a sector's value reads. -/
noncomputable def secR (v : Value) : Option (DataW (List Nat) × List MemPlace) :=
  if h : ∃ b, Dk.Sec b ∧ v = av b then some (.held h.choose, []) else none
theorem secR_av {b : List Nat} (h : Dk.Sec b) : secR (av b) = some (.held b, []) := by
  have h1 : ∃ b', Dk.Sec b' ∧ av b = av b' := ⟨b, h, rfl⟩
  have h2 : h1.choose = b := (av_inj h1.choose_spec.2).symm
  unfold secR
  rw [dif_pos h1, h2]
theorem secR_inv {v : Value} {y : DataW (List Nat) × List MemPlace} (h : secR v = some y) : ∃ b, Dk.Sec b ∧ v = av b ∧ y = (.held b, []) := by
  unfold secR at h
  split at h
  · next h1 =>
    cases h
    exact ⟨_, h1.choose_spec.1, h1.choose_spec.2, rfl⟩
  · cases h

theorem ikey : Keyed Try.prog 3 := int_keyed Try.underlying3
theorem ikey_of {a : Int} (h1 : -9223372036854775808 ≤ a) (h2 : a ≤ 9223372036854775807) : keyOf Try.prog 3 (.int .i64 a) = some (.int .i64 a) := keyOf_int_mk Try.underlying3 (WalkArith.wf_i64 ⟨h1, h2⟩)

/-- What is there: entries by rising numbers. -/
def ents : Nat → List (Option (List Nat)) → List (Lit × DataW (List Nat))
  | _, [] => []
  | i, none :: r => ents (i + 1) r
  | i, some b :: r => (.int .i64 (i : Int), .held b) :: ents (i + 1) r
def mapD (L : List (Option (List Nat))) : DataW (List Nat) := .map (ents 0 L)
/-- What stands at a number. -/
def gz (L : List (Option (List Nat))) (z : Int) : Option (List Nat) := if 0 ≤ z then L.getD z.toNat none else none
theorem gz_nat (L : List (Option (List Nat))) (i : Nat) : gz L (i : Int) = L.getD i none := by simp [gz]

theorem same_int (a b : Int) : Lit.sameKey (.int .i64 a) (.int .i64 b) = decide (a = b) := by simp [Lit.sameKey]
theorem find_ents : ∀ (L : List (Option (List Nat))) (i : Nat) (z : Int), (ents i L).find? (fun p => p.1.sameKey (.int .i64 z)) = (gz L (z - i)).map fun b => (.int .i64 z, .held b)
  | [], i, z => by simp [ents, gz]
  | x :: r, i, z => by
    have ih := find_ents r (i + 1) z
    have hg : gz (x :: r) (z - i) = if z = i then x else gz r (z - ((i + 1 : Nat) : Int)) := by
      unfold gz
      by_cases h1 : z = i
      · rw [if_pos h1, if_pos (by omega), h1, show ((i : Int) - i).toNat = 0 by omega]; rfl
      · rw [if_neg h1]
        by_cases h2 : 0 ≤ z - (i : Int)
        · rw [if_pos h2, if_pos (by omega), show (z - (i : Int)).toNat = (z - ((i + 1 : Nat) : Int)).toNat + 1 by omega]; rfl
        · rw [if_neg h2, if_neg (by omega)]
    rw [hg]
    cases x with
    | none =>
      show (ents (i + 1) r).find? _ = _
      rw [ih]
      by_cases h1 : z = i
      · rw [if_pos h1]
        have : gz r (z - ((i + 1 : Nat) : Int)) = none := by unfold gz; rw [if_neg (by omega)]
        rw [this]
      · rw [if_neg h1]
    | some b =>
      by_cases h1 : z = i
      · rw [if_pos h1]
        subst h1
        show List.find? _ ((Lit.int .i64 (i : Int), DataW.held b) :: ents (i + 1) r) = _
        rw [List.find?_cons_of_pos (by simp [same_int])]
        rfl
      · rw [if_neg h1]
        show List.find? _ ((Lit.int .i64 (i : Int), DataW.held b) :: ents (i + 1) r) = _
        rw [List.find?_cons_of_neg (by simp [same_int]; omega), ih]

theorem any_find {α : Type} (f : α → Bool) : ∀ l : List α, l.any f = (l.find? f).isSome
  | [] => rfl
  | a :: l => by
    rw [List.any_cons]
    cases h : f a with
    | true => rw [List.find?_cons_of_pos h]; rfl
    | false => rw [List.find?_cons_of_neg (by rw [h]; decide), ← any_find f l]; rfl
theorem has_mapD (L : List (Option (List Nat))) (z : Int) : has (mapD L) (.int .i64 z) = (gz L z).isSome := by
  show (ents 0 L).any _ = _
  rw [any_find, find_ents, show z - ((0 : Nat) : Int) = z by omega]
  cases gz L z <;> rfl
theorem at_mapD (L : List (Option (List Nat))) (z : Int) (zd : DataW (List Nat)) : (mapD L).atKey (.int .i64 z) zd = match gz L z with | some b => .held b | none => zd := by
  have h := find_ents L 0 z
  rw [show z - ((0 : Nat) : Int) = z by omega] at h
  unfold mapD DataW.atKey
  dsimp only
  rw [h]
  cases gz L z <;> rfl
theorem ents_mem : ∀ {L : List (Option (List Nat))} {i : Nat} {p : Lit × DataW (List Nat)}, p ∈ ents i L → ∃ j b, i ≤ j ∧ j < i + L.length ∧ L.getD (j - i) none = some b ∧ p = (.int .i64 (j : Int), .held b)
  | [], _, _, h => by simp [ents] at h
  | x :: r, i, p, h => by
    have go : p ∈ ents (i + 1) r → ∃ j b, i ≤ j ∧ j < i + (x :: r).length ∧ (x :: r).getD (j - i) none = some b ∧ p = (.int .i64 (j : Int), .held b) := fun h => by
      obtain ⟨j, b, h1, h2, h3, h4⟩ := ents_mem h
      refine ⟨j, b, by omega, by simp; omega, ?_, h4⟩
      rw [show j - i = (j - (i + 1)) + 1 by omega]
      exact h3
    cases x with
    | none => exact go h
    | some b =>
      rcases List.mem_cons.1 h with rfl | h
      · exact ⟨i, b, Nat.le_refl _, by simp, by simp, rfl⟩
      · exact go h
theorem ents_rising : ∀ (L : List (Option (List Nat))) (i : Nat), (ents i L).Pairwise (fun p q => p.1.before q.1 = true)
  | [], _ => List.Pairwise.nil
  | none :: r, i => ents_rising r (i + 1)
  | some b :: r, i => List.Pairwise.cons (fun q hq => by
      obtain ⟨j, c, h1, _, _, rfl⟩ := ents_mem hq
      show decide ((i : Int) < (j : Int)) = true
      exact decide_eq_true (by omega)) (ents_rising r (i + 1))
theorem canon_mapD (L : List (Option (List Nat))) : Canon (mapD L) := ⟨_, rfl, ents_rising L 0, fun p hp => by
  obtain ⟨j, c, _, _, _, rfl⟩ := ents_mem hp
  trivial⟩
theorem canonK_mapD {L : List (Option (List Nat))} (hL : L.length ≤ 65536) : CanonK (KeysOf Try.prog 3) (mapD L) := ⟨_, rfl, ents_rising L 0, fun p hp => by
  obtain ⟨j, c, _, h, _, rfl⟩ := ents_mem hp
  exact ⟨_, ikey_of (by omega) (by omega)⟩⟩
/-- Two maps that tell the same at every number of some kind of keys. -/
theorem mapD_ext {D : DataW (List Nat)} {L : List (Option (List Nat))} (hc : CanonK (KeysOf Try.prog 3) D) (h1 : ∀ z : Int, has D (.int .i64 z) = (gz L z).isSome) (h2 : ∀ (z : Int) zd b, gz L z = some b → D.atKey (.int .i64 z) zd = .held b) : D = mapD L := by
  have other : ∀ D' : DataW (List Nat), (∃ es, D' = .map es ∧ ∀ p ∈ es, ∃ z : Int, p.1 = .int .i64 z) → ∀ k, (∀ z : Int, k ≠ .int .i64 z) → has D' k = false := by
    rintro _ ⟨es, rfl, h⟩ k hk
    show es.any _ = false
    refine List.any_eq_false.2 fun p hp => ?_
    obtain ⟨z, hz⟩ := h p hp
    rw [hz, sameKey_ne (Ne.symm (hk z))]
    decide
  have o1 := other D (by
    obtain ⟨es, e, _, h⟩ := hc
    refine ⟨es, e, fun p hp => ?_⟩
    obtain ⟨v, hv⟩ := h p hp
    obtain ⟨z, _, hz, _⟩ := Maps.keyOf_int_inv Try.underlying3 hv
    exact ⟨z, hz⟩)
  have o2 := other (mapD L) ⟨_, rfl, fun p hp => by obtain ⟨j, c, _, _, _, rfl⟩ := ents_mem hp; exact ⟨_, rfl⟩⟩
  have hh : ∀ k, has D k = has (mapD L) k := fun k => by
    by_cases hk : ∃ z : Int, k = .int .i64 z
    · obtain ⟨z, rfl⟩ := hk
      rw [h1, has_mapD]
    · have hk' : ∀ z : Int, k ≠ .int .i64 z := fun z e => hk ⟨z, e⟩
      rw [o1 k hk', o2 k hk']
  refine ext (hc.canon ikey.one) (canon_mapD L) hh fun k zd hk => ?_
  by_cases hki : ∃ z : Int, k = .int .i64 z
  · obtain ⟨z, rfl⟩ := hki
    rw [h1] at hk
    obtain ⟨b, hb⟩ := Option.isSome_iff_exists.1 hk
    rw [h2 z zd b hb, at_mapD, hb]
  · rw [o1 k fun z e => hki ⟨z, e⟩] at hk
    cases hk
theorem isMap_mapD (L : List (Option (List Nat))) : IsMap (mapD L) := ⟨_, rfl⟩
theorem gz_set {L : List (Option (List Nat))} {i : Nat} (hi : i < L.length) (x : Option (List Nat)) (z : Int) : gz (L.set i x) z = if z = i then x else gz L z := by
  unfold gz
  by_cases h : z = i
  · subst h
    rw [if_pos rfl, if_pos (by omega), Int.toNat_natCast, List.getD_eq_getElem?_getD, List.getElem?_set_self hi]; rfl
  · rw [if_neg h]
    by_cases h0 : 0 ≤ z
    · rw [if_pos h0, if_pos h0, List.getD_eq_getElem?_getD, List.getElem?_set_ne (by omega), ← List.getD_eq_getElem?_getD]
    · rw [if_neg h0, if_neg h0]
theorem mapD_put {L : List (Option (List Nat))} (hL : L.length ≤ 65536) {i : Nat} (hi : i < L.length) (b : List Nat) : (mapD L).put (.int .i64 (i : Int)) (.held b) = mapD (L.set i (some b)) := by
  refine mapD_ext (canonK_put ikey.one ⟨_, ikey_of (by omega) (by omega)⟩ _ (canonK_mapD hL)) (fun z => ?_) (fun z zd c hc => ?_)
  · rw [gz_set hi]
    by_cases h : z = i
    · subst h
      rw [if_pos rfl, has_put_same (isMap_mapD L) (show WideAt.IsKeyLit (.int .i64 (i : Int)) from trivial)]; rfl
    · rw [if_neg h, has_put_other (by intro e; cases e; exact h rfl), has_mapD]
  · rw [gz_set hi] at hc
    by_cases h : z = i
    · subst h
      rw [if_pos rfl] at hc
      cases hc
      exact atKey_put_same (isMap_mapD L) (show WideAt.IsKeyLit (.int .i64 (i : Int)) from trivial) _ _
    · rw [if_neg h] at hc
      rw [atKey_put_other (by intro e; cases e; exact h rfl), at_mapD, hc]
theorem ents_length : ∀ (L : List (Option (List Nat))) (i : Nat), (ents i L).length = L.countP Option.isSome
  | [], _ => rfl
  | none :: r, i => by rw [ents, ents_length r]; simp
  | some b :: r, i => by rw [ents, List.length_cons, ents_length r]; simp
theorem size_mapD (L : List (Option (List Nat))) : Maps.size (mapD L) = L.countP Option.isSome := ents_length L 0
theorem ents_none : ∀ n i : Nat, ents i (List.replicate n none) = []
  | 0, _ => rfl
  | n + 1, i => by rw [List.replicate_succ, ents, ents_none n]
theorem mapD_none (n : Nat) : mapD (List.replicate n none) = .map [] := by rw [mapD, ents_none]
theorem count_le (L : List (Option (List Nat))) : L.countP Option.isSome ≤ L.length := List.countP_le_length

/-- Block m is a map that tells what L does; the list is no longer than a device may be. -/
structure MapAt (w : World) (m : Nat) (L : List (Option (List Nat))) : Prop where
  own : w.ownsMap Try.prog 3 secR m (L.countP Option.isSome) (mapD L)
  len : L.length ≤ 65536

theorem ownsMap_tight {w : World} {P : Program} {k : TypeId} {R : Value → Option (DataW (List Nat) × List MemPlace)} {m n : Nat} {D : DataW (List Nat)} (h : w.ownsMap P k R m n D) : w.ownsMap P k R m (Maps.size D) D := by
  obtain ⟨es, clock, hb, F, hs, rfl⟩ := h
  refine ⟨es, clock, hb, F, ?_, rfl⟩
  show es.size ≤ ((es.toList.map (WideElems.rg P k R)).foldr DataW.insert []).length
  rw [length_sorted]; simp
theorem MapAt.of {w : World} {m n : Nat} {L : List (Option (List Nat))} (h : w.ownsMap Try.prog 3 secR m n (mapD L)) (hL : L.length ≤ 65536) : MapAt w m L :=
  ⟨size_mapD L ▸ ownsMap_tight h, hL⟩
theorem MapAt.lt {w : World} {m : Nat} {L : List (Option (List Nat))} (h : MapAt w m L) : m < w.heap.size := h.own.lt
theorem MapAt.touch {w w' : World} {m : Nat} {L : List (Option (List Nat))} {S : Nat → Prop} (h : MapAt w m L) (ht : Touch S w w') (hs : ¬ S m) : MapAt w' m L := by
  obtain ⟨es, clock, hb, F, hc, hD⟩ := h.own
  exact ⟨⟨es, clock, ht.row hb hs, F, hc, hD⟩, h.len⟩
theorem MapAt.below {w w' : World} {m : Nat} {L : List (Option (List Nat))} (h : MapAt w m L) (hb : Below w.heap.size w w') : MapAt w' m L := by
  have hl := h.lt
  exact h.touch (.of_new (S := fun _ => False) hb) id
theorem MapAt.sec {w : World} {m : Nat} {L : List (Option (List Nat))} (h : MapAt w m L) {z : Int} {b : List Nat} (hz : gz L z = some b) : Dk.Sec b := by
  obtain ⟨es, clock, hb, F, hc, hD⟩ := h.own
  have h1 : (mapD L).atKey (.int .i64 z) .nil = .held b := by rw [at_mapD, hz]
  have h2 : (Lit.int .i64 z, DataW.held b) ∈ ents 0 L := by
    have := find_ents L 0 z
    rw [show z - ((0 : Nat) : Int) = z by omega, hz] at this
    exact List.mem_of_find?_eq_some this
  have h3 : ents 0 L = (es.toList.map (WideElems.rg Try.prog 3 secR)).foldr DataW.insert [] := by
    have := hD
    unfold mapD at this
    exact DataW.map.inj this
  rw [h3] at h2
  obtain ⟨x, hx, he⟩ := List.mem_map.1 (mem_sorted.1 h2)
  obtain ⟨y, hy⟩ := F.reads x hx
  obtain ⟨z', hz', hzd⟩ := WideElems.rd_val hy
  obtain ⟨c, hsc, _, rfl⟩ := secR_inv hz'
  rw [WideElems.rg_of hy] at he
  rw [he] at hzd
  have : DataW.held b = (DataW.held c : DataW (List Nat)) := hzd
  cases this
  exact hsc
theorem mapAt_made (w : World) {n : Nat} (hn : n ≤ 65536) : MapAt (w.alloc (.map #[] 0)) w.heap.size (List.replicate n none) :=
  MapAt.of (by rw [mapD_none]; exact World.ownsMap_made w _ _ _) (by simpa using hn)
theorem zero_sec (w : World) : (zeroValue 77).run Try.prog w = .ok (av Dk.blank) w := by kernel_rfl

/-- 'v, ok := m[at]'. -/
theorem MapAt.look_ok {w : World} {m : Nat} {L : List (Option (List Nat))} (h : MapAt w m L) {a : Int} (h1 : -9223372036854775808 ≤ a) (h2 : a ≤ 9223372036854775807) :
    (Instr.lookup 68 (.map (some m)) (.int .i64 a) true).run Try.prog w = .ok (.tuple #[av ((gz L a).getD Dk.blank), .bool (gz L a).isSome]) w := by
  obtain ⟨v, ps, hrun, hv⟩ := h.own.look_ok ikey Try.underlying68 (zero_sec w) (secR_av Dk.sec_blank) (ikey_of h1 h2)
  rw [has_mapD] at hrun
  rw [at_mapD] at hv
  have hb : ∃ b, v = av b ∧ b = (gz L a).getD Dk.blank := by
    obtain ⟨b, _, rfl, e⟩ := secR_inv hv
    refine ⟨b, rfl, ?_⟩
    have e1 := congrArg Prod.fst e
    cases hg : gz L a with
    | none => rw [hg] at e1; simpa using e1.symm
    | some c => rw [hg] at e1; simpa using e1.symm
  obtain ⟨b, rfl, rfl⟩ := hb
  exact hrun
/-- 'm[at]'. -/
theorem MapAt.look {w : World} {m : Nat} {L : List (Option (List Nat))} (h : MapAt w m L) {a : Int} (h1 : -9223372036854775808 ≤ a) (h2 : a ≤ 9223372036854775807) :
    (Instr.lookup 68 (.map (some m)) (.int .i64 a) false).run Try.prog w = .ok (av ((gz L a).getD Dk.blank)) w := by
  obtain ⟨v, ps, hrun, hv⟩ := h.own.lookup ikey Try.underlying68 (zero_sec w) (secR_av Dk.sec_blank) (ikey_of h1 h2)
  rw [at_mapD] at hv
  have hb : ∃ b, v = av b ∧ b = (gz L a).getD Dk.blank := by
    obtain ⟨b, _, rfl, e⟩ := secR_inv hv
    refine ⟨b, rfl, ?_⟩
    have e1 := congrArg Prod.fst e
    cases hg : gz L a with
    | none => rw [hg] at e1; simpa using e1.symm
    | some c => rw [hg] at e1; simpa using e1.symm
  obtain ⟨b, rfl, rfl⟩ := hb
  exact hrun
/-- 'm[at] = v'. -/
theorem MapAt.put {w : World} {m : Nat} {L : List (Option (List Nat))} (h : MapAt w m L) {i : Nat} (hi : i < L.length) {b : List Nat} (hb : Dk.Sec b) :
    ∃ w', (Instr.mapUpdate 68 (.map (some m)) (.int .i64 (i : Int)) (av b)).run Try.prog w = .ok () w' ∧ MapAt w' m (L.set i (some b)) ∧ Touch (· = m) w w' := by
  have hl := h.len
  have hc := count_le L
  obtain ⟨w', hrun, h1, h2⟩ := h.own.update ikey Try.underlying68 (by unfold maxLen; omega) (ikey_of (a := (i : Int)) (by omega) (by omega)) (secR_av hb)
  rw [mapD_put hl hi] at h1
  exact ⟨w', hrun, .of h1 (by rw [List.length_set]; exact hl), .of_grown h2 rfl⟩
/-- 'len(m)'. -/
theorem MapAt.len_run {w : World} {m : Nat} {L : List (Option (List Nat))} (h : MapAt w m L) (ty : TypeId) : (Builtin.len_ #[68] ty #[.map (some m)]).run Try.prog w = .ok (.int .i64 (L.countP Option.isSome : Nat)) w := by
  rw [← size_mapD]
  exact h.own.len Try.underlying68 ty
/-- 'clear(m)'. -/
theorem MapAt.clear_run {w : World} {m : Nat} {L : List (Option (List Nat))} (h : MapAt w m L) :
    ∃ w', (∀ ty : TypeId, (Builtin.clear_ #[68] ty #[.map (some m)]).run Try.prog w = .ok (.tuple #[]) w') ∧ MapAt w' m (List.replicate L.length none) ∧ Touch (· = m) w w' := by
  have hlt := h.lt
  have hlen := h.len
  obtain ⟨es, clock, hb, F, hc, hD⟩ := h.own
  refine ⟨ChangeMaps.setBlock w m (.map #[] clock), fun ty => ?_, .of (n := 0) ?_ (by simpa using hlen), ?_⟩
  · simp [Builtin.clear_, run_underlying Try.underlying68, MapKept.run_getObj_map hb, MapKept.run_setObj_map _ hb, Result.andThen, ChangeMaps.setBlock]
  · rw [mapD_none]
    exact ⟨#[], clock, ChangeMaps.heap_setBlock_same hb _, ⟨by simp, MapKept.stamped_empty clock, by simp⟩, Nat.le_refl _, rfl⟩
  · exact .of_grown (g := m) ⟨rfl, rfl, rfl, by simp [ChangeMaps.setBlock], fun i _ hi => ChangeMaps.heap_setBlock_other hb _ (fun e => hi (by rw [e]))⟩ rfl
end Go.Proofs.Ytkmkbjjpbodbfaa
