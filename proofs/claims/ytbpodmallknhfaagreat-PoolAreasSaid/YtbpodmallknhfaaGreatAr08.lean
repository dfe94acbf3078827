/- Parts of a proof. Conditions: as each row says. -/
import Derived.Test.YtbpodmallknhfaaGreatAr03
import Derived.Maps.OwnSet
import Derived.Lib.SlMapMerge
import Derived.Maps.RangeWalk
import Derived.Lib.SmallJoins
import Derived.IntWalk
import Derived.Laws.Tables
namespace Go.Proofs.YtbpodmallknhfaaGreat.Dk
structure Dev where
  lasts : List (List Nat)
  waits : List (Option (List Nat))
  seen : List Bool
  most : Nat
  armed : Nat
  off : Bool
def blank : List Nat := List.replicate 128 0
def size (d : Dev) : Nat := d.lasts.length
def fresh (n most : Nat) : Dev := ⟨List.replicate n blank, List.replicate n none, List.replicate n false, most, 0, false⟩
def used (d : Dev) : Nat := d.seen.count true
def goes (d : Dev) : Dev := if 0 < d.armed then { d with armed := d.armed - 1, off := decide (d.armed - 1 = 0) } else d
def bad (d : Dev) (at_ : Int) : Prop := at_ < 0 ∨ (size d : Int) ≤ at_
instance (d : Dev) (a : Int) : Decidable (bad d a) := by unfold bad; infer_instance
def put (d : Dev) (i : Nat) (b : List Nat) : Dev := { d with waits := d.waits.set i (some b), seen := d.seen.set i true }
def write (d : Dev) (at_ : Int) (b : List Nat) : Dev × Nat :=
  if d.off then (d, 6) else if bad d at_ ∨ b.length ≠ 128 then (d, 2) else
    if d.seen.getD at_.toNat false = false ∧ d.most ≤ used d then (d, 5) else
      (goes (put d at_.toNat b), if (goes (put d at_.toNat b)).off then 6 else 0)
def read (d : Dev) (at_ : Int) : List Nat × Nat :=
  if d.off then ([], 6) else if bad d at_ then ([], 2) else
    ((d.waits.getD at_.toNat none).getD (d.lasts.getD at_.toNat []), 0)
def none_ (d : Dev) : List (Option (List Nat)) := List.replicate (size d) none
def last (d : Dev) : Dev := { d with lasts := List.zipWith (fun w l => w.getD l) d.waits d.lasts, waits := none_ d }
def sync (d : Dev) : Dev × Nat := if d.off then (d, 6) else if (goes d).off then (goes d, 6) else (last (goes d), 0)
def pick (p : Nat) (old new : List Nat) : List Nat :=
  if p % 4 = 0 then old else if p % 4 = 1 then new else if p % 4 = 2 then new.take 64 ++ old.drop 64 else old.take 64 ++ new.drop 64
def crashL : List (Option (List Nat)) → List (List Nat) → List Nat → List (List Nat)
  | none :: ws, l :: ls, ps => l :: crashL ws ls ps
  | some b :: ws, l :: ls, ps => pick (ps.headD 0) l b :: crashL ws ls ps.tail
  | _, _, _ => []
def crash (d : Dev) (ps : List Nat) : Dev := { d with lasts := crashL d.waits d.lasts ps, waits := none_ d, off := false, armed := 0 }
def listL : Nat → List (Option (List Nat)) → List Nat
  | _, [] => []
  | i, none :: ws => listL (i + 1) ws
  | i, some _ :: ws => i :: listL (i + 1) ws
def list (d : Dev) : List Nat := listL 0 d.waits
def Sec (b : List Nat) : Prop := b.length = 128 ∧ ∀ x ∈ b, x < 256
structure Ok (d : Dev) : Prop where
  w : d.waits.length = size d
  s : d.seen.length = size d
  l1 : ∀ b ∈ d.lasts, Sec b
  w1 : ∀ b, some b ∈ d.waits → Sec b
theorem sec_blank : Sec blank := ⟨by simp [blank], fun x hx => by rw [List.eq_of_mem_replicate hx]; decide⟩
theorem ok_fresh (n most : Nat) : Ok (fresh n most) where
  w := by simp [fresh, size]
  s := by simp [fresh, size]
  l1 := fun b hb => by rw [List.eq_of_mem_replicate hb]; exact sec_blank
  w1 := fun b hb => by have := List.eq_of_mem_replicate hb; cases this
theorem goes_same (d : Dev) : (goes d).lasts = d.lasts ∧ (goes d).waits = d.waits ∧ (goes d).seen = d.seen ∧ (goes d).most = d.most := by
  unfold goes; split <;> exact ⟨rfl, rfl, rfl, rfl⟩
theorem ok_goes {d : Dev} (h : Ok d) : Ok (goes d) := by
  obtain ⟨h1, h2, h3, h4⟩ := goes_same d
  exact ⟨by unfold size; rw [h1, h2]; exact h.w, by unfold size; rw [h1, h3]; exact h.s, by rw [h1]; exact h.l1, by rw [h2]; exact h.w1⟩
theorem ok_put {d : Dev} (h : Ok d) (i : Nat) {b : List Nat} (hb : Sec b) : Ok (put d i b) where
  w := by show (d.waits.set i (some b)).length = _; rw [List.length_set]; exact h.w
  s := by show (d.seen.set i true).length = _; rw [List.length_set]; exact h.s
  l1 := h.l1
  w1 := fun c hc => by
    rcases List.mem_or_eq_of_mem_set hc with hc | hc
    · exact h.w1 c hc
    · cases hc; exact hb
theorem sec_pick {p : Nat} {a b : List Nat} (ha : Sec a) (hb : Sec b) : Sec (pick p a b) := by
  have mix : ∀ u v : List Nat, Sec u → Sec v → Sec (u.take 64 ++ v.drop 64) := fun u v hu hv => by
    refine ⟨by rw [List.length_append, List.length_take, List.length_drop, hu.1, hv.1]; rfl, fun x hx => ?_⟩
    rcases List.mem_append.1 hx with hx | hx
    · exact hu.2 x (List.mem_of_mem_take hx)
    · exact hv.2 x (List.mem_of_mem_drop hx)
  unfold pick
  split
  · exact ha
  split
  · exact hb
  split
  · exact mix b a hb ha
  · exact mix a b ha hb
theorem crashL_length : ∀ (ws : List (Option (List Nat))) (ls : List (List Nat)) (ps : List Nat), ws.length = ls.length → (crashL ws ls ps).length = ls.length
  | [], [], _, _ => rfl
  | none :: ws, l :: ls, ps, h => by simp only [crashL, List.length_cons] at *; rw [crashL_length ws ls ps (by omega)]
  | some b :: ws, l :: ls, ps, h => by simp only [crashL, List.length_cons] at *; rw [crashL_length ws ls ps.tail (by omega)]
  | [], _ :: _, _, h => by simp at h
  | _ :: _, [], _, h => by simp at h
theorem crashL_sec : ∀ (ws : List (Option (List Nat))) (ls : List (List Nat)) (ps : List Nat), (∀ b ∈ ls, Sec b) → (∀ b, some b ∈ ws → Sec b) → ∀ b ∈ crashL ws ls ps, Sec b
  | [], _, _, _, _, b, hb => by simp [crashL] at hb
  | none :: _, [], _, _, _, b, hb => by simp [crashL] at hb
  | some _ :: _, [], _, _, _, b, hb => by simp [crashL] at hb
  | none :: ws, l :: ls, ps, h1, h2, b, hb => by
    rw [crashL] at hb
    rcases List.mem_cons.1 hb with rfl | hb
    · exact h1 _ (List.mem_cons_self ..)
    · exact crashL_sec ws ls ps (fun b hb => h1 b (List.mem_cons_of_mem _ hb)) (fun b hb => h2 b (List.mem_cons_of_mem _ hb)) b hb
  | some c :: ws, l :: ls, ps, h1, h2, b, hb => by
    rw [crashL] at hb
    rcases List.mem_cons.1 hb with rfl | hb
    · exact sec_pick (h1 _ (List.mem_cons_self ..)) (h2 c (List.mem_cons_self ..))
    · exact crashL_sec ws ls ps.tail (fun b hb => h1 b (List.mem_cons_of_mem _ hb)) (fun b hb => h2 b (List.mem_cons_of_mem _ hb)) b hb
theorem ok_crash {d : Dev} (h : Ok d) (ps : List Nat) : Ok (crash d ps) := by
  have hl : (crashL d.waits d.lasts ps).length = d.lasts.length := crashL_length _ _ _ h.w
  exact ⟨by show (none_ d).length = (crashL d.waits d.lasts ps).length; rw [hl]; simp [none_, size], by show d.seen.length = (crashL d.waits d.lasts ps).length; rw [hl]; exact h.s,
    crashL_sec _ _ _ h.l1 h.w1, fun b hb => by have := List.eq_of_mem_replicate (show some b ∈ List.replicate (size d) none from hb); cases this⟩
theorem ok_last {d : Dev} (h : Ok d) : Ok (last d) := by
  have hl : (List.zipWith (fun (w : Option (List Nat)) l => w.getD l) d.waits d.lasts).length = d.lasts.length := by
    rw [List.length_zipWith]; have := h.w; unfold size at this; omega
  refine ⟨by show (none_ d).length = (List.zipWith _ d.waits d.lasts).length; rw [hl]; simp [none_, size], by show d.seen.length = (List.zipWith _ d.waits d.lasts).length; rw [hl]; exact h.s, fun b hb => ?_, fun b hb => by have := List.eq_of_mem_replicate (show some b ∈ List.replicate (size d) none from hb); cases this⟩
  obtain ⟨i, hi, rfl⟩ := List.getElem_of_mem (show b ∈ List.zipWith (fun (w : Option (List Nat)) l => w.getD l) d.waits d.lasts from hb)
  rw [List.getElem_zipWith]
  rw [List.length_zipWith] at hi
  cases hw : d.waits[i]'(by omega) with
  | none => exact h.l1 _ (List.getElem_mem _)
  | some c => exact h.w1 c (by rw [← hw]; exact List.getElem_mem _)
end Go.Proofs.YtbpodmallknhfaaGreat.Dk
namespace Go.Proofs.YtbpodmallknhfaaGreat
open Go.RowKit Go.Maps
def av (b : List Nat) : Value := .agg (bytesV b).toArray
theorem bytesV_inj : ∀ {a b : List Nat}, bytesV a = bytesV b → a = b
  | [], [], _ => rfl
  | [], _ :: _, h => by simp [bytesV] at h
  | _ :: _, [], h => by simp [bytesV] at h
  | x :: a, y :: b, h => by
    simp only [bytesV, List.map_cons, List.cons.injEq, Value.int.injEq, true_and] at h
    have h1 : x = y := by omega
    rw [h1, bytesV_inj (a := a) (b := b) h.2]
theorem av_inj {a b : List Nat} (h : av a = av b) : a = b := by
  simp only [av, Value.agg.injEq] at h
  exact bytesV_inj (congrArg Array.toList h)
open Classical in
noncomputable def secR (v : Value) : Option (DataW (List Nat) × List MemPlace) :=
  if h : ∃ b, Dk.Sec b ∧ v = av b then some (.held h.choose, []) else none
theorem secR_av {b : List Nat} (h : Dk.Sec b) : secR (av b) = some (.held b, []) := by
  have h1 : ∃ b', Dk.Sec b' ∧ av b = av b' := ⟨b, h, rfl⟩
  have h2 : h1.choose = b := (av_inj h1.choose_spec.2).symm
  unfold secR
  rw [dif_pos h1, h2]
theorem secR_inv {v : Value} {y : DataW (List Nat) × List MemPlace} (h : secR v = some y) : ∃ b, Dk.Sec b ∧ v = av b ∧ y = (.held b, []) := by
  unfold secR at h
  split at h
  · next h1 =>
    cases h
    exact ⟨_, h1.choose_spec.1, h1.choose_spec.2, rfl⟩
  · cases h
theorem ikey : Keyed Tryz.prog 3 := int_keyed Tryz.underlying3
theorem ikey_of {a : Int} (h1 : -9223372036854775808 ≤ a) (h2 : a ≤ 9223372036854775807) : keyOf Tryz.prog 3 (.int .i64 a) = some (.int .i64 a) := keyOf_int_mk Tryz.underlying3 (WalkArith.wf_i64 ⟨h1, h2⟩)
def ents : Nat → List (Option (List Nat)) → List (Lit × DataW (List Nat))
  | _, [] => []
  | i, none :: r => ents (i + 1) r
  | i, some b :: r => (.int .i64 (i : Int), .held b) :: ents (i + 1) r
def mapD (L : List (Option (List Nat))) : DataW (List Nat) := .map (ents 0 L)
def gz (L : List (Option (List Nat))) (z : Int) : Option (List Nat) := if 0 ≤ z then L.getD z.toNat none else none
theorem gz_nat (L : List (Option (List Nat))) (i : Nat) : gz L (i : Int) = L.getD i none := by simp [gz]
theorem same_int (a b : Int) : Lit.sameKey (.int .i64 a) (.int .i64 b) = decide (a = b) := by simp [Lit.sameKey]
theorem find_ents : ∀ (L : List (Option (List Nat))) (i : Nat) (z : Int), (ents i L).find? (fun p => p.1.sameKey (.int .i64 z)) = (gz L (z - i)).map fun b => (.int .i64 z, .held b)
  | [], i, z => by simp [ents, gz]
  | x :: r, i, z => by
    have ih := find_ents r (i + 1) z
    have hg : gz (x :: r) (z - i) = if z = i then x else gz r (z - ((i + 1 : Nat) : Int)) := by
      unfold gz
      by_cases h1 : z = i
      · rw [if_pos h1, if_pos (by omega), h1, show ((i : Int) - i).toNat = 0 by omega]; rfl
      · rw [if_neg h1]
        by_cases h2 : 0 ≤ z - (i : Int)
        · rw [if_pos h2, if_pos (by omega), show (z - (i : Int)).toNat = (z - ((i + 1 : Nat) : Int)).toNat + 1 by omega]; rfl
        · rw [if_neg h2, if_neg (by omega)]
    rw [hg]
    cases x with
    | none =>
      show (ents (i + 1) r).find? _ = _
      rw [ih]
      by_cases h1 : z = i
      · rw [if_pos h1]
        have : gz r (z - ((i + 1 : Nat) : Int)) = none := by unfold gz; rw [if_neg (by omega)]
        rw [this]
      · rw [if_neg h1]
    | some b =>
      by_cases h1 : z = i
      · rw [if_pos h1]
        subst h1
        show List.find? _ ((Lit.int .i64 (i : Int), DataW.held b) :: ents (i + 1) r) = _
        rw [List.find?_cons_of_pos (by simp [same_int])]
        rfl
      · rw [if_neg h1]
        show List.find? _ ((Lit.int .i64 (i : Int), DataW.held b) :: ents (i + 1) r) = _
        rw [List.find?_cons_of_neg (by simp [same_int]; omega), ih]
theorem any_find {α : Type} (f : α → Bool) : ∀ l : List α, l.any f = (l.find? f).isSome
  | [] => rfl
  | a :: l => by
    rw [List.any_cons]
    cases h : f a with
    | true => rw [List.find?_cons_of_pos h]; rfl
    | false => rw [List.find?_cons_of_neg (by rw [h]; decide), ← any_find f l]; rfl
theorem has_mapD (L : List (Option (List Nat))) (z : Int) : has (mapD L) (.int .i64 z) = (gz L z).isSome := by
  show (ents 0 L).any _ = _
  rw [any_find, find_ents, show z - ((0 : Nat) : Int) = z by omega]
  cases gz L z <;> rfl
theorem at_mapD (L : List (Option (List Nat))) (z : Int) (zd : DataW (List Nat)) : (mapD L).atKey (.int .i64 z) zd = match gz L z with | some b => .held b | none => zd := by
  have h := find_ents L 0 z
  rw [show z - ((0 : Nat) : Int) = z by omega] at h
  unfold mapD DataW.atKey
  dsimp only
  rw [h]
  cases gz L z <;> rfl
theorem ents_mem : ∀ {L : List (Option (List Nat))} {i : Nat} {p : Lit × DataW (List Nat)}, p ∈ ents i L → ∃ j b, i ≤ j ∧ j < i + L.length ∧ L.getD (j - i) none = some b ∧ p = (.int .i64 (j : Int), .held b)
  | [], _, _, h => by simp [ents] at h
  | x :: r, i, p, h => by
    have go : p ∈ ents (i + 1) r → ∃ j b, i ≤ j ∧ j < i + (x :: r).length ∧ (x :: r).getD (j - i) none = some b ∧ p = (.int .i64 (j : Int), .held b) := fun h => by
      obtain ⟨j, b, h1, h2, h3, h4⟩ := ents_mem h
      refine ⟨j, b, by omega, by simp; omega, ?_, h4⟩
      rw [show j - i = (j - (i + 1)) + 1 by omega]
      exact h3
    cases x with
    | none => exact go h
    | some b =>
      rcases List.mem_cons.1 h with rfl | h
      · exact ⟨i, b, Nat.le_refl _, by simp, by simp, rfl⟩
      · exact go h
theorem ents_rising : ∀ (L : List (Option (List Nat))) (i : Nat), (ents i L).Pairwise (fun p q => p.1.before q.1 = true)
  | [], _ => List.Pairwise.nil
  | none :: r, i => ents_rising r (i + 1)
  | some b :: r, i => List.Pairwise.cons (fun q hq => by
      obtain ⟨j, c, h1, _, _, rfl⟩ := ents_mem hq
      show decide ((i : Int) < (j : Int)) = true
      exact decide_eq_true (by omega)) (ents_rising r (i + 1))
theorem canon_mapD (L : List (Option (List Nat))) : Canon (mapD L) := ⟨_, rfl, ents_rising L 0, fun p hp => by
  obtain ⟨j, c, _, _, _, rfl⟩ := ents_mem hp
  trivial⟩
theorem canonK_mapD {L : List (Option (List Nat))} (hL : L.length ≤ 65536) : CanonK (KeysOf Tryz.prog 3) (mapD L) := ⟨_, rfl, ents_rising L 0, fun p hp => by
  obtain ⟨j, c, _, h, _, rfl⟩ := ents_mem hp
  exact ⟨_, ikey_of (by omega) (by omega)⟩⟩
theorem mapD_ext {D : DataW (List Nat)} {L : List (Option (List Nat))} (hc : CanonK (KeysOf Tryz.prog 3) D) (h1 : ∀ z : Int, has D (.int .i64 z) = (gz L z).isSome) (h2 : ∀ (z : Int) zd b, gz L z = some b → D.atKey (.int .i64 z) zd = .held b) : D = mapD L := by
  have other : ∀ D' : DataW (List Nat), (∃ es, D' = .map es ∧ ∀ p ∈ es, ∃ z : Int, p.1 = .int .i64 z) → ∀ k, (∀ z : Int, k ≠ .int .i64 z) → has D' k = false := by
    rintro _ ⟨es, rfl, h⟩ k hk
    show es.any _ = false
    refine List.any_eq_false.2 fun p hp => ?_
    obtain ⟨z, hz⟩ := h p hp
    rw [hz, sameKey_ne (Ne.symm (hk z))]
    decide
  have o1 := other D (by
    obtain ⟨es, e, _, h⟩ := hc
    refine ⟨es, e, fun p hp => ?_⟩
    obtain ⟨v, hv⟩ := h p hp
    obtain ⟨z, _, hz, _⟩ := Maps.keyOf_int_inv Tryz.underlying3 hv
    exact ⟨z, hz⟩)
  have o2 := other (mapD L) ⟨_, rfl, fun p hp => by obtain ⟨j, c, _, _, _, rfl⟩ := ents_mem hp; exact ⟨_, rfl⟩⟩
  have hh : ∀ k, has D k = has (mapD L) k := fun k => by
    by_cases hk : ∃ z : Int, k = .int .i64 z
    · obtain ⟨z, rfl⟩ := hk
      rw [h1, has_mapD]
    · have hk' : ∀ z : Int, k ≠ .int .i64 z := fun z e => hk ⟨z, e⟩
      rw [o1 k hk', o2 k hk']
  refine ext (hc.canon ikey.one) (canon_mapD L) hh fun k zd hk => ?_
  by_cases hki : ∃ z : Int, k = .int .i64 z
  · obtain ⟨z, rfl⟩ := hki
    rw [h1] at hk
    obtain ⟨b, hb⟩ := Option.isSome_iff_exists.1 hk
    rw [h2 z zd b hb, at_mapD, hb]
  · rw [o1 k fun z e => hki ⟨z, e⟩] at hk
    cases hk
theorem isMap_mapD (L : List (Option (List Nat))) : IsMap (mapD L) := ⟨_, rfl⟩
theorem gz_set {L : List (Option (List Nat))} {i : Nat} (hi : i < L.length) (x : Option (List Nat)) (z : Int) : gz (L.set i x) z = if z = i then x else gz L z := by
  unfold gz
  by_cases h : z = i
  · subst h
    rw [if_pos rfl, if_pos (by omega), Int.toNat_natCast, List.getD_eq_getElem?_getD, List.getElem?_set_self hi]; rfl
  · rw [if_neg h]
    by_cases h0 : 0 ≤ z
    · rw [if_pos h0, if_pos h0, List.getD_eq_getElem?_getD, List.getElem?_set_ne (by omega), ← List.getD_eq_getElem?_getD]
    · rw [if_neg h0, if_neg h0]
theorem mapD_put {L : List (Option (List Nat))} (hL : L.length ≤ 65536) {i : Nat} (hi : i < L.length) (b : List Nat) : (mapD L).put (.int .i64 (i : Int)) (.held b) = mapD (L.set i (some b)) := by
  refine mapD_ext (canonK_put ikey.one ⟨_, ikey_of (by omega) (by omega)⟩ _ (canonK_mapD hL)) (fun z => ?_) (fun z zd c hc => ?_)
  · rw [gz_set hi]
    by_cases h : z = i
    · subst h
      rw [if_pos rfl, has_put_same (isMap_mapD L) (show WideAt.IsKeyLit (.int .i64 (i : Int)) from trivial)]; rfl
    · rw [if_neg h, has_put_other (by intro e; cases e; exact h rfl), has_mapD]
  · rw [gz_set hi] at hc
    by_cases h : z = i
    · subst h
      rw [if_pos rfl] at hc
      cases hc
      exact atKey_put_same (isMap_mapD L) (show WideAt.IsKeyLit (.int .i64 (i : Int)) from trivial) _ _
    · rw [if_neg h] at hc
      rw [atKey_put_other (by intro e; cases e; exact h rfl), at_mapD, hc]
theorem ents_length : ∀ (L : List (Option (List Nat))) (i : Nat), (ents i L).length = L.countP Option.isSome
  | [], _ => rfl
  | none :: r, i => by rw [ents, ents_length r]; simp
  | some b :: r, i => by rw [ents, List.length_cons, ents_length r]; simp
theorem size_mapD (L : List (Option (List Nat))) : Maps.size (mapD L) = L.countP Option.isSome := ents_length L 0
theorem ents_none : ∀ n i : Nat, ents i (List.replicate n none) = []
  | 0, _ => rfl
  | n + 1, i => by rw [List.replicate_succ, ents, ents_none n]
theorem mapD_none (n : Nat) : mapD (List.replicate n none) = .map [] := by rw [mapD, ents_none]
theorem count_le (L : List (Option (List Nat))) : L.countP Option.isSome ≤ L.length := List.countP_le_length
structure MapAt (w : World) (m : Nat) (L : List (Option (List Nat))) : Prop where
  own : w.ownsMap Tryz.prog 3 secR m (L.countP Option.isSome) (mapD L)
  len : L.length ≤ 65536
theorem ownsMap_tight {w : World} {P : Program} {k : TypeId} {R : Value → Option (DataW (List Nat) × List MemPlace)} {m n : Nat} {D : DataW (List Nat)} (h : w.ownsMap P k R m n D) : w.ownsMap P k R m (Maps.size D) D := by
  obtain ⟨es, clock, hb, F, hs, rfl⟩ := h
  refine ⟨es, clock, hb, F, ?_, rfl⟩
  show es.size ≤ ((es.toList.map (WideElems.rg P k R)).foldr DataW.insert []).length
  rw [length_sorted]; simp
theorem MapAt.of {w : World} {m n : Nat} {L : List (Option (List Nat))} (h : w.ownsMap Tryz.prog 3 secR m n (mapD L)) (hL : L.length ≤ 65536) : MapAt w m L :=
  ⟨size_mapD L ▸ ownsMap_tight h, hL⟩
theorem MapAt.lt {w : World} {m : Nat} {L : List (Option (List Nat))} (h : MapAt w m L) : m < w.heap.size := h.own.lt
theorem MapAt.touch {w w' : World} {m : Nat} {L : List (Option (List Nat))} {S : Nat → Prop} (h : MapAt w m L) (ht : Touch S w w') (hs : ¬ S m) : MapAt w' m L := by
  obtain ⟨es, clock, hb, F, hc, hD⟩ := h.own
  exact ⟨⟨es, clock, ht.row hb hs, F, hc, hD⟩, h.len⟩
theorem MapAt.below {w w' : World} {m : Nat} {L : List (Option (List Nat))} (h : MapAt w m L) (hb : Below w.heap.size w w') : MapAt w' m L := by
  have hl := h.lt
  exact h.touch (.of_new (S := fun _ => False) hb) id
theorem MapAt.sec {w : World} {m : Nat} {L : List (Option (List Nat))} (h : MapAt w m L) {z : Int} {b : List Nat} (hz : gz L z = some b) : Dk.Sec b := by
  obtain ⟨es, clock, hb, F, hc, hD⟩ := h.own
  have h1 : (mapD L).atKey (.int .i64 z) .nil = .held b := by rw [at_mapD, hz]
  have h2 : (Lit.int .i64 z, DataW.held b) ∈ ents 0 L := by
    have := find_ents L 0 z
    rw [show z - ((0 : Nat) : Int) = z by omega, hz] at this
    exact List.mem_of_find?_eq_some this
  have h3 : ents 0 L = (es.toList.map (WideElems.rg Tryz.prog 3 secR)).foldr DataW.insert [] := by
    have := hD
    unfold mapD at this
    exact DataW.map.inj this
  rw [h3] at h2
  obtain ⟨x, hx, he⟩ := List.mem_map.1 (mem_sorted.1 h2)
  obtain ⟨y, hy⟩ := F.reads x hx
  obtain ⟨z', hz', hzd⟩ := WideElems.rd_val hy
  obtain ⟨c, hsc, _, rfl⟩ := secR_inv hz'
  rw [WideElems.rg_of hy] at he
  rw [he] at hzd
  have : DataW.held b = (DataW.held c : DataW (List Nat)) := hzd
  cases this
  exact hsc
theorem mapAt_made (w : World) {n : Nat} (hn : n ≤ 65536) : MapAt (w.alloc (.map #[] 0)) w.heap.size (List.replicate n none) :=
  MapAt.of (by rw [mapD_none]; exact World.ownsMap_made w _ _ _) (by simpa using hn)
theorem zero_sec (w : World) : (zeroValue 127).run Tryz.prog w = .ok (av Dk.blank) w := by kernel_rfl
theorem MapAt.look_ok {w : World} {m : Nat} {L : List (Option (List Nat))} (h : MapAt w m L) {a : Int} (h1 : -9223372036854775808 ≤ a) (h2 : a ≤ 9223372036854775807) :
    (Instr.lookup 105 (.map (some m)) (.int .i64 a) true).run Tryz.prog w = .ok (.tuple #[av ((gz L a).getD Dk.blank), .bool (gz L a).isSome]) w := by
  obtain ⟨v, ps, hrun, hv⟩ := h.own.look_ok ikey Tryz.underlying105 (zero_sec w) (secR_av Dk.sec_blank) (ikey_of h1 h2)
  rw [has_mapD] at hrun
  rw [at_mapD] at hv
  have hb : ∃ b, v = av b ∧ b = (gz L a).getD Dk.blank := by
    obtain ⟨b, _, rfl, e⟩ := secR_inv hv
    refine ⟨b, rfl, ?_⟩
    have e1 := congrArg Prod.fst e
    cases hg : gz L a with
    | none => rw [hg] at e1; simpa using e1.symm
    | some c => rw [hg] at e1; simpa using e1.symm
  obtain ⟨b, rfl, rfl⟩ := hb
  exact hrun
theorem MapAt.look {w : World} {m : Nat} {L : List (Option (List Nat))} (h : MapAt w m L) {a : Int} (h1 : -9223372036854775808 ≤ a) (h2 : a ≤ 9223372036854775807) :
    (Instr.lookup 105 (.map (some m)) (.int .i64 a) false).run Tryz.prog w = .ok (av ((gz L a).getD Dk.blank)) w := by
  obtain ⟨v, ps, hrun, hv⟩ := h.own.lookup ikey Tryz.underlying105 (zero_sec w) (secR_av Dk.sec_blank) (ikey_of h1 h2)
  rw [at_mapD] at hv
  have hb : ∃ b, v = av b ∧ b = (gz L a).getD Dk.blank := by
    obtain ⟨b, _, rfl, e⟩ := secR_inv hv
    refine ⟨b, rfl, ?_⟩
    have e1 := congrArg Prod.fst e
    cases hg : gz L a with
    | none => rw [hg] at e1; simpa using e1.symm
    | some c => rw [hg] at e1; simpa using e1.symm
  obtain ⟨b, rfl, rfl⟩ := hb
  exact hrun
theorem MapAt.put {w : World} {m : Nat} {L : List (Option (List Nat))} (h : MapAt w m L) {i : Nat} (hi : i < L.length) {b : List Nat} (hb : Dk.Sec b) :
    ∃ w', (Instr.mapUpdate 105 (.map (some m)) (.int .i64 (i : Int)) (av b)).run Tryz.prog w = .ok () w' ∧ MapAt w' m (L.set i (some b)) ∧ Touch (· = m) w w' := by
  have hl := h.len
  have hc := count_le L
  obtain ⟨w', hrun, h1, h2⟩ := h.own.update ikey Tryz.underlying105 (by unfold maxLen; omega) (ikey_of (a := (i : Int)) (by omega) (by omega)) (secR_av hb)
  rw [mapD_put hl hi] at h1
  exact ⟨w', hrun, .of h1 (by rw [List.length_set]; exact hl), .of_grown h2 rfl⟩
theorem MapAt.len_run {w : World} {m : Nat} {L : List (Option (List Nat))} (h : MapAt w m L) (ty : TypeId) : (Builtin.len_ #[105] ty #[.map (some m)]).run Tryz.prog w = .ok (.int .i64 (L.countP Option.isSome : Nat)) w := by
  rw [← size_mapD]
  exact h.own.len Tryz.underlying105 ty
theorem MapAt.clear_run {w : World} {m : Nat} {L : List (Option (List Nat))} (h : MapAt w m L) :
    ∃ w', (∀ ty : TypeId, (Builtin.clear_ #[105] ty #[.map (some m)]).run Tryz.prog w = .ok (.tuple #[]) w') ∧ MapAt w' m (List.replicate L.length none) ∧ Touch (· = m) w w' := by
  have hlt := h.lt
  have hlen := h.len
  obtain ⟨es, clock, hb, F, hc, hD⟩ := h.own
  refine ⟨ChangeMaps.setBlock w m (.map #[] clock), fun ty => ?_, .of (n := 0) ?_ (by simpa using hlen), ?_⟩
  · simp [Builtin.clear_, run_underlying Tryz.underlying105, MapKept.run_getObj_map hb, MapKept.run_setObj_map _ hb, Result.andThen, ChangeMaps.setBlock]
  · rw [mapD_none]
    exact ⟨#[], clock, ChangeMaps.heap_setBlock_same hb _, ⟨by simp, MapKept.stamped_empty clock, by simp⟩, Nat.le_refl _, rfl⟩
  · exact .of_grown (g := m) ⟨rfl, rfl, rfl, by simp [ChangeMaps.setBlock], fun i _ hi => ChangeMaps.heap_setBlock_other hb _ (fun e => hi (by rw [e]))⟩ rfl
end Go.Proofs.YtbpodmallknhfaaGreat
namespace Go.Proofs.YtbpodmallknhfaaGreat
open Go.RowKit
theorem blk_cell {w : World} {B : Nat} {arr : Array Value} {T : TypeId} (h : w.heap[B]? = some (.cells arr T (0, 0))) (i : Nat) {v : Value} (hv : arr[i]? = some v) : w.cell? ⟨B, i, none⟩ = some v := by
  rw [cell_of_row _ _ _ _ _ _ h]; exact hv
theorem blk_free {w : World} {B : Nat} {arr : Array Value} {T : TypeId} (h : w.heap[B]? = some (.cells arr T (0, 0))) (i : Nat) : w.frozen? ⟨B, i, none⟩ = false := by simp [World.frozen?, h]
theorem blk_set {w : World} {B i : Nat} {arr : Array Value} {T : TypeId} (h : w.heap[B]? = some (.cells arr T (0, 0))) (u : Value) : (w.setCell ⟨B, i, none⟩ u).heap[B]? = some (.cells (arr.setIfInBounds i u) T (0, 0)) := Joins.block_setCell h u
theorem blk_map {α : Type} {w : World} {B i : Nat} {f : α → Value} {l : List α} {T : TypeId} (h : w.heap[B]? = some (.cells (l.map f).toArray T (0, 0))) (x : α) : (w.setCell ⟨B, i, none⟩ (f x)).heap[B]? = some (.cells ((l.set i x).map f).toArray T (0, 0)) := by
  rw [blk_set h]
  congr 2
  simp [List.map_set]
theorem blk_at {α : Type} {w : World} {B i : Nat} {f : α → Value} {l : List α} {T : TypeId} (h : w.heap[B]? = some (.cells (l.map f).toArray T (0, 0))) (d : α) (hi : i < l.length) : w.cell? ⟨B, i, none⟩ = some (f (l.getD i d)) :=
  blk_cell h i (by simp [List.getElem?_eq_getElem hi])
def RowT (w : World) (g n : Nat) : Prop := ∃ (cur : Array Value) (T : TypeId), w.heap[g]? = some (.cells cur T (0, 0)) ∧ n ≤ cur.size ∧ ∀ i, i < n → ∃ b : Nat, b < 256 ∧ cur[i]? = some (.int .u8 (b : Int))
structure Mine (base : Nat) (w : World) (v : Value) (l : List Nat) : Prop where
  bts : Bts w v l
  row : 0 < l.length → ∃ g cap, v = .slice (some ⟨g, 0, none⟩) l.length cap ∧ base ≤ g ∧ g < w.heap.size ∧ l.length ≤ cap ∧ cap ≤ 9223372036854775807 ∧ RowT w g l.length
theorem bts_none (w : World) : Bts w (.slice none 0 0) [] := ⟨⟨none, 0, rfl, by decide, fun _ => rfl, fun h => absurd h (by decide)⟩, by simp, by decide⟩
namespace Dk
theorem goes_size (d : Dev) : size (goes d) = size d := by unfold size; rw [(goes_same d).1]
theorem goes_idle {d : Dev} (h : d.armed = 0) : goes d = d := if_neg (by omega)
theorem write_fine {d : Dev} {i : Nat} {b : List Nat} (ho : d.off = false) (ha : d.armed = 0) (hi : i < size d) (hb : b.length = 128) (hu : used d < d.most ∨ d.seen.getD i false = true) :
    write d (i : Int) b = (put d i b, 0) := by
  have h1 : ¬ (d.off = true) := by rw [ho]; decide
  have h2 : ¬ (bad d (i : Int) ∨ b.length ≠ 128) := by unfold bad; omega
  have h3 : ¬ (d.seen.getD (i : Int).toNat false = false ∧ d.most ≤ used d) := by
    rw [Int.toNat_natCast]
    rintro ⟨h3, h4⟩
    rcases hu with h | h
    · omega
    · rw [h] at h3; cases h3
  unfold write
  rw [if_neg h1, if_neg h2, if_neg h3, Int.toNat_natCast, goes_idle (d := put d i b) ha]
  rw [if_neg (by show ¬ (d.off = true); exact h1)]
theorem sync_fine {d : Dev} (ho : d.off = false) (ha : d.armed = 0) : sync d = (last d, 0) := by
  unfold sync
  rw [goes_idle ha, if_neg (by rw [ho]; decide), if_neg (by rw [ho]; decide)]
theorem read_fine {d : Dev} {i : Nat} (ho : d.off = false) (hi : i < size d) : read d (i : Int) = ((d.waits.getD i none).getD (d.lasts.getD i []), 0) := by
  unfold read
  rw [if_neg (by rw [ho]; decide), if_neg (by unfold bad; omega), Int.toNat_natCast]
def cnt (d : Dev) (k : Nat) : Nat := (d.waits.take k).countP Option.isSome
theorem crashL_getD : ∀ (ws : List (Option (List Nat))) (ls : List (List Nat)) (ps : List Nat) (k : Nat), ws.length = ls.length → k < ls.length →
    (crashL ws ls ps).getD k [] = match ws.getD k none with | none => ls.getD k [] | some b => pick (ps.getD ((ws.take k).countP Option.isSome) 0) (ls.getD k []) b
  | [], [], _, _, _, h => by simp at h
  | none :: ws, l :: ls, ps, 0, _, _ => rfl
  | some b :: ws, l :: ls, ps, 0, _, _ => by cases ps <;> rfl
  | none :: ws, l :: ls, ps, k + 1, h1, h2 => by
    have h := crashL_getD ws ls ps k (by simpa using h1) (by simpa using h2)
    simpa [crashL] using h
  | some b :: ws, l :: ls, ps, k + 1, h1, h2 => by
    have h := crashL_getD ws ls ps.tail k (by simpa using h1) (by simpa using h2)
    have e : ∀ j, ps.tail.getD j 0 = ps.getD (j + 1) 0 := fun j => by cases ps <;> simp
    rw [e] at h
    simpa [crashL] using h
  | [], _ :: _, _, _, h, _ => by simp at h
  | _ :: _, [], _, _, h, _ => by simp at h
end Dk
end Go.Proofs.YtbpodmallknhfaaGreat
namespace Go.Proofs.YtbpodmallknhfaaGreat
open Go.RowKit
namespace Dk
def seenL (d : Dev) : List (Option (List Nat)) := List.zipWith (fun (s : Bool) l => if s then some l else none) d.seen d.lasts
structure Own (d : Dev) : Prop where
  ok : Ok d
  armed : d.armed ≤ 1073741824
  most : d.most ≤ size d
  one : 1 ≤ size d
  size : size d ≤ 65536
  blank : ∀ i, i < Dk.size d → d.seen.getD i false = false → d.lasts.getD i [] = Dk.blank
  wseen : ∀ i b, d.waits.getD i none = some b → d.seen.getD i false = true
  used : used d ≤ d.most
theorem getD_zipWith {α β γ : Type} (f : α → β → γ) (a : List α) (b : List β) (i : Nat) (x : α) (y : β) (z : γ) (ha : i < a.length) (hb : i < b.length) : (List.zipWith f a b).getD i z = f (a.getD i x) (b.getD i y) := by
  simp only [List.getD_eq_getElem?_getD]
  rw [List.getElem?_eq_getElem ha, List.getElem?_eq_getElem hb, List.getElem?_eq_getElem (by rw [List.length_zipWith]; omega), List.getElem_zipWith]
  rfl
theorem seenL_length {d : Dev} (h : Ok d) : (seenL d).length = size d := by
  have := h.s
  unfold seenL
  rw [List.length_zipWith]
  unfold size at *
  omega
theorem seenL_getD {d : Dev} (h : Ok d) {i : Nat} (hi : i < size d) : (seenL d).getD i none = if d.seen.getD i false then some (d.lasts.getD i []) else none :=
  getD_zipWith _ _ _ i false [] none (by rw [h.s]; exact hi) hi
theorem ext_getD {α : Type} {a b : List α} (x : α) (h : a.length = b.length) (hh : ∀ i, i < a.length → a.getD i x = b.getD i x) : a = b := by
  refine List.ext_getElem h fun i h1 h2 => ?_
  have := hh i h1
  simp only [List.getD_eq_getElem?_getD] at this
  rw [List.getElem?_eq_getElem h1, List.getElem?_eq_getElem h2] at this
  exact this
theorem seenL_count : ∀ (s : List Bool) (l : List (List Nat)), s.length = l.length → (List.zipWith (fun (s : Bool) l => if s then some l else none) s l).countP Option.isSome = s.count true
  | [], [], _ => rfl
  | [], _ :: _, h => by simp at h
  | _ :: _, [], h => by simp at h
  | true :: s, x :: l, h => by
    have := seenL_count s l (by simpa using h)
    simp [List.zipWith, this]
  | false :: s, x :: l, h => by
    have := seenL_count s l (by simpa using h)
    simp [List.zipWith, this]
theorem seenL_used {d : Dev} (h : Ok d) : (seenL d).countP Option.isSome = used d := seenL_count _ _ h.s
theorem getD_set_self {α : Type} {l : List α} {i : Nat} {x y : α} (h : i < l.length) : (l.set i x).getD i y = x := by
  rw [List.getD_eq_getElem?_getD, List.getElem?_set_self h]; rfl
theorem getD_set_ne {α : Type} {l : List α} {i j : Nat} {x y : α} (h : i ≠ j) : (l.set i x).getD j y = l.getD j y := by
  rw [List.getD_eq_getElem?_getD, List.getElem?_set_ne h, ← List.getD_eq_getElem?_getD]
theorem getD_replicate {α : Type} (n : Nat) (x : α) (i : Nat) : (List.replicate n x).getD i x = x := by
  rw [List.getD_eq_getElem?_getD, List.getElem?_replicate]
  split <;> rfl
theorem own_fresh {n most : Nat} (h1 : 1 ≤ n) (h2 : n ≤ 65536) (h3 : most ≤ n) : Own (fresh n most) where
  ok := ok_fresh n most
  armed := Nat.zero_le _
  most := by show most ≤ (List.replicate n Dk.blank).length; rw [List.length_replicate]; exact h3
  one := by show 1 ≤ (List.replicate n Dk.blank).length; rw [List.length_replicate]; exact h1
  size := by show (List.replicate n Dk.blank).length ≤ 65536; rw [List.length_replicate]; exact h2
  blank := fun i hi _ => by
    have hi' : i < n := by
      have : i < (List.replicate n Dk.blank).length := hi
      rwa [List.length_replicate] at this
    show (List.replicate n Dk.blank).getD i [] = Dk.blank
    rw [List.getD_eq_getElem?_getD, List.getElem?_replicate, if_pos hi']; rfl
  wseen := fun i b hb => by
    have : (List.replicate n (none : Option (List Nat))).getD i none = some b := hb
    rw [getD_replicate] at this; cases this
  used := by
    show (List.replicate n false).count true ≤ most
    rw [List.count_replicate]; simp
theorem seenL_fresh (n most : Nat) : seenL (fresh n most) = List.replicate n none := by
  show List.zipWith _ (List.replicate n false) (List.replicate n Dk.blank) = _
  rw [List.zipWith_replicate]; simp
theorem own_same {d d' : Dev} (h : Own d) (e1 : d'.lasts = d.lasts) (e2 : d'.waits = d.waits) (e3 : d'.seen = d.seen) (e4 : d'.most = d.most) (ha : d'.armed ≤ 1073741824) : Own d' := by
  have es : Dk.size d' = Dk.size d := by unfold Dk.size; rw [e1]
  refine ⟨⟨?_, ?_, ?_, ?_⟩, ha, ?_, ?_, ?_, ?_, ?_, ?_⟩
  · rw [e2, es]; exact h.ok.w
  · rw [e3, es]; exact h.ok.s
  · rw [e1]; exact h.ok.l1
  · rw [e2]; exact h.ok.w1
  · rw [e4, es]; exact h.most
  · rw [es]; exact h.one
  · rw [es]; exact h.size
  · rw [es, e3, e1]; exact h.blank
  · rw [e2, e3]; exact h.wseen
  · unfold Dk.used; rw [e3, e4]; exact h.used
theorem count_set_new : ∀ {s : List Bool} {i : Nat}, i < s.length → s.getD i false = false → (s.set i true).count true = s.count true + 1
  | [], _, h, _ => absurd h (Nat.not_lt_zero _)
  | x :: s, 0, _, h => by
    have hx : x = false := by simpa using h
    subst hx; simp
  | x :: s, i + 1, h, hs => by
    have := count_set_new (s := s) (i := i) (by simpa using h) (by simpa using hs)
    cases x <;> simp [this]
theorem set_seen {s : List Bool} {i : Nat} (hi : i < s.length) (h : s.getD i false = true) : s.set i true = s := by
  refine ext_getD false (by simp) fun j hj => ?_
  by_cases e : i = j
  · subst e; rw [getD_set_self hi, h]
  · rw [getD_set_ne e]
theorem own_put {d : Dev} (h : Own d) {i : Nat} (hi : i < Dk.size d) {b : List Nat} (hb : Sec b) (hu : Dk.used d < d.most ∨ d.seen.getD i false = true) : Own (put d i b) where
  ok := ok_put h.ok i hb
  armed := h.armed
  most := h.most
  one := h.one
  size := h.size
  blank := fun j hj hs => by
    refine h.blank j hj ?_
    have hs' : (d.seen.set i true).getD j false = false := hs
    by_cases e : i = j
    · subst e
      rw [getD_set_self (by rw [h.ok.s]; exact hi)] at hs'; cases hs'
    · rwa [getD_set_ne e] at hs'
  wseen := fun j c hc => by
    have hc' : (d.waits.set i (some b)).getD j none = some c := hc
    show (d.seen.set i true).getD j false = true
    by_cases e : i = j
    · subst e
      rw [getD_set_self (by rw [h.ok.s]; exact hi)]
    · rw [getD_set_ne e] at hc' ⊢
      exact h.wseen j c hc'
  used := by
    show (d.seen.set i true).count true ≤ d.most
    have hu0 := h.used
    unfold Dk.used at hu0 hu
    by_cases hs : d.seen.getD i false = true
    · rw [set_seen (by rw [h.ok.s]; exact hi) hs]; exact hu0
    · rw [count_set_new (by rw [h.ok.s]; exact hi) (by cases e : d.seen.getD i false <;> simp_all)]
      rcases hu with hu | hu
      · omega
      · exact absurd hu hs
theorem seenL_put_new {d : Dev} (h : Own d) {i : Nat} (hi : i < Dk.size d) (hs : d.seen.getD i false = false) (b : List Nat) : seenL (put d i b) = (seenL d).set i (some Dk.blank) := by
  have hz : Dk.size (put d i b) = Dk.size d := rfl
  have hsl : i < d.seen.length := by rw [h.ok.s]; exact hi
  have hll : (seenL (put d i b)).length = Dk.size d := by
    unfold seenL
    rw [List.length_zipWith]
    show min (d.seen.set i true).length d.lasts.length = _
    rw [List.length_set, h.ok.s]; unfold Dk.size; omega
  refine ext_getD none (by rw [List.length_set, seenL_length h.ok, hll]) fun j hj => ?_
  rw [hll] at hj
  have hgj : (seenL (put d i b)).getD j none = if (d.seen.set i true).getD j false then some (d.lasts.getD j []) else none :=
    getD_zipWith _ _ _ j false [] none (by rw [show (put d i b).seen = d.seen.set i true from rfl, List.length_set, h.ok.s]; exact hj) hj
  rw [hgj]
  by_cases e : i = j
  · subst e
    rw [getD_set_self hsl, if_pos rfl, getD_set_self (by rw [seenL_length h.ok]; exact hi), h.blank i hi hs]
  · rw [getD_set_ne e, getD_set_ne e, seenL_getD h.ok hj]
theorem seenL_put_old {d : Dev} (h : Own d) {i : Nat} (hi : i < Dk.size d) (hs : d.seen.getD i false = true) (b : List Nat) : seenL (put d i b) = seenL d := by
  show List.zipWith _ (d.seen.set i true) d.lasts = _
  rw [set_seen (by rw [h.ok.s]; exact hi) hs]; rfl
def over (d : Dev) : List (Option (List Nat)) := List.zipWith (fun (w : Option (List Nat)) l => w <|> l) d.waits (seenL d)
theorem last_lasts {d : Dev} (h : Ok d) {i : Nat} (hi : i < size d) : (last d).lasts.getD i [] = (d.waits.getD i none).getD (d.lasts.getD i []) :=
  getD_zipWith _ _ _ i none [] [] (by rw [h.w]; exact hi) hi
theorem last_size2 {d : Dev} (h : Ok d) : size (last d) = size d := by
  show (List.zipWith _ d.waits d.lasts).length = _
  rw [List.length_zipWith, h.w]; unfold size; omega
theorem seenL_last {d : Dev} (h : Own d) : seenL (last d) = over d := by
  have hk := ok_last h.ok
  refine ext_getD none ?_ fun i hi => ?_
  · rw [seenL_length hk, last_size2 h.ok, over, List.length_zipWith, h.ok.w, seenL_length h.ok]; omega
  · rw [seenL_length hk, last_size2 h.ok] at hi
    rw [seenL_getD hk (by rw [last_size2 h.ok]; exact hi), last_lasts h.ok hi]
    show (if d.seen.getD i false then _ else _) = _
    rw [over, getD_zipWith _ _ _ i none none none (by rw [h.ok.w]; exact hi) (by rw [seenL_length h.ok]; exact hi), seenL_getD h.ok hi]
    cases hw : d.waits.getD i none with
    | none => simp
    | some b => rw [h.wseen i b hw]; rfl
theorem own_last {d : Dev} (h : Own d) : Own (last d) where
  ok := ok_last h.ok
  armed := h.armed
  most := by rw [last_size2 h.ok]; exact h.most
  one := by rw [last_size2 h.ok]; exact h.one
  size := by rw [last_size2 h.ok]; exact h.size
  blank := fun i hi hs => by
    rw [last_size2 h.ok] at hi
    rw [last_lasts h.ok hi]
    cases hw : d.waits.getD i none with
    | none => exact h.blank i hi hs
    | some b =>
      have : d.seen.getD i false = false := hs
      rw [h.wseen i b hw] at this; cases this
  wseen := fun i b hb => by
    have : (List.replicate (Dk.size d) (none : Option (List Nat))).getD i none = some b := hb
    rw [getD_replicate] at this; cases this
  used := h.used
theorem crashed_size {d : Dev} (h : Ok d) (ps : List Nat) : size (crash d ps) = size d := crashL_length _ _ _ h.w
theorem crash_lasts {d : Dev} (h : Ok d) (ps : List Nat) {i : Nat} (hi : i < size d) :
    (crash d ps).lasts.getD i [] = match d.waits.getD i none with | none => d.lasts.getD i [] | some b => pick (ps.getD (cnt d i) 0) (d.lasts.getD i []) b := crashL_getD _ _ _ i h.w hi
end Dk
def DS (B m1 m2 : Nat) (i : Nat) : Prop := i = B ∨ i = m1 ∨ i = m2
structure PDev (w : World) (B m1 m2 : Nat) (d : Dk.Dev) : Prop where
  own : Dk.Own d
  blk : w.heap[B]? = some (.cells #[.int .i64 (Dk.size d : Int), .int .i64 (d.most : Int), .map (some m1), .map (some m2), .int .i64 (d.armed : Int), .bool d.off] 107 (0, 0))
  lasts : MapAt w m1 (Dk.seenL d)
  waits : MapAt w m2 d.waits
  b1 : B ≠ m1
  b2 : B ≠ m2
  n12 : m1 ≠ m2
theorem PDev.lt {w : World} {B m1 m2 : Nat} {d : Dk.Dev} (h : PDev w B m1 m2 d) : ∀ i, DS B m1 m2 i → i < w.heap.size := by
  rintro i (rfl | rfl | rfl)
  · exact lt_of_block h.blk
  · exact h.lasts.lt
  · exact h.waits.lt
theorem PDev.keep {w w' : World} {B m1 m2 : Nat} {d : Dk.Dev} {T : Nat → Prop} (h : PDev w B m1 m2 d) (ht : Touch T w w') (hs : ∀ i, DS B m1 m2 i → ¬ T i) : PDev w' B m1 m2 d :=
  ⟨h.own, ht.row h.blk (hs _ (Or.inl rfl)), h.lasts.touch ht (hs _ (Or.inr (Or.inl rfl))), h.waits.touch ht (hs _ (Or.inr (Or.inr rfl))), h.b1, h.b2, h.n12⟩
theorem PDev.below {w w' : World} {B m1 m2 : Nat} {d : Dk.Dev} (h : PDev w B m1 m2 d) (hb : Below w.heap.size w w') : PDev w' B m1 m2 d :=
  h.keep (T := fun i => w.heap.size ≤ i) (.of_below hb fun _ _ hi => hi) fun i hi => by have := h.lt i hi; omega
theorem PDev.turn {w w' : World} {B m1 m2 : Nat} {d : Dk.Dev} (h : PDev w B m1 m2 d) (hg : Touch (· = B) w w') (m : Nat) (o : Bool) (hm : m ≤ 1073741824)
    (hb : w'.heap[B]? = some (.cells #[.int .i64 (Dk.size d : Int), .int .i64 (d.most : Int), .map (some m1), .map (some m2), .int .i64 (m : Int), .bool o] 107 (0, 0))) : PDev w' B m1 m2 { d with armed := m, off := o } :=
  ⟨Dk.own_same h.own rfl rfl rfl rfl hm, hb, h.lasts.touch hg (fun e => h.b1 e.symm), h.waits.touch hg (fun e => h.b2 e.symm), h.b1, h.b2, h.n12⟩
theorem PDev.c0 {w : World} {B m1 m2 : Nat} {d : Dk.Dev} (h : PDev w B m1 m2 d) : w.cell? ⟨B, 0, none⟩ = some (.int .i64 (Dk.size d : Int)) := blk_cell h.blk 0 rfl
theorem PDev.c1 {w : World} {B m1 m2 : Nat} {d : Dk.Dev} (h : PDev w B m1 m2 d) : w.cell? ⟨B, 1, none⟩ = some (.int .i64 (d.most : Int)) := blk_cell h.blk 1 rfl
theorem PDev.c2 {w : World} {B m1 m2 : Nat} {d : Dk.Dev} (h : PDev w B m1 m2 d) : w.cell? ⟨B, 2, none⟩ = some (.map (some m1)) := blk_cell h.blk 2 rfl
theorem PDev.c3 {w : World} {B m1 m2 : Nat} {d : Dk.Dev} (h : PDev w B m1 m2 d) : w.cell? ⟨B, 3, none⟩ = some (.map (some m2)) := blk_cell h.blk 3 rfl
theorem PDev.c4 {w : World} {B m1 m2 : Nat} {d : Dk.Dev} (h : PDev w B m1 m2 d) : w.cell? ⟨B, 4, none⟩ = some (.int .i64 (d.armed : Int)) := blk_cell h.blk 4 rfl
theorem PDev.c5 {w : World} {B m1 m2 : Nat} {d : Dk.Dev} (h : PDev w B m1 m2 d) : w.cell? ⟨B, 5, none⟩ = some (.bool d.off) := blk_cell h.blk 5 rfl
end Go.Proofs.YtbpodmallknhfaaGreat
namespace Go.Proofs.YtbpodmallknhfaaGreat
open Go.RowKit
theorem none_any {B m1 m2 : Nat} {d : Dk.Dev} {w : World} (h : PDev w B m1 m2 d) : Calls Tryz.prog 58 #[.pointer (some ⟨B, 0, none⟩)] w fun e w' => e = .returned (.bool false) ∧ w' = w := by
  have h1 := h.own.one
  have c0 := h.c0
  have hz : ((Dk.size d : Int) == 0) = false := by rw [beq_eq_false_iff_ne]; omega
  generalize (Dk.size d : Int) = z at *
  clear h1 h
  go_enter Tryz.func58, Tryz.ntmps58
  go_wp2
  go_ret
  exact ⟨rfl, rfl⟩
theorem ready_any {B m1 m2 : Nat} {d : Dk.Dev} {w : World} (h : PDev w B m1 m2 d) : Calls Tryz.prog 54 #[.pointer (some ⟨B, 0, none⟩)] w fun e w' => e = .returned (.int .i64 (if d.off then 6 else 0)) ∧ w' = w := by
  have hn := none_any h
  have c5 := h.c5
  clear h
  go_enter Tryz.func54, Tryz.ntmps54
  cases ho : d.off
  · rw [ho] at c5
    clear ho
    go_wp2_with (go_at_call 58; refine hn.mono ?_; rintro e w' ⟨rfl, rfl⟩)
    go_ret
    exact ⟨rfl, rfl⟩
  · rw [ho] at c5
    clear ho
    go_wp2_with (go_at_call 58; refine hn.mono ?_; rintro e w' ⟨rfl, rfl⟩)
    go_ret
    exact ⟨rfl, rfl⟩
theorem has_any {B m1 m2 : Nat} {d : Dk.Dev} {w : World} (h : PDev w B m1 m2 d) (a : Int) : Calls Tryz.prog 141 #[.pointer (some ⟨B, 0, none⟩), .int .i64 a] w fun e w' => e = .returned (.bool (decide (¬ Dk.bad d a))) ∧ w' = w := by
  have c0 := h.c0
  clear h
  by_cases ha : 0 ≤ a
  · have e : decide (¬ Dk.bad d a) = decide (a < (Dk.size d : Int)) := by rw [decide_eq_decide]; unfold Dk.bad; omega
    rw [e]
    clear e
    generalize (Dk.size d : Int) = z at *
    go_enter Tryz.func141, Tryz.ntmps141
    go_wp2
    go_ret
    exact ⟨rfl, rfl⟩
  · have e : decide (¬ Dk.bad d a) = false := by rw [decide_eq_false_iff_not]; unfold Dk.bad; omega
    rw [e]
    clear e
    generalize (Dk.size d : Int) = z at *
    go_enter Tryz.func141, Tryz.ntmps141
    go_wp2
    go_ret
    exact ⟨rfl, rfl⟩
theorem sectors_any {B m1 m2 : Nat} {d : Dk.Dev} {w : World} (h : PDev w B m1 m2 d) : Calls Tryz.prog 66 #[.pointer (some ⟨B, 0, none⟩)] w fun e w' => e = .returned (.int .i64 (Dk.size d : Nat)) ∧ w' = w := by
  have hn := none_any h
  have c0 := h.c0
  clear h
  go_enter Tryz.func66, Tryz.ntmps66
  go_wp2_with (go_at_call 58; refine hn.mono ?_; rintro e w' ⟨rfl, rfl⟩)
  go_ret
  exact ⟨rfl, rfl⟩
set_option maxHeartbeats 800000 in
theorem operation_any {B m1 m2 : Nat} {d : Dk.Dev} {w : World} (h : PDev w B m1 m2 d) (ho : d.off = false) :
    Calls Tryz.prog 123 #[.pointer (some ⟨B, 0, none⟩)] w fun e w' => e = .returned (.int .i64 (if (Dk.goes d).off then 6 else 0)) ∧ PDev w' B m1 m2 (Dk.goes d) ∧ Touch (· = B) w w' := by
  have HH := Lib.hid h
  have hb := h.blk
  have harm := h.own.armed
  have c4' := h.c4
  have f4 := blk_free hb 4
  by_cases ha : 0 < d.armed
  · have hg : Dk.goes d = { d with armed := d.armed - 1, off := decide (d.armed - 1 = 0) } := if_pos ha
    rw [hg]
    obtain ⟨m, hm⟩ : ∃ m, d.armed = m + 1 := ⟨d.armed - 1, by omega⟩
    have hm2 : d.armed - 1 = m := by omega
    rw [hm2]
    obtain ⟨z, hz⟩ : ∃ z, decide (m = 0) = z := ⟨_, rfl⟩
    have hz2 : ((m : Int) == 0) = z := by rw [← hz, Bool.eq_iff_iff]; simp
    rw [hz]
    have s1 := blk_set (i := 4) hb (.int .i64 (m : Int))
    have d4 := blk_cell s1 4 (v := .int .i64 (m : Int)) rfl
    have f5 := blk_free s1 5
    have s2 := blk_set (i := 5) s1 (.bool z)
    have HG := Lib.hid ((Touch.set (S := (· = B)) (a := w) B 4 (.int .i64 (m : Int)) rfl).trans (.set B 5 (.bool z) rfl))
    have HT := Lib.hid (h.turn HG.out m z (by omega) s2)
    have hr := ready_any HT.out
    have hmi : (d.armed : Int) = (m : Int) + 1 := by omega
    have c4 : w.cell? ⟨B, 4, none⟩ = some (.int .i64 ((m : Int) + 1)) := by rw [← hmi]; exact c4'
    have hml : m ≤ 1073741824 := by omega
    have hne : ((m : Int) + 1 == 0) = false := by rw [beq_eq_false_iff_ne]; omega
    have e5 := blk_cell s1 5 (v := .bool d.off) rfl
    clear hg hm hm2 hb s1 s2 hmi ha harm hz c4' h
    cases z
    all_goals
      go_enter Tryz.func123, Tryz.ntmps123
      go_wp2_with fail
      refine hr.mono ?_
      rintro e w' ⟨rfl, rfl⟩
      go_wp2
      go_ret
      exact ⟨rfl, HT.out, HG.out⟩
  · have hg : Dk.goes d = d := if_neg ha
    rw [hg, ho]
    have c4 : w.cell? ⟨B, 4, none⟩ = some (.int .i64 0) := by rw [show (0 : Int) = (d.armed : Int) by omega]; exact c4'
    clear hg hb harm ha c4' h
    go_enter Tryz.func123, Tryz.ntmps123
    go_wp2
    go_ret
    exact ⟨rfl, HH.out, .refl _ _⟩
end Go.Proofs.YtbpodmallknhfaaGreat
namespace Go.Proofs.YtbpodmallknhfaaGreat
open Go.RowKit
set_option maxHeartbeats 800000 in
theorem new_good_any (n most : Nat) (w : World) (h1 : 1 ≤ n) (h2 : n ≤ 65536) (h3 : most ≤ n) :
    Calls Tryz.prog 15 #[.int .i64 n, .int .i64 most] w fun e w' => ∃ B m1 m2, e = .returned (.tuple #[.pointer (some ⟨B, 0, none⟩), .int .i64 0]) ∧ PDev w' B m1 m2 (Dk.fresh n most) ∧ (∀ i, DS B m1 m2 i → w.heap.size ≤ i) ∧ Below w.heap.size w w' := by
  have hmm := @run_makeMap Tryz.prog
  have k1 : ¬ ((n : Int) < 1) := by omega
  have k2 : ¬ ((65536 : Int) < n) := by omega
  have k3 : ¬ ((most : Int) < 0) := by omega
  have k4 : ¬ ((n : Int) < (most : Int)) := by omega
  go_enter Tryz.func15, Tryz.ntmps15
  go_wp2
  go_ret2
  have hz : Dk.size (Dk.fresh n most) = n := by show (List.replicate n Dk.blank).length = n; rw [List.length_replicate]
  have b0 : Below w.heap.size w (w.alloc (.map #[] 0)) := (Below.refl _ _).alloc (Nat.le_refl _) _
  have q1 := mapAt_made w h2
  have q2 := mapAt_made (w.alloc (.map #[] 0)) h2
  have s1 : (w.alloc (.map #[] 0)).heap.size = w.heap.size + 1 := by simp
  have s2 : ((w.alloc (.map #[] 0)).alloc (.map #[] 0)).heap.size = w.heap.size + 1 + 1 := by simp
  have q1' := q1.below ((Below.refl _ (w.alloc (.map #[] 0))).alloc (Nat.le_refl _) (.map #[] 0))
  generalize ho : Obj.cells #[Value.int .i64 (n : Int), Value.int .i64 (most : Int), Value.map (some w.heap.size), Value.map (some (w.heap.size + 1)), Value.int .i64 0, Value.bool false] 107 = o
  have b3 := (Below.refl _ ((w.alloc (.map #[] 0)).alloc (.map #[] 0))).alloc (Nat.le_refl _) o
  refine ⟨w.heap.size + 1 + 1, rfl, w.heap.size, w.heap.size + 1, ⟨Dk.own_fresh h1 h2 h3, ?_, ?_, ?_, by omega, by omega, by omega⟩, ?_, (b0.alloc (by omega) _).alloc (by omega) _⟩
  · rw [hz, ← s2, heap_alloc_last, ← ho]; rfl
  · rw [Dk.seenL_fresh]; exact q1'.below b3
  · rw [s1] at q2; exact q2.below b3
  · rintro i (rfl | rfl | rfl) <;> omega
end Go.Proofs.YtbpodmallknhfaaGreat
namespace Go.Proofs.YtbpodmallknhfaaGreat
open Go.RowKit
theorem zero_arr : (∀ w, (zeroValue 127).run Tryz.prog w = .ok (.agg (bytesV Dk.blank).toArray) w) ∧ (Tryz.prog.info? 127).map (·.size) = some 128 :=
  ⟨fun w => by kernel_rfl, by kernel_rfl⟩
def SecAt (w : World) (g : Nat) (b : List Nat) : Prop := w.heap[g]? = some (.cells (bytesV b).toArray 127 (0, 0))
theorem bytesV_ones (b : List Nat) : (bytesV b).toArray.all (·.oneCell') = true := by
  rw [Array.all_eq_true_iff_forall_mem]
  intro x hx
  simp only [List.mem_toArray, bytesV, List.mem_map] at hx
  obtain ⟨y, _, rfl⟩ := hx
  rfl
theorem sec_info {b : List Nat} (hb : b.length = 128) : (Tryz.prog.info? 127).map (·.size) = some (bytesV b).toArray.size := by
  rw [List.size_toArray, bytesV_length, hb]; exact zero_arr.2
theorem wpList_store_sec {ops : Array Oper} {rest : List Oper} {o : Oper} {a : Act} {w : World} {Q : Exit → Act → World → Prop} (hgd : o.guard = none) (x y : Operand) (ho : o.op = .store 127 x y)
    (g : Nat) (hx : a.eval x = .pointer (some ⟨g, 0, none⟩)) (b : List Nat) (hy : a.eval y = av b) (old : List Nat) (hg : SecAt w g old) (hold : old.length = 128) (hb : b.length = 128)
    (h : ∀ w', SecAt w' g b → Touch (· = g) w w' → wpList Tryz.prog ops Q rest (a.put o.dst undef) w') : wpList Tryz.prog ops Q (o :: rest) a w := by
  refine wpList_store_row hgd 127 x y ho g _ hx hy _ _ hg (sec_info hb) (by simp [bytesV_length, hb, hold]) (bytesV_ones b) (h _ (setRow_heap _ _ _ _ _ _ hg) ?_)
  exact ⟨rfl, rfl, rfl, by simp, fun i _ hi => setRow_other w g i _ hi⟩
theorem wpList_load_sec {ops : Array Oper} {rest : List Oper} {o : Oper} {a : Act} {w : World} {Q : Exit → Act → World → Prop} (hgd : o.guard = none) (x : Operand) (ho : o.op = .load 127 x)
    (g : Nat) (hx : a.eval x = .pointer (some ⟨g, 0, none⟩)) (b : List Nat) (hg : SecAt w g b) (hb : b.length = 128)
    (h : wpList Tryz.prog ops Q rest (a.put o.dst (av b)) w) : wpList Tryz.prog ops Q (o :: rest) a w :=
  wpList_load_row hgd 127 x ho g hx _ _ _ _ hg Tryz.underlying127 rfl (sec_info hb) h
theorem SecAt.cell {w : World} {g : Nat} {b : List Nat} (h : SecAt w g b) {i : Nat} (hi : i < b.length) : w.cell? ⟨g, i, none⟩ = some (.int .u8 (b.getD i 0 : Nat)) := by
  rw [cell_of_row w g i _ _ _ h]
  simp [bytesV, hi, List.getD_eq_getElem?_getD]
theorem SecAt.mine {w : World} {g base : Nat} {b : List Nat} (h : SecAt w g b) (hb : Dk.Sec b) (hg : base ≤ g) : Mine base w (.slice (some ⟨g, 0, none⟩) 128 128) b := by
  have hl := hb.1
  have hgl := lt_of_block h
  refine ⟨⟨⟨some ⟨g, 0, none⟩, 128, by rw [hl], ⟨by omega, by decide⟩, (fun h => by cases h), fun _ => ⟨g, 0, rfl, fun i hi => by rw [Nat.zero_add]; exact h.cell hi⟩⟩, hb.2, by omega⟩, fun _ => ⟨g, 128, by rw [hl], hg, hgl, by omega, by decide, ?_⟩⟩
  refine ⟨(bytesV b).toArray, _, h, by simp [bytesV_length], fun i hi => ⟨b.getD i 0, ?_, ?_⟩⟩
  · rw [List.getD_eq_getElem?_getD, List.getElem?_eq_getElem hi]
    exact hb.2 _ (List.getElem_mem _)
  · simp [bytesV, hi, List.getD_eq_getElem?_getD]
theorem gz_sec {w : World} {m : Nat} {L : List (Option (List Nat))} (h : MapAt w m L) (z : Int) : Dk.Sec ((gz L z).getD Dk.blank) := by
  cases hz : gz L z with
  | none => exact Dk.sec_blank
  | some b => exact h.sec hz
theorem gz_pos {L : List (Option (List Nat))} {a : Int} (h : 0 ≤ a) : gz L a = L.getD a.toNat none := if_pos h
set_option maxHeartbeats 800000 in
set_option maxRecDepth 20000 in
theorem read_any {B m1 m2 : Nat} {d : Dk.Dev} {w : World} (h : PDev w B m1 m2 d) (a : Int) :
    Calls Tryz.prog 97 #[.pointer (some ⟨B, 0, none⟩), .int .i64 a] w fun e w' => ∃ u, e = .returned (.tuple #[u, .int .i64 ((Dk.read d a).2 : Nat)]) ∧ Mine w.heap.size w' u (Dk.read d a).1 ∧ Below w.heap.size w w' := by
  have HH := Lib.hid h
  have hr := ready_any h
  by_cases ho : d.off = true
  · have hg : Dk.read d a = ([], 6) := if_pos ho
    rw [hg]
    rw [ho] at hr
    clear hg ho h
    go_enter Tryz.func97, Tryz.ntmps97
    go_wp2_with (go_at_call 54; refine hr.mono ?_; rintro e w' ⟨rfl, rfl⟩)
    go_ret2
    exact ⟨_, rfl, ⟨bts_none _, fun h => absurd h (by decide)⟩, Below.refl _ _⟩
  have hof : d.off = false := by cases h : d.off <;> simp_all
  rw [hof] at hr
  have hh := has_any h a
  by_cases hn : Dk.bad d a
  · have hg : Dk.read d a = ([], 2) := by unfold Dk.read; rw [if_neg ho, if_pos hn]
    rw [hg]
    rw [show decide (¬ Dk.bad d a) = false by simp [hn]] at hh
    clear hg ho hof h hn
    go_enter Tryz.func97, Tryz.ntmps97
    go_wp2_with (first | (go_at_call 54; refine hr.mono ?_; rintro e w' ⟨rfl, rfl⟩) | (go_at_call 141; refine hh.mono ?_; rintro e w' ⟨rfl, rfl⟩))
    go_ret2
    exact ⟨_, rfl, ⟨bts_none _, fun h => absurd h (by decide)⟩, Below.refl _ _⟩
  · have hg : Dk.read d a = ((d.waits.getD a.toNat none).getD (d.lasts.getD a.toNat []), 0) := by unfold Dk.read; rw [if_neg ho, if_neg hn]
    rw [hg]
    rw [show decide (¬ Dk.bad d a) = true by simp [hn]] at hh
    have hsz := h.own.size
    have hb2 : 0 ≤ a ∧ a < (Dk.size d : Int) := by unfold Dk.bad at hn; omega
    have HW := Lib.hid h.waits
    have HL := Lib.hid h.lasts
    have e1 := gz_pos (L := d.waits) hb2.1
    have hv : gz d.waits a = none → d.lasts.getD a.toNat [] = (gz (Dk.seenL d) a).getD Dk.blank := fun _ => by
      rw [gz_pos hb2.1, Dk.seenL_getD (i := a.toNat) h.own.ok (by omega)]
      cases hs : d.seen.getD a.toNat false with
      | true => rfl
      | false => exact h.own.blank a.toNat (by omega) hs
    have hz := zero_arr.1
    have c3 := h.c3
    have hl2 := h.waits.look_ok (a := a) (by omega) (by omega)
    obtain ⟨G, hG⟩ : ∃ G, w.heap.size = G := ⟨_, rfl⟩
    have HG := Lib.hid hG
    have hB2 := Lib.hid hb2
    have S2 := Lib.hid (gz_sec HW.out a)
    have S1 := Lib.hid (gz_sec HL.out a)
    have HSZ := Lib.hid hsz
    rw [← e1]
    clear hg ho hof e1 hsz hb2 h hn hG
    cases hx : gz d.waits a with
    | some b =>
      rw [hx] at hl2 S2
      have hx' := Lib.hid hx
      clear hx hv
      go_enter Tryz.func97, Tryz.ntmps97
      go_upto_region 6 with (first | (go_at_call 54; refine hr.mono ?_; rintro e w' ⟨rfl, rfl⟩) | (go_at_call 141; refine hh.mono ?_; rintro e w' ⟨rfl, rfl⟩))
      iterate 31 go_step
      have hrow : SecAt (w'.alloc (.cells (bytesV Dk.blank).toArray 127)) w'.heap.size Dk.blank := heap_alloc_last _ _
      refine wpList_store_sec rfl (.tmp 7) (.tmp 25) rfl w'.heap.size rfl _ rfl _ hrow (by decide) S2.out.1 ?_
      intro w1 r1 t1
      have hb1 : Below w'.heap.size w' w1 := ((Below.refl _ w').alloc (Nat.le_refl _) _).trans (t1.below (fun i hi => by rw [hi]; exact Nat.le_refl _) (by simp))
      have R1 := Lib.hid r1
      have B1 := Lib.hid hb1
      clear r1 t1 hrow hl2 c3 hz hr hh hb1
      go_wp2_with fail
      go_ret2
      exact ⟨_, rfl, R1.out.mine S2.out (Nat.le_refl _), B1.out⟩
    | none =>
      have hv := hv hx
      rw [hx] at hl2 S2
      have hx' := Lib.hid hx
      rw [Option.getD_none, hv]
      clear hx hv
      go_enter Tryz.func97, Tryz.ntmps97
      go_upto_region 6 with (first | (go_at_call 54; refine hr.mono ?_; rintro e w' ⟨rfl, rfl⟩) | (go_at_call 141; refine hh.mono ?_; rintro e w' ⟨rfl, rfl⟩))
      iterate 31 go_step
      have hrow : SecAt (w'.alloc (.cells (bytesV Dk.blank).toArray 127)) w'.heap.size Dk.blank := heap_alloc_last _ _
      refine wpList_store_sec rfl (.tmp 7) (.tmp 25) rfl w'.heap.size rfl _ rfl _ hrow (by decide) S2.out.1 ?_
      intro w1 r1 t1
      have hb1 : Below w'.heap.size w' w1 := ((Below.refl _ w').alloc (Nat.le_refl _) _).trans (t1.below (fun i hi => by rw [hi]; exact Nat.le_refl _) (by simp))
      have R1 := Lib.hid r1
      have B1 := Lib.hid hb1
      have P1 := HH.out.below hb1
      have d2 := P1.c2
      have hl3 := P1.lasts.look (a := a) (by have := hB2.out; omega) (by have := hB2.out; have := HSZ.out; omega)
      clear r1 t1 hrow hl2 c3 hz hr hh hb1 P1
      go_upto_region 8 with (fail)
      iterate 19 go_step
      refine wpList_store_sec rfl (.tmp 7) (.tmp 34) rfl w'.heap.size rfl _ rfl _ R1.out S2.out.1 S1.out.1 ?_
      intro w2 r2 t2
      have hb3 := Lib.hid (B1.out.trans (t2.below (base := w'.heap.size) (fun i hi => by rw [hi]; exact Nat.le_refl _) (by have := lt_of_block R1.out; omega)))
      have R2 := Lib.hid r2
      clear r2 t2 hl3 d2
      go_wp2_with fail
      go_ret2
      exact ⟨_, rfl, R2.out.mine S1.out (Nat.le_refl _), hb3.out⟩
theorem nothing_touch {w w' : World} {S : Nat → Prop} (h : Touch (fun _ => False) w w') : Touch S w w' := h.mono fun _ _ h => h.elim
end Go.Proofs.YtbpodmallknhfaaGreat
namespace Go.Proofs.YtbpodmallknhfaaGreat
open Go.RowKit
theorem Bts.array {w : World} {v : Value} {b : List Nat} (h : Bts w v b) (hb : b.length = 128) :
    ∃ g off cap, v = .slice (some ⟨g, off, none⟩) 128 cap ∧ (∀ i, i < 128 → w.cell? ⟨g, off + i, none⟩ = some (.int .u8 (b.getD i 0 : Nat))) := by
  obtain ⟨p, cap, hv, _, _, hp⟩ := h.form
  obtain ⟨g, off, hpe, hc⟩ := hp (by omega)
  rw [hb] at hv hc
  exact ⟨g, off, cap, by rw [hv, hpe], hc⟩
theorem load_array {w : World} {g off : Nat} {b : List Nat} (hb : b.length = 128) (hc : ∀ i, i < 128 → w.cell? ⟨g, off + i, none⟩ = some (.int .u8 (b.getD i 0 : Nat))) :
    (loadVar 127 ⟨g, off, none⟩).run Tryz.prog w = .ok (av b) w := by
  have hl := run_loadCells_list (P := Tryz.prog) w ⟨g, off, none⟩ (bytesV b) (fun j v hv => by
    have hadd : (⟨g, off, none⟩ : Addr).add j = ⟨g, off + j, none⟩ := by unfold Addr.add; split <;> simp_all
    have hj : j < b.length := by
      rcases Nat.lt_or_ge j b.length with h | h
      · exact h
      · rw [List.getElem?_eq_none (by simpa [bytesV] using h)] at hv; cases hv
    rw [hadd, hc j (by omega), ← hv]
    simp [bytesV, hj, List.getD_eq_getElem?_getD])
  rw [bytesV_length, hb] at hl
  have hagg : (isAgg 127).run Tryz.prog w = .ok true w := Tryz.isAgg127 w
  have hi := zero_arr.2
  cases hq : Tryz.prog.info? 127 with
  | none => rw [hq] at hi; cases hi
  | some i =>
    have hs : i.size = 128 := by simpa [hq] using hi
    simp [loadVar, Sem.run_bind, hagg, sizeOf, typeInfo, hq, hs, hl, av]
theorem wp_load_at {o : Oper} {a : Act} {w : World} {K : Act → World → Prop} {Q : Exit → Act → World → Prop} (ty : TypeId) (x : Operand) (ho : o.op = .load ty x)
    (p : Addr) (hx : a.eval x = .pointer (some p)) (v : Value) (hl : (loadVar ty p).run Tryz.prog w = .ok v w) (h : K (a.put o.dst v) w) : o.wp Tryz.prog a w K Q := by
  unfold Oper.wp execOp
  simp only [ho, hx, Instr.loadAt, Instr.sureAddr, Sem.run_bind, Sem.run_pure, Result.andThen_ok, hl]
  exact h
theorem zero_cells : av Dk.blank = .agg Tryz.zeroCells127 := by kernel_rfl
def Fu (B m1 n k : Nat) (i : Nat) (x : Value) (_ : World) : Prop :=
  match i with
  | 0 => x = .pointer (some ⟨B, 0, none⟩)
  | 1 => x = .pointer (some ⟨B, 0, none⟩)
  | 2 => x = .pointer (some ⟨B, 2, none⟩)
  | 3 => x = .map (some m1)
  | 4 => x = .int .i64 (k : Int)
  | 5 => x = .pointer (some ⟨B, 0, none⟩)
  | 6 => x = .pointer (some ⟨B, 0, none⟩)
  | 7 => x = .pointer (some ⟨B, 1, none⟩)
  | 8 => x = .int .i64 (n : Int)
  | 9 => x = .bool ((k : Int) == (n : Int))
  | _ => True
def Pu (B m2 : Nat) (at_ : Nat) (v : Value) (p : Addr) (b : List Nat) (i : Nat) (x : Value) (_ : World) : Prop :=
  match i with
  | 0 => x = .pointer (some ⟨B, 0, none⟩)
  | 1 => x = .pointer (some ⟨B, 0, none⟩)
  | 2 => x = .pointer (some ⟨B, 3, none⟩)
  | 3 => x = .map (some m2)
  | 4 => x = .int .i64 (at_ : Int)
  | 5 => x = v
  | 6 => x = .pointer (some p)
  | 7 => x = av b
  | _ => True
def PuR (w1 : World) (m2 at_ : Nat) (b : List Nat) (L : List (Option (List Nat))) (D : Nat → Bool) (_ : Nat → Value) (w : World) : Prop :=
  Touch (· = m2) w1 w ∧ (D 8 = false → MapAt w m2 L) ∧ (D 8 = true → MapAt w m2 (L.set at_ (some b)))
set_option maxHeartbeats 3200000 in
set_option maxRecDepth 20000 in
theorem write_any {B m1 m2 : Nat} {d : Dk.Dev} {w : World} (h : PDev w B m1 m2 d) (a : Int) (v : Value) (b : List Nat) (hB : Bts w v b) (hv : 0 < b.length → ∀ g, v.ownBlock = some g → ¬ DS B m1 m2 g) :
    Calls Tryz.prog 100 #[.pointer (some ⟨B, 0, none⟩), .int .i64 a, v] w fun e w' => e = .returned (.int .i64 ((Dk.write d a b).2 : Nat)) ∧ PDev w' B m1 m2 (Dk.write d a b).1 ∧ Touch (DS B m1 m2) w w' := by
  have HH := Lib.hid h
  have hr := ready_any h
  have hbl := hB.len
  by_cases ho : d.off = true
  · have hg : Dk.write d a b = (d, 6) := if_pos ho
    rw [hg]
    rw [ho] at hr
    obtain ⟨p, cap, rfl, hcap, -, -⟩ := hB.form
    clear hg ho h hB hv
    go_enter Tryz.func100, Tryz.ntmps100
    go_wp2_with (go_at_call 54; refine hr.mono ?_; rintro e w' ⟨rfl, rfl⟩)
    go_ret
    exact ⟨rfl, HH.out, .refl _ _⟩
  have hof : d.off = false := by cases h : d.off <;> simp_all
  have HOF := Lib.hid hof
  rw [hof] at hr
  have hh := has_any h a
  by_cases hn : Dk.bad d a
  · have hg : Dk.write d a b = (d, 2) := by unfold Dk.write; rw [if_neg ho, if_pos (Or.inl hn)]
    rw [hg]
    rw [show decide (¬ Dk.bad d a) = false by simp [hn]] at hh
    obtain ⟨p, cap, rfl, hcap, -, -⟩ := hB.form
    clear hg ho hof h hn hB hv
    go_enter Tryz.func100, Tryz.ntmps100
    go_wp2_with (first | (go_at_call 54; refine hr.mono ?_; rintro e w' ⟨rfl, rfl⟩) | (go_at_call 141; refine hh.mono ?_; rintro e w' ⟨rfl, rfl⟩))
    go_ret
    exact ⟨rfl, HH.out, .refl _ _⟩
  rw [show decide (¬ Dk.bad d a) = true by simp [hn]] at hh
  by_cases hl : b.length ≠ 128
  · have hg : Dk.write d a b = (d, 2) := by unfold Dk.write; rw [if_neg ho, if_pos (Or.inr hl)]
    rw [hg]
    obtain ⟨p, cap, rfl, hcap, -, -⟩ := hB.form
    have hne : ((b.length : Int) == 128) = false := by rw [beq_eq_false_iff_ne]; omega
    generalize (b.length : Int) = z at *
    clear hg ho hof h hn hB hv
    go_enter Tryz.func100, Tryz.ntmps100
    go_wp2_with (first | (go_at_call 54; refine hr.mono ?_; rintro e w' ⟨rfl, rfl⟩) | (go_at_call 141; refine hh.mono ?_; rintro e w' ⟨rfl, rfl⟩))
    go_ret
    exact ⟨rfl, HH.out, .refl _ _⟩
  have hb : b.length = 128 := by omega
  have hsz := h.own.size
  obtain ⟨i, rfl⟩ : ∃ i : Nat, a = i := ⟨a.toNat, by unfold Dk.bad at hn; omega⟩
  have hi : i < Dk.size d := by unfold Dk.bad at hn; omega
  have hsec : Dk.Sec b := ⟨hb, hB.small⟩
  have hgb : Dk.write d i b = if d.seen.getD i false = false ∧ d.most ≤ Dk.used d then (d, 5) else (Dk.goes (Dk.put d i b), if (Dk.goes (Dk.put d i b)).off then 6 else 0) := by
    unfold Dk.write; rw [if_neg ho, if_neg (by rintro (h | h); exact hn h; exact h hb), Int.toNat_natCast]
  obtain ⟨g, off, cap, rfl, hcell⟩ := hB.array hb
  have hgn : ¬ DS B m1 m2 g := hv (by omega) g rfl
  have HSZ := Lib.hid hsz
  have HSB := Lib.hid hsec
  have HLB := Lib.hid hb
  have HI := Lib.hid hi
  have HIL := Lib.hid (show i < d.waits.length by rw [h.own.ok.w]; exact hi)
  have HGB := Lib.hid (show ¬ g = m2 from fun e => hgn (Or.inr (Or.inr e)))
  have HGN := Lib.hid hgn
  have HCE := Lib.hid hcell
  have hlk := h.lasts.look_ok (a := (i : Int)) (by omega) (by omega)
  rw [gz_nat, Dk.seenL_getD h.own.ok hi] at hlk
  have hS2 := gz_sec h.lasts (i : Int)
  rw [gz_nat, Dk.seenL_getD h.own.ok hi] at hS2
  have HS2 := Lib.hid hS2
  have hz := zero_arr.1
  have c2 := h.c2
  rw [hgb]
  obtain ⟨c, hc1, hc2⟩ : ∃ c : Int, ((if (Dk.goes (Dk.put d i b)).off then 6 else 0 : Nat) : Int) = c ∧ (if (Dk.goes (Dk.put d i b)).off then (6 : Int) else 0) = c := ⟨_, rfl, by split <;> rfl⟩
  have HC2 := Lib.hid hc2
  clear hc2
  clear hgb hB hv hcell hgn hsec hb hi hn hl ho hof hS2 hbl hsz
  by_cases hsn : d.seen.getD i false = true
  · rw [if_neg (by rw [hsn]; rintro ⟨h, _⟩; cases h)]
    dsimp only
    rw [hc1]
    clear hc1
    rw [hsn] at hlk HS2
    simp only [if_true, Option.getD_some, Option.isSome_some] at hlk HS2
    have HSN := Lib.hid hsn
    clear hsn h
    generalize d.lasts.getD i [] = bb at *
    go_enter Tryz.func100, Tryz.ntmps100
    go_upto_region 6 with (first | (go_at_call 54; refine hr.mono ?_; rintro e w' ⟨rfl, rfl⟩) | (go_at_call 141; refine hh.mono ?_; rintro e w' ⟨rfl, rfl⟩))
    iterate 31 go_step
    have hrow : SecAt (w'.alloc (.cells (bytesV Dk.blank).toArray 127)) w'.heap.size Dk.blank := heap_alloc_last _ _
    refine wpList_store_sec rfl (.tmp 8) (.tmp 31) rfl w'.heap.size rfl _ rfl _ hrow (by decide) HS2.out.1 ?_
    intro w1 _ t1
    have hb1 : Below w'.heap.size w' w1 := ((Below.refl _ w').alloc (Nat.le_refl _) _).trans (t1.below (fun i hi => by rw [hi]; exact Nat.le_refl _) (by simp))
    have HTW := Lib.hid (Touch.of_new (S := DS B m1 m2) hb1)
    have HP2 := Lib.hid (HH.out.below hb1)
    have HC3 := Lib.hid HP2.out.c3
    have HCB := Lib.hid (fun j (hj : j < 128) => HTW.out.cell (HCE.out j hj) HGN.out)
    have HFIN := Lib.hid (show ∀ w3, Touch (· = m2) w1 w3 → MapAt w3 m2 (d.waits.set i (some b)) → PDev w3 B m1 m2 (Dk.put d i b) from fun w3 ht hm =>
      ⟨Dk.own_put HP2.out.own HI.out HSB.out (Or.inr HSN.out), ht.row HP2.out.blk (fun e => HP2.out.b2 e), by rw [Dk.seenL_put_old HP2.out.own HI.out HSN.out]; exact HP2.out.lasts.touch ht (fun e => HP2.out.n12 e), hm, HP2.out.b1, HP2.out.b2, HP2.out.n12⟩)
    clear hrow t1 hb1 hlk hz c2 hr hh
    go_upto_region 11 with (fail)
    refine Ord.walk (Pu B m2 i (.slice (some ⟨g, off, none⟩) 128 cap) ⟨g, off, none⟩ b) (PuR w1 m2 i b d.waits) (fun _ _ => True)
      (by kernel_rfl) (by kernel_rfl) ?frW1 ?hfrW1 (fun _ _ _ _ _ h => h) ?hsW1 ?heW1 ?hendW1
    case hsW1 => exact fun _ => ⟨(Touch.refl _ _).drew, fun _ => HP2.out.waits.touch (S := fun _ => False) (Touch.refl _ _).drew id, fun h => by cases h⟩
    case hfrW1 =>
      intro xs
      simp only [Ord.fill, Act.put, List.setIfInBounds_toArray, List.set_cons_zero, List.set_cons_succ]
      rfl
    case heW1 =>
      refine Ord.each_cons (fun D xs w2 hD hC hP hR hA K hK => ?_) ?_
      ·
        clear hA
        go_simp
        exact hK _ _ ⟨_, rfl, trivial, hR, rfl⟩
      refine Ord.each_cons (fun D xs w2 hD hC hP hR hA K hK => ?_) ?_
      ·
        have q0 := Ord.ahead_get _ hA 0 (by decide)
        simp only [Pu] at q0
        simp only [q0] at hK
        clear hA
        go_simp
        exact hK _ _ ⟨_, rfl, trivial, hR, rfl⟩
      refine Ord.each_cons (fun D xs w2 hD hC hP hR hA K hK => ?_) ?_
      ·
        have q1 := Ord.ahead_get _ hA 1 (by decide)
        simp only [Pu] at q1
        simp only [q1] at hK
        clear hA
        go_simp
        exact hK _ _ ⟨_, rfl, trivial, hR, rfl⟩
      refine Ord.each_cons (fun D xs w2 hD hC hP hR hA K hK => ?_) ?_
      ·
        have q2 := Ord.ahead_get _ hA 2 (by decide)
        simp only [Pu] at q2
        simp only [q2] at hK
        clear hA
        have c0 := hR.1.cell HC3.out (fun e => HP2.out.b2 e)
        go_simp
        exact hK _ _ ⟨_, rfl, trivial, hR, rfl⟩
      refine Ord.each_cons (fun D xs w2 hD hC hP hR hA K hK => ?_) ?_
      ·
        clear hA
        go_simp
        exact hK _ _ ⟨_, rfl, trivial, hR, rfl⟩
      refine Ord.each_cons (fun D xs w2 hD hC hP hR hA K hK => ?_) ?_
      ·
        clear hA
        go_simp
        exact hK _ _ ⟨_, rfl, trivial, hR, rfl⟩
      refine Ord.each_cons (fun D xs w2 hD hC hP hR hA K hK => ?_) ?_
      ·
        have q5 := Ord.ahead_get _ hA 5 (by decide)
        simp only [Pu] at q5
        simp only [q5] at hK
        clear hA
        go_simp
        exact hK _ _ ⟨_, rfl, trivial, hR, rfl⟩
      refine Ord.each_cons (fun D xs w2 hD hC hP hR hA K hK => ?_) ?_
      ·
        have q6 := Ord.ahead_get _ hA 6 (by decide)
        simp only [Pu] at q6
        clear hA
        have c0 := load_array HLB.out (fun i hi => hR.1.cell (HCB.out i hi) HGB.out)
        rw [if_pos (by rfl)]
        exact wp_load_at 127 (.tmp 57) rfl ⟨g, off, none⟩ q6 _ c0 (hK _ _ ⟨_, rfl, trivial, hR, rfl⟩)
      refine Ord.each_cons (fun D xs w2 hD hC hP hR hA K hK => ?_) ?_
      ·
        have q3 := Ord.ahead_get _ hA 3 (by decide)
        simp only [Pu] at q3
        have q4 := Ord.ahead_get _ hA 4 (by decide)
        simp only [Pu] at q4
        have q7 := Ord.ahead_get _ hA 7 (by decide)
        simp only [Pu] at q7
        simp only [q3, q4, q7] at hK
        clear hA
        obtain ⟨w9, hrun, hm9, ht9⟩ := (hR.2.1 hD).put (i := i) HIL.out HSB.out
        go_simp
        exact hK _ _ ⟨undef, rfl, trivial, ⟨hR.1.trans ht9, fun h => (by cases h), fun _ => hm9⟩, trivial⟩
      exact Ord.each_nil
    case hendW1 =>
      intro D xs w3 hR hF
      obtain ⟨ht3, -, hm3⟩ := hR
      have hm3 := hm3 (hF 8 (by decide)).1
      have e0 := (hF 0 (by decide)).2
      have e1 := (hF 1 (by decide)).2
      have e2 := (hF 2 (by decide)).2
      have e3 := (hF 3 (by decide)).2
      have e4 := (hF 4 (by decide)).2
      have e5 := (hF 5 (by decide)).2
      have e6 := (hF 6 (by decide)).2
      have e7 := (hF 7 (by decide)).2
      simp only [Pu] at e0 e1 e2 e3 e4 e5 e6 e7
      rw [e0, e1, e2, e3, e4, e5, e6, e7]
      have HP3 := Lib.hid (HFIN.out w3 ht3 hm3)
      have HT3 := Lib.hid (HTW.out.trans (ht3.mono (T := DS B m1 m2) fun _ _ h => Or.inr (Or.inr h)))
      have hop := operation_any HP3.out HOF.out
      rw [HC2.out] at hop
      clear e0 e1 e2 e3 e4 e5 e6 e7 hF hm3 ht3
      go_wp2_with fail
      refine hop.mono ?_
      rintro e w4 ⟨rfl, hP4, ht4⟩
      have HP4 := Lib.hid hP4
      have HT4 := Lib.hid (HT3.out.trans (ht4.mono (T := DS B m1 m2) fun _ _ h => Or.inl h))
      clear hP4 ht4 hop
      go_wp2_with fail
      go_ret
      exact ⟨rfl, HP4.out, HT4.out⟩
  have hsn' : d.seen.getD i false = false := by cases h : d.seen.getD i false <;> simp_all
  rw [hsn'] at hlk HS2 ⊢
  simp only [if_neg (show ¬ (false = true) by decide), Option.getD_none, Option.isSome_none] at hlk HS2
  have HSN := Lib.hid hsn'
  have hun := h.own.used
  have hmo := h.own.most
  clear hsn hsn' h
  by_cases hfu : d.most ≤ Dk.used d
  · rw [if_pos ⟨rfl, hfu⟩]
    have hku : ((Dk.used d : Int) == (d.most : Int)) = true := by rw [beq_iff_eq]; omega
    have HKU := Lib.hid hku
    clear hku hfu
    go_enter Tryz.func100, Tryz.ntmps100
    go_upto_region 6 with (first | (go_at_call 54; refine hr.mono ?_; rintro e w' ⟨rfl, rfl⟩) | (go_at_call 141; refine hh.mono ?_; rintro e w' ⟨rfl, rfl⟩))
    iterate 31 go_step
    have hrow : SecAt (w'.alloc (.cells (bytesV Dk.blank).toArray 127)) w'.heap.size Dk.blank := heap_alloc_last _ _
    refine wpList_store_sec rfl (.tmp 8) (.tmp 31) rfl w'.heap.size rfl _ rfl _ hrow (by decide) HS2.out.1 ?_
    intro w1 _ t1
    have hb1 : Below w'.heap.size w' w1 := ((Below.refl _ w').alloc (Nat.le_refl _) _).trans (t1.below (fun i hi => by rw [hi]; exact Nat.le_refl _) (by simp))
    have HTW := Lib.hid (Touch.of_new (S := DS B m1 m2) hb1)
    have HP1 := Lib.hid (HH.out.below hb1)
    clear hrow t1 hb1 hlk hz c2 hr hh
    go_upto_region 8 with (fail)
    refine Ord.walk (Fu B m1 d.most (Dk.used d)) (fun _ _ w' => Touch (fun _ => False) w1 w') (fun _ _ => True)
      (by kernel_rfl) (by kernel_rfl) ?frB ?hfrB (fun _ _ _ _ _ h => h) ?hsB ?heB ?hendB
    case hsB => exact fun _ => (Touch.refl _ _).drew
    case hfrB =>
      intro xs
      simp only [Ord.fill, Act.put, List.setIfInBounds_toArray, List.set_cons_zero, List.set_cons_succ]
      rfl
    case heB =>
      refine Ord.each_cons (fun D xs w2 hD hC hP hR hA K hK => ?_) ?_
      ·
        clear hA
        go_simp
        exact hK _ _ ⟨_, rfl, trivial, hR, rfl⟩
      refine Ord.each_cons (fun D xs w2 hD hC hP hR hA K hK => ?_) ?_
      ·
        have q0 := Ord.ahead_get _ hA 0 (by decide)
        simp only [Fu] at q0
        simp only [q0] at hK
        clear hA
        go_simp
        exact hK _ _ ⟨_, rfl, trivial, hR, rfl⟩
      refine Ord.each_cons (fun D xs w2 hD hC hP hR hA K hK => ?_) ?_
      ·
        have q1 := Ord.ahead_get _ hA 1 (by decide)
        simp only [Fu] at q1
        simp only [q1] at hK
        clear hA
        go_simp
        exact hK _ _ ⟨_, rfl, trivial, hR, rfl⟩
      refine Ord.each_cons (fun D xs w2 hD hC hP hR hA K hK => ?_) ?_
      ·
        have q2 := Ord.ahead_get _ hA 2 (by decide)
        simp only [Fu] at q2
        simp only [q2] at hK
        clear hA
        have c0 := (HP1.out.keep (nothing_touch hR) (fun _ _ h => h)).c2
        go_simp
        exact hK _ _ ⟨_, rfl, trivial, hR, rfl⟩
      refine Ord.each_cons (fun D xs w2 hD hC hP hR hA K hK => ?_) ?_
      ·
        have q3 := Ord.ahead_get _ hA 3 (by decide)
        simp only [Fu] at q3
        simp only [q3] at hK
        clear hA
        have c0 := (HP1.out.keep (nothing_touch hR) (fun _ _ h => h)).lasts.len_run
        rw [Dk.seenL_used HP1.out.own.ok] at c0
        go_simp
        exact hK _ _ ⟨_, rfl, trivial, hR, rfl⟩
      refine Ord.each_cons (fun D xs w2 hD hC hP hR hA K hK => ?_) ?_
      ·
        clear hA
        go_simp
        exact hK _ _ ⟨_, rfl, trivial, hR, rfl⟩
      refine Ord.each_cons (fun D xs w2 hD hC hP hR hA K hK => ?_) ?_
      ·
        have q5 := Ord.ahead_get _ hA 5 (by decide)
        simp only [Fu] at q5
        simp only [q5] at hK
        clear hA
        go_simp
        exact hK _ _ ⟨_, rfl, trivial, hR, rfl⟩
      refine Ord.each_cons (fun D xs w2 hD hC hP hR hA K hK => ?_) ?_
      ·
        have q6 := Ord.ahead_get _ hA 6 (by decide)
        simp only [Fu] at q6
        simp only [q6] at hK
        clear hA
        go_simp
        exact hK _ _ ⟨_, rfl, trivial, hR, rfl⟩
      refine Ord.each_cons (fun D xs w2 hD hC hP hR hA K hK => ?_) ?_
      ·
        have q7 := Ord.ahead_get _ hA 7 (by decide)
        simp only [Fu] at q7
        simp only [q7] at hK
        clear hA
        have c0 := (HP1.out.keep (nothing_touch hR) (fun _ _ h => h)).c1
        go_simp
        exact hK _ _ ⟨_, rfl, trivial, hR, rfl⟩
      refine Ord.each_cons (fun D xs w2 hD hC hP hR hA K hK => ?_) ?_
      ·
        have q4 := Ord.ahead_get _ hA 4 (by decide)
        simp only [Fu] at q4
        have q8 := Ord.ahead_get _ hA 8 (by decide)
        simp only [Fu] at q8
        simp only [q4, q8] at hK
        clear hA
        go_simp
        exact hK _ _ ⟨_, rfl, trivial, hR, rfl⟩
      exact Ord.each_nil
    case hendB =>
      intro D xs w3 hR hF
      have e9 := (hF 9 (by decide)).2
      simp only [Fu] at e9
      rw [e9, HKU.out]
      have HP3 := Lib.hid (HP1.out.keep (nothing_touch hR) (fun _ _ h => h))
      have HT3 := Lib.hid (HTW.out.trans (nothing_touch (S := DS B m1 m2) hR))
      clear e9 hF hR
      generalize xs 0 = z0
      generalize xs 1 = z1
      generalize xs 2 = z2
      generalize xs 3 = z3
      generalize xs 4 = z4
      generalize xs 5 = z5
      generalize xs 6 = z6
      generalize xs 7 = z7
      generalize xs 8 = z8
      go_wp2_with fail
      go_ret
      exact ⟨rfl, HP3.out, HT3.out⟩
  · rw [if_neg (by rintro ⟨_, h⟩; exact hfu h)]
    dsimp only
    rw [hc1]
    clear hc1
    have hku : ((Dk.used d : Int) == (d.most : Int)) = false := by rw [beq_eq_false_iff_ne]; omega
    have HKU := Lib.hid hku
    have HUN := Lib.hid (show Dk.used d < d.most by omega)
    clear hku hfu
    go_enter Tryz.func100, Tryz.ntmps100
    go_upto_region 6 with (first | (go_at_call 54; refine hr.mono ?_; rintro e w' ⟨rfl, rfl⟩) | (go_at_call 141; refine hh.mono ?_; rintro e w' ⟨rfl, rfl⟩))
    iterate 31 go_step
    have hrow : SecAt (w'.alloc (.cells (bytesV Dk.blank).toArray 127)) w'.heap.size Dk.blank := heap_alloc_last _ _
    refine wpList_store_sec rfl (.tmp 8) (.tmp 31) rfl w'.heap.size rfl _ rfl _ hrow (by decide) HS2.out.1 ?_
    intro w1 _ t1
    have hb1 : Below w'.heap.size w' w1 := ((Below.refl _ w').alloc (Nat.le_refl _) _).trans (t1.below (fun i hi => by rw [hi]; exact Nat.le_refl _) (by simp))
    have HTW1 := Lib.hid (Touch.of_new (S := DS B m1 m2) hb1)
    have HP1 := Lib.hid (HH.out.below hb1)
    clear hrow t1 hb1 hlk hz c2 hr hh
    go_upto_region 8 with (fail)
    refine Ord.walk (Fu B m1 d.most (Dk.used d)) (fun _ _ w' => Touch (fun _ => False) w1 w') (fun _ _ => True)
      (by kernel_rfl) (by kernel_rfl) ?frA ?hfrA (fun _ _ _ _ _ h => h) ?hsA ?heA ?hendA
    case hsA => exact fun _ => (Touch.refl _ _).drew
    case hfrA =>
      intro xs
      simp only [Ord.fill, Act.put, List.setIfInBounds_toArray, List.set_cons_zero, List.set_cons_succ]
      rfl
    case heA =>
      refine Ord.each_cons (fun D xs w2 hD hC hP hR hA K hK => ?_) ?_
      ·
        clear hA
        go_simp
        exact hK _ _ ⟨_, rfl, trivial, hR, rfl⟩
      refine Ord.each_cons (fun D xs w2 hD hC hP hR hA K hK => ?_) ?_
      ·
        have q0 := Ord.ahead_get _ hA 0 (by decide)
        simp only [Fu] at q0
        simp only [q0] at hK
        clear hA
        go_simp
        exact hK _ _ ⟨_, rfl, trivial, hR, rfl⟩
      refine Ord.each_cons (fun D xs w2 hD hC hP hR hA K hK => ?_) ?_
      ·
        have q1 := Ord.ahead_get _ hA 1 (by decide)
        simp only [Fu] at q1
        simp only [q1] at hK
        clear hA
        go_simp
        exact hK _ _ ⟨_, rfl, trivial, hR, rfl⟩
      refine Ord.each_cons (fun D xs w2 hD hC hP hR hA K hK => ?_) ?_
      ·
        have q2 := Ord.ahead_get _ hA 2 (by decide)
        simp only [Fu] at q2
        simp only [q2] at hK
        clear hA
        have c0 := (HP1.out.keep (nothing_touch hR) (fun _ _ h => h)).c2
        go_simp
        exact hK _ _ ⟨_, rfl, trivial, hR, rfl⟩
      refine Ord.each_cons (fun D xs w2 hD hC hP hR hA K hK => ?_) ?_
      ·
        have q3 := Ord.ahead_get _ hA 3 (by decide)
        simp only [Fu] at q3
        simp only [q3] at hK
        clear hA
        have c0 := (HP1.out.keep (nothing_touch hR) (fun _ _ h => h)).lasts.len_run
        rw [Dk.seenL_used HP1.out.own.ok] at c0
        go_simp
        exact hK _ _ ⟨_, rfl, trivial, hR, rfl⟩
      refine Ord.each_cons (fun D xs w2 hD hC hP hR hA K hK => ?_) ?_
      ·
        clear hA
        go_simp
        exact hK _ _ ⟨_, rfl, trivial, hR, rfl⟩
      refine Ord.each_cons (fun D xs w2 hD hC hP hR hA K hK => ?_) ?_
      ·
        have q5 := Ord.ahead_get _ hA 5 (by decide)
        simp only [Fu] at q5
        simp only [q5] at hK
        clear hA
        go_simp
        exact hK _ _ ⟨_, rfl, trivial, hR, rfl⟩
      refine Ord.each_cons (fun D xs w2 hD hC hP hR hA K hK => ?_) ?_
      ·
        have q6 := Ord.ahead_get _ hA 6 (by decide)
        simp only [Fu] at q6
        simp only [q6] at hK
        clear hA
        go_simp
        exact hK _ _ ⟨_, rfl, trivial, hR, rfl⟩
      refine Ord.each_cons (fun D xs w2 hD hC hP hR hA K hK => ?_) ?_
      ·
        have q7 := Ord.ahead_get _ hA 7 (by decide)
        simp only [Fu] at q7
        simp only [q7] at hK
        clear hA
        have c0 := (HP1.out.keep (nothing_touch hR) (fun _ _ h => h)).c1
        go_simp
        exact hK _ _ ⟨_, rfl, trivial, hR, rfl⟩
      refine Ord.each_cons (fun D xs w2 hD hC hP hR hA K hK => ?_) ?_
      ·
        have q4 := Ord.ahead_get _ hA 4 (by decide)
        simp only [Fu] at q4
        have q8 := Ord.ahead_get _ hA 8 (by decide)
        simp only [Fu] at q8
        simp only [q4, q8] at hK
        clear hA
        go_simp
        exact hK _ _ ⟨_, rfl, trivial, hR, rfl⟩
      exact Ord.each_nil
    case hendA =>
      intro D xs w3 hR hF
      have e9 := (hF 9 (by decide)).2
      simp only [Fu] at e9
      rw [e9, HKU.out]
      have HP3 := Lib.hid (HP1.out.keep (nothing_touch hR) (fun _ _ h => h))
      have HT3 := Lib.hid (HTW1.out.trans (nothing_touch (S := DS B m1 m2) hR))
      clear e9 hF hR
      generalize xs 0 = z0
      generalize xs 1 = z1
      generalize xs 2 = z2
      generalize xs 3 = z3
      generalize xs 4 = z4
      generalize xs 5 = z5
      generalize xs 6 = z6
      generalize xs 7 = z7
      generalize xs 8 = z8
      have c2 := HP3.out.c2
      obtain ⟨w2, hrun, hm2, ht2⟩ := HP3.out.lasts.put (i := i) (by rw [Dk.seenL_length HP3.out.own.ok]; exact HI.out) Dk.sec_blank
      rw [zero_cells] at hrun
      have HTW := Lib.hid (HT3.out.trans (ht2.mono (T := DS B m1 m2) fun _ _ h => Or.inr (Or.inl h)))
      have HM2 := Lib.hid hm2
      have HB2 := Lib.hid (ht2.row HP3.out.blk (fun e => HP3.out.b1 e))
      have HP2 := Lib.hid (show MapAt w2 m2 d.waits ∧ m1 ≠ m2 ∧ B ≠ m2 from ⟨HP3.out.waits.touch ht2 (fun e => HP3.out.n12 e.symm), HP3.out.n12, HP3.out.b2⟩)
      have HC3 := Lib.hid (blk_cell (v := .map (some m2)) HB2.out 3 rfl)
      have HCB := Lib.hid (fun j (hj : j < 128) => HTW.out.cell (HCE.out j hj) HGN.out)
      have HFIN := Lib.hid (show ∀ w3, Touch (· = m2) w2 w3 → MapAt w3 m2 (d.waits.set i (some b)) → PDev w3 B m1 m2 (Dk.put d i b) from fun w3 ht hm =>
        ⟨Dk.own_put HP3.out.own HI.out HSB.out (Or.inl HUN.out), ht.row HB2.out (fun e => HP3.out.b2 e), by rw [Dk.seenL_put_new HP3.out.own HI.out HSN.out]; exact HM2.out.touch ht (fun e => HP3.out.n12 e), hm, HP3.out.b1, HP3.out.b2, HP3.out.n12⟩)
      clear hm2 ht2
      go_upto_region 11 with (fail)
      refine Ord.walk (Pu B m2 i (.slice (some ⟨g, off, none⟩) 128 cap) ⟨g, off, none⟩ b) (PuR w2 m2 i b d.waits) (fun _ _ => True)
        (by kernel_rfl) (by kernel_rfl) ?frW2 ?hfrW2 (fun _ _ _ _ _ h => h) ?hsW2 ?heW2 ?hendW2
      case hsW2 => exact fun _ => ⟨(Touch.refl _ _).drew, fun _ => HP2.out.1.touch (S := fun _ => False) (Touch.refl _ _).drew id, fun h => by cases h⟩
      case hfrW2 =>
        intro xs
        simp only [Ord.fill, Act.put, List.setIfInBounds_toArray, List.set_cons_zero, List.set_cons_succ]
        rfl
      case heW2 =>
        refine Ord.each_cons (fun D xs w2 hD hC hP hR hA K hK => ?_) ?_
        ·
          clear hA
          go_simp
          exact hK _ _ ⟨_, rfl, trivial, hR, rfl⟩
        refine Ord.each_cons (fun D xs w2 hD hC hP hR hA K hK => ?_) ?_
        ·
          have q0 := Ord.ahead_get _ hA 0 (by decide)
          simp only [Pu] at q0
          simp only [q0] at hK
          clear hA
          go_simp
          exact hK _ _ ⟨_, rfl, trivial, hR, rfl⟩
        refine Ord.each_cons (fun D xs w2 hD hC hP hR hA K hK => ?_) ?_
        ·
          have q1 := Ord.ahead_get _ hA 1 (by decide)
          simp only [Pu] at q1
          simp only [q1] at hK
          clear hA
          go_simp
          exact hK _ _ ⟨_, rfl, trivial, hR, rfl⟩
        refine Ord.each_cons (fun D xs w2 hD hC hP hR hA K hK => ?_) ?_
        ·
          have q2 := Ord.ahead_get _ hA 2 (by decide)
          simp only [Pu] at q2
          simp only [q2] at hK
          clear hA
          have c0 := hR.1.cell HC3.out (fun e => HP2.out.2.2 e)
          go_simp
          exact hK _ _ ⟨_, rfl, trivial, hR, rfl⟩
        refine Ord.each_cons (fun D xs w2 hD hC hP hR hA K hK => ?_) ?_
        ·
          clear hA
          go_simp
          exact hK _ _ ⟨_, rfl, trivial, hR, rfl⟩
        refine Ord.each_cons (fun D xs w2 hD hC hP hR hA K hK => ?_) ?_
        ·
          clear hA
          go_simp
          exact hK _ _ ⟨_, rfl, trivial, hR, rfl⟩
        refine Ord.each_cons (fun D xs w2 hD hC hP hR hA K hK => ?_) ?_
        ·
          have q5 := Ord.ahead_get _ hA 5 (by decide)
          simp only [Pu] at q5
          simp only [q5] at hK
          clear hA
          go_simp
          exact hK _ _ ⟨_, rfl, trivial, hR, rfl⟩
        refine Ord.each_cons (fun D xs w2 hD hC hP hR hA K hK => ?_) ?_
        ·
          have q6 := Ord.ahead_get _ hA 6 (by decide)
          simp only [Pu] at q6
          clear hA
          have c0 := load_array HLB.out (fun i hi => hR.1.cell (HCB.out i hi) HGB.out)
          rw [if_pos (by rfl)]
          exact wp_load_at 127 (.tmp 57) rfl ⟨g, off, none⟩ q6 _ c0 (hK _ _ ⟨_, rfl, trivial, hR, rfl⟩)
        refine Ord.each_cons (fun D xs w2 hD hC hP hR hA K hK => ?_) ?_
        ·
          have q3 := Ord.ahead_get _ hA 3 (by decide)
          simp only [Pu] at q3
          have q4 := Ord.ahead_get _ hA 4 (by decide)
          simp only [Pu] at q4
          have q7 := Ord.ahead_get _ hA 7 (by decide)
          simp only [Pu] at q7
          simp only [q3, q4, q7] at hK
          clear hA
          obtain ⟨w9, hrun, hm9, ht9⟩ := (hR.2.1 hD).put (i := i) HIL.out HSB.out
          go_simp
          exact hK _ _ ⟨undef, rfl, trivial, ⟨hR.1.trans ht9, fun h => (by cases h), fun _ => hm9⟩, trivial⟩
        exact Ord.each_nil
      case hendW2 =>
        intro D xs w3 hR hF
        obtain ⟨ht3, -, hm3⟩ := hR
        have hm3 := hm3 (hF 8 (by decide)).1
        have e0 := (hF 0 (by decide)).2
        have e1 := (hF 1 (by decide)).2
        have e2 := (hF 2 (by decide)).2
        have e3 := (hF 3 (by decide)).2
        have e4 := (hF 4 (by decide)).2
        have e5 := (hF 5 (by decide)).2
        have e6 := (hF 6 (by decide)).2
        have e7 := (hF 7 (by decide)).2
        simp only [Pu] at e0 e1 e2 e3 e4 e5 e6 e7
        rw [e0, e1, e2, e3, e4, e5, e6, e7]
        have HP3 := Lib.hid (HFIN.out w3 ht3 hm3)
        have HT3 := Lib.hid (HTW.out.trans (ht3.mono (T := DS B m1 m2) fun _ _ h => Or.inr (Or.inr h)))
        have hop := operation_any HP3.out HOF.out
        rw [HC2.out] at hop
        clear e0 e1 e2 e3 e4 e5 e6 e7 hF hm3 ht3
        go_wp2_with fail
        refine hop.mono ?_
        rintro e w4 ⟨rfl, hP4, ht4⟩
        have HP4 := Lib.hid hP4
        have HT4 := Lib.hid (HT3.out.trans (ht4.mono (T := DS B m1 m2) fun _ _ h => Or.inl h))
        clear hP4 ht4 hop
        go_wp2_with fail
        go_ret
        exact ⟨rfl, HP4.out, HT4.out⟩
end Go.Proofs.YtbpodmallknhfaaGreat
namespace Go.Proofs.YtbpodmallknhfaaGreat
open Go.RowKit Go.Maps
def overL (Ls Ld : List (Option (List Nat))) : List (Option (List Nat)) := List.zipWith (fun (w : Option (List Nat)) l => w <|> l) Ls Ld
theorem overL_length {Ls Ld : List (Option (List Nat))} (h : Ls.length = Ld.length) : (overL Ls Ld).length = Ld.length := by unfold overL; rw [List.length_zipWith]; omega
theorem gz_out {L : List (Option (List Nat))} {z : Int} (h : z < 0 ∨ (L.length : Int) ≤ z) : gz L z = none := by
  unfold gz
  split
  · rw [List.getD_eq_getElem?_getD, List.getElem?_eq_none (by omega)]; rfl
  · rfl
theorem gz_over {Ls Ld : List (Option (List Nat))} (h : Ls.length = Ld.length) (z : Int) : gz (overL Ls Ld) z = (gz Ls z <|> gz Ld z) := by
  by_cases hz : z < 0 ∨ (Ld.length : Int) ≤ z
  · rw [gz_out (L := overL Ls Ld) (by rw [overL_length h]; exact hz), gz_out (L := Ls) (by rw [h]; exact hz), gz_out hz]; rfl
  · rw [gz_pos (by omega), gz_pos (by omega), gz_pos (by omega)]
    exact Dk.getD_zipWith _ _ _ _ none none none (by omega) (by omega)
theorem merged_over {D : DataW (List Nat)} {Ls Ld : List (Option (List Nat))} {left : Lit → Bool} (h : Ls.length = Ld.length) (hM : Merged D (mapD Ld) (mapD Ls) left) (hl : ∀ k, left k = false)
    (hc : CanonK (KeysOf Tryz.prog 3) D) : D = mapD (overL Ls Ld) := by
  refine mapD_ext hc (fun z => ?_) (fun z zd b hb => ?_)
  · rw [hM.1, hl, has_mapD, has_mapD, gz_over h]
    cases gz Ls z <;> cases gz Ld z <;> rfl
  · rw [hM.2, hl, has_mapD, at_mapD, at_mapD]
    rw [gz_over h] at hb
    cases hs : gz Ls z with
    | none => rw [hs] at hb; rw [show gz Ld z = some b from hb]; rfl
    | some c => rw [hs] at hb; cases hb; rfl
set_option maxHeartbeats 3200000 in
set_option maxRecDepth 20000 in
theorem copy_maps (m1 m2 : Nat) (Ld Ls : List (Option (List Nat))) (w : World) (hd : MapAt w m1 Ld) (hs : MapAt w m2 Ls) (hne : m1 ≠ m2) (hlen : Ls.length = Ld.length) :
    Calls Tryz.prog 124 #[.map (some m1), .map (some m2)] w fun e w' => e = .returned (.tuple #[]) ∧ MapAt w' m1 (overL Ls Ld) ∧ Touch (· = m1) w w' := by
  have hbd := hd.lt
  have hbs := hs.lt
  have hl1 := hd.len
  have hl2 := hs.len
  have hz := zero_arr.1
  have hcs := count_le Ls
  have hcd := count_le Ld
  have hsz := size_mapD Ls
  have ho1 := hd.own
  have ho2 := hs.own
  generalize hnd : Ld.countP Option.isSome = nd at *
  generalize hns : Ls.countP Option.isSome = ns at *
  clear hd hs
  go_enter Tryz.func124, Tryz.ntmps124
  go_wp2_with (first
    | (at_range; refine wpList_range_own _ rfl _ 105 rfl 3 127 ikey Tryz.underlying105 secR m2 ns _ rfl ho2 ?_; intro w0 hrg0 hg0 hs0)
    | go_in)
  go_frame
  go_loopw [8] (fun _ wr => ∃ (left : Lit → Bool) (cnt : Nat) (Dout : DataW (List Nat)), wr.ranges Tryz.prog 3 secR m2 w.heap.size ns (mapD Ls) left cnt ∧ cnt ≤ ns ∧
      wr.ownsMap Tryz.prog 3 secR m1 (nd + (ns - cnt)) Dout ∧ Merged Dout (mapD Ld) (mapD Ls) left ∧ w.grownBy wr (some m1))
    (fun _ wr => wr.rangeLeft m2 w.heap.size)
  case atStart =>
    rw [hsz] at hrg0
    exact ⟨_, _, mapD Ld, hrg0, Nat.le_refl _, (ho1.kept hg0 (by simp)).mono (by omega), merged_start _ _, hg0.but _⟩
  case round =>
    obtain ⟨left, cnt, Dout, hrg, hcs, hout, hM, hgw⟩ := hrel
    go_wp2_with (first
      | (at_next; refine wpList_next_ranges _ rfl _ rfl 3 ikey secR id av (fun key _ _ => ⟨key, rfl⟩) (fun v y hv => by obtain ⟨b, _, h, _⟩ := secR_inv hv; exact ⟨b, h⟩) m2 w.heap.size ns _ _ _ rfl hrg ?_ ?_)
      | go_in)
    · intro hc0 hl0
      go_wp2
      go_end0
      subst hc0
      have e := merged_over hlen hM hl0 (hout.canonK ikey)
      subst e
      exact ⟨rfl, .of hout (by rw [overL_length hlen]; exact hl1), .of_grown hgw rfl⟩
    · intro x c kl yd yp w1 cnt1 hkey hlk hv hat hrg1 hlt hg1 hs1 hen
      have hsc : Dk.Sec c := by
        obtain ⟨b, hb, e, _⟩ := secR_inv hv
        rw [av_inj e]; exact hb
      have HSC := Lib.hid hsc
      have HRG := Lib.hid hrg1
      have HV := Lib.hid hv
      have HAT := Lib.hid hat
      have HK := Lib.hid hkey
      have hout1 := hout.kept hg1 (fun e => by have := Option.some.inj e; omega)
      have HO1 := Lib.hid hout1
      have HRG0 := Lib.hid hrg
      have HGW := Lib.hid (hgw.andThen hg1 (fun j hj => .inl (by cases hj; exact Nat.le_refl _)))
      have HSI := Lib.hid (show w.heap.size ≤ w1.heap.size by rw [hs1]; exact hgw.size)
      have HLT := Lib.hid hlt
      have HMM := Lib.hid hM
      have hlb := hrg1.lt
      clear hs1 hsc hrg1 hv hat hkey hlk hout1 hout hrg hgw hg1 hlt hM
      go_upto_region 2 with (fail)
      iterate 16 go_step
      have hrow : SecAt (w1.alloc (.cells (bytesV Dk.blank).toArray 127)) w1.heap.size Dk.blank := heap_alloc_last _ _
      refine wpList_store_sec rfl (.tmp 5) (.tmp 12) rfl w1.heap.size rfl _ rfl _ hrow (by decide) HSC.out.1 ?_
      intro w2 r2 t2
      have hb2 : Below w1.heap.size w1 w2 := ((Below.refl _ w1).alloc (Nat.le_refl _) _).trans (t2.below (fun i hi => by rw [hi]; exact Nat.le_refl _) (by simp))
      have hg2 := grownBy_below hb2 none
      have R2 := Lib.hid r2
      have HG2 := Lib.hid hg2
      clear r2 t2 hrow hb2 hg2 hz hen
      go_upto_region 3 with (fail)
      iterate 7 go_step
      refine wpList_load_sec rfl (.tmp 5) rfl w1.heap.size rfl _ R2.out HSC.out.1 ?_
      have hout2 := HO1.out.kept HG2.out (by simp)
      refine wpList_mapUpdate_own _ rfl _ _ _ 105 rfl 3 127 ikey Tryz.underlying105 secR m1 _ _ rfl hout2 (by unfold maxLen; omega) _ _ _ rfl rfl HK.out yd yp HV.out ?_
      intro w3 hout3 hg3
      have hrg3 := (HRG.out.kept HG2.out (by simp) (by simp)).kept hg3 (fun e => hne (Option.some.inj e).symm) (fun e => by have := Option.some.inj e; omega)
      have HO3 := Lib.hid hout3
      have HG3 := Lib.hid hg3
      have HRG3 := Lib.hid hrg3
      clear hout2 hout3 hg3 hrg3
      go_frame
      go_wp2_with fail
      go_roundw
      case rel =>
        have h1 := HLT.out
        exact ⟨_, cnt1, _, HRG3.out, by omega, HO3.out.mono (by omega), merged_step HMM.out HO1.out.isMap (ikey.key HK.out) HAT.out, (HGW.out.andThen HG2.out (fun j hj => by cases hj)).andThen HG3.out (fun j hj => .inr hj)⟩
      case measure => rw [HRG3.out.left_eq, HRG0.out.left_eq]; exact HLT.out
end Go.Proofs.YtbpodmallknhfaaGreat
namespace Go.Proofs.YtbpodmallknhfaaGreat
open Go.RowKit
def Sy (B m1 m2 : Nat) (i : Nat) (x : Value) (_ : World) : Prop :=
  match i with
  | 0 => x = .pointer (some ⟨B, 0, none⟩)
  | 1 => x = .pointer (some ⟨B, 0, none⟩)
  | 2 => x = .pointer (some ⟨B, 2, none⟩)
  | 3 => x = .map (some m1)
  | 4 => x = .pointer (some ⟨B, 0, none⟩)
  | 5 => x = .pointer (some ⟨B, 0, none⟩)
  | 6 => x = .pointer (some ⟨B, 3, none⟩)
  | 7 => x = .map (some m2)
  | _ => True
def SyR (w1 : World) (m1 : Nat) (L : List (Option (List Nat))) (D : Nat → Bool) (_ : Nat → Value) (w : World) : Prop :=
  Touch (· = m1) w1 w ∧ (D 8 = false → Touch (fun _ => False) w1 w) ∧ (D 8 = true → MapAt w m1 L)
set_option maxHeartbeats 3200000 in
set_option maxRecDepth 20000 in
theorem sync_any {B m1 m2 : Nat} {d : Dk.Dev} {w : World} (h : PDev w B m1 m2 d) :
    Calls Tryz.prog 91 #[.pointer (some ⟨B, 0, none⟩)] w fun e w' => e = .returned (.int .i64 ((Dk.sync d).2 : Nat)) ∧ PDev w' B m1 m2 (Dk.sync d).1 ∧ Touch (DS B m1 m2) w w' := by
  have HH := Lib.hid h
  have hr := ready_any h
  by_cases ho : d.off = true
  · have hg : Dk.sync d = (d, 6) := if_pos ho
    rw [hg]
    rw [ho] at hr
    clear hg ho h
    go_enter Tryz.func91, Tryz.ntmps91
    go_wp2_with (go_at_call 54; refine hr.mono ?_; rintro e w' ⟨rfl, rfl⟩)
    go_ret
    exact ⟨rfl, HH.out, .refl _ _⟩
  have hof : d.off = false := by cases h : d.off <;> simp_all
  rw [hof] at hr
  have hop := operation_any h hof
  by_cases hg : (Dk.goes d).off = true
  · have e : Dk.sync d = (Dk.goes d, 6) := by unfold Dk.sync; rw [if_neg ho, if_pos hg]
    rw [e]
    rw [hg] at hop
    clear e hg ho hof h
    go_enter Tryz.func91, Tryz.ntmps91
    go_wp2_with (go_at_call 54; refine hr.mono ?_; rintro e w' ⟨rfl, rfl⟩)
    refine hop.mono ?_
    rintro e w1 ⟨rfl, hP, hT⟩
    have HP := Lib.hid hP
    have HT := Lib.hid (hT.mono (T := DS B m1 m2) fun _ _ h => Or.inl h)
    clear hP hT hop hr
    go_wp2_with fail
    go_ret
    exact ⟨rfl, HP.out, HT.out⟩
  · have hgf : (Dk.goes d).off = false := by cases h : (Dk.goes d).off <;> simp_all
    have e : Dk.sync d = (Dk.last (Dk.goes d), 0) := by unfold Dk.sync; rw [if_neg ho, if_neg hg]
    rw [e]
    rw [hgf] at hop
    clear e hg hgf ho hof h
    generalize Dk.goes d = d1 at *
    go_enter Tryz.func91, Tryz.ntmps91
    go_wp2_with (go_at_call 54; refine hr.mono ?_; rintro e w' ⟨rfl, rfl⟩)
    refine hop.mono ?_
    rintro e w1 ⟨rfl, hP, hT⟩
    have HP := Lib.hid hP
    have HT := Lib.hid (hT.mono (T := DS B m1 m2) fun _ _ h => Or.inl h)
    clear hP hT hop hr
    go_upto_region 7 with (fail)
    refine Ord.walk (Sy B m1 m2) (SyR w1 m1 (overL d1.waits (Dk.seenL d1))) (fun _ _ => True)
      (by kernel_rfl) (by kernel_rfl) ?fr ?hfr (fun _ _ _ _ _ h => h) ?hs ?he ?hend
    case hs => exact fun _ => ⟨(Touch.refl _ _).drew, fun _ => (Touch.refl _ _).drew, fun h => by cases h⟩
    case hfr =>
      intro xs
      simp only [Ord.fill, Act.put, List.setIfInBounds_toArray, List.set_cons_zero, List.set_cons_succ]
      rfl
    case he =>
      refine Ord.each_cons (fun D xs w2 hD hC hP hR hA K hK => ?_) ?_
      ·
        clear hA
        go_simp
        exact hK _ _ ⟨_, rfl, trivial, hR, rfl⟩
      refine Ord.each_cons (fun D xs w2 hD hC hP hR hA K hK => ?_) ?_
      ·
        have q0 := Ord.ahead_get _ hA 0 (by decide)
        simp only [Sy] at q0
        simp only [q0] at hK
        clear hA
        go_simp
        exact hK _ _ ⟨_, rfl, trivial, hR, rfl⟩
      refine Ord.each_cons (fun D xs w2 hD hC hP hR hA K hK => ?_) ?_
      ·
        have q1 := Ord.ahead_get _ hA 1 (by decide)
        simp only [Sy] at q1
        simp only [q1] at hK
        clear hA
        go_simp
        exact hK _ _ ⟨_, rfl, trivial, hR, rfl⟩
      refine Ord.each_cons (fun D xs w2 hD hC hP hR hA K hK => ?_) ?_
      ·
        have q2 := Ord.ahead_get _ hA 2 (by decide)
        simp only [Sy] at q2
        simp only [q2] at hK
        clear hA
        have c0 := hR.1.cell HP.out.c2 (fun e => HP.out.b1 e)
        go_simp
        exact hK _ _ ⟨_, rfl, trivial, hR, rfl⟩
      refine Ord.each_cons (fun D xs w2 hD hC hP hR hA K hK => ?_) ?_
      ·
        clear hA
        go_simp
        exact hK _ _ ⟨_, rfl, trivial, hR, rfl⟩
      refine Ord.each_cons (fun D xs w2 hD hC hP hR hA K hK => ?_) ?_
      ·
        have q4 := Ord.ahead_get _ hA 4 (by decide)
        simp only [Sy] at q4
        simp only [q4] at hK
        clear hA
        go_simp
        exact hK _ _ ⟨_, rfl, trivial, hR, rfl⟩
      refine Ord.each_cons (fun D xs w2 hD hC hP hR hA K hK => ?_) ?_
      ·
        have q5 := Ord.ahead_get _ hA 5 (by decide)
        simp only [Sy] at q5
        simp only [q5] at hK
        clear hA
        go_simp
        exact hK _ _ ⟨_, rfl, trivial, hR, rfl⟩
      refine Ord.each_cons (fun D xs w2 hD hC hP hR hA K hK => ?_) ?_
      ·
        have q6 := Ord.ahead_get _ hA 6 (by decide)
        simp only [Sy] at q6
        simp only [q6] at hK
        clear hA
        have c0 := hR.1.cell HP.out.c3 (fun e => HP.out.b1 e)
        go_simp
        exact hK _ _ ⟨_, rfl, trivial, hR, rfl⟩
      refine Ord.each_cons (fun D xs w2 hD hC hP hR hA K hK => ?_) ?_
      ·
        have q3 := Ord.ahead_get _ hA 3 (by decide)
        simp only [Sy] at q3
        have q7 := Ord.ahead_get _ hA 7 (by decide)
        simp only [Sy] at q7
        simp only [q3, q7] at hK
        clear hA
        have hp := HP.out.keep (hR.2.1 hD) (fun _ _ h => h)
        go_simp
        refine (copy_maps m1 m2 _ _ w2 hp.lasts hp.waits hp.n12 (by rw [hp.own.ok.w, Dk.seenL_length hp.own.ok])).mono ?_
        rintro e w3 ⟨rfl, hm, ht⟩
        exact hK _ _ ⟨_, rfl, trivial, ⟨hR.1.trans ht, fun h => (by cases h), fun _ => hm⟩, trivial⟩
      exact Ord.each_nil
    case hend =>
      intro D xs w3 hR hF
      have hm3 := hR.2.2 (hF 8 (by decide)).1
      have HM := Lib.hid hm3
      have HB := Lib.hid (hR.1.row HP.out.blk (fun e => HP.out.b1 e))
      have HW := Lib.hid (HP.out.waits.touch hR.1 (fun e => HP.out.n12 e.symm))
      have HT3 := Lib.hid (HT.out.trans (hR.1.mono (T := DS B m1 m2) fun _ _ h => Or.inr (Or.inl h)))
      clear hm3 hR hF
      generalize xs 0 = z0
      generalize xs 1 = z1
      generalize xs 2 = z2
      generalize xs 3 = z3
      generalize xs 4 = z4
      generalize xs 5 = z5
      generalize xs 6 = z6
      generalize xs 7 = z7
      generalize xs 8 = z8
      have c3 := blk_cell (v := .map (some m2)) HB.out 3 rfl
      obtain ⟨w4, hrun, hm4, ht4⟩ := HW.out.clear_run
      have HFIN := Lib.hid (show PDev w4 B m1 m2 (Dk.last d1) from ⟨Dk.own_last HP.out.own, by rw [Dk.last_size2 HP.out.own.ok]; exact ht4.row HB.out (fun e => HP.out.b2 e), by rw [Dk.seenL_last HP.out.own]; exact HM.out.touch ht4 (fun e => HP.out.n12 e),
        by rw [HP.out.own.ok.w] at hm4; exact hm4, HP.out.b1, HP.out.b2, HP.out.n12⟩)
      have HT4 := Lib.hid (HT3.out.trans (ht4.mono (T := DS B m1 m2) fun _ _ h => Or.inr (Or.inr h)))
      clear hm4 ht4
      go_wp2_with fail
      go_ret
      exact ⟨rfl, HFIN.out, HT4.out⟩
end Go.Proofs.YtbpodmallknhfaaGreat
