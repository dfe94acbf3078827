/- What a crash leaves of pages, plainly: halves of sectors. Conditions: none. Pages on a device whose power goes, plainly: what lasts, what waits, and what a crash leaves. Conditions: none. What pages are read as behind a crash, plainly. Conditions: none. What the law's mixed answers where each half is one that was put. Conditions: the list's cells hold what they tell. -/
import Derived.Test.YtkmkbjjpbodbfaaPageDev
import Derived.Test.YtkmkbjjpbodbfaaPutOpen
import Derived.Test.YtkmkbjjpbodbfaaPageApi
import Derived.Test.YtkmkbjjpbodbfaaPageIn
import Derived.IntWalk
namespace Go.Proofs.Ytkmkbjjpbodbfaa.Pg

/-- A half of a sector. -/
def half (b : List Nat) (h : Nat) : List Nat := (b.drop (64 * h)).take 64
/-- A sector of a page. -/
def sec (b : List Nat) (j : Nat) : List Nat := (b.drop (128 * j)).take 128
theorem half_length {b : List Nat} (hb : b.length = 512) {h : Nat} (hh : h < 8) : (half b h).length = 64 := by unfold half; simp; omega
theorem sec_length {b : List Nat} (hb : b.length = 512) {j : Nat} (hj : j < 4) : (sec b j).length = 128 := by unfold sec; simp; omega
theorem sec_halves {b : List Nat} (j : Nat) : (sec b j).take 64 = half b (2 * j) ∧ (sec b j).drop 64 = half b (2 * j + 1) := by
  unfold sec half
  constructor
  · rw [List.take_take, show min 64 128 = 64 by decide, show 64 * (2 * j) = 128 * j by omega]
  · rw [List.drop_take, List.drop_drop, show 128 * j + 64 = 64 * (2 * j + 1) by omega]
theorem secs_getD {b : List Nat} {j : Nat} (hj : j < 4) : (Dk.secs b).getD j [] = sec b j := by
  have : j = 0 ∨ j = 1 ∨ j = 2 ∨ j = 3 := by omega
  rcases this with rfl | rfl | rfl | rfl <;> rfl
theorem four_secs {s0 s1 s2 s3 : List Nat} (h0 : s0.length = 128) (h1 : s1.length = 128) (h2 : s2.length = 128) (h3 : s3.length = 128) :
    sec (s0 ++ (s1 ++ (s2 ++ s3))) 0 = s0 ∧ sec (s0 ++ (s1 ++ (s2 ++ s3))) 1 = s1 ∧ sec (s0 ++ (s1 ++ (s2 ++ s3))) 2 = s2 ∧ sec (s0 ++ (s1 ++ (s2 ++ s3))) 3 = s3 := by
  unfold sec
  have d1 : (s0 ++ (s1 ++ (s2 ++ s3))).drop 128 = s1 ++ (s2 ++ s3) := List.drop_left' h0
  have d2 : (s1 ++ (s2 ++ s3)).drop 128 = s2 ++ s3 := List.drop_left' h1
  have d3 : (s2 ++ s3).drop 128 = s3 := List.drop_left' h2
  refine ⟨List.take_left' h0, ?_, ?_, ?_⟩
  · rw [show 128 * 1 = 128 from rfl, d1]; exact List.take_left' h1
  · rw [show 128 * 2 = 128 + 128 from rfl, ← List.drop_drop, d1, d2]; exact List.take_left' h2
  · rw [show 128 * 3 = 128 + 128 + 128 from rfl, ← List.drop_drop, ← List.drop_drop, d1, d2, d3]; exact List.take_of_length_le (Nat.le_of_eq h3)
theorem pv_sec (d : Dk.Dev) (a : Nat) {j : Nat} (hj : j < 4) (h : ∀ i, i < 4 → (Dk.sv d (a + i)).length = 128) : sec (Dk.pv d a) j = Dk.sv d (a + j) := by
  obtain ⟨e0, e1, e2, e3⟩ := four_secs (h 0 (by omega)) (h 1 (by omega)) (h 2 (by omega)) (h 3 (by omega))
  have hcase : j = 0 ∨ j = 1 ∨ j = 2 ∨ j = 3 := by omega
  rcases hcase with rfl | rfl | rfl | rfl
  · exact e0
  · exact e1
  · exact e2
  · exact e3
theorem sec_pv_halves (d : Dk.Dev) (a : Nat) {j : Nat} (hj : j < 4) (h : ∀ i, i < 4 → (Dk.sv d (a + i)).length = 128) :
    half (Dk.pv d a) (2 * j) = (Dk.sv d (a + j)).take 64 ∧ half (Dk.pv d a) (2 * j + 1) = (Dk.sv d (a + j)).drop 64 := by
  have h1 := sec_halves (b := Dk.pv d a) j
  rw [pv_sec d a hj h] at h1
  exact ⟨h1.1.symm, h1.2.symm⟩
/-- What is picked of two sectors, half by half. -/
theorem pick_halves (p : Nat) {a b : List Nat} (ha : a.length = 128) (hb : b.length = 128) : ((Dk.pick p a b).take 64 = a.take 64 ∨ (Dk.pick p a b).take 64 = b.take 64) ∧ ((Dk.pick p a b).drop 64 = a.drop 64 ∨ (Dk.pick p a b).drop 64 = b.drop 64) := by
  have ha6 : (a.take 64).length = 64 := by simp; omega
  have hb6 : (b.take 64).length = 64 := by simp; omega
  unfold Dk.pick
  split
  · exact ⟨Or.inl rfl, Or.inl rfl⟩
  · split
    · exact ⟨Or.inr rfl, Or.inr rfl⟩
    · split
      · exact ⟨Or.inr (List.take_left' hb6), Or.inl (List.drop_left' hb6)⟩
      · exact ⟨Or.inl (List.take_left' ha6), Or.inr (List.drop_left' ha6)⟩
end Go.Proofs.Ytkmkbjjpbodbfaa.Pg

namespace Go.Proofs.Ytkmkbjjpbodbfaa.Dk
/-- A write of several sectors on a device that is on: some of the first are put, all of them if it stays on. -/
theorem wrs_on : ∀ (L : List (List Nat)) {d : Dev} {a n : Nat}, Own d → d.off = false → size d = n → d.most = n → (∀ s ∈ L, Sec s) → a + L.length ≤ n →
    Own (wrs d a L).1 ∧ (wrs d a L).2 = (if (wrs d a L).1.off then 6 else 0) ∧ size (wrs d a L).1 = n ∧ (wrs d a L).1.most = n ∧ (wrs d a L).1.lasts = d.lasts ∧
      ∃ r, r ≤ L.length ∧ ((wrs d a L).1.off = false → r = L.length) ∧ (0 < L.length → 0 < r) ∧ ∀ j, (wrs d a L).1.waits.getD j none = if a ≤ j ∧ j < a + r then some (L.getD (j - a) []) else d.waits.getD j none
  | [], d, a, n, ho, hf, hs, hm, _, _ => ⟨ho, by unfold wrs; rw [hf]; rfl, hs, hm, rfl, 0, Nat.le_refl _, fun _ => rfl, fun h => h, fun j => by rw [if_neg (by omega)]; rfl⟩
  | b :: r, d, a, n, ho, hf, hs, hm, hL, ha => by
    simp only [List.length_cons] at ha
    have hb := hL b (List.mem_cons_self ..)
    have hroom : used d < d.most ∨ d.seen.getD a false = true := by
      cases hx : d.seen.getD a false with
      | true => exact Or.inr rfl
      | false => have := used_lt ho.ok (i := a) (by omega) hx; exact Or.inl (by omega)
    have hw : write d (a : Int) b = (goes (put d a b), if (goes (put d a b)).off then 6 else 0) := by
      unfold write
      rw [if_neg (by rw [hf]; decide), if_neg (by unfold bad; have := hb.1; omega), Int.toNat_natCast, if_neg (by
        rintro ⟨h3, h4⟩
        rcases hroom with h | h
        · omega
        · rw [h] at h3; cases h3)]
    have hop : Own (goes (put d a b)) := own_goes (own_put ho (by omega) hb hroom)
    obtain ⟨g1, g2, g3, g4⟩ := goes_same (put d a b)
    have hwl : a < d.waits.length := by rw [ho.ok.w]; omega
    have hgw : ∀ j, (goes (put d a b)).waits.getD j none = if j = a then some b else d.waits.getD j none := fun j => by
      rw [g2]
      show (d.waits.set a (some b)).getD j none = _
      simp only [List.getD_eq_getElem?_getD]
      by_cases h : j = a
      · subst h; rw [if_pos rfl, List.getElem?_set_self hwl]; rfl
      · rw [if_neg h, List.getElem?_set_ne (Ne.symm h)]
    have hgs : size (goes (put d a b)) = n := by unfold size; rw [g1]; exact hs
    have hgm : (goes (put d a b)).most = n := by rw [g4]; exact hm
    have hgl : (goes (put d a b)).lasts = d.lasts := g1
    cases hoff : (goes (put d a b)).off with
    | true =>
      have e : wrs d a (b :: r) = (goes (put d a b), 6) := by
        unfold wrs
        rw [hw, hoff]
        rfl
      rw [e]
      refine ⟨hop, by rw [hoff]; rfl, hgs, hgm, hgl, 1, by simp, fun h => (by rw [hoff] at h; cases h), fun _ => by decide, fun j => ?_⟩
      rw [hgw j]
      by_cases h : j = a
      · subst h; rw [if_pos rfl, if_pos (by omega), Nat.sub_self]; rfl
      · rw [if_neg h, if_neg (by omega)]
    | false =>
      have e : wrs d a (b :: r) = wrs (goes (put d a b)) (a + 1) r := by
        conv => lhs; unfold wrs
        rw [hw, hoff]
        rfl
      rw [e]
      obtain ⟨i1, i2, i3, i4, i5, q, hq, i6, i7, i8⟩ := wrs_on r (a := a + 1) hop hoff hgs hgm (fun s hs' => hL s (List.mem_cons_of_mem _ hs')) (by omega)
      refine ⟨i1, i2, i3, i4, i5.trans hgl, q + 1, by simp only [List.length_cons]; omega, fun h => by rw [i6 h, List.length_cons], fun _ => by omega, fun j => ?_⟩
      rw [i8 j, hgw j]
      by_cases h1 : a + 1 ≤ j ∧ j < a + 1 + q
      · rw [if_pos h1, if_pos (by omega), show j - a = (j - (a + 1)) + 1 by omega]; rfl
      · rw [if_neg h1]
        by_cases h2 : j = a
        · subst h2; rw [if_pos rfl, if_pos (by omega), Nat.sub_self]; rfl
        · rw [if_neg h2, if_neg (by omega)]
end Go.Proofs.Ytkmkbjjpbodbfaa.Dk

namespace Go.Proofs.Ytkmkbjjpbodbfaa.Pg

/-- Which page a put is of, of eight; the bytes of the page that the put number i writes. -/
def slot (x : PutV) : Nat := (x.n % 8).toNat
def cf (i : Nat) : List Nat := form (i + 1) (bodyL ((i + 1 : Nat) : Int))
theorem slot_lt (x : PutV) : slot x < 8 := by unfold slot; omega
theorem cf_length (i : Nat) : (cf i).length = 512 := by unfold cf; rw [form_length, bodyL_length]
theorem cf_small (i : Nat) : ∀ x ∈ cf i, x < 256 := form_lt (bodyL_small _)
theorem cf_open {i : Nat} (h : i < 40) : openE (cf i) = 0 ∧ openN (cf i) = i + 1 ∧ openL (cf i) = bodyL ((i + 1 : Nat) : Int) :=
  ⟨openE_form (bodyL_small _) (bodyL_length _), openN_form (bodyL_small _) (bodyL_length _) (by omega), openL_form (bodyL_small _) (bodyL_length _)⟩
/-- A form's first half is none of noughts. -/
theorem cf_half {i : Nat} (h : i < 40) : half (cf i) 0 ≠ half (zeros 512) 0 := by
  intro e
  have e4 := congrArg (fun b => b.getD 4 0) e
  have h1 : (half (cf i) 0).getD 4 0 = (i + 1) % 256 := by
    unfold half cf form rest
    rw [Nat.mul_zero, List.drop_zero, List.getD_eq_getElem?_getD, List.getElem?_take, if_pos (by omega), List.getElem?_append_right (by rw [Cod.le_length]; omega), Cod.le_length]
    rfl
  have h2 : (half (zeros 512) 0).getD 4 0 = 0 := by decide
  simp only [h1, h2] at e4
  omega

/-- What is so of the device behind K puts: the bytes that last (LB), and those that are to last (NB). -/
structure CrInv (l : List PutV) (K : Nat) (d : Dk.Dev) (LB NB : Nat → List Nat) : Prop where
  own : Dk.Own d
  sz : Dk.size d = 32
  most : d.most = 32
  lasts : ∀ n, n < 8 → ∀ j, j < 4 → d.lasts.getD (4 * n + j) [] = sec (LB n) j
  lb : ∀ n, n < 8 → LB n = zeros 512 ∨ ∃ i, i < K ∧ slot (l.getD i default) = n ∧ LB n = cf i
  nb : ∀ n, n < 8 → NB n = zeros 512 ∨ ∃ i, i < K ∧ slot (l.getD i default) = n ∧ NB n = cf i
  wt : ∀ n, n < 8 → ∀ j, j < 4 → d.waits.getD (4 * n + j) none = none ∨ ∃ i, i < K ∧ slot (l.getD i default) = n ∧ d.waits.getD (4 * n + j) none = some (sec (cf i) j)
  st : ∀ n, n < 8 → (NB n = LB n ∧ ∀ j, j < 4 → d.waits.getD (4 * n + j) none = none) ∨ (openN (LB n) < openN (NB n) ∧ (d.off = false → ∀ j, j < 4 → d.waits.getD (4 * n + j) none = some (sec (NB n) j)))

theorem CrInv.low {l : List PutV} {K : Nat} {d : Dk.Dev} {LB NB : Nat → List Nat} (h : CrInv l K d LB NB) (hK : K ≤ 40) {n : Nat} (hn : n < 8) : openN (LB n) ≤ K := by
  rcases h.lb n hn with e | ⟨i, hi, -, e⟩
  · rw [e, openN_zeros]; omega
  · rw [e, (cf_open (by omega)).2.1]; omega
theorem sec_zeros {j : Nat} (hj : j < 4) : sec (zeros 512) j = Dk.blank := by
  have hc : j = 0 ∨ j = 1 ∨ j = 2 ∨ j = 3 := by omega
  rcases hc with rfl | rfl | rfl | rfl <;> decide
theorem crInv_first (l : List PutV) (a : Nat) (ha : a ≤ 1073741824) : CrInv l 0 { Dk.fresh 32 32 with armed := a } (fun _ => zeros 512) (fun _ => zeros 512) where
  own := by
    have h := Dk.own_fresh (n := 32) (most := 32) (by decide) (by decide) (Nat.le_refl _)
    exact ⟨⟨h.ok.w, h.ok.s, h.ok.l1, h.ok.w1⟩, ha, h.most, h.one, h.size, h.blank, h.wseen, h.used⟩
  sz := List.length_replicate
  most := rfl
  lasts := fun n hn j hj => by
    rw [sec_zeros hj]
    show (List.replicate 32 Dk.blank).getD (4 * n + j) [] = _
    rw [List.getD_eq_getElem?_getD, List.getElem?_replicate, if_pos (by omega)]; rfl
  lb := fun _ _ => Or.inl rfl
  nb := fun _ _ => Or.inl rfl
  wt := fun n hn j hj => Or.inl (Dk.getD_replicate _ _ _)
  st := fun n hn => Or.inl ⟨rfl, fun j hj => Dk.getD_replicate _ _ _⟩

/-- A put. -/
theorem CrInv.put {l : List PutV} {K : Nat} {d : Dk.Dev} {LB NB : Nat → List Nat} (h : CrInv l K d LB NB) (hK : K < 40) (hon : d.off = false) {m : Nat} (hm : m = slot (l.getD K default)) :
    (Pg.write d 0 m (K + 1) (bodyL ((K + 1 : Nat) : Int))).2 = (if (Pg.write d 0 m (K + 1) (bodyL ((K + 1 : Nat) : Int))).1.off then 6 else 0) ∧
      CrInv l (K + 1) (Pg.write d 0 m (K + 1) (bodyL ((K + 1 : Nat) : Int))).1 LB (fun n => if n = m then cf K else NB n) := by
  have hm8 : m < 8 := by rw [hm]; exact slot_lt _
  have hlie : lies (Dk.size d) 0 m = true := by
    rw [h.sz]
    refine lies_true ⟨by omega, by omega, by omega, ?_⟩
    rw [Int.tdiv_eq_ediv_of_nonneg (by omega)]
    omega
  have hpl : place 0 m = 4 * m := by unfold place; omega
  have e : Pg.write d 0 m (K + 1) (bodyL ((K + 1 : Nat) : Int)) = Dk.wrs d (4 * m) (Dk.secs (cf K)) := by
    unfold Pg.write
    rw [if_neg (by rw [bodyL_length]; simp), if_neg (by rw [hlie]; decide), hpl]
    rfl
  rw [e]
  obtain ⟨i1, i2, i3, i4, i5, r, hr, i6, i7, i8⟩ := Dk.wrs_on (Dk.secs (cf K)) (a := 4 * m) h.own hon h.sz h.most (Dk.secs_sec (cf_length K) (cf_small K)) (by rw [Dk.secs_length]; omega)
  generalize Dk.wrs d (4 * m) (Dk.secs (cf K)) = p at *
  rw [Dk.secs_length] at hr i6
  have hother : ∀ n, n < 8 → n ≠ m → ∀ j, j < 4 → p.1.waits.getD (4 * n + j) none = d.waits.getD (4 * n + j) none := fun n hn hne j hj => by
    rw [i8, if_neg (by omega)]
  have hthis : ∀ j, j < 4 → p.1.waits.getD (4 * m + j) none = if j < r then some (sec (cf K) j) else d.waits.getD (4 * m + j) none := fun j hj => by
    rw [i8]
    by_cases hjr : j < r
    · rw [if_pos (by omega), if_pos hjr, show 4 * m + j - 4 * m = j by omega, secs_getD hj]
    · rw [if_neg (by omega), if_neg hjr]
  refine ⟨i2, i1, i3, i4, fun n hn j hj => by rw [i5]; exact h.lasts n hn j hj, fun n hn => ?_, fun n hn => ?_, fun n hn j hj => ?_, fun n hn => ?_⟩
  · rcases h.lb n hn with h1 | ⟨i, hi, h2, h3⟩
    · exact Or.inl h1
    · exact Or.inr ⟨i, by omega, h2, h3⟩
  · by_cases hnm : n = m
    · subst hnm; exact Or.inr ⟨K, by omega, hm.symm, if_pos rfl⟩
    · rw [if_neg hnm]
      rcases h.nb n hn with h1 | ⟨i, hi, h2, h3⟩
      · exact Or.inl h1
      · exact Or.inr ⟨i, by omega, h2, h3⟩
  · by_cases hnm : n = m
    · subst hnm
      rw [hthis j hj]
      by_cases hjr : j < r
      · rw [if_pos hjr]; exact Or.inr ⟨K, by omega, hm.symm, rfl⟩
      · rw [if_neg hjr]
        rcases h.wt n hn j hj with h1 | ⟨i, hi, h2, h3⟩
        · exact Or.inl h1
        · exact Or.inr ⟨i, by omega, h2, h3⟩
    · rw [hother n hn hnm j hj]
      rcases h.wt n hn j hj with h1 | ⟨i, hi, h2, h3⟩
      · exact Or.inl h1
      · exact Or.inr ⟨i, by omega, h2, h3⟩
  · by_cases hnm : n = m
    · subst hnm
      refine Or.inr ⟨?_, fun hoff j hj => ?_⟩
      · rw [if_pos rfl, (cf_open hK).2.1]
        have := h.low (by omega) hn
        omega
      · rw [hthis j hj, if_pos (by have := i6 hoff; omega), if_pos rfl]
    · rw [if_neg hnm]
      rcases h.st n hn with ⟨h1, h2⟩ | ⟨h1, h2⟩
      · exact Or.inl ⟨h1, fun j hj => by rw [hother n hn hnm j hj]; exact h2 j hj⟩
      · exact Or.inr ⟨h1, fun hoff j hj => by rw [hother n hn hnm j hj]; exact h2 hon j hj⟩

/-- A sync. -/
theorem CrInv.sync {l : List PutV} {K : Nat} {d : Dk.Dev} {LB NB : Nat → List Nat} (h : CrInv l K d LB NB) (hon : d.off = false) :
    ((Dk.sync d).2 = 6 ∧ CrInv l K (Dk.sync d).1 LB NB) ∨ ((Dk.sync d).2 = 0 ∧ (Dk.sync d).1.off = false ∧ CrInv l K (Dk.sync d).1 NB NB) := by
  obtain ⟨g1, g2, g3, g4⟩ := Dk.goes_same d
  have hgo := Dk.own_goes h.own
  have hgs : Dk.size (Dk.goes d) = 32 := by unfold Dk.size; rw [g1]; exact h.sz
  unfold Dk.sync
  rw [if_neg (by rw [hon]; decide)]
  cases hoff : (Dk.goes d).off with
  | true =>
    refine Or.inl ⟨rfl, hgo, hgs, by show (Dk.goes d).most = 32; rw [g4]; exact h.most, fun n hn j hj => ?_, h.lb, h.nb, fun n hn j hj => ?_, fun n hn => ?_⟩
    · show (Dk.goes d).lasts.getD _ _ = _; rw [g1]; exact h.lasts n hn j hj
    · show (Dk.goes d).waits.getD _ _ = _ ∨ _; rw [show (if true = true then (Dk.goes d, 6) else (Dk.last (Dk.goes d), 0)).1 = Dk.goes d from rfl, g2]; exact h.wt n hn j hj
    · rw [show (if true = true then (Dk.goes d, 6) else (Dk.last (Dk.goes d), 0)).1 = Dk.goes d from rfl, g2]
      rcases h.st n hn with h1 | ⟨h1, h2⟩
      · exact Or.inl h1
      · exact Or.inr ⟨h1, fun _ => h2 hon⟩
  | false =>
    rw [show (if false = true then (Dk.goes d, 6) else (Dk.last (Dk.goes d), 0)) = (Dk.last (Dk.goes d), 0) from rfl]
    have hw : ∀ i, (Dk.last (Dk.goes d)).waits.getD i none = none := fun i => Dk.getD_replicate _ _ _
    refine Or.inr ⟨rfl, hoff, Dk.own_last hgo, by rw [Dk.last_size2 hgo.ok]; exact hgs, by show (Dk.goes d).most = 32; rw [g4]; exact h.most, fun n hn j hj => ?_, h.nb, h.nb, fun n hn j hj => Or.inl (hw _), fun n hn => Or.inl ⟨rfl, fun j hj => hw _⟩⟩
    rw [Dk.last_lasts hgo.ok (by rw [hgs]; omega), g1, g2]
    rcases h.st n hn with ⟨h1, h2⟩ | ⟨h1, h2⟩
    · rw [h2 j hj, h1]; exact h.lasts n hn j hj
    · rw [h2 hon j hj]; rfl
end Go.Proofs.Ytkmkbjjpbodbfaa.Pg

namespace Go.Proofs.Ytkmkbjjpbodbfaa.Pg

/-- Each half of a sector is noughts, or that of a page that was put there. -/
def Mixed (l : List PutV) (K n : Nat) (b : List Nat) : Prop := ∀ h, h < 8 → half b h = half (zeros 512) h ∨ ∃ i, i < K ∧ slot (l.getD i default) = n ∧ half b h = half (cf i) h

theorem whole_of_secs {a b : List Nat} (ha : a.length = 512) (hb : b.length = 512) (h : ∀ j, j < 4 → sec a j = sec b j) : a = b := by
  have e := fun (x : List Nat) (hx : x.length = 512) => Dk.secs_join hx
  have h0 := h 0 (by omega)
  have h1 := h 1 (by omega)
  have h2 := h 2 (by omega)
  have h3 := h 3 (by omega)
  unfold sec at h0 h1 h2 h3
  rw [Nat.mul_zero, List.drop_zero, List.drop_zero] at h0
  rw [← e a ha, ← e b hb, h0]
  rw [show 128 * 1 = 128 from rfl] at h1
  rw [show 128 * 2 = 256 from rfl] at h2
  rw [show 128 * 3 = 384 from rfl] at h3
  rw [h1, h2, h3]
theorem lb_len {l : List PutV} {K n : Nat} {b : List Nat} (h : b = zeros 512 ∨ ∃ i, i < K ∧ slot (l.getD i default) = n ∧ b = cf i) : b.length = 512 ∧ ∀ x ∈ b, x < 256 := by
  rcases h with e | ⟨i, -, -, e⟩
  · rw [e]; exact ⟨zeros_length _, zeros_lt _⟩
  · rw [e]; exact ⟨cf_length _, cf_small _⟩
theorem lb_open {l : List PutV} {K n : Nat} {b : List Nat} (hK : K ≤ 40) (h : b = zeros 512 ∨ ∃ i, i < K ∧ slot (l.getD i default) = n ∧ b = cf i) : openE b = 0 := by
  rcases h with e | ⟨i, hi, -, e⟩
  · rw [e]; exact openE_zeros
  · rw [e]; exact (cf_open (by omega)).1

/-- Behind a crash: a page is read as it lasts, or is mixed, or is damaged. -/
theorem CrInv.crash {l : List PutV} {K : Nat} {d : Dk.Dev} {LB NB : Nat → List Nat} (h : CrInv l K d LB NB) (hK : K ≤ 40) (ps : List Nat) {n : Nat} (hn : n < 8) :
    (openE (Dk.pv (Dk.crash d ps) (4 * n)) = 14 ∧ openN (LB n) ≠ openN (NB n)) ∨
      (openE (Dk.pv (Dk.crash d ps) (4 * n)) = 0 ∧ (Dk.pv (Dk.crash d ps) (4 * n) = LB n ∨
        (form (openN (Dk.pv (Dk.crash d ps) (4 * n))) (openL (Dk.pv (Dk.crash d ps) (4 * n))) = Dk.pv (Dk.crash d ps) (4 * n) ∧ Mixed l K n (Dk.pv (Dk.crash d ps) (4 * n))))) := by
  obtain ⟨ll, ls⟩ := lb_len (h.lb n hn)
  have hcase : ∀ j, j < 4 → Dk.sv (Dk.crash d ps) (4 * n + j) = sec (LB n) j ∨ ∃ i p, i < K ∧ slot (l.getD i default) = n ∧ Dk.sv (Dk.crash d ps) (4 * n + j) = Dk.pick p (sec (LB n) j) (sec (cf i) j) := fun j hj => by
    have hs : Dk.sv (Dk.crash d ps) (4 * n + j) = (Dk.crash d ps).lasts.getD (4 * n + j) [] := by
      unfold Dk.sv
      rw [show (Dk.crash d ps).waits.getD (4 * n + j) none = none from Dk.getD_replicate _ _ _]
      rfl
    rw [hs, Dk.crash_lasts h.own.ok ps (by rw [h.sz]; omega), h.lasts n hn j hj]
    rcases h.wt n hn j hj with e | ⟨i, hi, h1, h2⟩
    · rw [e]; exact Or.inl rfl
    · rw [h2]; exact Or.inr ⟨i, _, hi, h1, rfl⟩
  have hcalm : ∀ j, j < 4 → (Dk.sv (Dk.crash d ps) (4 * n + j)).length = 128 ∧ ∀ x ∈ Dk.sv (Dk.crash d ps) (4 * n + j), x < 256 := fun j hj => by
    have hs : Dk.Sec (sec (LB n) j) := ⟨sec_length ll hj, fun x hx => ls x (List.mem_of_mem_drop (List.mem_of_mem_take hx))⟩
    rcases hcase j hj with e | ⟨i, p, -, -, e⟩
    · rw [e]; exact hs
    · rw [e]; exact Dk.sec_pick hs ⟨sec_length (cf_length i) hj, fun x hx => cf_small i x (List.mem_of_mem_drop (List.mem_of_mem_take hx))⟩
  have hsec := fun j (hj : j < 4) => pv_sec (Dk.crash d ps) (4 * n) hj fun i hi => (hcalm i hi).1
  have hhalf := fun j (hj : j < 4) => sec_pv_halves (Dk.crash d ps) (4 * n) hj fun i hi => (hcalm i hi).1
  have hb : (Dk.pv (Dk.crash d ps) (4 * n)).length = 512 ∧ ∀ x ∈ Dk.pv (Dk.crash d ps) (4 * n), x < 256 := by
    have c0 := hcalm 0 (by omega)
    have c1 := hcalm 1 (by omega)
    have c2 := hcalm 2 (by omega)
    have c3 := hcalm 3 (by omega)
    unfold Dk.pv
    refine ⟨?_, fun x hx => ?_⟩
    · simp only [List.length_append]
      rw [c1.1, c2.1, c3.1, show (Dk.sv (Dk.crash d ps) (4 * n)).length = 128 from c0.1]
    · simp only [List.mem_append] at hx
      rcases hx with hx | hx | hx | hx
      · exact c0.2 x hx
      · exact c1.2 x hx
      · exact c2.2 x hx
      · exact c3.2 x hx
  -- each half is one that lasts, or of a page that was put
  have hmix : ∀ g, g < 8 → half (Dk.pv (Dk.crash d ps) (4 * n)) g = half (LB n) g ∨ ∃ i, i < K ∧ slot (l.getD i default) = n ∧ half (Dk.pv (Dk.crash d ps) (4 * n)) g = half (cf i) g := fun g hg => by
    obtain ⟨e1, e2⟩ := hhalf (g / 2) (by omega)
    obtain ⟨f1, f2⟩ := sec_halves (b := LB n) (g / 2)
    rcases hcase (g / 2) (by omega) with e | ⟨i, p, hi, hsl, e⟩
    · rw [e] at e1 e2
      refine Or.inl ?_
      rcases Nat.mod_two_eq_zero_or_one g with hm | hm
      · rw [show g = 2 * (g / 2) by omega, e1, f1]
      · rw [show g = 2 * (g / 2) + 1 by omega, e2, f2]
    · obtain ⟨k1, k2⟩ := sec_halves (b := cf i) (g / 2)
      obtain ⟨p1, p2⟩ := pick_halves p (sec_length ll (j := g / 2) (by omega)) (sec_length (cf_length i) (j := g / 2) (by omega))
      rw [e] at e1 e2
      rcases Nat.mod_two_eq_zero_or_one g with hm | hm
      · rw [show g = 2 * (g / 2) by omega, e1]
        rcases p1 with p1 | p1
        · exact Or.inl (by rw [p1, f1])
        · exact Or.inr ⟨i, hi, hsl, by rw [p1, k1]⟩
      · rw [show g = 2 * (g / 2) + 1 by omega, e2]
        rcases p2 with p2 | p2
        · exact Or.inl (by rw [p2, f2])
        · exact Or.inr ⟨i, hi, hsl, by rw [p2, k2]⟩
  have hst : NB n = LB n ∧ Dk.pv (Dk.crash d ps) (4 * n) = LB n ∨ openN (LB n) ≠ openN (NB n) := by
    rcases h.st n hn with ⟨h1, h2⟩ | ⟨h1, -⟩
    · refine Or.inl ⟨h1, whole_of_secs hb.1 ll fun j hj => ?_⟩
      rw [hsec j hj]
      unfold Dk.sv
      rw [show (Dk.crash d ps).waits.getD (4 * n + j) none = none from Dk.getD_replicate _ _ _, Option.getD_none, Dk.crash_lasts h.own.ok ps (by rw [h.sz]; omega), h2 j hj]
      exact h.lasts n hn j hj
    · exact Or.inr (by omega)
  generalize Dk.pv (Dk.crash d ps) (4 * n) = b at *
  by_cases he : openE b = 0
  · refine Or.inr ⟨he, ?_⟩
    by_cases hz : b = zeros 512
    · left
      have h0 := hmix 0 (by omega)
      rw [hz] at h0 ⊢
      rcases h.lb n hn with e | ⟨i, hi, -, e⟩
      · exact e.symm
      · exfalso
        rcases h0 with h0 | ⟨i', hi', -, h0⟩
        · rw [e] at h0; exact cf_half (i := i) (by omega) h0.symm
        · exact cf_half (i := i') (by omega) h0.symm
    · right
      refine ⟨form_open hb.2 he hz, fun g hg => ?_⟩
      rcases hmix g hg with e | e
      · rcases h.lb n hn with e' | ⟨i, hi, h1, e'⟩
        · left; rw [e, e']
        · right; exact ⟨i, hi, h1, by rw [e, e']⟩
      · exact Or.inr e
  · refine Or.inl ⟨?_, ?_⟩
    · unfold openE at he ⊢
      rw [if_neg (by rw [hb.1]; decide)] at he ⊢
      by_cases hz : b = zeros 512
      · rw [if_pos hz] at he; exact absurd rfl he
      · rw [if_neg hz] at he ⊢
        by_cases hs : Cod.num (b.take 4) ≠ Crc.more 0 (b.drop 4)
        · rw [if_pos hs]
        · rw [if_neg hs] at he; exact absurd rfl he
    · rcases hst with ⟨-, e⟩ | e
      · rw [e] at he; exact absurd (lb_open hK (h.lb n hn)) he
      · exact e
end Go.Proofs.Ytkmkbjjpbodbfaa.Pg

namespace Go.Proofs.Ytkmkbjjpbodbfaa
open Go.RowKit

/-- A half of a page's bytes, by a reslice. -/
theorem Bts.half {w : World} {g cap : Nat} {l : List Nat} (h : Bts w (.slice (some ⟨g, 0, none⟩) 512 cap) l) (hl : l.length = 512) (i : Nat) (hi : i < 8) : Bts w (.slice (some ⟨g, 64 * i, none⟩) 64 (cap - 64 * i)) (Pg.half l i) := by
  have h1 := h.congr_drop (64 * i) hl (by omega)
  rw [Nat.zero_add] at h1
  have hd : (l.drop (64 * i)).length = 512 - 64 * i := by simp; omega
  rw [← hd] at h1
  exact h1.take 64 (by rw [hd]; omega)
theorem slot_eq (a : Int) : (IntKind.u64.wrap a).tmod 8 = ((a % 8).toNat : Int) := by
  rw [show IntKind.u64.wrap a = a % 18446744073709551616 by simp [IntKind.wrap, IntKind.bits, IntKind.signed]]
  rw [Int.tmod_eq_emod_of_nonneg (by omega)]
  omega
theorem i64_small {q : Nat} (h : q < 65536) : IntKind.i64.wrap (q : Int) = q := by
  rw [IntWalk.i64_in (q : Int) (by omega)]
theorem u64_small {q : Int} (h0 : 0 ≤ q) (h : q < 65536) : IntKind.u64.wrap q = q := by
  rw [show IntKind.u64.wrap q = q % 18446744073709551616 by simp [IntKind.wrap, IntKind.bits, IntKind.signed]]
  omega
/-- What the inner loop still owes. -/
def Owes (l : List PutV) (K n : Nat) (b : List Nat) (h k : Nat) (o : Bool) : Prop := o = true ∨ ∃ i, k ≤ i ∧ i < K ∧ Pg.slot (l.getD i default) = n ∧ Pg.half b h = Pg.half (Pg.cf i) h

set_option maxHeartbeats 3200000 in
set_option maxRecDepth 20000 in
theorem mixed_any (k : Nat) (m : Value) (bm : List Nat) (n K : Nat) (v : Value) (l : List PutV) (w : World) (hB : Bts w m bm) (hl5 : bm.length = 500) (hL : PutsIn w v l) (hK : K ≤ 40 ∧ K ≤ l.length) (hM : Pg.Mixed l K n (Pg.form k bm)) :
    Calls Try.prog 24 #[PgV k m, .int .i64 (n : Int), v] w fun e w' => e = .returned (.bool true) ∧ Below w.heap.size w w' := by
  obtain ⟨W, hW⟩ : ∃ W, W = w.alloc (.cells #[.int .u64 (k : Int), m] 25) := ⟨_, rfl⟩
  have hb0 : Below w.heap.size w W := by rw [hW]; exact (Below.refl _ _).alloc (Nat.le_refl _) _
  have HB0 := Lib.hid hb0
  have hcr := refBytes_any k m bm W (hB.below hb0)
  rw [if_pos hl5, if_pos hl5] at hcr
  have HCR := Lib.hid hcr
  obtain ⟨pm, cm, rfl, -, -, -⟩ := hB.form
  rw [hl5] at HCR hW ⊢
  have hrow : W.heap[w.heap.size]? = some (.cells #[.int .u64 (k : Int), .slice pm 500 cm] 25 (0, 0)) := by rw [hW]; exact heap_alloc_last _ _
  have q0 := cell2_0 hrow
  have q1 := cell2_1 hrow
  obtain ⟨p, cap, rfl, -, -, hform⟩ := hL.form
  have HF := Lib.hid hform
  have HK := Lib.hid hK
  have HM := Lib.hid hM
  have hfl : (Pg.form k bm).length = 512 := by rw [Pg.form_length, hl5]
  have HFL := Lib.hid hfl
  clear hB hb0 hcr hrow hform hL hK hM
  go_enter Try.func24, Try.ntmps24
  go_upto_region 1 with (fail)
  rw [← hW]
  clear hW
  go_wp2_with fail
  refine HCR.out.mono ?_
  rintro e w1 ⟨u, rfl, hO, hb1⟩
  obtain ⟨g, c, hu, -, glt, hc1, hc2, -⟩ := own_some hO (by rw [hfl]; decide)
  rw [hfl] at hu hc1
  subst hu
  have HO := Lib.hid hO.bts
  have HB1 := Lib.hid (HB0.out.trans (hb1.mono HB0.out.size))
  generalize Pg.form k bm = b at *
  clear hO hb1 q0 q1 HCR hfl
  go_wp2_with fail
  go_loopw [9] (fun i wr => ∃ h : Nat, h ≤ 8 ∧ i = .int .i64 h ∧ Below w1.heap.size w1 wr) (fun i _ => 8 - (intOf i).toNat)
  case atStart => exact ⟨0, Nat.zero_le _, rfl, Below.refl _ _⟩
  case round =>
    obtain ⟨h, hh, rfl, hb⟩ := hrel
    have HB := Lib.hid hb
    clear hb
    by_cases hlt : h < 8
    · have HLT := Lib.hid hlt
      have hi : (h : Int) < 8 := by omega
      have hm1 := IntWalk.i64_in (64 * (h : Int)) (by omega)
      have hm2 := IntWalk.i64_in (64 * (h : Int) + 64) (by omega)
      have hx := (HO.out.below HB.out).half HFL.out h hlt
      have cv := strOf_conv hx
      obtain ⟨S, hS⟩ : ∃ S, S = strOfNums ((Pg.half b h).map fun x : Nat => (x : Int)) := ⟨_, rfl⟩
      rw [← hS] at cv
      have HS := Lib.hid hS
      have z1 : (0 : Int) ≤ 64 * (h : Int) := by omega
      have z2 : 64 * (h : Int) ≤ 64 * (h : Int) + 64 := by omega
      have z3 : 64 * (h : Int) + 64 ≤ (c : Int) := by omega
      have hmk : (Instr.makeSlice 23 (.int .i64 64) (.int .i64 64)).run Try.prog wr = .ok (.slice (some ⟨wr.heap.size, 0, none⟩) 64 64) _ := made_bytes 64 (by decide) wr
      have hmo := (made_own 64 (by decide) wr).bts
      obtain ⟨W2, hW2⟩ : ∃ W2, W2 = wr.alloc (.cells ((Pg.zeros 64).map bv).toArray 5) := ⟨_, rfl⟩
      rw [← hW2] at hmk hmo
      have cv2 := strOf_conv hmo
      obtain ⟨S0, hS0⟩ : ∃ S0, S0 = strOfNums ((Pg.zeros 64).map fun x : Nat => (x : Int)) := ⟨_, rfl⟩
      rw [← hS0] at cv2
      have hz64 : Pg.half (Pg.zeros 512) h = Pg.zeros 64 := by
        unfold Pg.half Pg.zeros
        rw [List.drop_replicate, List.take_replicate, show min 64 (512 - 64 * h) = 64 by omega]
      obtain ⟨o, hcmp, howes⟩ : ∃ o : Bool, (S.toList == S0.toList) = o ∧ Owes l K n b h 0 o := by
        by_cases he : Pg.half b h = Pg.half (Pg.zeros 512) h
        · exact ⟨true, by rw [hS, hS0, he, hz64]; simp, Or.inl rfl⟩
        · refine ⟨false, ?_, Or.inr ?_⟩
          · rw [hS, hS0]
            exact str_ne hx.small (Pg.zeros_lt _) (fun e => he (by rw [e, hz64]))
          · rcases HM.out h hlt with e | ⟨i, hi, h1, h2⟩
            · exact absurd e he
            · exact ⟨i, Nat.zero_le _, hi, h1, h2⟩
      have HOW := Lib.hid howes
      have hb2 : Below wr.heap.size wr W2 := by rw [hW2]; exact (Below.refl _ _).alloc (Nat.le_refl _) _
      have HB2 := Lib.hid (HB.out.trans (hb2.mono HB.out.size))
      clear hx hS hlt hmo hW2 hz64 howes hb2 hS0
      go_upto_region 9 with (fail)
      rw [show 64 * h + 64 - 64 * h = 64 by omega]
      clear cv cv2 hmk hcmp
      go_wp2_with fail
      go_loopw [11, 12] (fun okv i wq => ∃ (kk : Nat) (o : Bool), kk ≤ l.length ∧ kk ≤ 40 ∧ okv = .bool o ∧ i = .int .i64 kk ∧ Owes l K n b h kk o ∧ Below w1.heap.size w1 wq) (fun _ i _ => 40 - (intOf i).toNat)
      case atStart => exact ⟨0, o, Nat.zero_le _, by omega, rfl, rfl, HOW.out, HB2.out⟩
      case round =>
        obtain ⟨kk, o, hk1, hk2, rfl, rfl, how, hbq⟩ := hrel
        have HO2 := Lib.hid how
        have HBQ := Lib.hid hbq
        clear how hbq HOW
        by_cases hl1 : kk < l.length
        · by_cases hl2 : kk < 40
          · have hi1 : (kk : Int) < (l.length : Int) := by omega
            have hi2 : (kk : Int) < 40 := by omega
            have hi0 : (0 : Int) ≤ (kk : Int) := by omega
            obtain ⟨b', off, rfl, hput⟩ := HF.out (by omega)
            have hx := hput kk hl1
            have hcell := (HB1.out.trans (HBQ.out.mono HB1.out.size)).cell (p := ⟨b', off + kk * 4, none⟩) (block_lt_of_cell hx.c0)
            rw [hx.c0] at hcell
            generalize hxx : l.getD kk default = x at hcell
            have HXX := Lib.hid hxx
            clear hput hx hxx
            have hq1 := slot_eq x.n
            obtain ⟨q, hq⟩ : ∃ q, (x.n % 8).toNat = q := ⟨_, rfl⟩
            rw [hq] at hq1
            have hq2 : q < 8 := by omega
            have hq3 : IntKind.i64.wrap (q : Int) = q := i64_small (by omega)
            have HSL : Hid (Pg.slot (l.getD kk default) = q) := by show _ = _; rw [HXX.out]; exact hq
            by_cases hqn : q = n
            · have hqn' := hqn.symm
              subst hqn'
              have hk63 := IntWalk.i64_in ((kk : Int) + 1) (by omega)
              have hk64 := u64_small (q := (kk : Int) + 1) (by omega) (by omega)
              have hkc : (kk : Int) + 1 = ((kk + 1 : Nat) : Int) := by omega
              have HKC := Lib.hid hkc
              clear hq hkc hqn
              go_wp2_with fail
              refine (body_any ((kk : Int) + 1) _).mono ?_
              rintro e w3 ⟨g3, rfl, -, hO3, hb3⟩
              have HO3 := Lib.hid hO3
              have HB3 := Lib.hid (HBQ.out.trans (hb3.mono HBQ.out.size))
              clear hO3 hb3 hcell
              go_wp2_with fail
              have hcr := refBytes_any (kk + 1) _ _ w3 HO3.out.bts
              rw [if_pos (Pg.bodyL_length _), if_pos (Pg.bodyL_length _)] at hcr
              unfold PgV at hcr
              rw [← HKC.out] at hcr
              refine hcr.mono ?_
              rintro e w4 ⟨u4, rfl, hO4, hb4⟩
              have hcf : Pg.form (kk + 1) (Pg.bodyL ((kk : Int) + 1)) = Pg.cf kk := by unfold Pg.cf; rw [HKC.out]
              rw [hcf] at hO4
              obtain ⟨g4, c4, hu4, -, -, hc4, hc5, -⟩ := own_some hO4 (by rw [Pg.cf_length]; decide)
              rw [Pg.cf_length] at hu4 hc4
              subst hu4
              have HO4 := Lib.hid hO4.bts
              have HB4 := Lib.hid (HB3.out.trans (hb4.mono HB3.out.size))
              clear hcr hO4 hb4 hcf hq1 hq3 hk63 hk64
              cases o with
              | true =>
                go_wp2_with fail
                go_roundw
                case rel =>
                  exact ⟨kk + 1, true, by omega, by omega, rfl, by go_num, Or.inl rfl, HB4.out⟩
                case measure => simp [intOf]; omega
              | false =>
                have hx := HO4.out.half (Pg.cf_length kk) h HLT.out
                have cv := strOf_conv hx
                obtain ⟨S2, hS2⟩ : ∃ S2, S2 = strOfNums ((Pg.half (Pg.cf kk) h).map fun x : Nat => (x : Int)) := ⟨_, rfl⟩
                rw [← hS2] at cv
                have hsm : ∀ x ∈ Pg.half b h, x < 256 := fun x hx => HO.out.small x (List.mem_of_mem_drop (List.mem_of_mem_take hx))
                obtain ⟨o2, hcmp, how⟩ : ∃ o2 : Bool, (S.toList == S2.toList) = o2 ∧ Owes l K n b h (kk + 1) o2 := by
                  by_cases he : Pg.half b h = Pg.half (Pg.cf kk) h
                  · exact ⟨true, by rw [HS.out, hS2, he]; simp, Or.inl rfl⟩
                  · refine ⟨false, ?_, Or.inr ?_⟩
                    · rw [HS.out, hS2]; exact str_ne hsm hx.small he
                    · rcases HO2.out with h1 | ⟨i, h1, h2, h3, h4⟩
                      · cases h1
                      · refine ⟨i, ?_, h2, h3, h4⟩
                        rcases Nat.lt_or_ge kk i with h5 | h5
                        · exact h5
                        · obtain rfl : i = kk := by omega
                          exact absurd h4 he
                have HOW2 := Lib.hid how
                have z3' : 64 * (h : Int) + 64 ≤ (c4 : Int) := by omega
                clear hx hS2 hsm how
                go_wp2_with fail
                go_roundw
                case rel => exact ⟨kk + 1, o2, by omega, by omega, rfl, by go_num, HOW2.out, HB4.out⟩
                case measure => simp [intOf]; omega
            · have hqn' : ¬ (q : Int) = (n : Int) := by omega
              have hqb : ((q : Int) == (n : Int)) = false := by rw [beq_eq_false_iff_ne]; omega
              have HQN := Lib.hid hqn
              clear hq hqn
              go_wp2_with fail
              go_roundw
              case rel =>
                refine ⟨kk + 1, o, by omega, by omega, rfl, by go_num, ?_, HBQ.out⟩
                rcases HO2.out with h1 | ⟨i, h1, h2, h3, h4⟩
                · exact Or.inl h1
                · refine Or.inr ⟨i, ?_, h2, h3, h4⟩
                  rcases Nat.lt_or_ge kk i with h5 | h5
                  · exact h5
                  · obtain rfl : i = kk := by omega
                    rw [HSL.out] at h3
                    exact absurd h3 HQN.out
              case measure => simp [intOf]; omega
          · have hi1 : (kk : Int) < (l.length : Int) := by omega
            have hi2 : ¬ (kk : Int) < 40 := by omega
            obtain rfl : o = true := by
              rcases HO2.out with h1 | ⟨i, h1, h2, -⟩
              · exact h1
              · have := HK.out; omega
            go_wp2_with fail
            go_roundw
            case rel => exact ⟨h + 1, by have := HLT.out; omega, by go_num, HBQ.out⟩
            case measure => have := HLT.out; simp [intOf]; omega
        · have hi1 : ¬ (kk : Int) < (l.length : Int) := by omega
          obtain rfl : o = true := by
            rcases HO2.out with h1 | ⟨i, h1, h2, -⟩
            · exact h1
            · have := HK.out; omega
          go_wp2_with fail
          go_roundw
          case rel => exact ⟨h + 1, by have := HLT.out; omega, by go_num, HBQ.out⟩
          case measure => have := HLT.out; simp [intOf]; omega
    · obtain rfl : h = 8 := by omega
      go_wp2_with fail
      go_ret
      exact ⟨rfl, HB1.out.trans (HB.out.mono HB1.out.size)⟩
end Go.Proofs.Ytkmkbjjpbodbfaa
