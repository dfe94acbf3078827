/- Parts of a proof. Conditions: as each row says. -/
import Derived.Test.YtbpodmallknhfaaGreatAr24
import Derived.Test.YtbpodmallknhfaaGreatAr15
import Derived.Test.YtbpodmallknhfaaGreatAr18
namespace Go.Proofs.YtbpodmallknhfaaGreat
open Go.RowKit
def Po.cleaned (s : Po.S) (k : Nat) : Po.S := { s with disk := Po.upd s.disk k (s.now k), first := Po.upd s.first k none }
theorem Po.upd_same {α : Type} (f : Nat → α) (k : Nat) (x : α) (h : f k = x) : Po.upd f k x = f := by
  funext j
  unfold Po.upd
  split
  · next e => rw [e, h]
  · rfl
theorem Po.cleaned_same {s : Po.S} (hg : Po.Good s) {k : Nat} (h : s.first k = none) : Po.cleaned s k = s := by
  unfold Po.cleaned
  rw [Po.upd_same _ _ _ (hg.clean k h), Po.upd_same _ _ _ h]
theorem Po.good_cleaned {s : Po.S} (h : Po.Good s) (k : Nat) : Po.Good (Po.cleaned s k) := by
  refine ⟨h.sorted, h.few, h.inn, h.pinned, fun j hj => ?_, fun j hj => ?_, h.ok, fun j => ?_⟩
  · have hj : Po.upd s.first k none j ≠ none := hj
    unfold Po.upd at hj
    split at hj
    · exact absurd rfl hj
    · exact h.dirty j hj
  · show Po.upd s.disk k (s.now k) j = s.now j
    have hj : Po.upd s.first k none j = none := hj
    unfold Po.upd at hj ⊢
    split
    · next e => rw [e]
    · next e => rw [if_neg e] at hj; exact h.clean j hj
  · show Po.PgOk (Po.upd s.disk k (s.now k) j)
    unfold Po.upd
    split
    · exact h.ok k
    · exact h.okd j
theorem Po.rule_cleaned {lg lg' : Wl.S} {s : Po.S} (hg : Wl.Good lg) (h : Po.Rule lg s) (hl : Po.Lf lg lg') {k : Nat} (hk : (s.now k).1 < lg'.flushed) : Po.Rule lg' (Po.cleaned s k) := fun j => by
  have h1 := h j
  have h2 : lg.flushed ≤ lg'.flushed := by
    rcases hl with rfl | rfl
    · exact Nat.le_refl _
    · exact hg.high
  refine ⟨?_, by show (s.now j).1 < _; rw [hl.stop]; exact h1.2⟩
  show (Po.upd s.disk k (s.now k) j).1 < _
  unfold Po.upd
  split
  · exact hk
  · omega
theorem fa_same {F : List Fr} {i : Nat} (hi : i < F.length) (f : Fr) (h : fa F i = f) : F.set i f = F := by
  subst h
  unfold fa
  rw [List.getD_eq_getElem?_getD, List.getElem?_eq_getElem hi]
  exact List.set_getElem_self hi
section
variable {w w' : World} {B L P S b N hand mp : Nat} {F : List Fr} {H : List (Option Nat)} {s : Po.S}
theorem pmX_set (F : List Fr) {i : Nat} (hi : i < F.length) (f : Fr) (h : f.u = (fa F i).u) : PmX P mp (F.set i f) = PmX P mp F := by
  funext j
  refine propext (or_congr Iff.rfl (or_congr Iff.rfl ⟨?_, ?_⟩))
  · rintro ⟨k, hk⟩
    rw [fa_set F hi] at hk
    split at hk
    · next e => exact ⟨i, by rw [← h]; exact hk⟩
    · exact ⟨k, hk⟩
  · rintro ⟨k, hk⟩
    refine ⟨k, ?_⟩
    rw [fa_set F hi]
    split
    · next e => rw [h, ← e]; exact hk
    · exact hk
theorem page_inj (h : PmIs w B L P S b N hand mp F H s) {i j : Nat} (hi : i < s.held.length) (hj : j < s.held.length) (e : (fa F i).page = (fa F j).page) : i = j := by
  have h1 := h.onto i hi
  have h2 := h.onto j hj
  rw [e, h2] at h1
  exact (Option.some.inj h1).symm
theorem page_lt (h : PmIs w B L P S b N hand mp F H s) {i : Nat} (hi : i < s.held.length) : (fa F i).page < N := by
  have h1 := h.onto i hi
  rcases Nat.lt_or_ge (fa F i).page H.length with h2 | h2
  · rw [h.hlen] at h2; exact h2
  · rw [List.getD_eq_getElem?_getD, List.getElem?_eq_none h2] at h1; cases h1
theorem PmIs.clean (h : PmIs w B L P S b N hand mp F H s) {i : Nat} (hi : i < s.held.length) {T : Nat → Prop} (ht : Touch T w w') (hT : ∀ j, PmX P mp F j → j ≠ P → ¬ T j) (hrow : PmRow w' P B S b N L s.frames hand mp (F.set i { fa F i with dirty := false })) : PmIs w' B L P S b N hand mp (F.set i { fa F i with dirty := false }) H (Po.cleaned s (fa F i).page) := by
  have hi6 : i < F.length := by rw [h.row.len]; have := h.bounds; have := h.cnt; omega
  have hfa := fa_set F hi6 { fa F i with dirty := false }
  refine ⟨hrow, h.map.touch ht (hT mp (Or.inr (Or.inl rfl)) (Ne.symm h.ne)), h.hlen, h.ar, h.cnt, h.hand, h.held, fun k j hk => ?_, fun j hj => ?_, fun j hj => ?_, fun j hj => ?_, Po.good_cleaned h.good _, h.n16, h.ne, fun j g hg => ?_⟩
  · obtain ⟨h1, h2⟩ := h.into k j hk
    refine ⟨h1, ?_⟩
    rw [hfa]
    split
    · next e => rw [← h2, e]
    · exact h2
  · rw [hfa]
    split
    · next e => subst e; exact h.onto j hj
    · exact h.onto j hj
  · have h1 := (h.fr j hj).touch ht fun g hg hT' => hT g (Or.inr (Or.inr ⟨j, hg⟩)) (h.bod j g hg).1 hT'
    rw [hfa]
    split
    · next e =>
      subst e
      exact ⟨h1.lsn, h1.body, h1.pins, by show Po.upd s.first _ none _ = _; rw [Po.upd_self]; rfl, h1.fl⟩
    · next e =>
      refine ⟨h1.lsn, h1.body, h1.pins, ?_, h1.fl⟩
      show Po.upd s.first _ none _ = _
      rw [Po.upd_ne _ _ fun e2 => e (page_inj h hj hi e2)]
      exact h1.first
  · have hj : s.held.length ≤ j := hj
    rw [hfa, if_neg (by omega)]
    exact h.rest j hj
  · rw [hfa] at hg
    split at hg
    · next e => exact h.bod i g hg
    · exact h.bod j g hg
end
def PbA (U V : Nat → Prop) (B L P S b N hand mp : Nat) (F : List Fr) (H : List (Option Nat)) (n : Nat) (d : Dk.Dev) (lg : Wl.S) (s : Po.S) (i : Nat) (w : World) (e : Ending) (w' : World) : Prop :=
  (∃ U' V' d' lg', e = .returned (.int .i64 0) ∧ PmIn U' V' w' B L P S b N hand mp (F.set i { fa F i with dirty := false }) H n d' lg' (Po.cleaned s (fa F i).page) ∧ (Wl.Calm n d → Wl.Calm n d') ∧ Po.Lf lg lg' ∧ Touch (fun j => Both U V j ∨ j = P) w w' ∧ Grew U U' w ∧ Grew V V' w ∧ (s.first (fa F i).page = none → d' = d ∧ lg' = lg)) ∨
  (¬ Wl.Calm n d ∧ e = .returned (.int .i64 6) ∧ ∃ U' d' lg' c, WlPD U' w' B d' ∧ Wl.Near n d' ∧ Touch (fun j => Both U V j ∨ j = P) w w' ∧ Grew U U' w ∧ Po.Lf lg lg' ∧ (∀ k x, c k x → (x = s.disk k ∨ x = s.now k) ∧ x.1 < lg'.flushed) ∧ ∀ ps, Wl.Hd (Dk.crash d' ps) lg' ∧ Rg.HpN S b N (Dk.crash d' ps) c)
structure PbR (B m1 m2 P S b N L cnt hand mp : Nat) (F : List Fr) (u : Value) (x : Po.Pg) (d : Dk.Dev) (m : Nat) (W : World) (D : Nat → Bool) (xs : Nat → Value) (w : World) : Prop where
  row : PmRow w P B S b N L cnt hand mp F
  body : Bts w u x.2
  touch : Touch (DS B m1 m2) W w
  s0 : D 12 = false → PDev w B m1 m2 d
  s1 : D 12 = true → ∃ t : Nat, t < 256 ∧ t ∉ Rg.had (Rg.sp d S) 10 ∧ xs 12 = .int .i64 (((Rg.writeR d S (b + 4 * m) (Pg.form x.1 x.2) (Rg.laid (Pg.form x.1 x.2) (Rg.tag m t))).2 : Nat) : Int) ∧ PDev w B m1 m2 (Rg.writeR d S (b + 4 * m) (Pg.form x.1 x.2) (Rg.laid (Pg.form x.1 x.2) (Rg.tag m t))).1
  s2 : D 13 = true → xs 13 = xs 12
def PbF (B P S b N i m : Nat) (u : Value) (k : Nat) (j : Nat) (v : Value) (_ : World) : Prop :=
  match j with
  | 0 => v = .pointer (some ⟨P, 0, none⟩)
  | 1 => v = .pointer (some ⟨P, 0, none⟩)
  | 2 => v = .pointer (some ⟨P, 0, none⟩)
  | 3 => v = RgV B S b N
  | 4 => v = .pointer (some ⟨P, 5 + i * 7, none⟩)
  | 5 => v = .pointer (some ⟨P, 5 + i * 7, none⟩)
  | 6 => v = .pointer (some ⟨P, 5 + i * 7, none⟩)
  | 7 => v = .int .i64 (m : Int)
  | 8 => v = .pointer (some ⟨P, 5 + i * 7, none⟩)
  | 9 => v = .pointer (some ⟨P, 5 + i * 7, none⟩)
  | 10 => v = .pointer (some ⟨P, 5 + i * 7 + 1, none⟩)
  | 11 => v = PgV k u
  | _ => True
theorem pset_ne (xs : Nat → Value) {k j : Nat} (v : Value) (h : j ≠ k) : Ord.set xs k v j = xs j := if_neg h
theorem pwth_ne (D : Nat → Bool) {k j : Nat} (h : j ≠ k) : Ord.wth D k j = D j := if_neg h
section
variable {B m1 m2 P S b N L cnt hand mp : Nat} {F : List Fr} {u : Value} {x : Po.Pg} {d : Dk.Dev} {m : Nat} {W : World} {D : Nat → Bool} {xs : Nat → Value} {w : World}
theorem PbR.quiet (h : PbR B m1 m2 P S b N L cnt hand mp F u x d m W D xs w) (k : Nat) (v : Value) (h12 : 12 ≠ k) (h13 : 13 ≠ k) : PbR B m1 m2 P S b N L cnt hand mp F u x d m W (Ord.wth D k) (Ord.set xs k v) w :=
  ⟨h.row, h.body, h.touch, fun e => h.s0 (by rw [← pwth_ne D h12]; exact e), fun e => by rw [pset_ne xs v h12]; exact h.s1 (by rw [← pwth_ne D h12]; exact e), fun e => by rw [pset_ne xs v h12, pset_ne xs v h13]; exact h.s2 (by rw [← pwth_ne D h13]; exact e)⟩
theorem PbR.asg (h : PbR B m1 m2 P S b N L cnt hand mp F u x d m W D xs w) : PbR B m1 m2 P S b N L cnt hand mp F u x d m W (Ord.wth D 13) (Ord.set xs 13 (xs 12)) w :=
  ⟨h.row, h.body, h.touch, fun e => h.s0 (by rw [← pwth_ne D (k := 13) (by decide)]; exact e), fun e => by rw [pset_ne xs _ (k := 13) (by decide)]; exact h.s1 (by rw [← pwth_ne D (k := 13) (by decide)]; exact e), fun _ => (if_pos rfl : Ord.set xs 13 (xs 12) 13 = xs 12).trans (pset_ne xs (xs 12) (show 12 ≠ 13 by decide)).symm⟩
theorem PbR.call (h : PbR B m1 m2 P S b N L cnt hand mp F u x d m W D xs w) {l : List Oper} (hC : Ord.closed l D) (hD : D 12 = false) (h4 : Ord.waits l 13 12 = true) {w' : World} (hT : Touch (DS B m1 m2) w w') (hP : ¬ DS B m1 m2 P) (hU : ∀ g, u.ownBlock = some g → ¬ DS B m1 m2 g) {t : Nat} (ht : t < 256) (htn : t ∉ Rg.had (Rg.sp d S) 10)
    (hp : PDev w' B m1 m2 (Rg.writeR d S (b + 4 * m) (Pg.form x.1 x.2) (Rg.laid (Pg.form x.1 x.2) (Rg.tag m t))).1) :
    PbR B m1 m2 P S b N L cnt hand mp F u x d m W (Ord.wth D 12) (Ord.set xs 12 (.int .i64 (((Rg.writeR d S (b + 4 * m) (Pg.form x.1 x.2) (Rg.laid (Pg.form x.1 x.2) (Rg.tag m t))).2 : Nat) : Int))) w' := by
  have d13 : D 13 = false := by
    cases e : D 13 with
    | false => rfl
    | true => have := Ord.closed_at hC 13 12 h4 e; rw [hD] at this; cases this
  have e12 : Ord.wth D 12 12 = true := if_pos rfl
  refine ⟨h.row.touch hT hP, hT.bts h.body (fun _ => hU), h.touch.trans hT, (fun e => by rw [e12] at e; cases e), fun _ => ⟨t, ht, htn, if_pos rfl, hp⟩, fun e => ?_⟩
  rw [pwth_ne D (k := 12) (by decide), d13] at e
  cases e
end
theorem Touch.grow {T S : Nat → Prop} {w w1 w2 : World} (h : Touch T w w1) (k : Touch S w1 w2) (hs : ∀ i, S i → T i ∨ w.heap.size ≤ i) : Touch T w w2 :=
  (((h.mono (T := fun i => T i ∨ w.heap.size ≤ i) fun _ _ h => Or.inl h)).trans (k.mono fun i _ h => hs i h)).mono fun i hi h => h.resolve_right (by omega)
set_option maxHeartbeats 6400000 in
set_option maxRecDepth 20000 in
theorem pmWrite_tail {U V : Nat → Prop} {w : World} {B L P S b N hand mp n : Nat} {F : List Fr} {H : List (Option Nat)} {d : Dk.Dev} {lg : Wl.S} {s : Po.S} {i : Nat} (h : PmIn U V w B L P S b N hand mp F H n d lg s) (hi : i < s.held.length) (hfl : (s.now (fa F i).page).1 < lg.flushed) {m1 m2 t : Nat} (hU : U = DS B m1 m2) {w' : World} {r : Dk.Dev × Nat}
    (ht : t < 256) (htn : t ∉ Rg.had (Rg.sp d S) 10) (hr : r = Rg.writeR d S (b + 4 * (fa F i).page) (Pg.form (s.now (fa F i).page).1 (s.now (fa F i).page).2) (Rg.laid (Pg.form (s.now (fa F i).page).1 (s.now (fa F i).page).2) (Rg.tag (fa F i).page t)))
    (hP : PDev w' B m1 m2 r.1) (hT : Touch (DS B m1 m2) w w') :
    (r.2 = 0 → ∀ {w2}, PmRow w2 P B S b N L s.frames hand mp (F.set i { fa F i with dirty := false }) → Touch (· = P) w' w2 → PmIn U V w2 B L P S b N hand mp (F.set i { fa F i with dirty := false }) H n r.1 lg (Po.cleaned s (fa F i).page) ∧ (Wl.Calm n d → Wl.Calm n r.1)) ∧
    (r.2 ≠ 0 → r.2 = 6 ∧ ¬ Wl.Calm n d ∧ Wl.Near n r.1 ∧ ∃ c : Nat → Po.Pg → Prop, (∀ k x, c k x → (x = s.disk k ∨ x = s.now k) ∧ x.1 < lg.flushed) ∧ ∀ ps, Wl.Hd (Dk.crash r.1 ps) lg ∧ Rg.HpN S b N (Dk.crash r.1 ps) c) := by
  have hm := page_lt h.pm hi
  have hok := h.pm.good.ok (fa F i).page
  have h16 := h.pm.n16
  have hop := Rg.op_writeR h.near h.lies hm (fm := Pg.form (s.now (fa F i).page).1 (s.now (fa F i).page).2) (nb := Rg.laid (Pg.form (s.now (fa F i).page).1 (s.now (fa F i).page).2) (Rg.tag (fa F i).page t)) (by rw [Pg.form_length, hok.2.1]) (Pg.form_lt hok.2.2) (Rg.laid_length (Rg.tag_length _ t) (by rw [Pg.form_length, hok.2.1])) (Rg.laid_lt (Rg.tag_lt ht) (Pg.form_lt hok.2.2))
  have hsf := Rg.write_safe (y := s.now (fa F i).page) h.near h.lies h.hw h.pm.good.okd hok hm (by omega) ht htn
  rw [← hr] at hop
  have e : Po.S.disk (Po.cleaned s (fa F i).page) = Po.upd s.disk (fa F i).page (s.now (fa F i).page) := rfl
  rw [← hr] at hsf
  obtain ⟨m1', m2', pl, wa, hlm, hV, hPD, hUU, haw, said, hsd, hdv⟩ := h.log
  have hdv2 := hop.ro.dv h.near hdv h.away
  refine ⟨fun h0 w2 hrow hTP => ⟨?_, fun hc => (hop.calm hc).2⟩, fun h0 => ⟨?_, fun hc => h0 (hop.calm hc).1, hop.ro.near h.near, fun k x => x = s.disk k ∨ (k = (fa F i).page ∧ x = s.now (fa F i).page), fun k x hx => ?_, fun ps => ⟨?_, hsf.2 h0 ps⟩⟩⟩
  · have hTT : Touch (fun j => DS B m1 m2 j ∨ j = P) w w2 := (hT.mono fun _ _ h => Or.inl h).trans (hTP.mono fun _ _ h => Or.inr h)
    have hPU : ∀ j, Both U V j → j ≠ P := fun j hj e => h.off j hj (e ▸ Or.inl rfl)
    refine ⟨⟨m1, m2, pl, wa, hlm.keep hTT fun j hj => ?_, hV, hP.keep hTP fun j hj => hPU j (Or.inl (by rw [hU]; exact hj)), hU, fun j hj => haw j hj, said, hsd, hdv2⟩, h.pm.clean hi hTT (fun j hj hjP hTj => ?_) hrow, h.lies, ?_, ?_, Po.rule_cleaned hlm.ex.good h.rule (Or.inl rfl) hfl, h.away, hop.ro.near h.near, h.n16⟩
    · rintro (h1 | h1)
      · exact haw j (by rw [hU]; exact h1) (by rw [hV]; exact hj)
      · exact hPU j (Or.inr (by rw [hV]; exact hj)) h1
    · rcases hTj with h1 | h1
      · exact h.off j (Or.inl (by rw [hU]; exact h1)) hj
      · exact hjP h1
    · rw [e]; exact hsf.1 h0
    · have hi6 : i < F.length := by rw [h.pm.row.len]; have := h.pm.bounds; have := h.pm.cnt; omega
      rw [pmX_set F hi6 { fa F i with dirty := false } rfl]
      exact h.off
  · rcases hop.err with h1 | h1
    · exact absurd h1 h0
    · exact h1
  · rcases hx with rfl | ⟨rfl, rfl⟩
    · exact ⟨Or.inl rfl, (h.rule k).1⟩
    · exact ⟨Or.inr rfl, hfl⟩
  · exact Wl.Hd.crash ⟨hlm.ex, said, hsd, hdv2⟩ ps
set_option maxHeartbeats 6400000 in
set_option maxRecDepth 20000 in
theorem pmPut_any {U V : Nat → Prop} {w : World} {B L P S b N hand mp n : Nat} {F : List Fr} {H : List (Option Nat)} {d : Dk.Dev} {lg : Wl.S} {s : Po.S} {i : Nat} (h : PmIn U V w B L P S b N hand mp F H n d lg s) (hi : i < s.held.length) (hs : lg.stop ≤ 1000000000000) :
    Calls Tryz.prog 52 #[.pointer (some ⟨P, 0, none⟩), .pointer (some ⟨P, 5 + i * 7, none⟩)] w fun e w' => PbA U V B L P S b N hand mp F H n d lg s i w e w' := by
  have hb := h.pm.bounds
  have hc := h.pm.cnt
  have hi6 : i < 64 := by omega
  have hiF : i < F.length := by rw [h.pm.row.len]; exact hi6
  have hfr := h.pm.fr i hi
  have g3 := h.pm.row.fr hi6 4 (by decide) (v := .bool (fa F i).dirty) rfl
  have HI : Hid (i < s.held.length ∧ i < 64) := ⟨hi, hi6⟩
  have HH := Lib.hid h
  have HS := Lib.hid hs
  cases hd : (fa F i).dirty with
  | false =>
    have hfi : s.first (fa F i).page = none := by rw [hfr.first, hd]; rfl
    have HE : Hid (F.set i { fa F i with dirty := false } = F) := fa_same hiF _ (by rw [← hd])
    have HC : Hid (Po.cleaned s (fa F i).page = s) := Po.cleaned_same h.pm.good hfi
    rw [hd] at g3
    clear h hi hs hb hc hi6 hiF hfr hd hfi
    go_enter Tryz.func52, Tryz.ntmps52
    go_wp2_with fail
    go_ret
    exact Or.inl ⟨U, V, d, lg, rfl, by rw [HE.out, HC.out]; exact HH.out, id, Or.inl rfl, Touch.refl _ _, fun _ h => Or.inl h, fun _ h => Or.inl h, fun _ => ⟨rfl, rfl⟩⟩
  | true =>
    have HFI : Hid (s.first (fa F i).page ≠ none) := by show _ ≠ _; rw [hfr.first, hd]; exact fun c => by cases c
    rw [hd] at g3
    have g1 := h.pm.row.fr hi6 1 (by decide) (v := .int .u64 ((fa F i).lsn : Int)) rfl
    have c4 := h.pm.row.c4
    obtain ⟨m1, m2, pl, wa, hlm, hV, hPD, hUU, haw, said, hsd, hdv⟩ := h.log
    have hfl : ∀ q, Calls Tryz.prog 77 #[.pointer (some ⟨L, 0, none⟩)] (w.drewN q) fun e w' => e = .returned (.int .u64 (lg.flushed : Int)) ∧ (w.drewN q) = w' := fun q => wlFlushed_any (hlm.log.touch ((Touch.refl (fun _ => False) w).drewN q) id)
    have hfl0 : Calls Tryz.prog 77 #[.pointer (some ⟨L, 0, none⟩)] w fun e w' => e = .returned (.int .u64 (lg.flushed : Int)) ∧ w = w' := wlFlushed_any hlm.log
    have HFL := Lib.hid hfl
    have HFL0 := Lib.hid hfl0
    have HU := Lib.hid hUU
    clear h hi hs hb hc hi6 hiF hd hfl hfl0 hlm hV hPD hUU haw hsd hdv
    by_cases hq : lg.flushed ≤ (fa F i).lsn
    case pos =>
      have hq2 : (lg.flushed : Int) ≤ ((fa F i).lsn : Int) := by omega
      clear hq
      go_enter Tryz.func52, Tryz.ntmps52
      go_upto_region 3 with (fail)
      go_quiet ((go_at_call 77; refine Calls.quiet_of_same ((HFL.out _).mono fun e w' h => ⟨h.1, h.2.symm⟩)))
      have HQ : Hid (PmIn U V (w.drewN nq) B L P S b N hand mp F H n d lg s) := HH.out.keep ((Touch.refl (fun _ => False) w).drewN nq) (fun _ _ h => h) fun _ _ h => h
      have HTQ : Hid (Touch (fun j => Both U V j ∨ j = P) w (w.drewN nq)) := (Touch.refl _ w).drewN nq
      have HSZQ : Hid (w.heap.size = (w.drewN nq).heap.size) := rfl
      clear HFL HFL0 g3 g1 c4 hq2
      generalize w.drewN nq = wq at *
      have HFS := Lib.hid (wl_flush_oth HQ.out.log HQ.out.near HS.out)
      have c4 := HQ.out.pm.row.c4
      go_wp2_with fail
      refine HFS.out.mono ?_
      rintro e w1 (⟨U1, V1, d1, rfl, hlog, hoth, hnear, hcalm, ht, hgu, hgv⟩ | ⟨hnc, k, U1, d1, rfl, rfl, hpd, hoth, hnear, hhd, ht, hgu⟩)
      case inr =>
        have HNC := Lib.hid hnc
        have HE : Hid (_ ∧ _ ∧ _ ∧ _ ∧ _ ∧ _) := ⟨hpd, hoth, hnear, hhd, HTQ.out.trans (ht.mono fun _ _ h => Or.inl h), (fun j hj => by rw [HSZQ.out]; exact hgu j hj : Grew U U1 w)⟩
        clear hnc hpd hoth hnear hhd ht hgu HFS c4
        go_wp2_with fail
        go_ret
        obtain ⟨hpd, hoth, hnear, hhd, ht, hgu⟩ := HE.out
        refine Or.inr ⟨HNC.out, rfl, U1, d1, lg, fun k x => x = s.disk k, hpd, hnear, ht, hgu, Or.inl rfl, fun k x hx => ⟨Or.inl hx, ?_⟩, fun ps => ⟨hhd ps, (HwN_oth HH.out.hw hoth HH.out.away).crash hnear HH.out.lies ps⟩⟩
        rw [hx]; exact (HH.out.rule k).1
      have hrl := HQ.out.rule
      have hgd : Wl.Good lg := by obtain ⟨_, _, _, _, hlm, -⟩ := HQ.out.log; exact hlm.ex.good
      have HIN : Hid (PmIn U1 V1 w1 B L P S b N hand mp F H n d1 (Wl.flush lg) s) := ⟨hlog, HQ.out.pm.keep ht (fun j hj hb => HQ.out.off j hb hj), HQ.out.lies, HwN_oth HQ.out.hw hoth HQ.out.away, fun j hj hX => by
        have hlt := HQ.out.pm.lt j hX
        rcases hj with hj | hj
        · rcases hgu j hj with h1 | h1
          · exact HQ.out.off j (Or.inl h1) hX
          · omega
        · rcases hgv j hj with h1 | h1
          · exact HQ.out.off j (Or.inr h1) hX
          · omega, fun k => ⟨Nat.lt_of_lt_of_le (hrl k).1 hgd.high, (hrl k).2⟩, HQ.out.away, hnear, HQ.out.n16⟩
      have HLT : Hid ((s.now (fa F i).page).1 < (Wl.flush lg).flushed) := (hrl _).2
      have HCC : Hid (Wl.Calm n d → Wl.Calm n d1) := hcalm
      have HLF : Hid (Po.Lf lg (Wl.flush lg)) := Or.inr rfl
      have HTW : Hid (Touch (fun j => Both U V j ∨ j = P) w w1) := HTQ.out.trans (ht.mono fun _ _ h => Or.inl h)
      have HGU : Hid (Grew U U1 w) := fun j hj => by rw [HSZQ.out]; exact hgu j hj
      have HGV : Hid (Grew V V1 w) := fun j hj => by rw [HSZQ.out]; exact hgv j hj
      clear hlog hoth hnear hcalm ht hgu hgv hrl hgd HFS c4 HQ HTQ HSZQ HU
      go_wp2_with fail
      obtain ⟨m1, m2, pl, wa, hlm, hV, hPD, hUU, -⟩ := HIN.out.log
      have hpl := page_lt HIN.out.pm HI.out.1
      obtain ⟨m, hm⟩ : ∃ m, m = (fa F i).page := ⟨_, rfl⟩
      obtain ⟨x, hx⟩ : ∃ x, x = s.now (fa F i).page := ⟨_, rfl⟩
      obtain ⟨u, hu⟩ : ∃ u, u = (fa F i).u := ⟨_, rfl⟩
      have hfi := HIN.out.pm.fr i HI.out.1
      have HXL : Hid (x.1 = (fa F i).lsn) := by show _ = _; rw [hx, hfi.lsn]
      have hbd : ∀ g, u.ownBlock = some g → ¬ DS B m1 m2 g := fun g hg hd => HIN.out.off g (Or.inl (by rw [hUU]; exact hd)) (Or.inr (Or.inr ⟨i, by rw [← hu]; exact hg⟩))
      have hbx : Bts w1 u x.2 := by rw [hu, hx]; exact hfi.body
      have HBX := Lib.hid hbx
      have hok : Po.PgOk x := by rw [hx]; exact HIN.out.pm.good.ok _
      have hwr : ∀ w2, PDev w2 B m1 m2 d1 → Bts w2 u x.2 → Calls Tryz.prog 79 #[RgV B S b N, .int .i64 (m : Int), PgV x.1 u] w2 fun e w' => RwA B m1 m2 d1 S b m (Pg.form x.1 x.2) w2 e w' := fun w2 hp hb => write_rg hp HIN.out.near HIN.out.hw HIN.out.lies (by rw [hm]; exact hpl) HIN.out.n16 x u hok hb hbd
      have HWR := Lib.hid hwr
      have HBD := Lib.hid hbd
      have HM := Lib.hid hm
      have HX := Lib.hid hx
      have HUV := Lib.hid hu
      have HUU := Lib.hid hUU
      have HPD := Lib.hid hPD
      have HPN : Hid (¬ DS B m1 m2 P) := fun hd => HIN.out.off P (Or.inl (by rw [hUU]; exact hd)) (Or.inl rfl)
      have HRW : Hid (PmRow w1 P B S b N L s.frames hand mp F) := HIN.out.pm.row
      clear hlm hV hPD hUU hpl hm hx hu hfi hbd hbx hok hwr
      go_upto_region 7 with (fail)
      refine Ord.walk (PbF B P S b N i m u x.1) (fun D xs w' => PbR B m1 m2 P S b N L s.frames hand mp F u x d1 m w1 D xs w') (Touch (DS B m1 m2)) (by kernel_rfl) (by kernel_rfl) ?frU1 ?hfrU1 ?hTU1 (fun xs => ⟨HRW.out.below (Below.refl _ _).go1, HBX.out.below (Below.refl _ _).go1, (Touch.refl _ _).drew, fun _ => HPD.out.below (Below.refl _ _).go1, (fun e => by cases e), fun e => by cases e⟩) ?heU1 ?hendU1
      case hfrU1 =>
        intro xs
        simp only [Ord.fill, Act.put, List.setIfInBounds_toArray, List.set_cons_zero, List.set_cons_succ]
        rfl
      case hTU1 =>
        intro k v wa wb ht hF
        exact hF
      case heU1 =>
        refine Ord.each_cons (fun D xs w2 hD hC hP hR hA K' hK => ?_) ?_
        ·
          clear hA
          go_simp
          exact hK _ _ ⟨_, rfl, Touch.refl _ _, hR.quiet 0 _ (by decide) (by decide), rfl⟩
        refine Ord.each_cons (fun D xs w2 hD hC hP hR hA K' hK => ?_) ?_
        ·
          have q0 := Ord.ahead_get _ hA 0 (by decide)
          simp only [PbF] at q0
          simp only [q0] at hK ⊢
          clear hA
          go_simp
          exact hK _ _ ⟨_, rfl, Touch.refl _ _, hR.quiet 1 _ (by decide) (by decide), rfl⟩
        refine Ord.each_cons (fun D xs w2 hD hC hP hR hA K' hK => ?_) ?_
        ·
          have q1 := Ord.ahead_get _ hA 1 (by decide)
          simp only [PbF] at q1
          simp only [q1] at hK ⊢
          clear hA
          go_simp
          exact hK _ _ ⟨_, rfl, Touch.refl _ _, hR.quiet 2 _ (by decide) (by decide), rfl⟩
        refine Ord.each_cons (fun D xs w2 hD hC hP hR hA K' hK => ?_) ?_
        ·
          have q2 := Ord.ahead_get _ hA 2 (by decide)
          simp only [PbF] at q2
          simp only [q2] at hK ⊢
          clear hA
          have k0 := hR.row.c0
          have k1 := hR.row.c1
          have k2 := hR.row.c2
          have k3 := hR.row.c3
          go_simp
          exact hK _ _ ⟨_, rfl, Touch.refl _ _, hR.quiet 3 _ (by decide) (by decide), rfl⟩
        refine Ord.each_cons (fun D xs w2 hD hC hP hR hA K' hK => ?_) ?_
        ·
          clear hA
          go_simp
          exact hK _ _ ⟨_, rfl, Touch.refl _ _, hR.quiet 4 _ (by decide) (by decide), rfl⟩
        refine Ord.each_cons (fun D xs w2 hD hC hP hR hA K' hK => ?_) ?_
        ·
          have q4 := Ord.ahead_get _ hA 4 (by decide)
          simp only [PbF] at q4
          simp only [q4] at hK ⊢
          clear hA
          go_simp
          exact hK _ _ ⟨_, rfl, Touch.refl _ _, hR.quiet 5 _ (by decide) (by decide), rfl⟩
        refine Ord.each_cons (fun D xs w2 hD hC hP hR hA K' hK => ?_) ?_
        ·
          have q5 := Ord.ahead_get _ hA 5 (by decide)
          simp only [PbF] at q5
          simp only [q5] at hK ⊢
          clear hA
          go_simp
          exact hK _ _ ⟨_, rfl, Touch.refl _ _, hR.quiet 6 _ (by decide) (by decide), rfl⟩
        refine Ord.each_cons (fun D xs w2 hD hC hP hR hA K' hK => ?_) ?_
        ·
          have q6 := Ord.ahead_get _ hA 6 (by decide)
          simp only [PbF] at q6
          simp only [q6] at hK ⊢
          clear hA
          have k0 := hR.row.fr HI.out.2 0 (by decide) (v := .int .i64 (m : Int)) (by rw [HM.out]; rfl)
          rw [Nat.add_zero] at k0
          go_simp
          exact hK _ _ ⟨_, rfl, Touch.refl _ _, hR.quiet 7 _ (by decide) (by decide), rfl⟩
        refine Ord.each_cons (fun D xs w2 hD hC hP hR hA K' hK => ?_) ?_
        ·
          clear hA
          go_simp
          exact hK _ _ ⟨_, rfl, Touch.refl _ _, hR.quiet 8 _ (by decide) (by decide), rfl⟩
        refine Ord.each_cons (fun D xs w2 hD hC hP hR hA K' hK => ?_) ?_
        ·
          have q8 := Ord.ahead_get _ hA 8 (by decide)
          simp only [PbF] at q8
          simp only [q8] at hK ⊢
          clear hA
          go_simp
          exact hK _ _ ⟨_, rfl, Touch.refl _ _, hR.quiet 9 _ (by decide) (by decide), rfl⟩
        refine Ord.each_cons (fun D xs w2 hD hC hP hR hA K' hK => ?_) ?_
        ·
          have q9 := Ord.ahead_get _ hA 9 (by decide)
          simp only [PbF] at q9
          simp only [q9] at hK ⊢
          clear hA
          go_simp
          exact hK _ _ ⟨_, rfl, Touch.refl _ _, hR.quiet 10 _ (by decide) (by decide), rfl⟩
        refine Ord.each_cons (fun D xs w2 hD hC hP hR hA K' hK => ?_) ?_
        ·
          have q10 := Ord.ahead_get _ hA 10 (by decide)
          simp only [PbF] at q10
          simp only [q10] at hK ⊢
          clear hA
          have k1 := hR.row.fr HI.out.2 1 (by decide) (v := .int .u64 (x.1 : Int)) (by rw [HXL.out]; rfl)
          have k2 := hR.row.fr HI.out.2 2 (by decide) (v := u) (by rw [HUV.out]; rfl)
          go_simp
          exact hK _ _ ⟨_, rfl, Touch.refl _ _, hR.quiet 11 _ (by decide) (by decide), rfl⟩
        refine Ord.each_cons (fun D xs w2 hD hC hP hR hA K' hK => ?_) ?_
        ·
          have q3 := Ord.ahead_get _ hA 3 (by decide)
          simp only [PbF] at q3
          have q7 := Ord.ahead_get _ hA 7 (by decide)
          simp only [PbF] at q7
          have q11 := Ord.ahead_get _ hA 11 (by decide)
          simp only [PbF] at q11
          simp only [q3, q7, q11] at hK ⊢
          clear hA
          have hwr := HWR.out w2 (hR.s0 hD) hR.body
          go_simp
          refine hwr.mono ?_
          rintro e w3 ⟨t, ht, htn, rfl, hp', ht'⟩
          exact hK _ _ ⟨_, rfl, ht', hR.call hC hD (by decide) ht' HPN.out HBD.out ht htn hp', trivial⟩
        refine Ord.each_cons (fun D xs w2 hD hC hP hR hA K' hK => ?_) ?_
        ·
          clear hA
          go_simp
          exact hK _ _ ⟨_, rfl, Touch.refl _ _, hR.asg, trivial⟩
        exact Ord.each_nil
      case hendU1 =>
        intro D xs w9 hR hF
        obtain ⟨t, ht, htn, e12, hp9⟩ := hR.s1 (hF 12 (by decide)).1
        have e13 := (hR.s2 (hF 13 (by decide)).1).trans e12
        obtain ⟨r, hr⟩ : ∃ r, r = Rg.writeR d1 S (b + 4 * m) (Pg.form x.1 x.2) (Rg.laid (Pg.form x.1 x.2) (Rg.tag m t)) := ⟨_, rfl⟩
        rw [← hr] at e12 e13 hp9
        rw [e12, e13]
        have htl := pmWrite_tail HIN.out HI.out.1 HLT.out HUU.out ht htn (r := r) (by rw [← HX.out, ← HM.out]; exact hr) hp9 hR.touch
        have HTL := Lib.hid htl
        have HP9 := Lib.hid hp9
        have HRW9 := Lib.hid hR.row
        have HT9 := Lib.hid hR.touch
        generalize xs 0 = y0
        generalize xs 1 = y1
        generalize xs 2 = y2
        generalize xs 3 = y3
        generalize xs 4 = y4
        generalize xs 5 = y5
        generalize xs 6 = y6
        generalize xs 7 = y7
        generalize xs 8 = y8
        generalize xs 9 = y9
        generalize xs 10 = y10
        generalize xs 11 = y11
        clear hF hR e12 e13 ht htn hr htl hp9 HWR
        obtain ⟨r1, r2⟩ := r
        dsimp only at HTL HP9 ⊢
        have HTW9 : Hid (Touch (fun j => Both U V j ∨ j = P) w w9) := HTW.out.grow HT9.out fun j hj => by
          rcases HGU.out j (by rw [HUU.out]; exact hj) with h1 | h1
          · exact Or.inl (Or.inl (Or.inl h1))
          · exact Or.inr h1
        by_cases he : r2 = 0
        case neg =>
          have h1 : ¬ (r2 : Int) = 0 := by omega
          have h2 : ((r2 : Int) != 0) = true := by simp; omega
          have HE := Lib.hid (HTL.out.2 he)
          clear he
          go_wp2_with fail
          go_ret
          obtain ⟨e6, hnc, hnear, c, hc1, hc2⟩ := HE.out
          refine Or.inr ⟨fun hc => hnc (HCC.out hc), by rw [e6]; rfl, DS B m1 m2, r1, (Wl.flush lg), c, ⟨m1, m2, HP9.out, rfl⟩, hnear, HTW9.out, fun j hj => HGU.out j (by rw [HUU.out]; exact hj), HLF.out, hc1, hc2⟩
        subst he
        have f4 := HRW9.out.free (5 + i * 7 + 4)
        have k4 := HRW9.out.fr HI.out.2 4 (by decide) (v := .bool (fa F i).dirty) rfl
        have hrow2 := HRW9.out.set HI.out.2 4 (by decide) (.bool false) { fa F i with dirty := false } rfl
        have HRW2 := Lib.hid hrow2
        clear hrow2
        go_wp2_with fail
        go_ret
        obtain ⟨h1, h2⟩ := HTL.out.1 trivial HRW2.out (Touch.set P _ _ rfl)
        exact Or.inl ⟨U1, V1, r1, (Wl.flush lg), rfl, h1, fun hc => h2 (HCC.out hc), HLF.out, HTW9.out.trans (Touch.set P _ _ (Or.inr rfl)), HGU.out, HGV.out, fun h => absurd h HFI.out⟩
    case neg =>
      have hq2 : ¬ (lg.flushed : Int) ≤ ((fa F i).lsn : Int) := by omega
      have HLT : Hid ((s.now (fa F i).page).1 < lg.flushed) := by show _ < _; rw [← hfr.lsn]; omega
      clear hq
      go_enter Tryz.func52, Tryz.ntmps52
      go_upto_region 3 with (fail)
      go_quiet ((go_at_call 77; refine Calls.quiet_of_same ((HFL.out _).mono fun e w' h => ⟨h.1, h.2.symm⟩)))
      have HIN : Hid (PmIn U V (w.drewN nq) B L P S b N hand mp F H n d lg s) := HH.out.keep ((Touch.refl (fun _ => False) w).drewN nq) (fun _ _ h => h) fun _ _ h => h
      have HTW : Hid (Touch (fun j => Both U V j ∨ j = P) w (w.drewN nq)) := (Touch.refl _ w).drewN nq
      have HCC : Hid (Wl.Calm n d → Wl.Calm n d) := id
      have HLF : Hid (Po.Lf lg lg) := Or.inl rfl
      have HGU : Hid (Grew U U w) := fun j hj => Or.inl hj
      have HGV : Hid (Grew V V w) := fun j hj => Or.inl hj
      clear HFL HFL0 g3 g1 c4 hq2 HU
      generalize w.drewN nq = wq at *
      obtain ⟨m1, m2, pl, wa, hlm, hV, hPD, hUU, -⟩ := HIN.out.log
      have hpl := page_lt HIN.out.pm HI.out.1
      obtain ⟨m, hm⟩ : ∃ m, m = (fa F i).page := ⟨_, rfl⟩
      obtain ⟨x, hx⟩ : ∃ x, x = s.now (fa F i).page := ⟨_, rfl⟩
      obtain ⟨u, hu⟩ : ∃ u, u = (fa F i).u := ⟨_, rfl⟩
      have hfi := HIN.out.pm.fr i HI.out.1
      have HXL : Hid (x.1 = (fa F i).lsn) := by show _ = _; rw [hx, hfi.lsn]
      have hbd : ∀ g, u.ownBlock = some g → ¬ DS B m1 m2 g := fun g hg hd => HIN.out.off g (Or.inl (by rw [hUU]; exact hd)) (Or.inr (Or.inr ⟨i, by rw [← hu]; exact hg⟩))
      have hbx : Bts wq u x.2 := by rw [hu, hx]; exact hfi.body
      have HBX := Lib.hid hbx
      have hok : Po.PgOk x := by rw [hx]; exact HIN.out.pm.good.ok _
      have hwr : ∀ w2, PDev w2 B m1 m2 d → Bts w2 u x.2 → Calls Tryz.prog 79 #[RgV B S b N, .int .i64 (m : Int), PgV x.1 u] w2 fun e w' => RwA B m1 m2 d S b m (Pg.form x.1 x.2) w2 e w' := fun w2 hp hb => write_rg hp HIN.out.near HIN.out.hw HIN.out.lies (by rw [hm]; exact hpl) HIN.out.n16 x u hok hb hbd
      have HWR := Lib.hid hwr
      have HBD := Lib.hid hbd
      have HM := Lib.hid hm
      have HX := Lib.hid hx
      have HUV := Lib.hid hu
      have HUU := Lib.hid hUU
      have HPD := Lib.hid hPD
      have HPN : Hid (¬ DS B m1 m2 P) := fun hd => HIN.out.off P (Or.inl (by rw [hUU]; exact hd)) (Or.inl rfl)
      have HRW : Hid (PmRow wq P B S b N L s.frames hand mp F) := HIN.out.pm.row
      clear hlm hV hPD hUU hpl hm hx hu hfi hbd hbx hok hwr
      go_upto_region 7 with (fail)
      refine Ord.walk (PbF B P S b N i m u x.1) (fun D xs w' => PbR B m1 m2 P S b N L s.frames hand mp F u x d m wq D xs w') (Touch (DS B m1 m2)) (by kernel_rfl) (by kernel_rfl) ?frU ?hfrU ?hTU (fun xs => ⟨HRW.out.below (Below.refl _ _).go1, HBX.out.below (Below.refl _ _).go1, (Touch.refl _ _).drew, fun _ => HPD.out.below (Below.refl _ _).go1, (fun e => by cases e), fun e => by cases e⟩) ?heU ?hendU
      case hfrU =>
        intro xs
        simp only [Ord.fill, Act.put, List.setIfInBounds_toArray, List.set_cons_zero, List.set_cons_succ]
        rfl
      case hTU =>
        intro k v wa wb ht hF
        exact hF
      case heU =>
        refine Ord.each_cons (fun D xs w2 hD hC hP hR hA K' hK => ?_) ?_
        ·
          clear hA
          go_simp
          exact hK _ _ ⟨_, rfl, Touch.refl _ _, hR.quiet 0 _ (by decide) (by decide), rfl⟩
        refine Ord.each_cons (fun D xs w2 hD hC hP hR hA K' hK => ?_) ?_
        ·
          have q0 := Ord.ahead_get _ hA 0 (by decide)
          simp only [PbF] at q0
          simp only [q0] at hK ⊢
          clear hA
          go_simp
          exact hK _ _ ⟨_, rfl, Touch.refl _ _, hR.quiet 1 _ (by decide) (by decide), rfl⟩
        refine Ord.each_cons (fun D xs w2 hD hC hP hR hA K' hK => ?_) ?_
        ·
          have q1 := Ord.ahead_get _ hA 1 (by decide)
          simp only [PbF] at q1
          simp only [q1] at hK ⊢
          clear hA
          go_simp
          exact hK _ _ ⟨_, rfl, Touch.refl _ _, hR.quiet 2 _ (by decide) (by decide), rfl⟩
        refine Ord.each_cons (fun D xs w2 hD hC hP hR hA K' hK => ?_) ?_
        ·
          have q2 := Ord.ahead_get _ hA 2 (by decide)
          simp only [PbF] at q2
          simp only [q2] at hK ⊢
          clear hA
          have k0 := hR.row.c0
          have k1 := hR.row.c1
          have k2 := hR.row.c2
          have k3 := hR.row.c3
          go_simp
          exact hK _ _ ⟨_, rfl, Touch.refl _ _, hR.quiet 3 _ (by decide) (by decide), rfl⟩
        refine Ord.each_cons (fun D xs w2 hD hC hP hR hA K' hK => ?_) ?_
        ·
          clear hA
          go_simp
          exact hK _ _ ⟨_, rfl, Touch.refl _ _, hR.quiet 4 _ (by decide) (by decide), rfl⟩
        refine Ord.each_cons (fun D xs w2 hD hC hP hR hA K' hK => ?_) ?_
        ·
          have q4 := Ord.ahead_get _ hA 4 (by decide)
          simp only [PbF] at q4
          simp only [q4] at hK ⊢
          clear hA
          go_simp
          exact hK _ _ ⟨_, rfl, Touch.refl _ _, hR.quiet 5 _ (by decide) (by decide), rfl⟩
        refine Ord.each_cons (fun D xs w2 hD hC hP hR hA K' hK => ?_) ?_
        ·
          have q5 := Ord.ahead_get _ hA 5 (by decide)
          simp only [PbF] at q5
          simp only [q5] at hK ⊢
          clear hA
          go_simp
          exact hK _ _ ⟨_, rfl, Touch.refl _ _, hR.quiet 6 _ (by decide) (by decide), rfl⟩
        refine Ord.each_cons (fun D xs w2 hD hC hP hR hA K' hK => ?_) ?_
        ·
          have q6 := Ord.ahead_get _ hA 6 (by decide)
          simp only [PbF] at q6
          simp only [q6] at hK ⊢
          clear hA
          have k0 := hR.row.fr HI.out.2 0 (by decide) (v := .int .i64 (m : Int)) (by rw [HM.out]; rfl)
          rw [Nat.add_zero] at k0
          go_simp
          exact hK _ _ ⟨_, rfl, Touch.refl _ _, hR.quiet 7 _ (by decide) (by decide), rfl⟩
        refine Ord.each_cons (fun D xs w2 hD hC hP hR hA K' hK => ?_) ?_
        ·
          clear hA
          go_simp
          exact hK _ _ ⟨_, rfl, Touch.refl _ _, hR.quiet 8 _ (by decide) (by decide), rfl⟩
        refine Ord.each_cons (fun D xs w2 hD hC hP hR hA K' hK => ?_) ?_
        ·
          have q8 := Ord.ahead_get _ hA 8 (by decide)
          simp only [PbF] at q8
          simp only [q8] at hK ⊢
          clear hA
          go_simp
          exact hK _ _ ⟨_, rfl, Touch.refl _ _, hR.quiet 9 _ (by decide) (by decide), rfl⟩
        refine Ord.each_cons (fun D xs w2 hD hC hP hR hA K' hK => ?_) ?_
        ·
          have q9 := Ord.ahead_get _ hA 9 (by decide)
          simp only [PbF] at q9
          simp only [q9] at hK ⊢
          clear hA
          go_simp
          exact hK _ _ ⟨_, rfl, Touch.refl _ _, hR.quiet 10 _ (by decide) (by decide), rfl⟩
        refine Ord.each_cons (fun D xs w2 hD hC hP hR hA K' hK => ?_) ?_
        ·
          have q10 := Ord.ahead_get _ hA 10 (by decide)
          simp only [PbF] at q10
          simp only [q10] at hK ⊢
          clear hA
          have k1 := hR.row.fr HI.out.2 1 (by decide) (v := .int .u64 (x.1 : Int)) (by rw [HXL.out]; rfl)
          have k2 := hR.row.fr HI.out.2 2 (by decide) (v := u) (by rw [HUV.out]; rfl)
          go_simp
          exact hK _ _ ⟨_, rfl, Touch.refl _ _, hR.quiet 11 _ (by decide) (by decide), rfl⟩
        refine Ord.each_cons (fun D xs w2 hD hC hP hR hA K' hK => ?_) ?_
        ·
          have q3 := Ord.ahead_get _ hA 3 (by decide)
          simp only [PbF] at q3
          have q7 := Ord.ahead_get _ hA 7 (by decide)
          simp only [PbF] at q7
          have q11 := Ord.ahead_get _ hA 11 (by decide)
          simp only [PbF] at q11
          simp only [q3, q7, q11] at hK ⊢
          clear hA
          have hwr := HWR.out w2 (hR.s0 hD) hR.body
          go_simp
          refine hwr.mono ?_
          rintro e w3 ⟨t, ht, htn, rfl, hp', ht'⟩
          exact hK _ _ ⟨_, rfl, ht', hR.call hC hD (by decide) ht' HPN.out HBD.out ht htn hp', trivial⟩
        refine Ord.each_cons (fun D xs w2 hD hC hP hR hA K' hK => ?_) ?_
        ·
          clear hA
          go_simp
          exact hK _ _ ⟨_, rfl, Touch.refl _ _, hR.asg, trivial⟩
        exact Ord.each_nil
      case hendU =>
        intro D xs w9 hR hF
        obtain ⟨t, ht, htn, e12, hp9⟩ := hR.s1 (hF 12 (by decide)).1
        have e13 := (hR.s2 (hF 13 (by decide)).1).trans e12
        obtain ⟨r, hr⟩ : ∃ r, r = Rg.writeR d S (b + 4 * m) (Pg.form x.1 x.2) (Rg.laid (Pg.form x.1 x.2) (Rg.tag m t)) := ⟨_, rfl⟩
        rw [← hr] at e12 e13 hp9
        rw [e12, e13]
        have htl := pmWrite_tail HIN.out HI.out.1 HLT.out HUU.out ht htn (r := r) (by rw [← HX.out, ← HM.out]; exact hr) hp9 hR.touch
        have HTL := Lib.hid htl
        have HP9 := Lib.hid hp9
        have HRW9 := Lib.hid hR.row
        have HT9 := Lib.hid hR.touch
        generalize xs 0 = y0
        generalize xs 1 = y1
        generalize xs 2 = y2
        generalize xs 3 = y3
        generalize xs 4 = y4
        generalize xs 5 = y5
        generalize xs 6 = y6
        generalize xs 7 = y7
        generalize xs 8 = y8
        generalize xs 9 = y9
        generalize xs 10 = y10
        generalize xs 11 = y11
        clear hF hR e12 e13 ht htn hr htl hp9 HWR
        obtain ⟨r1, r2⟩ := r
        dsimp only at HTL HP9 ⊢
        have HTW9 : Hid (Touch (fun j => Both U V j ∨ j = P) w w9) := HTW.out.grow HT9.out fun j hj => by
          rcases HGU.out j (by rw [HUU.out]; exact hj) with h1 | h1
          · exact Or.inl (Or.inl (Or.inl h1))
          · exact Or.inr h1
        by_cases he : r2 = 0
        case neg =>
          have h1 : ¬ (r2 : Int) = 0 := by omega
          have h2 : ((r2 : Int) != 0) = true := by simp; omega
          have HE := Lib.hid (HTL.out.2 he)
          clear he
          go_wp2_with fail
          go_ret
          obtain ⟨e6, hnc, hnear, c, hc1, hc2⟩ := HE.out
          refine Or.inr ⟨fun hc => hnc (HCC.out hc), by rw [e6]; rfl, DS B m1 m2, r1, lg, c, ⟨m1, m2, HP9.out, rfl⟩, hnear, HTW9.out, fun j hj => HGU.out j (by rw [HUU.out]; exact hj), HLF.out, hc1, hc2⟩
        subst he
        have f4 := HRW9.out.free (5 + i * 7 + 4)
        have k4 := HRW9.out.fr HI.out.2 4 (by decide) (v := .bool (fa F i).dirty) rfl
        have hrow2 := HRW9.out.set HI.out.2 4 (by decide) (.bool false) { fa F i with dirty := false } rfl
        have HRW2 := Lib.hid hrow2
        clear hrow2
        go_wp2_with fail
        go_ret
        obtain ⟨h1, h2⟩ := HTL.out.1 trivial HRW2.out (Touch.set P _ _ rfl)
        exact Or.inl ⟨U, V, r1, lg, rfl, h1, fun hc => h2 (HCC.out hc), HLF.out, HTW9.out.trans (Touch.set P _ _ (Or.inr rfl)), HGU.out, HGV.out, fun h => absurd h HFI.out⟩
end Go.Proofs.YtbpodmallknhfaaGreat
namespace Go.Proofs.YtbpodmallknhfaaGreat
open Go.RowKit
def PbOk (U V : Nat → Prop) (B L P S b N hand mp : Nat) (F : List Fr) (H : List (Option Nat)) (n : Nat) (d : Dk.Dev) (lg : Wl.S) (s : Po.S) (i : Nat) (w w' : World) : Prop :=
  ∃ U' V' d' lg', PmIn U' V' w' B L P S b N hand mp (F.set i { fa F i with dirty := false }) H n d' lg' (Po.cleaned s (fa F i).page) ∧ (Wl.Calm n d → Wl.Calm n d') ∧ Po.Lf lg lg' ∧ Touch (fun j => Both U V j ∨ j = P) w w' ∧ Grew U U' w ∧ Grew V V' w ∧ (s.first (fa F i).page = none → d' = d ∧ lg' = lg)
def PbEr (U V : Nat → Prop) (B P S b N : Nat) (n : Nat) (lg : Wl.S) (s : Po.S) (w w' : World) : Prop :=
  ∃ U' d' lg' c, WlPD U' w' B d' ∧ Wl.Near n d' ∧ Touch (fun j => Both U V j ∨ j = P) w w' ∧ Grew U U' w ∧ Po.Lf lg lg' ∧ (∀ k x, c k x → (x = s.disk k ∨ x = s.now k) ∧ x.1 < lg'.flushed) ∧ ∀ ps, Wl.Hd (Dk.crash d' ps) lg' ∧ Rg.HpN S b N (Dk.crash d' ps) c
theorem pb_split {U V : Nat → Prop} {B L P S b N hand mp : Nat} {F : List Fr} {H : List (Option Nat)} {n : Nat} {d : Dk.Dev} {lg : Wl.S} {s : Po.S} {i : Nat} {w : World} {e : Ending} {w' : World} (h : PbA U V B L P S b N hand mp F H n d lg s i w e w') :
    (e = .returned (.int .i64 0) ∧ PbOk U V B L P S b N hand mp F H n d lg s i w w') ∨ (¬ Wl.Calm n d ∧ e = .returned (.int .i64 6) ∧ PbEr U V B P S b N n lg s w w') := by
  rcases h with ⟨U', V', d', lg', h1, h2⟩ | h
  · exact Or.inl ⟨h1, U', V', d', lg', h2⟩
  · exact Or.inr h
def GuA (U V : Nat → Prop) (B L P S b N hand mp : Nat) (F : List Fr) (H : List (Option Nat)) (n : Nat) (d : Dk.Dev) (lg : Wl.S) (s : Po.S) (i : Nat) (w : World) (e : Ending) (w' : World) : Prop :=
  (e = .returned (.int .i64 0) ∧ ∃ w1, PbOk U V B L P S b N hand mp F H n d lg s i w w1 ∧ Touch (· = mp) w1 w' ∧ HmAt w' mp (H.set (fa F i).page none)) ∨ (¬ Wl.Calm n d ∧ e = .returned (.int .i64 6) ∧ PbEr U V B P S b N n lg s w w')
def GuR (P B S b N L cnt hand mp : Nat) (F : List Fr) (H : List (Option Nat)) (i : Nat) (W : World) (D : Nat → Bool) (w : World) : Prop :=
  (D 8 = false → PmRow w P B S b N L cnt hand mp F ∧ HmAt w mp H ∧ Touch (· = mp) W w) ∧ (D 8 = true → Touch (· = mp) W w ∧ HmAt w mp (H.set (fa F i).page none))
def GuF (P i mp pg : Nat) (j : Nat) (v : Value) (_ : World) : Prop :=
  match j with
  | 0 => v = .pointer (some ⟨P, 0, none⟩)
  | 1 => v = .pointer (some ⟨P, 0, none⟩)
  | 2 => v = .pointer (some ⟨P, 455, none⟩)
  | 3 => v = .map (some mp)
  | 4 => v = .pointer (some ⟨P, 5 + i * 7, none⟩)
  | 5 => v = .pointer (some ⟨P, 5 + i * 7, none⟩)
  | 6 => v = .pointer (some ⟨P, 5 + i * 7, none⟩)
  | 7 => v = .int .i64 (pg : Int)
  | _ => True
theorem GuR.quiet {P B S b N L cnt hand mp : Nat} {F : List Fr} {H : List (Option Nat)} {i : Nat} {W : World} {D : Nat → Bool} {w : World} (h : GuR P B S b N L cnt hand mp F H i W D w) (k : Nat) (hk : 8 ≠ k) : GuR P B S b N L cnt hand mp F H i W (Ord.wth D k) w :=
  ⟨fun e => h.1 (by rw [← pwth_ne D hk]; exact e), fun e => h.2 (by rw [← pwth_ne D hk]; exact e)⟩
set_option maxHeartbeats 3200000 in
set_option maxRecDepth 20000 in
theorem pmGive_any {U V : Nat → Prop} {w : World} {B L P S b N hand mp n : Nat} {F : List Fr} {H : List (Option Nat)} {d : Dk.Dev} {lg : Wl.S} {s : Po.S} {i : Nat} (h : PmIn U V w B L P S b N hand mp F H n d lg s) (hi : i < s.held.length) (hs : lg.stop ≤ 1000000000000) :
    Calls Tryz.prog 74 #[.pointer (some ⟨P, 0, none⟩), .pointer (some ⟨P, 5 + i * 7, none⟩)] w fun e w' => GuA U V B L P S b N hand mp F H n d lg s i w e w' := by
  have HPB := Lib.hid (pmPut_any h hi hs)
  have hb := h.pm.bounds
  have hc := h.pm.cnt
  have hi6 : i < 64 := by omega
  have hiF : i < F.length := by rw [h.pm.row.len]; exact hi6
  have HI : Hid (i < 64) := hi6
  have HFA : Hid (fa (F.set i { fa F i with dirty := false }) i = { fa F i with dirty := false }) := by show _ = _; rw [fa_set F hiF, if_pos rfl]
  have HPL : Hid ((fa F i).page < H.length) := by show _ < _; rw [h.pm.hlen]; exact page_lt h.pm hi
  clear h hi hs hb hc hi6 hiF
  go_enter Tryz.func74, Tryz.ntmps74
  go_wp2_with fail
  refine HPB.out.mono ?_
  intro e w1 hpb
  rcases pb_split hpb with ⟨rfl, hok⟩ | ⟨hnc, rfl, her⟩
  case inr =>
    have HE : Hid (_ ∧ _) := ⟨hnc, her⟩
    clear hnc her hpb HPB
    go_wp2_with fail
    go_ret
    exact Or.inr ⟨HE.out.1, rfl, HE.out.2⟩
  have HOK := Lib.hid hok
  clear hok hpb HPB
  obtain ⟨U', V', d', lg', hin, -⟩ := HOK.out
  have HRW := Lib.hid hin.pm.row
  have HMP := Lib.hid hin.pm.map
  have HNE := Lib.hid hin.pm.ne
  clear hin
  obtain ⟨F', hF'⟩ : ∃ F', F' = F.set i { fa F i with dirty := false } := ⟨_, rfl⟩
  rw [← hF'] at HRW HFA
  have HPG : Hid ((fa F' i).page = (fa F i).page) := by show _ = _; rw [HFA.out]
  obtain ⟨pg, hpg⟩ : ∃ pg, pg = (fa F' i).page := ⟨_, rfl⟩
  have HPGG := Lib.hid hpg
  have HPL' : Hid (pg < H.length) := by show _ < _; rw [hpg, HPG.out]; exact HPL.out
  clear hF' hpg
  go_upto_region 4 with (fail)
  refine Ord.walk (GuF P i mp pg) (fun D _ w' => GuR P B S b N L (Po.cleaned s (fa F i).page).frames hand mp F' H i w1 D w') (fun _ _ => True) (by kernel_rfl) (by kernel_rfl) ?fr ?hfr ?hT (fun xs => ⟨fun _ => ⟨HRW.out.below (Below.refl _ _).go1, HMP.out.below (Below.refl _ _).go1, (Touch.refl _ _).drew⟩, fun e => by cases e⟩) ?he ?hend
  case hfr =>
    intro xs
    simp only [Ord.fill, Act.put, List.setIfInBounds_toArray, List.set_cons_zero, List.set_cons_succ]
    rfl
  case hT =>
    intro k v wa wb ht hF
    exact hF
  case he =>
    refine Ord.each_cons (fun D xs w2 hD hC hP hR hA K' hK => ?_) ?_
    ·
      clear hA
      go_simp
      exact hK _ _ ⟨_, rfl, trivial, hR.quiet 0 (by decide), rfl⟩
    refine Ord.each_cons (fun D xs w2 hD hC hP hR hA K' hK => ?_) ?_
    ·
      have q0 := Ord.ahead_get _ hA 0 (by decide)
      simp only [GuF] at q0
      simp only [q0] at hK ⊢
      clear hA
      go_simp
      exact hK _ _ ⟨_, rfl, trivial, hR.quiet 1 (by decide), rfl⟩
    refine Ord.each_cons (fun D xs w2 hD hC hP hR hA K' hK => ?_) ?_
    ·
      have q1 := Ord.ahead_get _ hA 1 (by decide)
      simp only [GuF] at q1
      simp only [q1] at hK ⊢
      clear hA
      go_simp
      exact hK _ _ ⟨_, rfl, trivial, hR.quiet 2 (by decide), rfl⟩
    refine Ord.each_cons (fun D xs w2 hD hC hP hR hA K' hK => ?_) ?_
    ·
      have q2 := Ord.ahead_get _ hA 2 (by decide)
      simp only [GuF] at q2
      simp only [q2] at hK ⊢
      clear hA
      have h0 := hR.1 (by
  cases e : D 8 with
  | false => rfl
  | true => have := Ord.closed_at hC 8 3 (by decide) e; rw [hD] at this; cases this)
      have k := h0.1.cMap
      go_simp
      exact hK _ _ ⟨_, rfl, trivial, hR.quiet 3 (by decide), rfl⟩
    refine Ord.each_cons (fun D xs w2 hD hC hP hR hA K' hK => ?_) ?_
    ·
      clear hA
      go_simp
      exact hK _ _ ⟨_, rfl, trivial, hR.quiet 4 (by decide), rfl⟩
    refine Ord.each_cons (fun D xs w2 hD hC hP hR hA K' hK => ?_) ?_
    ·
      have q4 := Ord.ahead_get _ hA 4 (by decide)
      simp only [GuF] at q4
      simp only [q4] at hK ⊢
      clear hA
      go_simp
      exact hK _ _ ⟨_, rfl, trivial, hR.quiet 5 (by decide), rfl⟩
    refine Ord.each_cons (fun D xs w2 hD hC hP hR hA K' hK => ?_) ?_
    ·
      have q5 := Ord.ahead_get _ hA 5 (by decide)
      simp only [GuF] at q5
      simp only [q5] at hK ⊢
      clear hA
      go_simp
      exact hK _ _ ⟨_, rfl, trivial, hR.quiet 6 (by decide), rfl⟩
    refine Ord.each_cons (fun D xs w2 hD hC hP hR hA K' hK => ?_) ?_
    ·
      have q6 := Ord.ahead_get _ hA 6 (by decide)
      simp only [GuF] at q6
      simp only [q6] at hK ⊢
      clear hA
      have h0 := hR.1 (by
  cases e : D 8 with
  | false => rfl
  | true => have := Ord.closed_at hC 8 7 (by decide) e; rw [hD] at this; cases this)
      have k0 := h0.1.fr HI.out 0 (by decide) (v := .int .i64 (pg : Int)) (by rw [HPGG.out]; rfl)
      rw [Nat.add_zero] at k0
      go_simp
      exact hK _ _ ⟨_, rfl, trivial, hR.quiet 7 (by decide), rfl⟩
    refine Ord.each_cons (fun D xs w2 hD hC hP hR hA K' hK => ?_) ?_
    ·
      have q3 := Ord.ahead_get _ hA 3 (by decide)
      simp only [GuF] at q3
      have q7 := Ord.ahead_get _ hA 7 (by decide)
      simp only [GuF] at q7
      simp only [q3, q7] at hK ⊢
      clear hA
      have h0 := hR.1 hD
      obtain ⟨w3, hrun, hm3, ht3⟩ := h0.2.1.drop HPL'.out
      go_simp
      exact hK _ _ ⟨undef, rfl, trivial, ⟨fun e => by simp [Ord.wth] at e, fun _ => ⟨h0.2.2.trans ht3, by rw [← HPGG.out]; exact hm3⟩⟩, trivial⟩
    exact Ord.each_nil
  case hend =>
    intro D xs w9 hR hF
    have h9 := hR.2 (hF 8 (by decide)).1
    have HE := Lib.hid h9
    generalize xs 0 = y0
    generalize xs 1 = y1
    generalize xs 2 = y2
    generalize xs 3 = y3
    generalize xs 4 = y4
    generalize xs 5 = y5
    generalize xs 6 = y6
    generalize xs 7 = y7
    clear hF hR h9
    go_wp2_with fail
    go_ret
    exact Or.inl ⟨rfl, w1, HOK.out, HE.out.1, by rw [← HPG.out]; exact HE.out.2⟩
end Go.Proofs.YtbpodmallknhfaaGreat
namespace Go.Proofs.YtbpodmallknhfaaGreat
open Go.RowKit
def pp0 : Array Value := #[.int .u64 0, .slice none 0 0]
structure LkR (W : World) (Q k : Nat) (v : Value) (l : List Nat) (D : Nat → Bool) (xs : Nat → Value) (w : World) : Prop where
  below : Below Q W w
  sz : Q + 2 ≤ w.heap.size
  row : w.heap[Q]? = some (.cells #[.int .u64 (k : Int), v] 59 (0, 0))
  body : Bts w v l
  s4 : D 4 = true → (∃ p c, xs 4 = .slice p l.length c) ∧ Own (Q + 2) w (xs 4) l
  s5 : D 5 = true → xs 5 = .agg #[.int .u64 (k : Int), xs 4]
  s6 : w.heap[Q + 1]? = some (.cells (if D 6 then #[.int .u64 (k : Int), xs 4] else pp0) 59 (0, 0))
def LkF (Q k : Nat) (v : Value) (j : Nat) (u : Value) (_ : World) : Prop :=
  match j with
  | 0 => u = .pointer (some ⟨Q, 0, none⟩)
  | 1 => u = .int .u64 (k : Int)
  | 2 => u = .pointer (some ⟨Q, 1, none⟩)
  | 3 => u = v
  | _ => True
section
variable {W : World} {Q k : Nat} {v : Value} {l : List Nat} {D : Nat → Bool} {xs : Nat → Value} {w : World}
theorem LkR.any (h : LkR W Q k v l (fun _ => false) (fun _ => undef) w) (xs : Nat → Value) : LkR W Q k v l (fun _ => false) xs w := ⟨h.below, h.sz, h.row, h.body, (fun e => by cases e), (fun e => by cases e), h.s6⟩
theorem LkR.quiet (h : LkR W Q k v l D xs w) (j : Nat) (u : Value) (h4 : 4 ≠ j) (h5 : 5 ≠ j) (h6 : 6 ≠ j) : LkR W Q k v l (Ord.wth D j) (Ord.set xs j u) w :=
  ⟨h.below, h.sz, h.row, h.body, fun e => by rw [pset_ne xs u h4]; exact h.s4 (by rw [← pwth_ne D h4]; exact e), fun e => by rw [pset_ne xs u h4, pset_ne xs u h5]; exact h.s5 (by rw [← pwth_ne D h5]; exact e), by rw [pset_ne xs u h4, pwth_ne D h6]; exact h.s6⟩
theorem LkR.call (h : LkR W Q k v l D xs w) {ops : List Oper} (hC : Ord.closed ops D) (hD : D 4 = false) (w5 : Ord.waits ops 5 4 = true) (w6 : Ord.waits ops 6 5 = true) {u : Value} {w' : World} (hO : Own w.heap.size w' u l) (hb : Below w.heap.size w w') : LkR W Q k v l (Ord.wth D 4) (Ord.set xs 4 u) w' := by
  have d5 : D 5 = false := by
    cases e : D 5 with
    | false => rfl
    | true => have := Ord.closed_at hC 5 4 w5 e; rw [hD] at this; cases this
  have d6 : D 6 = false := by
    cases e : D 6 with
    | false => rfl
    | true => have := Ord.closed_at hC 6 5 w6 e; rw [d5] at this; cases this
  have hsz := h.sz
  obtain ⟨p, c, hu, -⟩ := hO.bts.form
  refine ⟨h.below.trans (hb.mono (by omega)), Nat.le_trans h.sz hb.size, (hb.block Q (by omega)).trans h.row, h.body.below hb, fun _ => ?_, fun e => ?_, ?_⟩
  · have e4 : Ord.set xs 4 u 4 = u := if_pos rfl
    rw [e4]
    exact ⟨⟨p, c, hu⟩, hO.from (by omega)⟩
  · rw [pwth_ne D (show 5 ≠ 4 by decide), d5] at e; cases e
  · rw [pwth_ne D (show 6 ≠ 4 by decide), d6]
    have := h.s6
    rw [d6] at this
    exact (hb.block (Q + 1) (by omega)).trans this
theorem LkR.build (h : LkR W Q k v l D xs w) : LkR W Q k v l (Ord.wth D 5) (Ord.set xs 5 (.agg #[.int .u64 (k : Int), xs 4])) w :=
  ⟨h.below, h.sz, h.row, h.body, fun e => by rw [pset_ne xs _ (show 4 ≠ 5 by decide)]; exact h.s4 (by rw [← pwth_ne D (show 4 ≠ 5 by decide)]; exact e), fun _ => by rw [pset_ne xs _ (show 4 ≠ 5 by decide)]; exact if_pos rfl, by rw [pset_ne xs _ (show 4 ≠ 5 by decide), pwth_ne D (show 6 ≠ 5 by decide)]; exact h.s6⟩
theorem LkR.store (h : LkR W Q k v l D xs w) (h4 : D 4 = true) (h6 : D 6 = false) (hv : ∀ g, v.ownBlock = some g → g ≠ Q + 1) (u : Value) : LkR W Q k v l (Ord.wth D 6) (Ord.set xs 6 u) ((w.setCell ⟨Q + 1, 0, none⟩ (.int .u64 (k : Int))).setCell ⟨Q + 1, 1, none⟩ (xs 4)) := by
  have ht : Touch (fun j => j = Q + 1) w ((w.setCell ⟨Q + 1, 0, none⟩ (.int .u64 (k : Int))).setCell ⟨Q + 1, 1, none⟩ (xs 4)) := (Touch.set (S := fun j => j = Q + 1) (Q + 1) 0 _ rfl).trans (Touch.set (Q + 1) 1 _ rfl)
  have h0 := h.s6
  rw [h6] at h0
  have h1 := blk_set (i := 1) (blk_set (i := 0) h0 (.int .u64 (k : Int))) (xs 4)
  refine ⟨h.below.trans (ht.below (fun j hj => by omega) (by have := h.below.size; have := h.sz; omega)), Nat.le_trans h.sz ht.size, ht.row h.row (by omega), ht.bts h.body (fun _ => hv), fun e => ?_, fun e => ?_, ?_⟩
  · rw [pset_ne xs u (show 4 ≠ 6 by decide)]
    obtain ⟨a, b⟩ := h.s4 h4
    exact ⟨a, own_touch b ht fun j hj e => by omega⟩
  · rw [pset_ne xs u (show 4 ≠ 6 by decide), pset_ne xs u (show 5 ≠ 6 by decide)]
    exact h.s5 (by rw [← pwth_ne D (show 5 ≠ 6 by decide)]; exact e)
  · rw [pset_ne xs u (show 4 ≠ 6 by decide), show Ord.wth D 6 6 = true from if_pos rfl, if_pos rfl]
    exact h1
end
set_option maxHeartbeats 3200000 in
set_option maxRecDepth 20000 in
theorem pmLike_any (k : Nat) (v : Value) (l : List Nat) (w : World) (hB : Bts w v l) (hv : 0 < l.length) :
    Calls Tryz.prog 50 #[PgV k v] w fun e w' => ∃ u, e = .returned (PgV k u) ∧ Own w.heap.size w' u l ∧ Below w.heap.size w w' := by
  have hlt := hB.own_lt hv
  obtain ⟨p, c, hvv, -⟩ := hB.form
  obtain ⟨Q, hQ⟩ : ∃ Q, Q = w.heap.size := ⟨_, rfl⟩
  obtain ⟨W, hW⟩ : ∃ W, W = (w.alloc (.cells #[.int .u64 (k : Int), v] 59)).alloc (.cells pp0 59) := ⟨_, rfl⟩
  have hr0 : W.heap[Q]? = some (.cells #[.int .u64 (k : Int), v] 59 (0, 0)) := by
    rw [hW, hQ]
    have h1 := heap_alloc_last w (.cells #[.int .u64 (k : Int), v] 59)
    have h2 : Below (w.heap.size + 1) (w.alloc (.cells #[.int .u64 (k : Int), v] 59)) ((w.alloc (.cells #[.int .u64 (k : Int), v] 59)).alloc (.cells pp0 59)) := (Below.refl _ _).alloc (by simp) _
    exact (h2.block _ (by omega)).trans h1
  have hr1 : W.heap[Q + 1]? = some (.cells pp0 59 (0, 0)) := by
    rw [hW, hQ]
    have h1 := heap_alloc_last (w.alloc (.cells #[.int .u64 (k : Int), v] 59)) (.cells pp0 59)
    rw [show (w.alloc (.cells #[.int .u64 (k : Int), v] 59)).heap.size = w.heap.size + 1 by simp] at h1
    exact h1
  have hb : Below Q w W := by rw [hW, hQ]; exact ((Below.refl _ _).alloc (Nat.le_refl _) _).alloc (by simp) _
  have HR0 : Hid (LkR W Q k v l (fun _ => false) (fun _ => undef) W.drew) := by
    have hs : W.heap.size = Q + 2 := by rw [hW, hQ]; simp
    exact ⟨(Below.refl _ _).go1, by show _ ≤ W.heap.size; omega, hr0, (hB.below (by rw [← hQ]; exact hb)).below (Below.refl _ _).go1, (fun e => by cases e), (fun e => by cases e), hr1⟩
  have HV : Hid (∀ g, v.ownBlock = some g → g ≠ Q + 1) := fun g hg e => by have := hlt g hg; omega
  have HQ := Lib.hid hQ
  have HB := Lib.hid hb
  have HVV := Lib.hid hvv
  clear hlt hr0 hr1 hb hB hv
  unfold PgV
  subst hvv
  go_enter Tryz.func50, Tryz.ntmps50
  go_upto_region 1 with (fail)
  unfold pp0 at hW
  rw [← hW, ← hQ]
  clear hW hQ
  refine Ord.walk (LkF Q k (.slice p l.length c)) (fun D xs w' => LkR W Q k (.slice p l.length c) l D xs w') (fun _ _ => True) (by kernel_rfl) (by kernel_rfl) ?fr ?hfr ?hT (fun xs => HR0.out.any xs) ?he ?hend
  case hfr =>
    intro xs
    simp only [Ord.fill, Act.put, List.setIfInBounds_toArray, List.set_cons_zero, List.set_cons_succ]
    rfl
  case hT =>
    intro k v wa wb ht hF
    exact hF
  case he =>
    refine Ord.each_cons (fun D xs w2 hD hC hP hR hA K' hK => ?_) ?_
    ·
      clear hA
      go_simp
      exact hK _ _ ⟨_, rfl, trivial, hR.quiet 0 _ (by decide) (by decide) (by decide), rfl⟩
    refine Ord.each_cons (fun D xs w2 hD hC hP hR hA K' hK => ?_) ?_
    ·
      have q0 := Ord.ahead_get _ hA 0 (by decide)
      simp only [LkF] at q0
      simp only [q0] at hK ⊢
      clear hA
      have k0 := blk_cell hR.row 0 (v := .int .u64 (k : Int)) rfl
      go_simp
      exact hK _ _ ⟨_, rfl, trivial, hR.quiet 1 _ (by decide) (by decide) (by decide), rfl⟩
    refine Ord.each_cons (fun D xs w2 hD hC hP hR hA K' hK => ?_) ?_
    ·
      clear hA
      go_simp
      exact hK _ _ ⟨_, rfl, trivial, hR.quiet 2 _ (by decide) (by decide) (by decide), rfl⟩
    refine Ord.each_cons (fun D xs w2 hD hC hP hR hA K' hK => ?_) ?_
    ·
      have q2 := Ord.ahead_get _ hA 2 (by decide)
      simp only [LkF] at q2
      simp only [q2] at hK ⊢
      clear hA
      have k1 := blk_cell hR.row 1 (v := .slice p l.length c) rfl
      go_simp
      exact hK _ _ ⟨_, rfl, trivial, hR.quiet 3 _ (by decide) (by decide) (by decide), rfl⟩
    refine Ord.each_cons (fun D xs w2 hD hC hP hR hA K' hK => ?_) ?_
    ·
      have q3 := Ord.ahead_get _ hA 3 (by decide)
      simp only [LkF] at q3
      simp only [q3] at hK ⊢
      clear hA
      have hcl := clone_any _ l w2 hR.body
      go_simp
      refine hcl.mono ?_
      rintro e w3 ⟨u, rfl, hO, hb⟩
      exact hK _ _ ⟨_, rfl, trivial, hR.call hC hD (by decide) (by decide) hO hb, trivial⟩
    refine Ord.each_cons (fun D xs w2 hD hC hP hR hA K' hK => ?_) ?_
    ·
      have q1 := Ord.ahead_get _ hA 1 (by decide)
      simp only [LkF] at q1
      simp only [q1] at hK ⊢
      clear hA
      have d4 : D 4 = true := hP { on := 4, ground := .data } (by simp) rfl
      obtain ⟨⟨pu, cu, hu⟩, hO⟩ := hR.s4 d4
      simp only [hu] at hK ⊢
      have hbu := hR.build
      rw [hu] at hbu
      go_simp
      exact hK _ _ ⟨_, rfl, trivial, hbu, trivial⟩
    refine Ord.each_cons (fun D xs w2 hD hC hP hR hA K' hK => ?_) ?_
    ·
      clear hA
      have d5 : D 5 = true := hP { on := 5, ground := .data } (by simp) rfl
      have d4 : D 4 = true := hP { on := 4, ground := .chain } (by simp) rfl
      obtain ⟨⟨pu, cu, hu⟩, hO⟩ := hR.s4 d4
      have x5 := hR.s5 d5
      rw [hu] at x5
      simp only [x5, hu] at hK ⊢
      have h0 := hR.s6
      have hD6 : D 6 = false := hD
      rw [hD6] at h0
      have c0 := blk_cell h0 0 (v := .int .u64 0) rfl
      have c1 := blk_cell h0 1 (v := .slice none 0 0) rfl
      have f0 := blk_free h0 0
      have f1 := blk_free h0 1
      have hst := hR.store d4 hD6 HV.out undef
      rw [hu] at hst
      go_simp
      exact hK _ _ ⟨undef, rfl, trivial, hst, trivial⟩
    exact Ord.each_nil
  case hend =>
    intro D xs w9 hR hF
    have d4 := (hF 4 (by decide)).1
    have d6 := (hF 6 (by decide)).1
    obtain ⟨⟨pu, cu, hu⟩, hO⟩ := hR.s4 d4
    have h6 := hR.s6
    rw [d6, if_pos rfl] at h6
    have hbb := hR.below
    generalize xs 0 = y0
    generalize xs 1 = y1
    generalize xs 2 = y2
    generalize xs 3 = y3
    generalize xs 5 = y5
    generalize xs 4 = y4 at *
    have HE : Hid (_ ∧ _ ∧ _) := ⟨hO, h6, hbb⟩
    clear hF hR d4 d6 hO h6 hbb
    go_wp2_with fail
    refine bodyPost_ret (results_cell_row rfl _ _ (Q + 1) 59 _ _ _ rfl HE.out.2.1 Tryz.underlying59 rfl (by kernel_rfl)) rfl ?_
    exact ⟨y4, rfl, by rw [← HQ.out]; exact HE.out.1.from (by omega), by rw [← HQ.out]; exact HB.out.trans HE.out.2.2⟩
end Go.Proofs.YtbpodmallknhfaaGreat
namespace Go.Proofs.YtbpodmallknhfaaGreat
open Go.RowKit
structure RdR (W : World) (Q B m1 m2 P S b N L cnt hand mp : Nat) (F : List Fr) (d : Dk.Dev) (k e : Nat) (l : List Nat) (D : Nat → Bool) (xs : Nat → Value) (w : World) : Prop where
  below : Below Q W w
  sz : Q + 1 ≤ w.heap.size
  row : PmRow w P B S b N L cnt hand mp F
  dev : PDev w B m1 m2 d
  s0 : D 12 = false → w.heap[Q]? = some (.cells pp0 59 (0, 0))
  s1 : D 12 = true → ∃ u, (∃ p c, u = .slice p l.length c) ∧ Own (Q + 1) w u l ∧ xs 12 = .tuple #[.agg #[.int .u64 (k : Int), u], .int .i64 (e : Int)] ∧ (D 13 = true → xs 13 = .agg #[.int .u64 (k : Int), u]) ∧ (D 14 = true → xs 14 = .int .i64 (e : Int)) ∧ w.heap[Q]? = some (.cells (if D 15 then #[.int .u64 (k : Int), u] else pp0) 59 (0, 0)) ∧ (D 16 = true → xs 16 = .int .i64 (e : Int))
def RdF (B P b : Nat) (n : Int) (j : Nat) (u : Value) (_ : World) : Prop :=
  match j with
  | 0 => u = .pointer (some ⟨P, 0, none⟩)
  | 1 => u = .pointer (some ⟨P, 0, none⟩)
  | 2 => u = .pointer (some ⟨P, 0, none⟩)
  | 3 => u = .pointer (some ⟨P, 0, none⟩)
  | 4 => u = .pointer (some ⟨B, 0, none⟩)
  | 5 => u = .pointer (some ⟨P, 0, none⟩)
  | 6 => u = .pointer (some ⟨P, 0, none⟩)
  | 7 => u = .pointer (some ⟨P, 0, none⟩)
  | 8 => u = .pointer (some ⟨P, 1, none⟩)
  | 9 => u = .pointer (some ⟨P, 2, none⟩)
  | 10 => u = .int .i64 (b : Int)
  | 11 => u = .int .i64 n
  | _ => True
section
variable {W : World} {Q B m1 m2 P S b N L cnt hand mp : Nat} {F : List Fr} {d : Dk.Dev} {k e : Nat} {l : List Nat} {D : Nat → Bool} {xs : Nat → Value} {w : World}
theorem RdR.quiet (h : RdR W Q B m1 m2 P S b N L cnt hand mp F d k e l D xs w) (j : Nat) (v : Value) (hj : j < 12) : RdR W Q B m1 m2 P S b N L cnt hand mp F d k e l (Ord.wth D j) (Ord.set xs j v) w := by
  have a : ∀ i, 12 ≤ i → Ord.wth D j i = D i := fun i hi => pwth_ne D (by omega)
  have x : ∀ i, 12 ≤ i → Ord.set xs j v i = xs i := fun i hi => pset_ne xs v (by omega)
  refine ⟨h.below, h.sz, h.row, h.dev, fun e => h.s0 (by rw [← a 12 (by omega)]; exact e), fun e => ?_⟩
  rw [a 12 (by omega)] at e
  rw [a 13 (by omega), a 14 (by omega), a 15 (by omega), a 16 (by omega), x 12 (by omega), x 13 (by omega), x 14 (by omega), x 16 (by omega)]
  exact h.s1 e
theorem RdR.call (h : RdR W Q B m1 m2 P S b N L cnt hand mp F d k e l D xs w) {ops : List Oper} (hC : Ord.closed ops D) (hD : D 12 = false) (w13 : Ord.waits ops 13 12 = true) (w14 : Ord.waits ops 14 12 = true) (w15 : Ord.waits ops 15 13 = true) (w16 : Ord.waits ops 16 14 = true) {u : Value} {w' : World} (hO : Own w.heap.size w' u l) (hb : Below w.heap.size w w') :
    RdR W Q B m1 m2 P S b N L cnt hand mp F d k e l (Ord.wth D 12) (Ord.set xs 12 (.tuple #[.agg #[.int .u64 (k : Int), u], .int .i64 (e : Int)])) w' := by
  have no : ∀ i j, Ord.waits ops i j = true → D j = false → D i = false := fun i j hw hj => by
    cases e : D i with
    | false => rfl
    | true => have := Ord.closed_at hC i j hw e; rw [hj] at this; cases this
  have d13 := no 13 12 w13 hD
  have d14 := no 14 12 w14 hD
  have d15 := no 15 13 w15 d13
  have d16 := no 16 14 w16 d14
  obtain ⟨p, c, hu, -⟩ := hO.bts.form
  have hsz := h.sz
  refine ⟨h.below.trans (hb.mono (by omega)), Nat.le_trans h.sz hb.size, h.row.below hb, h.dev.below hb, fun e => ?_, fun _ => ⟨u, ⟨p, c, hu⟩, hO.from (by omega), if_pos rfl, fun e => ?_, fun e => ?_, ?_, fun e => ?_⟩⟩
  · rw [show Ord.wth D 12 12 = true from if_pos rfl] at e; cases e
  · rw [pwth_ne D (show 13 ≠ 12 by decide), d13] at e; cases e
  · rw [pwth_ne D (show 14 ≠ 12 by decide), d14] at e; cases e
  · rw [pwth_ne D (show 15 ≠ 12 by decide), d15]
    exact (hb.block Q (by omega)).trans (h.s0 hD)
  · rw [pwth_ne D (show 16 ≠ 12 by decide), d16] at e; cases e
theorem RdR.at13 (h : RdR W Q B m1 m2 P S b N L cnt hand mp F d k e l D xs w) (hD : D 12 = true) {u : Value} (hu : xs 12 = .tuple #[.agg #[.int .u64 (k : Int), u], .int .i64 (e : Int)]) : RdR W Q B m1 m2 P S b N L cnt hand mp F d k e l (Ord.wth D 13) (Ord.set xs 13 (.agg #[.int .u64 (k : Int), u])) w := by
  refine ⟨h.below, h.sz, h.row, h.dev, fun e => ?_, fun _ => ?_⟩
  · rw [pwth_ne D (show 12 ≠ 13 by decide), hD] at e; cases e
  · obtain ⟨u', h1, h2, h3, -, h5, h6, h7⟩ := h.s1 hD
    rw [hu] at h3
    simp only [Value.tuple.injEq, Array.mk.injEq, List.cons.injEq, Value.agg.injEq, and_true, true_and] at h3
    subst h3
    rw [pset_ne xs _ (show 12 ≠ 13 by decide), pset_ne xs _ (show 14 ≠ 13 by decide), pset_ne xs _ (show 16 ≠ 13 by decide), pwth_ne D (show 14 ≠ 13 by decide), pwth_ne D (show 15 ≠ 13 by decide), pwth_ne D (show 16 ≠ 13 by decide)]
    exact ⟨u, h1, h2, hu, fun _ => if_pos rfl, h5, h6, h7⟩
theorem RdR.at14 (h : RdR W Q B m1 m2 P S b N L cnt hand mp F d k e l D xs w) (hD : D 12 = true) : RdR W Q B m1 m2 P S b N L cnt hand mp F d k e l (Ord.wth D 14) (Ord.set xs 14 (.int .i64 (e : Int))) w := by
  refine ⟨h.below, h.sz, h.row, h.dev, fun e => ?_, fun _ => ?_⟩
  · rw [pwth_ne D (show 12 ≠ 14 by decide), hD] at e; cases e
  · obtain ⟨u', h1, h2, h3, h4, h5, h6, h7⟩ := h.s1 hD
    rw [pset_ne xs _ (show 12 ≠ 14 by decide), pset_ne xs _ (show 13 ≠ 14 by decide), pset_ne xs _ (show 16 ≠ 14 by decide), pwth_ne D (show 13 ≠ 14 by decide), pwth_ne D (show 15 ≠ 14 by decide), pwth_ne D (show 16 ≠ 14 by decide)]
    exact ⟨u', h1, h2, h3, h4, fun _ => if_pos rfl, h6, h7⟩
theorem RdR.at16 (h : RdR W Q B m1 m2 P S b N L cnt hand mp F d k e l D xs w) (hD : D 12 = true) : RdR W Q B m1 m2 P S b N L cnt hand mp F d k e l (Ord.wth D 16) (Ord.set xs 16 (.int .i64 (e : Int))) w := by
  refine ⟨h.below, h.sz, h.row, h.dev, fun e => ?_, fun _ => ?_⟩
  · rw [pwth_ne D (show 12 ≠ 16 by decide), hD] at e; cases e
  · obtain ⟨u', h1, h2, h3, h4, h5, h6, h7⟩ := h.s1 hD
    rw [pset_ne xs _ (show 12 ≠ 16 by decide), pset_ne xs _ (show 13 ≠ 16 by decide), pset_ne xs _ (show 14 ≠ 16 by decide), pwth_ne D (show 13 ≠ 16 by decide), pwth_ne D (show 14 ≠ 16 by decide), pwth_ne D (show 15 ≠ 16 by decide)]
    exact ⟨u', h1, h2, h3, h4, h5, h6, fun _ => if_pos rfl⟩
theorem RdR.at15 (h : RdR W Q B m1 m2 P S b N L cnt hand mp F d k e l D xs w) (hD : D 12 = true) (h15 : D 15 = false) {u : Value} (hu : xs 12 = .tuple #[.agg #[.int .u64 (k : Int), u], .int .i64 (e : Int)]) (hP : P ≠ Q) (hQ : ∀ i, DS B m1 m2 i → i ≠ Q) (v : Value) :
    RdR W Q B m1 m2 P S b N L cnt hand mp F d k e l (Ord.wth D 15) (Ord.set xs 15 v) ((w.setCell ⟨Q, 0, none⟩ (.int .u64 (k : Int))).setCell ⟨Q, 1, none⟩ u) := by
  have ht : Touch (fun j => j = Q) w ((w.setCell ⟨Q, 0, none⟩ (.int .u64 (k : Int))).setCell ⟨Q, 1, none⟩ u) := (Touch.set (S := fun j => j = Q) Q 0 _ rfl).trans (Touch.set Q 1 _ rfl)
  obtain ⟨u', h1, h2, h3, h4, h5, h6, h7⟩ := h.s1 hD
  rw [hu] at h3
  simp only [Value.tuple.injEq, Array.mk.injEq, List.cons.injEq, Value.agg.injEq, and_true, true_and] at h3
  subst h3
  rw [h15] at h6
  refine ⟨h.below.trans (ht.below (fun j hj => by omega) (by have := h.below.size; have := h.sz; omega)), Nat.le_trans h.sz ht.size, h.row.touch ht hP, h.dev.keep ht hQ, fun e => ?_, fun _ => ?_⟩
  · rw [pwth_ne D (show 12 ≠ 15 by decide), hD] at e; cases e
  · rw [pset_ne xs _ (show 12 ≠ 15 by decide), pset_ne xs _ (show 13 ≠ 15 by decide), pset_ne xs _ (show 14 ≠ 15 by decide), pset_ne xs _ (show 16 ≠ 15 by decide), pwth_ne D (show 13 ≠ 15 by decide), pwth_ne D (show 14 ≠ 15 by decide), pwth_ne D (show 16 ≠ 15 by decide)]
    refine ⟨u, h1, own_touch h2 ht fun j hj e => by omega, hu, h4, h5, ?_, h7⟩
    rw [show Ord.wth D 15 15 = true from if_pos rfl, if_pos rfl]
    exact blk_set (i := 1) (blk_set (i := 0) h6 (.int .u64 (k : Int))) u
end
theorem rd_results (tmps : Array Value) (w : World) (g : Nat) (x0 x1 e : Value) (h0 : tmps.getD 4 undef = .pointer (some ⟨g, 0, none⟩)) (h1 : tmps.getD 5 undef = e)
    (r0 : w.heap[g]? = some (.cells #[x0, x1] 59 (0, 0))) :
    (results Tryz.f49 tmps).run Tryz.prog w = .ok (.tuple #[.agg #[x0, x1], e]) w := by
  have hr : Tryz.f49.results = #[.cell 4 59, .tmp 5] := rfl
  have h0' : tmps[4]?.getD undef = .pointer (some ⟨g, 0, none⟩) := by simpa using h0
  have h1' : tmps[5]?.getD undef = e := by simpa using h1
  have l0 := run_loadVar_row (P := Tryz.prog) w g 59 _ _ _ _ r0 Tryz.underlying59 rfl (by kernel_rfl)
  simp [results, hr, h0', h1', asAddr, l0]
set_option maxHeartbeats 3200000 in
set_option maxRecDepth 20000 in
theorem pmRead_any {w : World} {B m1 m2 P S b N L cnt hand mp : Nat} {F : List Fr} {d : Dk.Dev} (h : PmRow w P B S b N L cnt hand mp F) (hP : PDev w B m1 m2 d) (n : Int) (hn : n ≤ 9223372036854775807) :
    Calls Tryz.prog 49 #[.pointer (some ⟨P, 0, none⟩), .int .i64 n] w fun e w' => ∃ u, e = .returned (.tuple #[PgV (Pg.read d (b : Int) n).1.1 u, .int .i64 ((Pg.read d (b : Int) n).2 : Nat)]) ∧ Own w.heap.size w' u (Pg.read d (b : Int) n).1.2 ∧ Below w.heap.size w w' := by
  obtain ⟨Q, hQ⟩ : ∃ Q, Q = w.heap.size := ⟨_, rfl⟩
  obtain ⟨W, hW⟩ : ∃ W, W = w.alloc (.cells #[.int .u64 0, .slice none 0 0] 59) := ⟨_, rfl⟩
  have hb : Below Q w W := by rw [hW, hQ]; exact (Below.refl _ _).alloc (Nat.le_refl _) _
  have hr0 : W.heap[Q]? = some (.cells pp0 59 (0, 0)) := by rw [hW, hQ]; exact heap_alloc_last _ _
  have hPQ : P ≠ Q := by have := h.lt; omega
  have hDQ : ∀ i, DS B m1 m2 i → i ≠ Q := fun i hi e => by have := hP.lt i hi; omega
  obtain ⟨k, hk⟩ : ∃ k, k = (Pg.read d (b : Int) n).1.1 := ⟨_, rfl⟩
  obtain ⟨l, hl⟩ : ∃ l, l = (Pg.read d (b : Int) n).1.2 := ⟨_, rfl⟩
  obtain ⟨er, her⟩ : ∃ er, er = (Pg.read d (b : Int) n).2 := ⟨_, rfl⟩
  have hrd : ∀ w2, PDev w2 B m1 m2 d → Calls Tryz.prog 75 #[.pointer (some ⟨B, 0, none⟩), .int .i64 (b : Int), .int .i64 n] w2 fun e w' => ∃ u, e = .returned (.tuple #[PgV k u, .int .i64 (er : Int)]) ∧ Own w2.heap.size w' u l ∧ Below w2.heap.size w2 w' := fun w2 hp => by rw [hk, hl, her]; exact pgRead_any hp (b : Int) n hn
  have HRD := Lib.hid hrd
  rw [← hk, ← hl, ← her]
  have HR0 : Hid (∀ xs, RdR W Q B m1 m2 P S b N L cnt hand mp F d k er l (fun _ => false) xs W.drew) := fun xs => by
    have hs : W.heap.size = Q + 1 := by rw [hW, hQ]; simp
    exact ⟨(Below.refl _ _).go1, by show _ ≤ W.heap.size; omega, (h.below (by rw [← hQ]; exact hb)).below (Below.refl _ _).go1, (hP.below (by rw [← hQ]; exact hb)).below (Below.refl _ _).go1, fun _ => hr0, fun e => by cases e⟩
  have HQ := Lib.hid hQ
  have HB := Lib.hid hb
  have HPQ := Lib.hid hPQ
  have HDQ := Lib.hid hDQ
  clear h hP hn hb hr0 hPQ hDQ hk hl her hrd
  go_enter Tryz.func49, Tryz.ntmps49
  go_upto_region 1 with (fail)
  rw [← hW, ← hQ]
  clear hW hQ
  refine Ord.walk (RdF B P b n) (fun D xs w' => RdR W Q B m1 m2 P S b N L cnt hand mp F d k er l D xs w') (fun _ _ => True) (by kernel_rfl) (by kernel_rfl) ?fr ?hfr ?hT (fun xs => HR0.out xs) ?he ?hend
  case hfr =>
    intro xs
    simp only [Ord.fill, Act.put, List.setIfInBounds_toArray, List.set_cons_zero, List.set_cons_succ]
    rfl
  case hT =>
    intro k v wa wb ht hF
    exact hF
  case he =>
    refine Ord.each_cons (fun D xs w2 hD hC hP hR hA K' hK => ?_) ?_
    ·
      clear hA
      go_simp
      exact hK _ _ ⟨_, rfl, trivial, hR.quiet 0 _ (by decide), rfl⟩
    refine Ord.each_cons (fun D xs w2 hD hC hP hR hA K' hK => ?_) ?_
    ·
      have q0 := Ord.ahead_get _ hA 0 (by decide)
      simp only [RdF] at q0
      simp only [q0] at hK ⊢
      clear hA
      go_simp
      exact hK _ _ ⟨_, rfl, trivial, hR.quiet 1 _ (by decide), rfl⟩
    refine Ord.each_cons (fun D xs w2 hD hC hP hR hA K' hK => ?_) ?_
    ·
      have q1 := Ord.ahead_get _ hA 1 (by decide)
      simp only [RdF] at q1
      simp only [q1] at hK ⊢
      clear hA
      go_simp
      exact hK _ _ ⟨_, rfl, trivial, hR.quiet 2 _ (by decide), rfl⟩
    refine Ord.each_cons (fun D xs w2 hD hC hP hR hA K' hK => ?_) ?_
    ·
      have q2 := Ord.ahead_get _ hA 2 (by decide)
      simp only [RdF] at q2
      simp only [q2] at hK ⊢
      clear hA
      go_simp
      exact hK _ _ ⟨_, rfl, trivial, hR.quiet 3 _ (by decide), rfl⟩
    refine Ord.each_cons (fun D xs w2 hD hC hP hR hA K' hK => ?_) ?_
    ·
      have q3 := Ord.ahead_get _ hA 3 (by decide)
      simp only [RdF] at q3
      simp only [q3] at hK ⊢
      clear hA
      have k0 := hR.row.c0
      go_simp
      exact hK _ _ ⟨_, rfl, trivial, hR.quiet 4 _ (by decide), rfl⟩
    refine Ord.each_cons (fun D xs w2 hD hC hP hR hA K' hK => ?_) ?_
    ·
      clear hA
      go_simp
      exact hK _ _ ⟨_, rfl, trivial, hR.quiet 5 _ (by decide), rfl⟩
    refine Ord.each_cons (fun D xs w2 hD hC hP hR hA K' hK => ?_) ?_
    ·
      have q5 := Ord.ahead_get _ hA 5 (by decide)
      simp only [RdF] at q5
      simp only [q5] at hK ⊢
      clear hA
      go_simp
      exact hK _ _ ⟨_, rfl, trivial, hR.quiet 6 _ (by decide), rfl⟩
    refine Ord.each_cons (fun D xs w2 hD hC hP hR hA K' hK => ?_) ?_
    ·
      have q6 := Ord.ahead_get _ hA 6 (by decide)
      simp only [RdF] at q6
      simp only [q6] at hK ⊢
      clear hA
      go_simp
      exact hK _ _ ⟨_, rfl, trivial, hR.quiet 7 _ (by decide), rfl⟩
    refine Ord.each_cons (fun D xs w2 hD hC hP hR hA K' hK => ?_) ?_
    ·
      have q7 := Ord.ahead_get _ hA 7 (by decide)
      simp only [RdF] at q7
      simp only [q7] at hK ⊢
      clear hA
      go_simp
      exact hK _ _ ⟨_, rfl, trivial, hR.quiet 8 _ (by decide), rfl⟩
    refine Ord.each_cons (fun D xs w2 hD hC hP hR hA K' hK => ?_) ?_
    ·
      have q8 := Ord.ahead_get _ hA 8 (by decide)
      simp only [RdF] at q8
      simp only [q8] at hK ⊢
      clear hA
      go_simp
      exact hK _ _ ⟨_, rfl, trivial, hR.quiet 9 _ (by decide), rfl⟩
    refine Ord.each_cons (fun D xs w2 hD hC hP hR hA K' hK => ?_) ?_
    ·
      have q9 := Ord.ahead_get _ hA 9 (by decide)
      simp only [RdF] at q9
      simp only [q9] at hK ⊢
      clear hA
      have k2 := hR.row.c2
      go_simp
      exact hK _ _ ⟨_, rfl, trivial, hR.quiet 10 _ (by decide), rfl⟩
    refine Ord.each_cons (fun D xs w2 hD hC hP hR hA K' hK => ?_) ?_
    ·
      clear hA
      go_simp
      exact hK _ _ ⟨_, rfl, trivial, hR.quiet 11 _ (by decide), rfl⟩
    refine Ord.each_cons (fun D xs w2 hD hC hP hR hA K' hK => ?_) ?_
    ·
      have q4 := Ord.ahead_get _ hA 4 (by decide)
      simp only [RdF] at q4
      have q10 := Ord.ahead_get _ hA 10 (by decide)
      simp only [RdF] at q10
      have q11 := Ord.ahead_get _ hA 11 (by decide)
      simp only [RdF] at q11
      simp only [q4, q10, q11] at hK ⊢
      clear hA
      have hrd := HRD.out w2 hR.dev
      go_simp
      refine hrd.mono ?_
      rintro e w3 ⟨u, rfl, hO, hb⟩
      exact hK _ _ ⟨_, rfl, trivial, hR.call hC hD (by decide) (by decide) (by decide) (by decide) hO hb, trivial⟩
    refine Ord.each_cons (fun D xs w2 hD hC hP hR hA K' hK => ?_) ?_
    ·
      clear hA
      have d12 : D 12 = true := hP { on := 12, ground := .data } (by simp) rfl
      obtain ⟨u, ⟨p, c, hu⟩, hO, h12, h13, h14, h15, h16⟩ := hR.s1 d12
      subst hu
      simp only [h12] at hK ⊢
      have hq := hR.at13 d12 h12
      go_simp
      exact hK _ _ ⟨_, rfl, trivial, hq, trivial⟩
    refine Ord.each_cons (fun D xs w2 hD hC hP hR hA K' hK => ?_) ?_
    ·
      clear hA
      have d12 : D 12 = true := hP { on := 12, ground := .data } (by simp) rfl
      obtain ⟨u, ⟨p, c, hu⟩, hO, h12, h13, h14, h15, h16⟩ := hR.s1 d12
      subst hu
      simp only [h12] at hK ⊢
      have hq := hR.at14 d12
      go_simp
      exact hK _ _ ⟨_, rfl, trivial, hq, trivial⟩
    refine Ord.each_cons (fun D xs w2 hD hC hP hR hA K' hK => ?_) ?_
    ·
      clear hA
      have d13 : D 13 = true := hP { on := 13, ground := .data } (by simp) rfl
      have d12 : D 12 = true := Ord.closed_at hC 13 12 (by decide) d13
      obtain ⟨u, ⟨p, c, hu⟩, hO, h12, h13, h14, h15, h16⟩ := hR.s1 d12
      subst hu
      have e13 := h13 d13
      simp only [e13, h12] at hK ⊢
      have hD15 : D 15 = false := hD
      rw [hD15] at h15
      have c0 := blk_cell h15 0 (v := .int .u64 0) rfl
      have c1 := blk_cell h15 1 (v := .slice none 0 0) rfl
      have f0 := blk_free h15 0
      have f1 := blk_free h15 1
      have hst := hR.at15 d12 hD15 h12 HPQ.out HDQ.out undef
      go_simp
      exact hK _ _ ⟨undef, rfl, trivial, hst, trivial⟩
    refine Ord.each_cons (fun D xs w2 hD hC hP hR hA K' hK => ?_) ?_
    ·
      clear hA
      have d14 : D 14 = true := hP { on := 14, ground := .data } (by simp) rfl
      have d12 : D 12 = true := Ord.closed_at hC 14 12 (by decide) d14
      obtain ⟨u, ⟨p, c, hu⟩, hO, h12, h13, h14, h15, h16⟩ := hR.s1 d12
      subst hu
      have e14 := h14 d14
      simp only [e14, h12] at hK ⊢
      have hq := hR.at16 d12
      go_simp
      exact hK _ _ ⟨_, rfl, trivial, hq, trivial⟩
    exact Ord.each_nil
  case hend =>
    intro D xs w9 hR hF
    have d12 := (hF 12 (by decide)).1
    have d15 := (hF 15 (by decide)).1
    have d16 := (hF 16 (by decide)).1
    obtain ⟨u, ⟨p, c, hu⟩, hO, h12, h13, h14, h15, h16⟩ := hR.s1 d12
    have h16 := h16 d16
    rw [d15, if_pos rfl] at h15
    rw [h16]
    have HE : Hid (_ ∧ _ ∧ _) := ⟨hO, h15, hR.below⟩
    generalize xs 0 = y0
    generalize xs 1 = y1
    generalize xs 2 = y2
    generalize xs 3 = y3
    generalize xs 4 = y4
    generalize xs 5 = y5
    generalize xs 6 = y6
    generalize xs 7 = y7
    generalize xs 8 = y8
    generalize xs 9 = y9
    generalize xs 10 = y10
    generalize xs 11 = y11
    generalize xs 12 = y12
    generalize xs 13 = y13
    generalize xs 14 = y14
    clear hF hR d12 d15 d16 hO h12 h13 h14 h15 h16 hu
    go_wp2_with fail
    refine bodyPost_ret (rd_results _ _ Q _ _ _ rfl rfl HE.out.2.1) rfl ?_
    exact ⟨u, rfl, by rw [← HQ.out]; exact HE.out.1.from (by omega), by rw [← HQ.out]; exact HB.out.trans HE.out.2.2⟩
end Go.Proofs.YtbpodmallknhfaaGreat
namespace Go.Proofs.YtbpodmallknhfaaGreat
open Go.RowKit
def Po.loaded (s : Po.S) (H : List (Option Nat)) (n : Nat) (x : Po.Pg) : Po.S := { s with held := heldL H, now := Po.upd s.now n x, disk := Po.upd s.disk n x }
section
variable {w w' : World} {B L P S b N hand mp : Nat} {F : List Fr} {H H' : List (Option Nat)} {s : Po.S}
theorem PmIs.same (h : PmIs w B L P S b N hand mp F H s) {T : Nat → Prop} (ht : Touch T w w') (hT : ∀ j, PmX P mp F j → j ≠ P → ¬ T j) {F' : List Fr} {hand' : Nat} (hrow : PmRow w' P B S b N L s.frames hand' mp F') (hh : hand' < s.frames) (hs : FSame F F') (hz : ∀ i, s.held.length ≤ i → fa F' i = Fr.zero) : PmIs w' B L P S b N hand' mp F' H s := by
  have hp : ∀ i, (fa F' i).page = (fa F i).page := fun i => by obtain ⟨x, e⟩ := hs i; rw [e]
  refine ⟨hrow, h.map.touch ht (hT mp (Or.inr (Or.inl rfl)) (Ne.symm h.ne)), h.hlen, h.ar, h.cnt, hh, h.held, fun k i hk => ?_, fun i hi => ?_, fun i hi => ?_, hz, h.good, h.n16, h.ne, fun i g hg => ?_⟩
  · rw [hp]; exact h.into k i hk
  · rw [hp]; exact h.onto i hi
  · obtain ⟨x, e⟩ := hs i
    have h1 := (h.fr i hi).touch ht fun g hg hT' => hT g (Or.inr (Or.inr ⟨i, hg⟩)) (h.bod i g hg).1 hT'
    rw [e]
    exact ⟨h1.lsn, h1.body, h1.pins, h1.first, h1.fl⟩
  · obtain ⟨x, e⟩ := hs i
    rw [e] at hg
    exact h.bod i g hg
theorem pmX_same {F' : List Fr} (hs : FSame F F') : PmX P mp F' = PmX P mp F := by
  funext j
  have e : ∀ i, (fa F' i).u = (fa F i).u := fun i => by obtain ⟨x, e⟩ := hs i; rw [e]
  refine propext (or_congr Iff.rfl (or_congr Iff.rfl ⟨?_, ?_⟩))
  · rintro ⟨k, hk⟩; exact ⟨k, by rw [← e]; exact hk⟩
  · rintro ⟨k, hk⟩; exact ⟨k, by rw [e]; exact hk⟩
theorem not_held (h : PmIs w B L P S b N hand mp F H s) {n : Nat} (hn : H.getD n none = none) : n ∉ s.held ∧ s.pins n = 0 ∧ s.first n = none := by
  have h1 : n ∉ s.held := fun hm => (heldL_mem H n).1 (by rw [← h.held]; exact hm) hn
  refine ⟨h1, ?_, h.good.first_of h1⟩
  rcases Nat.eq_zero_or_pos (s.pins n) with h2 | h2
  · exact h2
  · exact absurd (h.good.pinned n h2) h1
theorem held_at (h : PmIs w B L P S b N hand mp F H s) {k : Nat} (hk : k ∈ s.held) : ∃ i, H.getD k none = some i ∧ i < s.held.length ∧ (fa F i).page = k := by
  have h1 := (heldL_mem H k).1 (by rw [← h.held]; exact hk)
  cases e : H.getD k none with
  | none => exact absurd e h1
  | some i => exact ⟨i, rfl, h.into k i e⟩
theorem good_load (h : PmIs w B L P S b N hand mp F H s) {i n : Nat} {x : Po.Pg} (hi : i ≤ s.held.length) (hif : i < s.frames) (hn : n < N) (hnh : H.getD n none = none) (hx : Po.PgOk x)
    (hc : i < s.held.length → (fa F i).pins = 0 ∧ (fa F i).dirty = false) (hl : H'.length = N)
    (h1 : H'.getD n none = some i) (h2 : ∀ k, k ≠ n → H'.getD k none = if H.getD k none = some i then none else H.getD k none) (h3 : (heldL H').length = if i < s.held.length then s.held.length else s.held.length + 1) :
    Po.Good (Po.loaded s H' n x) ∧ n ∈ heldL H' := by
  obtain ⟨n1, n2, n3⟩ := not_held h hnh
  have hcn := h.cnt
  have hle : s.held.length ≤ (heldL H').length := by rw [h3]; split <;> omega
  have hle2 : (heldL H').length ≤ s.frames := by rw [h3]; have := h.good.few; split <;> omega
  have hkeep : ∀ k, k ∈ s.held → (fa F i).page ≠ k ∨ s.held.length ≤ i → k ≠ n → k ∈ heldL H' := fun k hk hpk hkn => by
    obtain ⟨j, e1, e2, e3⟩ := held_at h hk
    refine (heldL_mem H' k).2 ?_
    rw [h2 k hkn, e1, if_neg]
    · exact fun c => by cases c
    · intro c
      have c : j = i := Option.some.inj c
      subst c
      rcases hpk with hpk | hpk
      · exact hpk e3
      · omega
  have hmem : n ∈ heldL H' := (heldL_mem H' n).2 (by rw [h1]; exact fun c => by cases c)
  refine ⟨⟨(heldL_rising H').1, hle2, fun k hk => ?_, fun k hk => ?_, fun k hk => ?_, fun k hk => ?_, fun k => ?_, fun k => ?_⟩, hmem⟩
  · have := (heldL_rising H').2 k hk
    rw [hl] at this
    show (k : Int) < s.ar.pages
    rw [h.ar]
    show (k : Int) < (N : Int)
    omega
  · have hk : 0 < s.pins k := hk
    have hm := h.good.pinned k hk
    refine hkeep k hm ?_ fun e => by rw [e, n2] at hk; omega
    rcases Nat.lt_or_ge i s.held.length with hl' | hl'
    · refine Or.inl fun e => ?_
      have := (h.fr i hl').pins
      rw [e, (hc hl').1] at this
      omega
    · exact Or.inr hl'
  · have hk : s.first k ≠ none := hk
    have hm := h.good.dirty k hk
    refine hkeep k hm ?_ fun e => hk (by rw [e, n3])
    rcases Nat.lt_or_ge i s.held.length with hl' | hl'
    · refine Or.inl fun e => hk ?_
      have := (h.fr i hl').first
      rw [e, (hc hl').2] at this
      exact this
    · exact Or.inr hl'
  · show Po.upd s.disk n x k = Po.upd s.now n x k
    unfold Po.upd
    split
    · rfl
    · exact h.good.clean k hk
  · show Po.PgOk (Po.upd s.now n x k)
    unfold Po.upd
    split
    · exact hx
    · exact h.good.ok k
  · show Po.PgOk (Po.upd s.disk n x k)
    unfold Po.upd
    split
    · exact hx
    · exact h.good.okd k
theorem PmIs.load (h : PmIs w B L P S b N hand mp F H s) {T : Nat → Prop} (ht : Touch T w w') (hT : ∀ j, PmX P mp F j → j ≠ P → j ≠ mp → ¬ T j) {i n : Nat} {x : Po.Pg} {u : Value} (hi : i ≤ s.held.length) (hif : i < s.frames) (hn : n < N) (hnh : H.getD n none = none) (hx : Po.PgOk x) (hB : Bts w' u x.2) (hu : ∀ g, u.ownBlock = some g → g ≠ P ∧ g ≠ mp)
    (hc : i < s.held.length → (fa F i).pins = 0 ∧ (fa F i).dirty = false) {used : Bool} (hrow : PmRow w' P B S b N L s.frames hand mp (F.set i ⟨n, x.1, u, 0, false, 0, used⟩)) (hmap : HmAt w' mp H') (hl : H'.length = N)
    (h1 : H'.getD n none = some i) (h2 : ∀ k, k ≠ n → H'.getD k none = if H.getD k none = some i then none else H.getD k none) (h3 : (heldL H').length = if i < s.held.length then s.held.length else s.held.length + 1) :
    PmIs w' B L P S b N hand mp (F.set i ⟨n, x.1, u, 0, false, 0, used⟩) H' (Po.loaded s H' n x) := by
  obtain ⟨n1, n2, n3⟩ := not_held h hnh
  have hcn := h.cnt
  have hiF : i < F.length := by rw [h.row.len]; omega
  have hfa := fa_set F hiF ⟨n, x.1, u, 0, false, 0, used⟩
  have hpn : ∀ j, j < s.held.length → (fa F j).page ≠ n := fun j hj e => by
    have := h.onto j hj
    rw [e, hnh] at this; cases this
  have hle : s.held.length ≤ (heldL H').length := by rw [h3]; split <;> omega
  have hle2 : (heldL H').length ≤ s.frames := by rw [h3]; have := h.good.few; split <;> omega
  have hkeep : ∀ k, k ∈ s.held → (fa F i).page ≠ k ∨ s.held.length ≤ i → k ≠ n → k ∈ heldL H' := fun k hk hpk hkn => by
    obtain ⟨j, e1, e2, e3⟩ := held_at h hk
    refine (heldL_mem H' k).2 ?_
    rw [h2 k hkn, e1, if_neg]
    · exact fun c => by cases c
    · intro c
      have c : j = i := Option.some.inj c
      subst c
      rcases hpk with hpk | hpk
      · exact hpk e3
      · omega
  have hmem : n ∈ heldL H' := (heldL_mem H' n).2 (by rw [h1]; exact fun c => by cases c)
  refine ⟨hrow, hmap, hl, h.ar, h.cnt, h.hand, rfl, fun k j hk => ?_, fun j hj => ?_, fun j hj => ?_, fun j hj => ?_, ?_, h.n16, h.ne, fun j g hg => ?_⟩
  · show j < (heldL H').length ∧ _
    by_cases hkn : k = n
    · subst hkn
      rw [h1] at hk
      cases hk
      rw [hfa, if_pos rfl]
      exact ⟨by rw [h3]; split <;> omega, rfl⟩
    · rw [h2 k hkn] at hk
      split at hk
      · cases hk
      · next hne =>
        obtain ⟨a, b⟩ := h.into k j hk
        rw [hfa, if_neg fun e => hne (by rw [hk, e])]
        exact ⟨by omega, b⟩
  · have hj : j < (heldL H').length := hj
    rw [hfa]
    by_cases e : j = i
    · subst e
      rw [if_pos rfl]; exact h1
    · rw [if_neg e]
      have hjl : j < s.held.length := by rw [h3] at hj; split at hj <;> omega
      have ho := h.onto j hjl
      rw [h2 _ (hpn j hjl), ho, if_neg]
      exact fun c => e (Option.some.inj c)
  · have hj : j < (heldL H').length := hj
    rw [hfa]
    by_cases e : j = i
    · subst e
      rw [if_pos rfl]
      refine ⟨by show x.1 = (Po.upd s.now n x n).1; rw [Po.upd_self], by show Bts w' u (Po.upd s.now n x n).2; rw [Po.upd_self]; exact hB, n2, n3, by show (0 : Nat) < 18446744073709551616; decide⟩
    · rw [if_neg e]
      have hjl : j < s.held.length := by rw [h3] at hj; split at hj <;> omega
      have hf := (h.fr j hjl).touch ht fun g hg hT' => hT g (Or.inr (Or.inr ⟨j, hg⟩)) (h.bod j g hg).1 (h.bod j g hg).2 hT'
      have hu : (Po.upd s.now n x) (fa F j).page = s.now (fa F j).page := Po.upd_ne _ _ (hpn j hjl)
      exact ⟨by show (fa F j).lsn = ((Po.upd s.now n x) (fa F j).page).1; rw [hu]; exact hf.lsn, by show Bts w' (fa F j).u ((Po.upd s.now n x) (fa F j).page).2; rw [hu]; exact hf.body, hf.pins, hf.first, hf.fl⟩
  · have hj : (heldL H').length ≤ j := hj
    rw [hfa, if_neg (by rw [h3] at hj; split at hj <;> omega)]
    exact h.rest j (by omega)
  · exact (good_load h hi hif hn hnh hx hc hl h1 h2 h3).1
  · rw [hfa] at hg
    split at hg
    · exact hu g hg
    · exact h.bod j g hg
end
end Go.Proofs.YtbpodmallknhfaaGreat
