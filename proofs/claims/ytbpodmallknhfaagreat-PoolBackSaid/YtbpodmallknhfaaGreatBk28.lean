/- Parts of a proof. Conditions: as each row says. -/
import Derived.Test.YtbpodmallknhfaaGreatBk05
import Derived.Test.YtbpodmallknhfaaGreatBk07
import Derived.Test.YtbpodmallknhfaaGreatBk06
import Derived.Test.YtbpodmallknhfaaGreatBk11
import Derived.Test.YtbpodmallknhfaaGreatBk10
import Derived.Test.YtbpodmallknhfaaGreatBk27
import Derived.Test.YtbpodmallknhfaaGreatBk14
import Derived.Test.YtbpodmallknhfaaGreatBk03
import Derived.Test.YtbpodmallknhfaaGreatBk16
import Derived.Test.YtbpodmallknhfaaGreatBk23
import Derived.Test.YtbpodmallknhfaaGreatBk24
import Derived.Test.YtbpodmallknhfaaGreatBk22
import Derived.Test.YtbpodmallknhfaaGreatBk17
import Derived.Laws.StructEq
import Derived.Deep.RegionWith
import Derived.RangeFuncCalls
import Derived.Maps.AppendAt
namespace Go.Proofs.YtbpodmallknhfaaGreat
open Go.RowKit
def plS (U V : Nat → Prop) (w : World) (B L : Nat) (d : Dk.Dev) (lg : Wl.S) : Prop := WlPL U V w B L d lg ∧ lg.start ≠ 0
def hdS (d : Dk.Dev) (lg : Wl.S) : Prop := Wl.Hd d lg ∧ lg.start ≠ 0
def poHw (d : Dk.Dev) (a : Po.Ar) (f : Nat → Po.Pg) : Prop := ∃ S b N, a = arN S b N ∧ Rg.Lies (Dk.size d) S b N ∧ Rg.HwN S b N d f
def poHp (d : Dk.Dev) (a : Po.Ar) (c : Nat → Po.Pg → Prop) : Prop := ∃ S b N, a = arN S b N ∧ Rg.Lies (Dk.size d) S b N ∧ Rg.HpN S b N d c
theorem arN_inj {S b N S' b' N' : Nat} (h : arN S b N = arN S' b' N') : S = S' ∧ b = b' ∧ N = N' := by
  unfold arN at h
  injection h with h1 h2 h3
  exact ⟨Int.ofNat_inj.1 h1, Int.ofNat_inj.1 h2, Int.ofNat_inj.1 h3⟩
theorem has_ar {S b N i : Nat} : (arN S b N).Has i ↔ Rg.Has S b N i := by
  unfold arN Po.Ar.Has Rg.Has
  dsimp only
  omega
theorem pl_size {U V : Nat → Prop} {w : World} {B L : Nat} {d : Dk.Dev} {lg : Wl.S} (h : WlPL U V w B L d lg) : Dk.size d ≤ 65536 := by
  obtain ⟨m1, m2, pl, wa, -, -, hP, -⟩ := h
  exact hP.own.size
theorem pl_ok {U V : Nat → Prop} {w : World} {B L : Nat} {d : Dk.Dev} {lg : Wl.S} (h : WlPL U V w B L d lg) : Dk.Ok d := by
  obtain ⟨m1, m2, pl, wa, -, -, hP, -⟩ := h
  exact hP.own.ok
theorem po_in {U V X : Nat → Prop} {w : World} {B L P n : Nat} {d : Dk.Dev} {lg : Wl.S} {s : Po.S} (h : PoIn plS PmPO poHw U V X w B L P d lg s) (hN : Wl.Near n d) : ∃ S b N hand mp F H, PmIn U V w B L P S b N hand mp F H n d lg s ∧ X = PmX P mp F := by
  obtain ⟨S, b, N, hand, mp, F, H, hpm, hX⟩ := h.own
  obtain ⟨S', b', N', e, hL, hw⟩ := h.area
  obtain ⟨rfl, rfl, rfl⟩ := arN_inj (hpm.ar.symm.trans e)
  rw [hN.sz] at hL
  refine ⟨S, b, N, hand, mp, F, H, ⟨h.log.1, hpm, hL, hw, by rw [← hX]; exact h.off, h.rule, fun i hi => h.away i ?_, hN, by rw [← hN.sz]; exact pl_size h.log.1⟩, hX⟩
  rw [hpm.ar]
  exact has_ar.2 hi
theorem in_po {U V : Nat → Prop} {w : World} {B L P S b N hand mp n : Nat} {F : List Fr} {H : List (Option Nat)} {d : Dk.Dev} {lg : Wl.S} {s : Po.S} (h : PmIn U V w B L P S b N hand mp F H n d lg s) (hst : lg.start ≠ 0) : PoIn plS PmPO poHw U V (PmX P mp F) w B L P d lg s :=
  ⟨⟨h.log, hst⟩, ⟨S, b, N, hand, mp, F, H, h.pm, rfl⟩, ⟨S, b, N, h.pm.ar, by rw [h.near.sz]; exact h.lies, h.hw⟩, h.off, h.rule, fun i hi => h.away i (by rw [h.pm.ar] at hi; exact has_ar.1 hi)⟩
theorem went_of {U V U1 V1 : Nat → Prop} {w w' : World} {B L P S b N hand mp n : Nat} {F F1 : List Fr} {H1 : List (Option Nat)} {d1 : Dk.Dev} {lg1 : Wl.S} {s1 : Po.S} (h : PmIn U1 V1 w' B L P S b N hand mp F1 H1 n d1 lg1 s1) (ht : Touch (fun j => Both U V j ∨ j = P ∨ j = mp) w w') (hu : Grew U U1 w) (hv : Grew V V1 w) (hx : Grew (PmX P mp F) (PmX P mp F1) w) (hst : lg1.start ≠ 0) :
    PoWent plS PmPO poHw U V (PmX P mp F) w B L P w' d1 lg1 s1 :=
  ⟨U1, V1, PmX P mp F1, in_po h hst, ht.mono fun j _ e => (by
    rcases e with (e | e) | e | e
    · exact Or.inl e
    · exact Or.inr (Or.inl e)
    · exact Or.inr (Or.inr (Or.inl e))
    · exact Or.inr (Or.inr (Or.inr (Or.inl e)))), hu, hv, hx⟩
theorem grew_same {X X1 : Nat → Prop} {w : World} (h : X1 = X) : Grew X X1 w := fun j hj => Or.inl (by rw [← h]; exact hj)
theorem po_okeep {X T : Nat → Prop} {w w' : World} {B L P : Nat} {s : Po.S} (h : PmPO X w B L P s) (ht : Touch T w w') (hs : ∀ i, X i → ¬ T i) : PmPO X w' B L P s := by
  obtain ⟨S, b, N, hand, mp, F, H, h1, rfl⟩ := h
  exact ⟨S, b, N, hand, mp, F, H, h1.keep ht hs, rfl⟩
theorem po_olt {X : Nat → Prop} {w : World} {B L P : Nat} {s : Po.S} (h : PmPO X w B L P s) : ∀ i, X i → i < w.heap.size := by
  obtain ⟨S, b, N, hand, mp, F, H, h1, rfl⟩ := h
  exact h1.lt
theorem po_ogood {X : Nat → Prop} {w : World} {B L P : Nat} {s : Po.S} (h : PmPO X w B L P s) : Po.Good s := by
  obtain ⟨S, b, N, hand, mp, F, H, h1, rfl⟩ := h
  exact h1.good
theorem po_hw_blank {d : Dk.Dev} {a : Po.Ar} {n : Nat} (hs : Dk.size d = n) (hf : a.Fits n) (h : ∀ i, a.Has i → d.waits.getD i none = none ∧ d.lasts.getD i [] = Dk.blank) : poHw d a fun _ => Po.blank := by
  obtain ⟨S, b, N, rfl⟩ := ar_nat hf
  exact ⟨S, b, N, rfl, by rw [hs]; exact fits_lies.1 hf, Rg.hwn_blank (fun i hi => (h i (has_ar.2 hi)).1) fun i hi => (h i (has_ar.2 hi)).2⟩
theorem po_get {U V X : Nat → Prop} {w : World} {B L P n : Nat} {d : Dk.Dev} {lg : Wl.S} {s : Po.S} (m : Nat) (h : PoIn plS PmPO poHw U V X w B L P d lg s) (hC : Wl.Calm n d) (hs : lg.stop ≤ 1000000000000) (hm : (m : Int) < s.ar.pages) (hf : Po.Free s m) :
    Calls Tryz.prog 20 #[.pointer (some ⟨P, 0, none⟩), .int .i64 (m : Int)] w fun e w' =>
    ∃ u d' lg' s', e = .returned (.tuple #[PgV (s.now m).1 u, .int .i64 0]) ∧ Own w.heap.size w' u (s.now m).2 ∧ PoGave plS PmPO poHw U V X w B L P w' d' lg' s' u ∧ Wl.Calm n d' ∧ Po.Lf lg lg' ∧ Po.Moved s s' ∧ m ∈ s'.held ∧ ((∀ k, s.first k = none) → d' = d ∧ lg' = lg) := by
  obtain ⟨S, b, N, hand, mp, F, H, hin, rfl⟩ := po_in h (Wl.calm_near hC (pl_ok h.log.1))
  rw [hin.pm.ar] at hm
  refine (pmGet_any hin hC hs (by have hm : (m : Int) < (N : Int) := hm; omega) hf).mono ?_
  rintro e w' ⟨u, i, hand1, F1, H1, U1, V1, d1, lg1, s1, e1, hO, ⟨hi, hpg, hmem, hmv, hin1, hcalm, hlf, ht, hgu, hgv, hgx, hnone⟩, hub⟩
  obtain ⟨U2, V2, X2, g1, g2, g3, g4, g5⟩ := went_of hin1 ht hgu hgv hgx (by rw [hlf.start]; exact h.log.2)
  refine ⟨u, d1, lg1, s1, e1, hO, ⟨U1, V1, PmX P mp F1, in_po hin1 (by rw [hlf.start]; exact h.log.2), ht.mono fun j _ e => (by
    rcases e with (e | e) | e | e
    · exact Or.inl e
    · exact Or.inr (Or.inl e)
    · exact Or.inr (Or.inr (Or.inl e))
    · exact Or.inr (Or.inr (Or.inr (Or.inl e)))), hgu, hgv, hgx, fun g hg e => ?_⟩, hcalm hC, hlf, hmv, hmem, hnone⟩
  obtain ⟨a1, a2⟩ := hub g hg
  rcases e with e | e | e
  · exact a1 (Or.inl e)
  · exact a1 (Or.inr e)
  · exact a2 e
theorem po_pin {U V X : Nat → Prop} {w : World} {B L P n : Nat} {d : Dk.Dev} {lg : Wl.S} {s : Po.S} (m : Nat) (h : PoIn plS PmPO poHw U V X w B L P d lg s) (hC : Wl.Calm n d) (hs : lg.stop ≤ 1000000000000) (hm : (m : Int) < s.ar.pages) (hf : Po.Free s m) (hp : s.pins m ≤ 1000000) :
    Calls Tryz.prog 23 #[.pointer (some ⟨P, 0, none⟩), .int .i64 (m : Int)] w fun e w' =>
    e = .returned (.int .i64 0) ∧ ∃ d' lg' s', PoWent plS PmPO poHw U V X w B L P w' d' lg' s' ∧ Wl.Calm n d' ∧ Po.Lf lg lg' ∧ Po.Pinned s m s' := by
  obtain ⟨S, b, N, hand, mp, F, H, hin, rfl⟩ := po_in h (Wl.calm_near hC (pl_ok h.log.1))
  rw [hin.pm.ar] at hm
  refine (pmPin_any hin hC hs (by have hm : (m : Int) < (N : Int) := hm; omega) hf hp).mono ?_
  rintro e w' ⟨hand1, F1, H1, U1, V1, d1, lg1, s1, e1, hin1, hcalm, hlf, hpn, ht, hgu, hgv, hgx⟩
  exact ⟨e1, d1, lg1, s1, went_of hin1 ht hgu hgv hgx (by rw [hlf.start]; exact h.log.2), hcalm hC, hlf, hpn⟩
theorem po_put {U V X : Nat → Prop} {w : World} {B L P n : Nat} {d : Dk.Dev} {lg : Wl.S} {s : Po.S} (m : Nat) (x : Po.Pg) (u : Value) (h : PoIn plS PmPO poHw U V X w B L P d lg s) (hN : Wl.Near n d) (hs : lg.stop ≤ 1000000000000) (hm : (m : Int) < s.ar.pages) (hf : Po.Free s m) (hx : Po.PgOk x) (hB : Bts w u x.2) (hl : x.1 < lg.stop) :
    Calls Tryz.prog 21 #[.pointer (some ⟨P, 0, none⟩), .int .i64 (m : Int), PgV x.1 u] w fun e w' =>
    (∃ d' lg' s', e = .returned (.int .i64 0) ∧ PoWent plS PmPO poHw U V X w B L P w' d' lg' s' ∧ Wl.Near n d' ∧ (Wl.Calm n d → Wl.Calm n d') ∧ Po.Lf lg lg' ∧ Po.PutTo s m x s') ∨
    (¬ Wl.Calm n d ∧ e = .returned (.int .i64 6) ∧ ∃ U' d' lg' c, WlPD U' w' B d' ∧ Wl.Near n d' ∧ Touch (Three U V X) w w' ∧ Grew U U' w ∧ Po.Lf lg lg' ∧ (∀ k x, c k x → (x = s.disk k ∨ x = s.now k) ∧ x.1 < lg'.flushed) ∧ ∀ ps, hdS (Dk.crash d' ps) lg' ∧ poHp (Dk.crash d' ps) s.ar c) := by
  obtain ⟨S, b, N, hand, mp, F, H, hin, rfl⟩ := po_in h hN
  have har := hin.pm.ar
  rw [har] at hm
  refine (pmPutP_any hin (fun _ => hs) (by have hm : (m : Int) < (N : Int) := hm; omega) x u hx hB fun _ => hl).mono ?_
  intro e w' hA
  rcases hA with ⟨hand1, F1, H1, U1, V1, d1, lg1, s1, e1, hin1, hcalm, hlf, hpt, -, ht, hgu, hgv, hgx⟩ | ⟨hnf, -⟩ | ⟨hnc, e1, U', d', lg', c, e2, e3, e4, e5, e6, e7, e8⟩
  · exact Or.inl ⟨d1, lg1, s1, e1, went_of hin1 ht hgu hgv hgx (by rw [hlf.start]; exact h.log.2), hin1.near, hcalm, hlf, hpt⟩
  · exact absurd hf hnf
  · refine Or.inr ⟨hnc, e1, U', d', lg', c, e2, e3, e4.mono fun j _ e => ?_, e5, e6, e7, fun ps => ⟨⟨(e8 ps).1, by rw [e6.start]; exact h.log.2⟩, S, b, N, har, by rw [(e3.crash ps).sz]; exact hin.lies, (e8 ps).2⟩⟩
    rcases e with (e | e) | e | e
    · exact Or.inl e
    · exact Or.inr (Or.inl e)
    · exact Or.inr (Or.inr (Or.inl e))
    · exact Or.inr (Or.inr (Or.inr (Or.inl e)))
end Go.Proofs.YtbpodmallknhfaaGreat
namespace Go.Proofs.YtbpodmallknhfaaGreat
open Go.RowKit
theorem po_mend {U V : Nat → Prop} {w : World} {B L n : Nat} {d : Dk.Dev} {lg : Wl.S} {a : Po.Ar} {f : Nat → Po.Pg} (h : plS U V w B L d lg) (hC : Wl.Calm n d) (hf : a.Fits n) (hw : poHw d a f) :
    Calls Tryz.prog 19 #[.pointer (some ⟨B, 0, none⟩), ArV a] w fun e w' => e = .returned (.int .i64 0) ∧ ∃ U' d', plS U' V w' B L d' lg ∧ Wl.Calm n d' ∧ poHw d' a f ∧ Touch U w w' ∧ Grew U U' w := by
  have hst := h.2
  have h := h.1
  obtain ⟨S, b, N, rfl, hL, hw⟩ := hw
  have hN := Wl.calm_near hC (pl_ok h)
  have hsz := pl_size h
  obtain ⟨m1, m2, pl, wa, h1, h2, h3, h4, h5, h6⟩ := h
  refine (Mend_any h3 hN hf (by rw [← hN.sz]; exact hsz)).mono ?_
  rintro e w' ⟨e1, hp, ht⟩
  have hm := Rg.mend_calm hC.off hw
  rw [hm] at e1 hp
  subst h4
  refine ⟨e1, DS B m1 m2, d, ⟨⟨m1, m2, pl, wa, h1.keep ht fun j hj hd => h5 j hd (by rw [h2]; exact hj), h2, hp, rfl, h5, h6⟩, hst⟩, hC, ⟨S, b, N, rfl, hL, hw⟩, ht, fun _ h => Or.inl h⟩
theorem heldL_none (N : Nat) : heldL (List.replicate N none) = [] := by
  refine List.eq_nil_of_length_eq_zero ?_
  rw [heldL_length]
  simp
theorem fa_zero (i : Nat) : fa (List.replicate 64 Fr.zero) i = Fr.zero := by
  unfold fa
  exact Dk.getD_replicate _ _ _
theorem wl_start_ne {V : Nat → Prop} {U : Nat → Prop} {w : World} {B L : Nat} {d : Dk.Dev} {lg : Wl.S} (h : WlPL U V w B L d lg) : ∃ pl wa, LogAt w L (Wl.kn lg) B lg.at_ lg.count pl wa false := by
  obtain ⟨m1, m2, pl, wa, h1, -⟩ := h
  exact ⟨pl, wa, h1.log⟩
theorem po_make {U V : Nat → Prop} {w : World} {B L n : Nat} {d : Dk.Dev} {lg : Wl.S} {a : Po.Ar} {f : Nat → Po.Pg} (fr : Nat) (h : plS U V w B L d lg) (hC : Wl.Calm n d) (hf : a.Fits n) (hok : ∀ k, Po.PgOk (f k)) (h1 : 1 ≤ fr) (h2 : fr ≤ 64) :
    Calls Tryz.prog 18 #[.pointer (some ⟨B, 0, none⟩), .pointer (some ⟨L, 0, none⟩), ArV a, .int .i64 (fr : Int)] w fun e w' =>
    ∃ P X, e = .returned (.tuple #[.pointer (some ⟨P, 0, none⟩), .int .i64 0]) ∧ PmPO X w' B L P (Po.fresh f fr a) ∧ (∀ i, X i → w.heap.size ≤ i) ∧ Below w.heap.size w w' := by
  have hst := h.2
  have h := h.1
  obtain ⟨S, b, N, rfl⟩ := ar_nat hf
  have hN := Wl.calm_near hC (pl_ok h)
  have hsz := pl_size h
  have hL := fits_lies.1 hf
  have hbase := hL.base
  obtain ⟨pl, wa, hlog⟩ := wl_start_ne h
  obtain ⟨m1, m2, -, -, -, -, h3, -⟩ := h
  rw [hN.sz] at hsz
  refine (pmNew_walk h3 hN hf hsz hlog hst fr ⟨h1, h2⟩).mono ?_
  rintro e w' ⟨P, mp, e1, hrow, hmap, hP, hmp, hne, hb⟩
  have hh : (Po.fresh f fr (arN S b N)).held = [] := rfl
  refine ⟨P, PmX P mp (List.replicate 64 Fr.zero), e1, ⟨S, b, N, 0, mp, _, _, ⟨hrow, hmap, List.length_replicate, rfl, ⟨h1, h2⟩, h1, by rw [heldL_none]; rfl, fun k i hk => ?_, fun i hi => absurd hi (Nat.not_lt_zero i), fun i hi => absurd hi (Nat.not_lt_zero i), fun i _ => fa_zero i, Po.good_fresh hok, by omega, hne, fun i g hg => ?_⟩, rfl⟩, ?_, hb⟩
  · rw [Dk.getD_replicate] at hk; cases hk
  · rw [fa_zero] at hg; cases hg
  · rintro i (rfl | rfl | ⟨j, hj⟩)
    · exact hP
    · exact hmp
    · rw [fa_zero] at hj; cases hj
section
variable {U V X : Nat → Prop} {w : World} {B L P n : Nat} {d : Dk.Dev} {lg : Wl.S} {s : Po.S}
theorem po_pins (m : Nat) (h : PoIn plS PmPO poHw U V X w B L P d lg s) (hC : Wl.Calm n d) (hm : (m : Int) < s.ar.pages) : Calls Tryz.prog 12 #[.pointer (some ⟨P, 0, none⟩), .int .i64 (m : Int)] w fun e w' => e = .returned (.int .i64 (s.pins m : Int)) ∧ ∃ q, w' = w.drewN q := by
  obtain ⟨S, b, N, hand, mp, F, H, hin, -⟩ := po_in h (Wl.calm_near hC (pl_ok h.log.1))
  rw [hin.pm.ar] at hm
  refine (pmPins_any hin (by have hm : (m : Int) < (N : Int) := hm; omega)).mono ?_
  rintro e w' ⟨h1, h2⟩
  exact ⟨h1, 0, h2⟩
end
end Go.Proofs.YtbpodmallknhfaaGreat
namespace Go.Proofs.YtbpodmallknhfaaGreat
open Go.RowKit
def ysF (Fp : List Nat → List Fr) (H : List (Option Nat)) : List Nat → List Nat → List Nat
  | pre, [] => pre
  | pre, k :: r => ysF Fp H (if (fa (Fp pre) ((H.getD k none).getD 0)).dirty then pre ++ [(H.getD k none).getD 0] else pre) r
def PmV (P B S b N L cnt mp Q : Nat) (H : List (Option Nat)) (Fp : List Nat → List Fr) (pre : List Nat) (W : World) : Prop :=
  (∃ hand, PmRow W P B S b N L cnt hand mp (Fp pre)) ∧ HmAt W mp H ∧ W.cell? ⟨Q, 0, none⟩ = some (.pointer (some ⟨P, 0, none⟩))
def PmY (H : List (Option Nat)) (Fp : List Nat → List Fr) (pre : List Nat) (i : Nat) : Prop := (∃ k, H.getD k none = some i ∧ (fa (Fp pre) i).dirty = true) ∧ pre.length < 65536
theorem grown_of_below {W W' : World} (h : Below W.heap.size W W') : W.grownBy W' none := ⟨h.os, h.tape, h.output, h.size, fun k hk _ => h.block k hk⟩
attribute [local go_sem] Oper.semAt_some in
set_option maxRecDepth 100000 in
set_option maxHeartbeats 4000000 in
theorem pmSeq_in (P B S b N L cnt mp Q : Nat) (H : List (Option Nat)) (Fp : List Nat → List Fr) (w : World) (n : Nat) (hn : 1 ≤ n) :
    SeqV Fence.wide n Tryz.prog 80 #[.pointer (some ⟨Q, 0, none⟩)] (fun i : Nat => #[.pointer (some ⟨P, 5 + i * 7, none⟩)]) (PmV P B S b N L cnt mp Q H Fp) (PmY H Fp) (fun xs => xs = ysF Fp H [] (heldL H)) w := by
  intro l J X W hW hJ hV hXl hY h0
  refine callsIn_of_wp Tryz.func80 rfl trivial ?_ rfl
  simp only [Tryz.ntmps80, List.size_toArray, List.length_cons, List.length_nil, Nat.reduceAdd, Nat.reduceSub, Array.replicate_succ, Array.replicate_zero, List.push_toArray, List.append_toArray, List.nil_append, List.cons_append]
  obtain ⟨⟨hand0, hrow0⟩, hmap0, hbox0⟩ := hV X [] W h0
  have HHE := Lib.hid (pmHeld_any hrow0 hmap0)
  have HJ := Lib.hid hJ
  have HV := Lib.hid hV
  have HXL := Lib.hid hXl
  have HY := Lib.hid hY
  have H0 := Lib.hid h0
  have HW := Lib.hid hW
  clear hJ hV hXl hY h0 hW hrow0 hmap0
  obtain ⟨ks, hks⟩ : ∃ ks, ks = heldL H := ⟨_, rfl⟩
  have HKS := Lib.hid hks
  have HKM : Hid (∀ k, k ∈ ks → ∃ i, H.getD k none = some i) := fun k hk => by
    rw [hks] at hk
    have h1 := (heldL_mem H k).1 hk
    cases e : H.getD k none with
    | none => exact absurd e h1
    | some i => exact ⟨i, rfl⟩
  have HKL : Hid (∀ k, k ∈ ks → k < H.length) := fun k hk => (heldL_rising H).2 k (by rw [← hks]; exact hk)
  rw [← hks] at HHE ⊢
  clear hks
  gi_wp2_with (refine ⟨trivial, ?_⟩; gi_at_call 11; refine (callsIn_wide.2 HHE.out).mono ?_; rintro e w1 ⟨v, rfl, hO, hb⟩; obtain ⟨p, cap, hv, -, -, hcell⟩ := hO.bts.form; have HO := Lib.hid hO; have HB := Lib.hid hb; have HC := Lib.hid hcell; have HPV := Lib.hid hv; rw [List.length_map] at hv; subst hv; clear hO hb hcell HHE)
  obtain ⟨len, hlen⟩ : ∃ len, len = ks.length := ⟨_, rfl⟩
  have HLEN := Lib.hid hlen
  have HG : Hid (∃ G, (0 < len → p = some ⟨G, 0, none⟩ ∧ W.heap.size ≤ G ∧ G < w1.heap.size) ∧ ∀ j, j < len → w1.cell? ⟨G, j, none⟩ = some (.int .i64 ((ks.getD j 0 : Nat) : Int))) := by
    show ∃ G, _
    have hl2 : (ks.map fun x : Nat => (x : Int)).length = ks.length := List.length_map ..
    rcases HO.out.form with ⟨-, e0⟩ | ⟨g, c, hv, hg0, -, -, hrow⟩
    · have h0 : ks.length = 0 := by rw [← hl2, e0]; rfl
      exact ⟨0, fun h => absurd h (by omega), fun j h => absurd h (by omega)⟩
    · rw [HPV.out, hl2] at hv
      simp only [Value.slice.injEq] at hv
      obtain ⟨cur, hcur, -⟩ := hrow
      refine ⟨g, fun _ => ⟨hv.1, hg0, lt_of_block hcur⟩, fun j hj => ?_⟩
      obtain ⟨b0, off0, e1, hc⟩ := HC.out (by rw [hl2]; omega)
      rw [hv.1] at e1
      simp only [Option.some.injEq, Addr.mk.injEq, and_true] at e1
      have h2 := hc j (by rw [hl2]; omega)
      rw [← e1.1, ← e1.2, Nat.zero_add] at h2
      rw [h2]
      simp only [List.getD_eq_getElem?_getD, List.getElem?_map]
      rw [List.getElem?_eq_getElem (show j < ks.length by omega)]
      rfl
  obtain ⟨G, hG, hGc⟩ := HG.out
  have HG2 := Lib.hid hG
  have HJ1 : Hid (J X [] w1) := HJ.out X [] W w1 H0.out (grown_of_below HB.out)
  have HX0 : Hid (∀ i, X i → i < W.heap.size) := HXL.out X [] W H0.out
  rw [← hlen]
  clear hG HG hlen HC HO HPV
  gi_loopw [9] (fun i wr => ∃ (j : Nat) (X1 : Nat → Prop) (pre : List Nat), j ≤ len ∧ i = .int .i64 j ∧ J X1 pre wr ∧ (0 < len → ¬ X1 G ∧ G < wr.heap.size) ∧ ysF Fp H pre (ks.drop j) = ysF Fp H [] ks ∧ (∀ j, j < len → wr.cell? ⟨G, j, none⟩ = some (.int .i64 ((ks.getD j 0 : Nat) : Int))) ∧ pre.length ≤ j) (fun i _ => len - (intOf i).toNat)
  case atStart => exact ⟨0, X, [], Nat.zero_le _, rfl, HJ1.out, fun h => ⟨fun hx => by have := HX0.out G hx; have := (HG2.out h).2.1; omega, (HG2.out h).2.2⟩, rfl, hGc, Nat.le_refl 0⟩
  case round =>
    obtain ⟨j, X1, pre, hj, rfl, hJs, hXG, hys, hcs, hpl⟩ := hrel
    by_cases hlt : j < len
    case neg =>
      clear hpl
      obtain rfl : j = len := by omega
      gi_wp2
      go_end0
      rw [List.drop_eq_nil_of_le (by have := HLEN.out; omega)] at hys
      exact ⟨⟨_, rfl⟩, pre, X1, hys, hJs⟩
    have hjk : j < ks.length := by have := HLEN.out; omega
    obtain ⟨k, hk⟩ : ∃ k, k = ks.getD j 0 := ⟨_, rfl⟩
    have hkg : ks.getD j 0 = ks[j] := by rw [List.getD_eq_getElem?_getD, List.getElem?_eq_getElem hjk]; rfl
    have hmem : k ∈ ks := by rw [hk, hkg]; exact List.getElem_mem hjk
    have hdrop : ks.drop j = k :: ks.drop (j + 1) := by rw [hk, hkg]; exact List.drop_eq_getElem_cons hjk
    obtain ⟨i, hi⟩ := HKM.out k hmem
    obtain ⟨⟨hand, hrow⟩, hmap, hbox⟩ := HV.out X1 pre wr hJs
    have hkl := HKL.out k hmem
    have hml := hmap.len
    have hfr := pmFrame_any hrow hmap (k : Int) (by omega)
    have hi6 := hmap.small (a := (k : Int)) (by omega) (by omega) (by rw [hz_nat]; exact hi)
    rw [hz_nat, hi] at hfr
    have hcj := hcs j hlt
    rw [← hk] at hcj
    have k4 := hrow.fr hi6 4 (by decide) (v := .bool (fa (Fp pre) i).dirty) rfl
    have hgg := HG2.out (by omega)
    obtain ⟨hp, hg1, hg2⟩ := hgg
    subst hp
    have hk6 : ks.length ≤ 65536 := by rw [HKS.out, heldL_length]; exact Nat.le_trans List.countP_le_length hml
    have hw1 := IntWalk.i64_in ((j : Int) + 1) (by have := HLEN.out; omega)
    have HPL : Hid (pre.length < 65536 ∧ pre.length ≤ j) := ⟨by have := HLEN.out; omega, hpl⟩
    clear hk6 hpl
    have hjl : (j : Int) < (len : Int) := by omega
    have hstep : ysF Fp H pre (ks.drop j) = ysF Fp H (if (fa (Fp pre) i).dirty then pre ++ [i] else pre) (ks.drop (j + 1)) := by
      rw [hdrop]
      show ysF Fp H (if (fa (Fp pre) ((H.getD k none).getD 0)).dirty then pre ++ [(H.getD k none).getD 0] else pre) _ = _
      rw [hi]; rfl
    rw [hys] at hstep
    cases hd : (fa (Fp pre) i).dirty with
    | true =>
      rw [hd] at k4
      rw [hd, if_pos rfl] at hstep
      obtain ⟨fn, tmps, assign, body, hy, hR⟩ := HY.out X1 pre i wr hJs ⟨⟨k, hi, hd⟩, HPL.out.1⟩
      have HST := Lib.hid hstep
      have HJS := Lib.hid hJs
      have HXG := Lib.hid hXG
      have HCS := Lib.hid hcs
      clear hstep hJs hXG hcs hys hk hkg hmem hdrop hi hkl hml hi6 hrow hmap hd hjk
      gi_wp2_with (refine ⟨trivial, ?_⟩; gi_at_call 41; refine (callsIn_wide.2 hfr).mono ?_; rintro e w' ⟨rfl, rfl⟩; unfold frP; dsimp only)
      refine hR.mono ?_
      rintro e W3 ⟨rfl, X', hJ3, ht3, hg3⟩
      have HE : Hid (_ ∧ _ ∧ _) := ⟨hJ3, ht3, hg3⟩
      clear hJ3 ht3 hg3 hR hy
      gi_wp2
      go_roundw
      case rel =>
        obtain ⟨hJ3, ht3, hg3⟩ := HE.out
        refine ⟨j + 1, X', pre ++ [i], hlt, by go_num, hJ3, fun h => ⟨fun hx => ?_, ?_⟩, HST.out.symm, fun j' hj' => ?_, by have := HPL.out.2; rw [List.length_append, List.length_singleton]; omega⟩
        · rcases hg3 G hx with h1 | h1
          · exact (HXG.out h).1 h1
          · have := (HXG.out h).2; omega
        · exact Nat.lt_of_lt_of_le (HXG.out h).2 ht3.size
        · exact ht3.cell (HCS.out j' hj') (HXG.out (by omega)).1
      case measure => simp [intOf]; omega
    | false =>
      rw [hd] at k4
      rw [hd, if_neg (by decide)] at hstep
      have HST := Lib.hid hstep
      have HJS := Lib.hid hJs
      have HXG := Lib.hid hXG
      have HCS := Lib.hid hcs
      clear hstep hJs hXG hcs hys hk hkg hmem hdrop hi hkl hml hi6 hrow hmap hd hjk
      gi_wp2_with (refine ⟨trivial, ?_⟩; gi_at_call 41; refine (callsIn_wide.2 hfr).mono ?_; rintro e w' ⟨rfl, rfl⟩; unfold frP; dsimp only)
      refine ⟨fun _ h => (by cases h), ?_⟩
      gi_wp2
      go_roundw
      case rel => exact ⟨j + 1, X1, pre, hlt, by go_num, HJS.out, HXG.out, HST.out.symm, HCS.out, by have := HPL.out.2; omega⟩
      case measure => simp [intOf]; omega
end Go.Proofs.YtbpodmallknhfaaGreat
namespace Go.Proofs.YtbpodmallknhfaaGreat
open Go.RowKit
def Kind (W : World) (i : Nat) : Prop := ∃ o, W.heap[i]? = some o ∧ (o.isCells = true ∨ o.isWalk = true)
theorem kind_cells {W : World} {i : Nat} {cs : Array Value} {t : TypeId} {f : Nat × Nat} (h : W.heap[i]? = some (.cells cs t f)) : Kind W i := ⟨_, h, Or.inl rfl⟩
theorem kind_row {W : World} {base : Nat} {e : TypeId} {size : Nat} {v : Value} {k : Nat} {xs : List Value} (h : W.ownsRow base e size v k xs) : ∀ i, v.ownBlock = some i → Kind W i := fun i hi => by
  rcases h.2 with ⟨hv, -⟩ | ⟨g, cap, cur, hv, -, hh, -⟩
  · rw [hv] at hi; cases hi
  · rw [hv] at hi
    simp only [Value.ownBlock, Option.some.injEq] at hi
    subst hi
    exact kind_cells hh
theorem kind_bts {W : World} {v : Value} {l : List Nat} (h : Bts W v l) (h0 : 0 < l.length) : ∀ i, v.ownBlock = some i → Kind W i := fun i hi => by
  obtain ⟨p, cap, hv, -, -, hp⟩ := h.form
  obtain ⟨bk, off, rfl, hc⟩ := hp h0
  rw [hv] at hi
  simp only [Value.ownBlock, Option.some.injEq] at hi
  subst hi
  obtain ⟨o, h1, h2⟩ := cells_of_cell (hc 0 h0)
  exact ⟨o, h1, Or.inl h2⟩
theorem kind_in {U V : Nat → Prop} {W : World} {B L P S b N hand mp n : Nat} {F : List Fr} {H : List (Option Nat)} {d : Dk.Dev} {lg : Wl.S} {s : Po.S} (h : PmIn U V W B L P S b N hand mp F H n d lg s) : ∀ i, Both U V i ∨ PmX P mp F i → Kind W i := by
  obtain ⟨m1, m2, pl, wa, hlm, rfl, hP, rfl, -⟩ := h.log
  rintro i ((hi | hi) | hi)
  · rcases hi with rfl | rfl | rfl
    · exact kind_cells hP.blk
    · obtain ⟨es, clock, hb, -⟩ := hP.lasts.own
      exact ⟨_, hb, Or.inr rfl⟩
    · obtain ⟨es, clock, hb, -⟩ := hP.waits.own
      exact ⟨_, hb, Or.inr rfl⟩
  · rcases hi with rfl | hi | hi
    · exact kind_cells hlm.log
    · exact kind_row hlm.qpl i hi
    · exact kind_row hlm.owa.own i hi
  · rcases hi with rfl | rfl | ⟨j, hj⟩
    · exact kind_cells h.pm.row.row
    · obtain ⟨es, clock, hb, -⟩ := h.pm.map.own
      exact ⟨_, hb, Or.inr rfl⟩
    · rcases Nat.lt_or_ge j s.held.length with hl | hl
      · exact kind_bts (h.pm.fr j hl).body (by rw [(h.pm.good.ok _).2.1]; decide) i hj
      · rw [h.pm.rest j hl] at hj; cases hj
theorem kind_ne {W : World} {i l : Nat} {o : Obj} (h : Kind W i) (hl : W.heap[l]? = some o) (h1 : o.isCells = false) (h2 : o.isWalk = false) : i ≠ l := fun e => by
  obtain ⟨o', h3, h4⟩ := h
  rw [e, hl] at h3
  cases h3
  rcases h4 with h4 | h4
  · rw [h1] at h4; cases h4
  · rw [h2] at h4; cases h4
theorem touch_putObj (W : World) (l : Nat) (o : Obj) : Touch (· = l) W (W.putObj l o) := ⟨rfl, rfl, rfl, by simp [World.putObj], fun i _ hi => World.putObj_heap_other hi⟩
theorem touch_grown {W W' : World} (h : W.grownBy W' none) : Touch (fun _ => False) W W' := ⟨h.os, h.tape, h.output, h.size, fun i hi _ => h.block i hi (fun e => by cases e)⟩
def clF (F : List Fr) (pre : List Nat) : List Fr := pre.foldl (fun F i => F.set i { fa F i with dirty := false }) F
theorem clF_snoc (F : List Fr) (pre : List Nat) (i : Nat) : clF F (pre ++ [i]) = (clF F pre).set i { fa (clF F pre) i with dirty := false } := by
  unfold clF
  rw [List.foldl_append]
  rfl
theorem fa_out (F : List Fr) {i : Nat} (h : F.length ≤ i) : fa F i = Fr.zero := by
  unfold fa
  rw [List.getD_eq_getElem?_getD, List.getElem?_eq_none h]; rfl
theorem clean_set (F : List Fr) (i j : Nat) (h : (fa F j).dirty = false) : (fa (F.set i { fa F i with dirty := false }) j).dirty = false := by
  rcases Nat.lt_or_ge i F.length with hi | hi
  · rw [fa_set F hi]
    split
    · rfl
    · exact h
  · rw [List.set_eq_of_length_le hi]; exact h
theorem clean_at (F : List Fr) (i : Nat) : (fa (F.set i { fa F i with dirty := false }) i).dirty = false := by
  rcases Nat.lt_or_ge i F.length with hi | hi
  · rw [fa_set F hi, if_pos rfl]
  · rw [List.set_eq_of_length_le hi, fa_out F hi]; rfl
theorem ysF_clean (F : List Fr) (H : List (Option Nat)) : ∀ (ks pre : List Nat), (∀ j, (fa (clF F pre) j).dirty = false → (fa (clF F (ysF (clF F) H pre ks)) j).dirty = false) ∧ ∀ k ∈ ks, (fa (clF F (ysF (clF F) H pre ks)) ((H.getD k none).getD 0)).dirty = false
  | [], pre => ⟨fun _ h => h, fun k hk => by cases hk⟩
  | k :: ks, pre => by
    obtain ⟨i, hi⟩ : ∃ i, i = (H.getD k none).getD 0 := ⟨_, rfl⟩
    have hst : ysF (clF F) H pre (k :: ks) = ysF (clF F) H (if (fa (clF F pre) i).dirty then pre ++ [i] else pre) ks := by rw [hi]; rfl
    obtain ⟨h1, h2⟩ := ysF_clean F H ks (if (fa (clF F pre) i).dirty then pre ++ [i] else pre)
    rw [hst]
    have hk : (fa (clF F (if (fa (clF F pre) i).dirty then pre ++ [i] else pre)) i).dirty = false := by
      cases hd : (fa (clF F pre) i).dirty with
      | true => rw [if_pos rfl, clF_snoc]; exact clean_at _ i
      | false => rw [if_neg (by decide)]; exact hd
    refine ⟨fun j hj => h1 j ?_, fun k' hk' => ?_⟩
    · cases hd : (fa (clF F pre) i).dirty with
      | true => rw [if_pos rfl, clF_snoc]; exact clean_set _ i j hj
      | false => rw [if_neg (by decide)]; exact hj
    · rcases List.mem_cons.1 hk' with rfl | hk'
      · rw [← hi]; exact h1 i hk
      · exact h2 k' hk'
theorem pmDirtyF_any (w : World) (p : Option Addr) : Calls Tryz.prog 53 #[.pointer p] w fun e w' =>
    e = .returned (.func (.func 80) #[] #[.pointer (some ⟨w.heap.size, 0, none⟩)]) ∧ w' = w.alloc (.cells #[.pointer p] 26) := by
  have hmf : ∀ (fn : Fn) (first cap : Array Value) (w : World), (Instr.makeFunc fn first cap).run Tryz.prog w = .ok (.func fn first cap) w := fun _ _ _ _ => rfl
  go_enter Tryz.func53, Tryz.ntmps53
  go_wp2_with fail
  go_ret
  exact ⟨rfl, rfl⟩
def AlI (U V : Nat → Prop) (w0 : World) (B L P S b N hand mp Q R n : Nat) (F : List Fr) (H : List (Option Nat)) (d : Dk.Dev) (lg : Wl.S) (s : Po.S) (X : Nat → Prop) (pre : List Nat) (W : World) : Prop :=
  ∃ U1 V1 d1 lg1 s1, X = (fun j => Both U1 V1 j ∨ j = P) ∧ PmIn U1 V1 W B L P S b N hand mp (clF F pre) H n d1 lg1 s1 ∧ Wl.Calm n d1 ∧ Po.Lf lg lg1 ∧ (s1.now = s.now ∧ s1.pins = s.pins ∧ s1.frames = s.frames ∧ s1.ar = s.ar ∧ s1.held = s.held ∧ ∀ k, s1.first k = s.first k ∨ s1.first k = none) ∧
    PmX P mp (clF F pre) = PmX P mp F ∧ W.heap[Q]? = some (.cells #[.pointer (some ⟨P, 0, none⟩)] 26 (0, 0)) ∧ W.heap[Q + 1]? = some (.cells #[.int .i64 0] 47 (0, 0)) ∧ W.heap[R]? = some (.cells #[.pointer (some ⟨P, 0, none⟩)] 26 (0, 0)) ∧
    Touch (fun j => Both U V j ∨ j = P) w0 W ∧ Grew U U1 w0 ∧ Grew V V1 w0
theorem alI_kept {U V : Nat → Prop} {w0 : World} {B L P S b N hand mp Q R n Z : Nat} {F : List Fr} {H : List (Option Nat)} {d : Dk.Dev} {lg : Wl.S} {s : Po.S} (hz : w0.heap.size ≤ Z) (X : Nat → Prop) : KeptV Z (AlI U V w0 B L P S b N hand mp Q R n F H d lg s X) := by
  refine ⟨fun pre W W' h hg => ?_, fun pre W l o o' h hl ho h1 h2 => ?_⟩
  · obtain ⟨U1, V1, d1, lg1, s1, e, hin, hc, hlf, hs, hX, hq, hr, hrr, ht, hgu, hgv⟩ := h
    have hT := touch_grown hg
    exact ⟨U1, V1, d1, lg1, s1, e, hin.keep hT (fun _ _ h => h) (fun _ _ h => h), hc, hlf, hs, hX, hT.row hq id, hT.row hr id, hT.row hrr id, ht.trans (hT.mono fun _ _ h => h.elim), hgu, hgv⟩
  · obtain ⟨U1, V1, d1, lg1, s1, e, hin, hc, hlf, hs, hX, hq, hr, hrr, ht, hgu, hgv⟩ := h
    have hT := touch_putObj W l o'
    have hk := kind_in hin
    exact ⟨U1, V1, d1, lg1, s1, e, hin.keep hT (fun j hj e => kind_ne (hk j (Or.inl hj)) ho h1 h2 e) (fun j hj e => kind_ne (hk j (Or.inr hj)) ho h1 h2 e), hc, hlf, hs, hX, hT.row hq (fun e => kind_ne (kind_cells hq) ho h1 h2 e), hT.row hr (fun e => kind_ne (kind_cells hr) ho h1 h2 e), hT.row hrr (fun e => kind_ne (kind_cells hrr) ho h1 h2 e), ht.grow hT fun j e => Or.inr (by omega), hgu, hgv⟩
end Go.Proofs.YtbpodmallknhfaaGreat
namespace Go.Proofs.YtbpodmallknhfaaGreat
open Go.RowKit Go.Shelf
theorem run_append_Dir {w : World} (ty : TypeId) (base : Nat) (v : Value) (l1 : List Dir.El) (hown : Dir.Own base w v l1) (xv : Value) (l2 : List Dir.El) (hB : Dir.Bts w xv l2) (h0 : 0 < l2.length) (hlen : l1.length + l2.length ≤ 1000000) (hbase : base ≤ w.heap.size) :
    ∃ v' w', (Builtin.append_ #[66, 66] ty #[v, xv]).run Tryz.prog w = .ok v' w' ∧ Dir.Own base w' v' (l1 ++ l2) ∧ Below base w w' ∧ w.grownBy w' v.ownBlock ∧ (v'.ownBlock = v.ownBlock ∨ v'.ownBlock = some w.heap.size) := by
  obtain ⟨i0, hi, hz0, hz1, hz2⟩ := info_parts Dir.info
  obtain ⟨p, cap, rfl, _, hn, hp⟩ := hB.form
  obtain ⟨b, off, rfl, hc⟩ := hp h0
  obtain ⟨v', w', hr, hown', hgrow, -, hat⟩ := run_append_own_at (P := Tryz.prog) w base 66 ty 104 i0 (.agg #[.int .u32 0, .int .u64 0]) 2 16 Tryz.underlying66 hi hz0 hz1 hz2 rfl (by decide) v l1.length (Dir.cells l1) hown ⟨b, off, none⟩ l2.length cap (Dir.cells l2) (Dir.cells_length _) (by
    intro j u hj
    have hjl : j < l2.length * 2 := by
      rcases Nat.lt_or_ge j (l2.length * 2) with h1 | h1
      · exact h1
      · rw [List.getElem?_eq_none (by rw [Dir.cells_length]; exact h1)] at hj; simp at hj
    have hadd : (⟨b, off, none⟩ : Addr).add j = ⟨b, off + j, none⟩ := by unfold Addr.add; split <;> simp_all
    rw [hadd, hc j hjl, hj]) (Dir.cells_one l2) (by unfold maxLen; omega) (by omega) hbase
  rw [← Dir.cells_append, ← List.length_append] at hown'
  refine ⟨v', w', hr, hown', (Below.refl _ _).grown hgrow hbase ?_, hgrow, hat⟩
  intro k hk
  rcases hown.2 with ⟨rfl, _⟩ | ⟨g, c, cur, rfl, hg, _⟩
  · simp [Value.ownBlock] at hk
  · simp only [Value.ownBlock, Option.some.injEq] at hk
    omega
def dyL (F : List Fr) (pre : List Nat) : List Dir.El := pre.map fun i => ((fa F i).page, (fa F i).first)
def DyF (P i pg f : Nat) (v : Value) (A : Nat) (k : Nat) (u : Value) (w : World) : Prop :=
  match k with
  | 0 => u = v
  | 1 => u = .pointer (some ⟨P, 5 + i * 7, none⟩)
  | 2 => u = .pointer (some ⟨P, 5 + i * 7, none⟩)
  | 3 => u = .pointer (some ⟨P, 5 + i * 7, none⟩)
  | 4 => u = .int .i64 (pg : Int)
  | 5 => u = .int .u32 (pg : Int)
  | 6 => u = .pointer (some ⟨P, 5 + i * 7, none⟩)
  | 7 => u = .pointer (some ⟨P, 5 + i * 7, none⟩)
  | 8 => u = .pointer (some ⟨P, 5 + i * 7 + 5, none⟩)
  | 9 => u = .int .u64 (f : Int)
  | 10 => u = .agg #[.int .u32 (pg : Int), .int .u64 (f : Int)]
  | 11 => ∃ q, u = .slice (some ⟨q, 0, none⟩) 1 1 ∧ A < q ∧ v.ownBlock ≠ some q ∧ Dir.Bts w u [(pg, f)]
  | _ => True
def DyS (A : Nat) (v : Value) (k : Nat) : Prop := k = A ∨ v.ownBlock = some k
structure DyR (W : World) (A : Nat) (v : Value) (l : List Dir.El) (x : Dir.El) (D : Nat → Bool) (xs : Nat → Value) (w : World) : Prop where
  touch : Touch (DyS A v) W w
  sz : A < w.heap.size
  s0 : D 12 = false → Dir.Own (A + 1) w v l ∧ Boxed w A 66 v
  s1 : D 12 = true → Dir.Own (A + 1) w (xs 12) (l ++ [x]) ∧ (∀ j, (xs 12).ownBlock = some j → v.ownBlock = some j ∨ W.heap.size ≤ j) ∧ ∃ u, Boxed w A 66 u ∧ (D 13 = true → u = xs 12)
section
variable {W : World} {A : Nat} {v : Value} {l : List Dir.El} {x : Dir.El} {D : Nat → Bool} {xs : Nat → Value} {w : World}
theorem DyR.alloc (h : DyR W A v l x D xs w) (o : Obj) : DyR W A v l x D xs (w.alloc o) := by
  have hb : Below w.heap.size w (w.alloc o) := (Below.refl _ w).alloc (Nat.le_refl _) _
  refine ⟨h.touch.trans (.of_new hb), by have := h.sz; simp; omega, fun e => ⟨(h.s0 e).1.below hb, (h.s0 e).2.alloc _⟩, fun e => ?_⟩
  obtain ⟨h1, h4, u, h2, h3⟩ := h.s1 e
  exact ⟨h1.below hb, h4, u, h2.alloc _, h3⟩
theorem DyR.quiet (h : DyR W A v l x D xs w) (k : Nat) (u : Value) (h5 : k ≠ 12) (h6 : k ≠ 13) : DyR W A v l x (Ord.wth D k) (Ord.set xs k u) w := by
  have e5 : Ord.wth D k 12 = D 12 := if_neg (Ne.symm h5)
  have e6 : Ord.wth D k 13 = D 13 := if_neg (Ne.symm h6)
  have x5 : Ord.set xs k u 12 = xs 12 := if_neg (Ne.symm h5)
  exact ⟨h.touch, h.sz, by rw [e5]; exact h.s0, by rw [e5, e6, x5]; exact h.s1⟩
end
def DyI (P B S b N L cnt mp R A : Nat) (w0 : World) (H : List (Option Nat)) (F : List Fr) (X : Nat → Prop) (pre : List Nat) (W : World) : Prop :=
  ∃ v, X = DyS A v ∧ PmV P B S b N L cnt mp R H (fun _ => F) pre W ∧ Boxed W A 66 v ∧ Dir.Own (A + 1) W v (dyL F pre) ∧ Touch (fun j => A ≤ j) w0 W ∧ (∀ j, v.ownBlock = some j → w0.heap.size ≤ j)
theorem dir_touch {base : Nat} {S : Nat → Prop} {w w' : World} {v : Value} {l : List Dir.El} (h : Dir.Own base w v l) (ht : Touch S w w') (hs : ∀ k, v.ownBlock = some k → ¬ S k) : Dir.Own base w' v l := by
  refine ⟨h.1, ?_⟩
  rcases h.2 with h2 | ⟨g, cap, cur, hv, hg, hh, r⟩
  · exact Or.inl h2
  · exact Or.inr ⟨g, cap, cur, hv, hg, ht.row hh (hs g (by rw [hv]; rfl)), r⟩
theorem dir_own_lt {base : Nat} {w : World} {v : Value} {l : List Dir.El} (h : Dir.Own base w v l) {k : Nat} (hk : v.ownBlock = some k) : base ≤ k ∧ k < w.heap.size ∧ Kind w k := by
  rcases h.2 with ⟨rfl, -⟩ | ⟨g, cap, cur, hv, hg, hh, r⟩
  · cases hk
  · rw [hv] at hk
    simp only [Value.ownBlock, Option.some.injEq] at hk
    subst hk
    exact ⟨hg, lt_of_block hh, kind_cells hh⟩
theorem dirB_touch {S : Nat → Prop} {w w' : World} {q : Nat} {l : List Dir.El} {n c : Nat} (h : Dir.Bts w (.slice (some ⟨q, 0, none⟩) n c) l) (ht : Touch S w w') (hs : ¬ S q) : Dir.Bts w' (.slice (some ⟨q, 0, none⟩) n c) l := by
  obtain ⟨p, cap, hv, hr, hn, hp⟩ := h.form
  refine ⟨p, cap, hv, hr, hn, fun h0 => ?_⟩
  obtain ⟨b, off, hpe, hc⟩ := hp h0
  simp only [Value.slice.injEq] at hv
  rw [hpe] at hv
  simp only [Option.some.injEq, Addr.mk.injEq] at hv
  refine ⟨b, off, hpe, fun j hj => ?_⟩
  have hci := hc j hj
  rw [List.getElem?_eq_getElem (by rw [Dir.cells_length]; exact hj)] at hci ⊢
  exact ht.cell hci (by rw [← hv.1.1]; exact hs)
theorem pmV_touch {T : Nat → Prop} {P B S b N L cnt mp R : Nat} {H : List (Option Nat)} {Fp : List Nat → List Fr} {pre pre' : List Nat} {W W' : World} (h : PmV P B S b N L cnt mp R H Fp pre W) (hF : Fp pre' = Fp pre) (ht : Touch T W W') (h1 : ¬ T P) (h2 : ¬ T mp) (h3 : ¬ T R) : PmV P B S b N L cnt mp R H Fp pre' W' := by
  obtain ⟨⟨hand, hr⟩, hm, hc⟩ := h
  exact ⟨⟨hand, by rw [hF]; exact hr.touch ht h1⟩, hm.touch ht h2, ht.cell hc h3⟩
theorem pmV_kind {P B S b N L cnt mp R : Nat} {H : List (Option Nat)} {Fp : List Nat → List Fr} {pre : List Nat} {W : World} (h : PmV P B S b N L cnt mp R H Fp pre W) : Kind W P ∧ Kind W mp ∧ Kind W R := by
  obtain ⟨⟨hand, hr⟩, hm, hc⟩ := h
  refine ⟨kind_cells hr.row, ?_, ?_⟩
  · obtain ⟨es, clock, hb, -⟩ := hm.own
    exact ⟨_, hb, Or.inr rfl⟩
  · obtain ⟨o, h1, h2⟩ := cells_of_cell hc
    exact ⟨o, h1, Or.inl h2⟩
theorem dyI_kept {P B S b N L cnt mp R A Z : Nat} {w0 : World} {H : List (Option Nat)} {F : List Fr} (hz : A < Z) (X : Nat → Prop) : KeptV Z (DyI P B S b N L cnt mp R A w0 H F X) := by
  refine ⟨fun pre W W' h hg => ?_, fun pre W l o o' h hl ho h1 h2 => ?_⟩
  · obtain ⟨v, e, hV, hbx, hO, ht, hvb⟩ := h
    have hT := touch_grown hg
    exact ⟨v, e, pmV_touch hV rfl hT id id id, hT.row hbx id, dir_touch hO hT fun _ _ => id, ht.trans (hT.mono fun _ _ h => h.elim), hvb⟩
  · obtain ⟨v, e, hV, hbx, hO, ht, hvb⟩ := h
    have hT := touch_putObj W l o'
    have hk := pmV_kind hV
    refine ⟨v, e, pmV_touch hV rfl hT (fun e => kind_ne hk.1 ho h1 h2 e) (fun e => kind_ne hk.2.1 ho h1 h2 e) (fun e => kind_ne hk.2.2 ho h1 h2 e), hT.row hbx (fun e => kind_ne (kind_cells hbx) ho h1 h2 e), dir_touch hO hT fun k hk e => kind_ne (dir_own_lt hO hk).2.2 ho h1 h2 e, ht.trans (hT.mono fun _ _ e => by have e : _ = l := e; omega), hvb⟩
theorem dts_eq (F : List Fr) (H : List (Option Nat)) (s : Po.S) : ∀ (ks pre : List Nat), (∀ k ∈ ks, ∃ i, H.getD k none = some i ∧ (fa F i).page = k ∧ s.first k = if (fa F i).dirty then some (fa F i).first else none) →
    dyL F (ysF (fun _ => F) H pre ks) = dyL F pre ++ ks.filterMap fun k => (s.first k).map fun f => (k, f)
  | [], pre, _ => by simp [ysF]
  | k :: ks, pre, h => by
    obtain ⟨i, h1, h2, h3⟩ := h k (List.mem_cons_self ..)
    have hst : ysF (fun _ => F) H pre (k :: ks) = ysF (fun _ => F) H (if (fa F i).dirty then pre ++ [i] else pre) ks := by
      show ysF (fun _ => F) H (if (fa F ((H.getD k none).getD 0)).dirty then pre ++ [(H.getD k none).getD 0] else pre) ks = _
      rw [h1]; rfl
    rw [hst, dts_eq F H s ks _ fun k' hk' => h k' (List.mem_cons_of_mem _ hk'), List.filterMap_cons, h3]
    cases hd : (fa F i).dirty with
    | true => simp [dyL, h2]
    | false => simp
attribute [local go_sem] Oper.semAt_some in
set_option maxRecDepth 100000 in
set_option maxHeartbeats 4000000 in
theorem pmDirty_in {w : World} {P B S b N L cnt hand mp : Nat} {F : List Fr} {H : List (Option Nat)} (h : PmRow w P B S b N L cnt hand mp F) (hm : HmAt w mp H) (hinto : ∀ k i, H.getD k none = some i → i < 64 ∧ (fa F i).page = k) :
    CallsIn Fence.wide 5 Tryz.prog 27 #[.pointer (some ⟨P, 0, none⟩)] w fun e w' => ∃ v, e = .returned v ∧ Dir.Own w.heap.size w' v (dyL F (ysF (fun _ => F) H [] (heldL H))) ∧ Below w.heap.size w w' := by
  refine callsIn_of_wp_marks Tryz.func27 rfl trivial ?_ rfl
  simp only [Tryz.ntmps27, List.size_toArray, List.length_cons, List.length_nil, Nat.reduceAdd, Nat.reduceSub, Array.replicate_succ, Array.replicate_zero, List.push_toArray, List.append_toArray, List.nil_append, List.cons_append]
  obtain ⟨A, hA⟩ : ∃ A, A = w.heap.size := ⟨_, rfl⟩
  obtain ⟨W0, hW0⟩ : ∃ W0, W0 = w.alloc (.cells #[.slice none 0 0] 66) := ⟨_, rfl⟩
  have hs0 : W0.heap.size = A + 1 := by rw [hW0, hA]; simp
  have hr0 : Boxed W0 A 66 (.slice none 0 0) := by rw [hW0, hA]; exact Boxed.new w _ _
  have hB0 : Below w.heap.size w W0 := by rw [hW0]; exact (Below.refl _ w).alloc (Nat.le_refl _) _
  have hdir := pmDirtyF_any W0 (some ⟨P, 0, none⟩)
  rw [hs0] at hdir
  have HROW := Lib.hid (h.below hB0)
  have HM := Lib.hid (hm.below hB0)
  have HI := Lib.hid hinto
  have HB := Lib.hid hB0
  have HS0 : Hid (W0.heap.size = A + 1) := hs0
  have HR0 := Lib.hid hr0
  have HA := Lib.hid hA
  have HPL : Hid (P < A ∧ mp < A) := ⟨by rw [hA]; exact h.lt, by rw [hA]; exact hm.lt⟩
  clear h hm hinto hB0 hr0 hs0
  rw [← hA]
  clear hA
  gi_wp2
  rw [← hW0, ← HA.out]
  clear hW0
  gi_wp2_with (refine ⟨trivial, ?_⟩; gi_at_call 53; refine (callsIn_wide.2 hdir).mono ?_; rintro e w2 ⟨rfl, hw2⟩; rw [hw2]; clear hdir hw2)
  obtain ⟨W1, hW1⟩ : ∃ W1, W1 = W0.alloc (.cells #[.pointer (some ⟨P, 0, none⟩)] 26) := ⟨_, rfl⟩
  rw [← hW1]
  have hs1 : W1.heap.size = A + 2 := by rw [hW1, World.size_alloc, HS0.out]
  have hr2 : W1.heap[A + 1]? = some (.cells #[.pointer (some ⟨P, 0, none⟩)] 26 (0, 0)) := by
    have h := heap_alloc_last W0 (.cells #[.pointer (some ⟨P, 0, none⟩)] 26)
    rw [HS0.out] at h
    rw [hW1]; exact h
  have hB1 : Below W0.heap.size W0 W1 := by rw [hW1]; exact (Below.refl _ W0).alloc (Nat.le_refl _) _
  have HB1 : Hid (Below w.heap.size w W1) := HB.out.trans (hB1.mono (by rw [HS0.out, ← HA.out]; omega))
  have hI0 : DyI P B S b N L cnt mp (A + 1) A W1 H F (DyS A (.slice none 0 0)) [] W1 :=
    ⟨_, rfl, ⟨⟨hand, HROW.out.below hB1⟩, HM.out.below hB1, blk_cell hr2 0 rfl⟩, (hB1.block A (by rw [HS0.out]; omega)).trans HR0.out, Dir.own_nil _ _, Touch.refl _ _, fun j hj => by cases hj⟩
  have HI0 := Lib.hid hI0
  have HS1 : Hid (W1.heap.size = A + 2) := hs1
  clear hW1 hs1 hr2 hB1 hI0
  refine wpIn_rangeFunc_view (w := W1) (w0 := W1) rfl (by decide) (gf := 80) (lb := #[.pointer (some ⟨A + 1, 0, none⟩)]) rfl trivial (enters_of Tryz.func80 (by kernel_rfl) rfl)
    (pmSeq_in P B S b N L cnt mp (A + 1) H (fun _ => F) W1 _ (by decide)) (Below.refl _ _) (fun _ => rfl)
    (DyI P B S b N L cnt mp (A + 1) A W1 H F) (DyS A (.slice none 0 0)) (fun X => dyI_kept (by have := HS1.out; omega) X) ?hV ?hlt HI0.out
    (fun x => { tmps := #[.pointer (some ⟨P, 0, none⟩), undef, .slice none 0 0, .pointer (some ⟨A, 0, none⟩), .pointer (some ⟨P, 5 + x * 7, none⟩), .pointer (some ⟨P, 0, none⟩), .func (.func 80) #[] #[.pointer (some ⟨A + 1, 0, none⟩)], .pointer (some ⟨P, 5 + x * 7, none⟩), undef, undef, undef, undef, undef, undef, undef, undef, undef, undef, undef, undef, undef, undef], defers := [] }) ?assign ?body ?done
  case hV =>
    rintro X pre W ⟨v, -, hV, -⟩
    exact hV
  case hlt =>
    rintro X pre W ⟨v, rfl, -, hbx, hO, -⟩ i (rfl | hi)
    · exact hbx.lt
    · exact (dir_own_lt hO hi).2.1
  case assign =>
    intro l x W K hK
    gi_wp2
    exact hK
  case body =>
    rintro lb X pre i W ⟨v, rfl, hV, hbx, hO, hT, hvb⟩ ⟨⟨k, hk, hd⟩, hpl⟩
    obtain ⟨hi6, hpg⟩ := HI.out k i hk
    have hk16 : k < 65536 := by
      have h1 := HM.out.len
      rcases Nat.lt_or_ge k H.length with h2 | h2
      · omega
      · rw [List.getD_eq_getElem?_getD, List.getElem?_eq_none h2] at hk; cases hk
    obtain ⟨⟨hand1, hrow⟩, hmap, hcR⟩ := hV
    obtain ⟨pg, hpgd⟩ : ∃ pg, pg = (fa F i).page := ⟨_, rfl⟩
    obtain ⟨f, hf⟩ : ∃ f, f = (fa F i).first := ⟨_, rfl⟩
    have c0 : W.cell? ⟨P, 5 + i * 7, none⟩ = some (.int .i64 (pg : Int)) := hrow.fr hi6 0 (by decide) (v := .int .i64 (pg : Int)) (by rw [hpgd]; rfl)
    have c5 := hrow.fr hi6 5 (by decide) (v := .int .u64 (f : Int)) (by rw [hf]; rfl)
    have hc32 : Value.int .u32 (IntKind.u32.wrap (pg : Int)) = .int .u32 (pg : Int) := by
      have e : IntKind.u32.wrap (pg : Int) = (pg : Int) % 4294967296 := by simp [IntKind.wrap, IntKind.bits, IntKind.signed]
      rw [e, Int.emod_eq_of_lt (by omega) (by omega)]
    obtain ⟨L0, hL0⟩ : ∃ L0, L0 = dyL F pre := ⟨_, rfl⟩
    rw [← hL0] at hO
    have hLl : L0.length < 65536 := by rw [hL0]; unfold dyL; rw [List.length_map]; exact hpl
    have hAP := HPL.out
    have hnS : ∀ j, j < A + 2 → j ≠ A → ¬ DyS A v j := fun j hj hne hs => by
      rcases hs with h | h
      · exact hne h
      · have := hvb j h; have := HS1.out; omega
    have HN := Lib.hid hnS
    have HV : Hid (PmV P B S b N L cnt mp (A + 1) H (fun _ => F) pre W) := ⟨⟨hand1, hrow⟩, hmap, hcR⟩
    have HT := Lib.hid hT
    have HVB := Lib.hid hvb
    have HL0 := Lib.hid hL0
    have HLL := Lib.hid hLl
    have HF : Hid (pg = (fa F i).page ∧ f = (fa F i).first) := ⟨hpgd, hf⟩
    have HC32 := Lib.hid hc32
    have hAW : A < W.heap.size := hbx.lt
    have hpP : P ≠ A := by omega
    clear hnS hrow hmap hcR hT hvb hL0 hLl hpgd hf hk hd hpl hpg hk16 hc32
    gi_wp2
    refine Ord.In.walk (fun _ => trivial) (DyF P i pg f v A) (DyR W A v L0 (pg, f)) (Touch (DyS A v)) (by kernel_rfl) (by kernel_rfl) ?fr ?hfr ?hT ?hR ?he ?hend
    case hfr =>
      intro xs
      simp only [Ord.fill, Act.put, List.setIfInBounds_toArray, List.set_cons_zero, List.set_cons_succ]
      rfl
    case hT =>
      intro k u w1 w2 ht hF
      rcases k with _ | _ | _ | _ | _ | _ | _ | _ | _ | _ | _ | _ | k
      · exact hF
      · exact hF
      · exact hF
      · exact hF
      · exact hF
      · exact hF
      · exact hF
      · exact hF
      · exact hF
      · exact hF
      · exact hF
      · obtain ⟨q, rfl, h2, h4, h5⟩ := hF
        refine ⟨q, rfl, h2, h4, dirB_touch h5 ht ?_⟩
        rintro (h | h)
        · omega
        · exact h4 h
      · trivial
    case hR =>
      intro xs
      exact ⟨(Touch.refl _ W).drew, hAW, fun _ => ⟨hO.below ((Below.refl _ W).drew), hbx⟩, fun e => by cases e⟩
    case he =>
      refine Ord.In.each_cons (fun D xs w2 hD hC hP hR hA K' hK => ?_) ?_
      · have h5 : D 12 = false := by
          cases e : D 12 with
          | false => rfl
          | true => have := Ord.closed_at hC 12 0 (by kernel_rfl) e; rw [hD] at this; cases this
        have hc := (hR.s0 h5).2.cell
        clear hA
        go_simp
        exact hK _ _ ⟨_, rfl, Touch.refl _ _, hR.quiet 0 _ (by decide) (by decide), rfl⟩
      refine Ord.In.each_cons (fun D xs w2 hD hC hP hR hA K' hK => ?_) ?_
      · clear hA
        go_simp
        exact hK _ _ ⟨_, rfl, Touch.refl _ _, hR.quiet 1 _ (by decide) (by decide), rfl⟩
      refine Ord.In.each_cons (fun D xs w2 hD hC hP hR hA K' hK => ?_) ?_
      · have q1 := Ord.ahead_get _ hA 1 (by decide)
        simp only [DyF] at q1
        simp only [q1] at hK ⊢
        clear hA
        go_simp
        exact hK _ _ ⟨_, rfl, Touch.refl _ _, hR.quiet 2 _ (by decide) (by decide), rfl⟩
      refine Ord.In.each_cons (fun D xs w2 hD hC hP hR hA K' hK => ?_) ?_
      · have q2 := Ord.ahead_get _ hA 2 (by decide)
        simp only [DyF] at q2
        simp only [q2] at hK ⊢
        clear hA
        go_simp
        exact hK _ _ ⟨_, rfl, Touch.refl _ _, hR.quiet 3 _ (by decide) (by decide), rfl⟩
      refine Ord.In.each_cons (fun D xs w2 hD hC hP hR hA K' hK => ?_) ?_
      · have q3 := Ord.ahead_get _ hA 3 (by decide)
        simp only [DyF] at q3
        simp only [q3] at hK ⊢
        clear hA
        have hc := hR.touch.cell c0 (HN.out P (by omega) hpP)
        go_simp
        exact hK _ _ ⟨_, rfl, Touch.refl _ _, hR.quiet 4 _ (by decide) (by decide), rfl⟩
      refine Ord.In.each_cons (fun D xs w2 hD hC hP hR hA K' hK => ?_) ?_
      · have q4 := Ord.ahead_get _ hA 4 (by decide)
        simp only [DyF] at q4
        simp only [q4] at hK ⊢
        clear hA
        go_simp
        exact hK _ _ ⟨_, rfl, Touch.refl _ _, hR.quiet 5 _ (by decide) (by decide), HC32.out⟩
      refine Ord.In.each_cons (fun D xs w2 hD hC hP hR hA K' hK => ?_) ?_
      · clear hA
        go_simp
        exact hK _ _ ⟨_, rfl, Touch.refl _ _, hR.quiet 6 _ (by decide) (by decide), rfl⟩
      refine Ord.In.each_cons (fun D xs w2 hD hC hP hR hA K' hK => ?_) ?_
      · have q6 := Ord.ahead_get _ hA 6 (by decide)
        simp only [DyF] at q6
        simp only [q6] at hK ⊢
        clear hA
        go_simp
        exact hK _ _ ⟨_, rfl, Touch.refl _ _, hR.quiet 7 _ (by decide) (by decide), rfl⟩
      refine Ord.In.each_cons (fun D xs w2 hD hC hP hR hA K' hK => ?_) ?_
      · have q7 := Ord.ahead_get _ hA 7 (by decide)
        simp only [DyF] at q7
        simp only [q7] at hK ⊢
        clear hA
        go_simp
        exact hK _ _ ⟨_, rfl, Touch.refl _ _, hR.quiet 8 _ (by decide) (by decide), rfl⟩
      refine Ord.In.each_cons (fun D xs w2 hD hC hP hR hA K' hK => ?_) ?_
      · have q8 := Ord.ahead_get _ hA 8 (by decide)
        simp only [DyF] at q8
        simp only [q8] at hK ⊢
        clear hA
        have hc := hR.touch.cell c5 (HN.out P (by omega) hpP)
        go_simp
        exact hK _ _ ⟨_, rfl, Touch.refl _ _, hR.quiet 9 _ (by decide) (by decide), rfl⟩
      refine Ord.In.each_cons (fun D xs w2 hD hC hP hR hA K' hK => ?_) ?_
      · have q5 := Ord.ahead_get _ hA 5 (by decide)
        have q9 := Ord.ahead_get _ hA 9 (by decide)
        simp only [DyF] at q5 q9
        simp only [q5, q9] at hK ⊢
        clear hA
        go_simp
        exact hK _ _ ⟨_, rfl, Touch.refl _ _, hR.quiet 10 _ (by decide) (by decide), rfl⟩
      refine Ord.In.each_cons (fun D xs w2 hD hC hP hR hA K' hK => ?_) ?_
      · have q10 := Ord.ahead_get _ hA 10 (by decide)
        simp only [DyF] at q10
        simp only [q10] at hK ⊢
        clear hA
        have h5 : D 12 = false := by
          cases e : D 12 with
          | false => rfl
          | true => have := Ord.closed_at hC 12 11 (by kernel_rfl) e; rw [hD] at this; cases this
        have hnq : v.ownBlock ≠ some w2.heap.size := fun e => by have := (dir_own_lt (hR.s0 h5).1 e).2.1; omega
        have hsz := hR.sz
        go_simp
        exact hK _ _ ⟨_, rfl, Touch.of_new ((Below.refl _ w2).alloc (Nat.le_refl _) _), (hR.alloc _).quiet 11 _ (by decide) (by decide), ⟨w2.heap.size, rfl, hsz, hnq, Dir.bts_one w2 (pg, f) _⟩⟩
      refine Ord.In.each_cons (fun D xs w2 hD hC hP hR hA K' hK => ?_) ?_
      · have q0 := Ord.ahead_get _ hA 0 (by decide)
        simp only [DyF] at q0
        obtain ⟨q, q4, hq1, hq3, hqB⟩ := Ord.ahead_get _ hA 11 (by decide)
        simp only [q0, q4] at hK ⊢
        rw [q4] at hqB
        clear hA
        obtain ⟨hO2, hbx2⟩ := hR.s0 hD
        obtain ⟨v5, w5, hrun, hO5, hb5, hg5, hat5⟩ := run_append_Dir 66 (A + 1) v L0 hO2 _ [(pg, f)] hqB (by simp) (by have := HLL.out; simp; omega) hR.sz
        have h6 : D 13 = false := by
          cases e : D 13 with
          | false => rfl
          | true => have := Ord.closed_at hC 13 12 (by kernel_rfl) e; rw [hD] at this; cases this
        have hne : some A ≠ v.ownBlock := fun e => by have := (dir_own_lt hO2 e.symm).1; omega
        refine (if_pos (by rfl)).mpr ?_
        refine wpIn_append_run (.tmp 8) (.tmp 19) _ _ rfl _ _ rfl rfl v5 w5 hrun ?_
        have htt : Touch (DyS A v) w2 w5 := ⟨hg5.os, hg5.tape, hg5.output, hg5.size, fun i hi hs => hg5.block i hi fun e => hs (Or.inr e.symm)⟩
        refine hK _ _ ⟨v5, rfl, htt, ?_, trivial⟩
        have x5 : Ord.set xs 12 v5 12 = v5 := if_pos rfl
        have d5 : Ord.wth D 12 12 = true := if_pos rfl
        have d6 : Ord.wth D 12 13 = D 13 := if_neg (by decide)
        refine ⟨hR.touch.trans htt, Nat.lt_of_lt_of_le hR.sz hg5.size, (fun e => by rw [d5] at e; cases e), fun _ => ⟨by rw [x5]; exact hO5, ?_, v, (hg5.block A hR.sz hne).trans hbx2, fun e => by rw [d6, h6] at e; cases e⟩⟩
        rw [x5]
        intro j hj
        rcases hat5 with h | h
        · exact Or.inl (by rw [← h]; exact hj)
        · rw [h] at hj
          simp only [Option.some.injEq] at hj
          have := hR.touch.size
          exact Or.inr (by omega)
      refine Ord.In.each_cons (fun D xs w2 hD hC hP hR hA K' hK => ?_) ?_
      · clear hA
        have h5 : D 12 = true := hP { on := 12, ground := .data } (by simp) rfl
        obtain ⟨hO2, hj2, u, hbx2, -⟩ := hR.s1 h5
        obtain ⟨p5, c5', e5⟩ := hO2.bts.slice
        simp only [e5] at hK ⊢
        have hc6 := hbx2.cell
        have hf6 := hbx2.frozen
        obtain ⟨n5, hn5⟩ : ∃ n5, n5 = (L0 ++ [(pg, f)]).length := ⟨_, rfl⟩
        rw [← hn5] at hK e5 ⊢
        have htt := Touch.set (S := DyS A v) (a := w2) A 0 (.slice p5 n5 c5') (Or.inl rfl)
        have hoA : ∀ k, (xs 12).ownBlock = some k → k ≠ A := fun k hk e => by have := (dir_own_lt hO2 hk).1; omega
        have hOw := dir_touch hO2 (Touch.set (S := (· = A)) (a := w2) A 0 (.slice p5 n5 c5') rfl) hoA
        have HK2 := Lib.hid hn5
        clear hn5
        go_simp
        refine hK _ _ ⟨undef, rfl, htt, ?_, trivial⟩
        have x5 : Ord.set xs 13 undef 12 = xs 12 := if_neg (by decide)
        have d5 : Ord.wth D 13 12 = D 12 := if_neg (by decide)
        refine ⟨hR.touch.trans htt, Nat.lt_of_lt_of_le hR.sz htt.size, (fun e => by rw [d5, h5] at e; cases e), fun _ => ⟨by rw [x5]; exact hOw, by rw [x5]; exact hj2, _, hbx2.set _, fun _ => by rw [x5]; exact e5.symm⟩⟩
      exact Ord.In.each_nil
    case hend =>
      intro D xs w9 hR hF
      obtain ⟨hO9, hj9, u, hbx9, hu⟩ := hR.s1 (hF 12 (by decide)).1
      obtain rfl := hu (hF 13 (by decide)).1
      have HR9 := Lib.hid hR.touch
      clear hF hR
      gi_wp2
      have hEq : dyL F (pre ++ [i]) = L0 ++ [(pg, f)] := by
        rw [HL0.out, HF.out.1, HF.out.2]; unfold dyL; rw [List.map_append]; rfl
      refine ⟨DyS A (xs 12), ⟨xs 12, rfl, pmV_touch HV.out rfl HR9.out (HN.out P (by omega) hpP) (HN.out mp (by omega) (by omega)) (HN.out (A + 1) (by omega) (by omega)), hbx9, by rw [hEq]; exact hO9, HT.out.trans (HR9.out.mono fun j _ hj => ?_), fun j hj => ?_⟩, HR9.out, fun j hj => ?_⟩
      · rcases hj with h | h
        · exact Nat.le_of_eq h.symm
        · have := HVB.out j h; have := HS1.out; omega
      · rcases hj9 j hj with h | h
        · exact HVB.out j h
        · exact Nat.le_trans HT.out.size h
      · rcases hj with h | h
        · exact Or.inl (Or.inl h)
        · rcases hj9 j h with h | h
          · exact Or.inl (Or.inr h)
          · exact Or.inr h
  case done =>
    rintro D xs X W hD hS ⟨v, rfl, hV, hbx, hO, hT, hvb⟩ hK
    have hc := hbx.cell
    obtain ⟨p, c, hv⟩ := hO.bts.slice
    obtain ⟨n5, hn5⟩ : ∃ n5, n5 = (dyL F xs).length := ⟨_, rfl⟩
    rw [← hn5] at hv
    have HO := Lib.hid hO
    have HT := Lib.hid hT
    have HK := Lib.hid hK
    have HD := Lib.hid hD
    have HSS := Lib.hid hS
    have HV := Lib.hid hv
    subst hv
    clear hD hS hV hbx hO hT hvb hK hn5
    gi_wp2
    refine ⟨by simp, .inl ⟨_, _, rfl, run_takeDeferred HK.out, ?_⟩⟩
    refine ⟨_, results_tmp rfl _ _ _, _, rfl, ?_, ?_⟩
    · have h2 := dir_touch HO.out (touch_putObj W D (.deferred none)) fun k hk e => kind_ne (dir_own_lt HO.out hk).2.2 HK.out rfl rfl e
      rw [← HSS.out]
      exact h2.from (Nat.le_succ A)
    · have hA2 := HA.out
      have h1 : Below w.heap.size w W := (HB1.out).trans (HT.out.below (fun j hj => by rw [← hA2]; exact hj) (by have := HS1.out; omega))
      have h9 := h1.trans (belowK_b (w := w) (Nat.le_refl _) W D (.deferred (some [])) (.deferred none) (by have := HD.out; have := HS1.out; omega) HK.out rfl rfl)
      rw [← hA2] at h9
      exact h9
theorem pmDirty_any {w : World} {P B S b N L cnt hand mp : Nat} {F : List Fr} {H : List (Option Nat)} (h : PmRow w P B S b N L cnt hand mp F) (hm : HmAt w mp H) (hinto : ∀ k i, H.getD k none = some i → i < 64 ∧ (fa F i).page = k) :
    Calls Tryz.prog 27 #[.pointer (some ⟨P, 0, none⟩)] w fun e w' => ∃ v, e = .returned v ∧ Dir.Own w.heap.size w' v (dyL F (ysF (fun _ => F) H [] (heldL H))) ∧ Below w.heap.size w w' := callsIn_wide.1 (pmDirty_in h hm hinto)
theorem po_dirty {U V X : Nat → Prop} {w : World} {B L P n : Nat} {d : Dk.Dev} {lg : Wl.S} {s : Po.S} (h : PoIn plS PmPO poHw U V X w B L P d lg s) (hC : Wl.Calm n d) :
    Calls Tryz.prog 27 #[.pointer (some ⟨P, 0, none⟩)] w fun e w' => ∃ v, e = .returned v ∧ Dir.Own w.heap.size w' v (Po.dirts s) ∧ Below w.heap.size w w' := by
  obtain ⟨S, b, N, hand, mp, F, H, hin, -⟩ := po_in h (Wl.calm_near hC (pl_ok h.log.1))
  have hb := hin.pm.bounds
  have hc := hin.pm.cnt
  have hA := pmDirty_any hin.pm.row hin.pm.map fun k i hk => ⟨by have := (hin.pm.into k i hk).1; omega, (hin.pm.into k i hk).2⟩
  have e : dyL F (ysF (fun _ => F) H [] (heldL H)) = Po.dirts s := by
    rw [dts_eq F H s (heldL H) [] fun k hk => ?_]
    · unfold Po.dirts; rw [hin.pm.held]; rfl
    · have hk2 := (heldL_mem H k).1 hk
      cases e : H.getD k none with
      | none => exact absurd e hk2
      | some i =>
        have h1 := hin.pm.into k i e
        refine ⟨i, rfl, h1.2, ?_⟩
        have h2 := (hin.pm.fr i h1.1).first
        rw [h1.2] at h2
        exact h2
  rw [e] at hA
  exact hA
end Go.Proofs.YtbpodmallknhfaaGreat
namespace Go.Proofs.YtbpodmallknhfaaGreat
open Go.RowKit Go.Shelf
theorem fla_results (tmps : Array Value) (w : World) (g : Nat) (v : Value) (h : tmps.getD 2 undef = .pointer (some ⟨g, 0, none⟩)) (r : w.heap[g]? = some (.cells #[v] 47 (0, 0))) :
    (results Tryz.f26 tmps).run Tryz.prog w = .ok v w := by
  have hr : Tryz.f26.results = #[.cell 2 47] := rfl
  have h' : tmps[2]?.getD undef = .pointer (some ⟨g, 0, none⟩) := by simpa using h
  have c0 := blk_cell r 0 (v := v) rfl
  have l0 : (loadVar 47 ⟨g, 0, none⟩).run Tryz.prog w = .ok v w := by simp [loadVar, run_underlying Tryz.underlying47, c0]
  simp [results, hr, h', asAddr, l0]
def AbA (U V : Nat → Prop) (B L P S b N hand mp : Nat) (F : List Fr) (H : List (Option Nat)) (n : Nat) (lg : Wl.S) (s : Po.S) (K : Nat) (w w' : World) : Prop :=
  ∃ U1 V1 d1 lg1 s1 F1, PmIn U1 V1 w' B L P S b N hand mp F1 H n d1 lg1 s1 ∧ Wl.Calm n d1 ∧ Po.Lf lg lg1 ∧ Po.AllBack s s1 ∧ PmX P mp F1 = PmX P mp F ∧ Touch (fun j => (Both U V j ∨ j = P) ∨ K ≤ j) w w' ∧ Grew U U1 w ∧ Grew V V1 w
theorem al_end {U V : Nat → Prop} {w W W' : World} {B L P S b N hand mp Q R n : Nat} {F : List Fr} {H : List (Option Nat)} {d : Dk.Dev} {lg : Wl.S} {s : Po.S} {X T : Nat → Prop} {pre : List Nat} (h : AlI U V w B L P S b N hand mp Q R n F H d lg s X pre W) (hp : pre = ysF (clF F) H [] (heldL H))
    (ht : Touch T W W') (hT : ∀ i, T i → Q ≤ i ∧ (i = Q + 1 ∨ ∃ o, W.heap[i]? = some o ∧ o.isCells = false ∧ o.isWalk = false)) (hQ : Q + 1 < w.heap.size) (hlt : ∀ i, Both U V i ∨ PmX P mp F i → i < Q) : AbA U V B L P S b N hand mp F H n lg s Q w W' := by
  obtain ⟨U1, V1, d1, lg1, s1, rfl, hin, hc, hlf, ⟨e1, e2, e3, e4, e5, e6⟩, hX, hq, hr, hrr, htt, hgu, hgv⟩ := h
  have hnot : ∀ i, Both U1 V1 i ∨ PmX P mp (clF F pre) i → ¬ T i := fun i hi hti => by
    rcases (hT i hti).2 with rfl | ⟨o, ho, h1, h2⟩
    · rcases hi with (hi | hi) | hi
      · rcases hgu _ hi with h | h
        · have := hlt _ (Or.inl (Or.inl h)); omega
        · omega
      · rcases hgv _ hi with h | h
        · have := hlt _ (Or.inl (Or.inr h)); omega
        · omega
      · rw [hX] at hi
        have := hlt _ (Or.inr hi); omega
    · exact kind_ne (kind_in hin i hi) ho h1 h2 rfl
  refine ⟨U1, V1, d1, lg1, s1, clF F pre, hin.keep ht (fun i hi => hnot i (Or.inl hi)) (fun i hi => hnot i (Or.inr hi)), hc, hlf, ⟨e1, e2, e3, e4, fun k => ?_⟩, hX, (htt.mono fun j _ hj => Or.inl hj).grow ht fun i hi => Or.inl (Or.inr (hT i hi).1), hgu, hgv⟩
  by_cases hk : k ∈ s1.held
  · have hk1 : k ∈ heldL H := hin.pm.held ▸ hk
    have hk2 := (heldL_mem H k).1 hk1
    cases e : H.getD k none with
    | none => exact absurd e hk2
    | some i =>
      have h1 := hin.pm.into k i e
      have h2 := (hin.pm.fr i h1.1).first
      rw [h1.2] at h2
      have h3 := (ysF_clean F H (heldL H) []).2 k hk1
      rw [← hp, e] at h3
      have h3 : (fa (clF F pre) i).dirty = false := h3
      rw [h2, h3]; rfl
  · exact hin.pm.good.first_of hk
theorem al_step {U V : Nat → Prop} {w W : World} {B L P S b N hand mp Q R n : Nat} {F : List Fr} {H : List (Option Nat)} {d : Dk.Dev} {lg : Wl.S} {s : Po.S} {X : Nat → Prop} {pre : List Nat} {i : Nat} (h : AlI U V w B L P S b N hand mp Q R n F H d lg s X pre W) (hy : PmY H (clF F) pre i)
    (hs : lg.stop ≤ 1000000000000) (hQ : Q + 1 < w.heap.size ∧ R < w.heap.size) (hlt : ∀ i, Both U V i ∨ PmX P mp F i → i < Q) (hR : Q ≤ R) :
    Calls Tryz.prog 52 #[.pointer (some ⟨P, 0, none⟩), .pointer (some ⟨P, 5 + i * 7, none⟩)] W fun e W' => e = .returned (.int .i64 0) ∧ ∃ X', AlI U V w B L P S b N hand mp Q R n F H d lg s X' (pre ++ [i]) W' ∧ Touch X W W' ∧ Grew X X' W := by
  obtain ⟨U1, V1, d1, lg1, s1, rfl, hin, hc, hlf, ⟨e1, e2, e3, e4, e5, e6⟩, hX, hq, hr, hrr, htt, hgu, hgv⟩ := h
  obtain ⟨⟨k, hk, hd⟩, -⟩ := hy
  have hio := hin.pm.into k i hk
  refine (pmPut_any hin hio.1 (by rw [hlf.stop]; exact hs)).mono ?_
  rintro e W3 (⟨U', V', d', lg', rfl, hin', hcalm, hlf', ht, hgu', hgv', -⟩ | ⟨hnc, -⟩)
  · have hW : w.heap.size ≤ W.heap.size := htt.size
    have hn : ∀ i, Q ≤ i → i < w.heap.size → ¬ (Both U1 V1 i ∨ i = P) := fun i h1 h2 hi => by
      rcases hi with (hi | hi) | hi
      · rcases hgu _ hi with h | h
        · have := hlt _ (Or.inl (Or.inl h)); omega
        · omega
      · rcases hgv _ hi with h | h
        · have := hlt _ (Or.inl (Or.inr h)); omega
        · omega
      · have := hlt _ (Or.inr (Or.inl hi)); omega
    have hGu : Grew U U' w := fun j hj => by
      rcases hgu' j hj with h | h
      · exact hgu j h
      · exact Or.inr (by omega)
    have hGv : Grew V V' w := fun j hj => by
      rcases hgv' j hj with h | h
      · exact hgv j h
      · exact Or.inr (by omega)
    rw [← clF_snoc] at hin'
    refine ⟨rfl, _, ⟨U', V', d', lg', _, rfl, hin', hcalm hc, hlf.trans hlf', ⟨e1, e2, e3, e4, e5, fun j => ?_⟩, ?_, ht.row hq (hn Q (Nat.le_refl _) (by omega)), ht.row hr (hn (Q + 1) (by omega) (by omega)), ht.row hrr (hn R hR hQ.2), htt.grow ht fun j hj => ?_, hGu, hGv⟩, ht, fun j hj => ?_⟩
    · show Po.upd s1.first _ none j = _ ∨ Po.upd s1.first _ none j = _
      unfold Po.upd
      split
      · exact Or.inr rfl
      · exact e6 j
    · rw [clF_snoc, pmX_set (clF F pre) (i := i) (by have := hin.pm.bounds; have := hin.pm.cnt; have := hio.1; rw [hin.pm.row.len]; omega) { fa (clF F pre) i with dirty := false } rfl]; exact hX
    · rcases hj with (hj | hj) | hj
      · rcases hgu j hj with h | h
        · exact Or.inl (Or.inl (Or.inl h))
        · exact Or.inr h
      · rcases hgv j hj with h | h
        · exact Or.inl (Or.inl (Or.inr h))
        · exact Or.inr h
      · exact Or.inl (Or.inr hj)
    · rcases hj with (hj | hj) | hj
      · rcases hgu' j hj with h | h
        · exact Or.inl (Or.inl (Or.inl h))
        · exact Or.inr h
      · rcases hgv' j hj with h | h
        · exact Or.inl (Or.inl (Or.inr h))
        · exact Or.inr h
      · exact Or.inl (Or.inr hj)
  · exact absurd hc hnc
attribute [local go_sem] Oper.semAt_some in
set_option maxRecDepth 100000 in
set_option maxHeartbeats 4000000 in
theorem pmFlushAll_in {U V : Nat → Prop} {w : World} {B L P S b N hand mp n : Nat} {F : List Fr} {H : List (Option Nat)} {d : Dk.Dev} {lg : Wl.S} {s : Po.S} (h : PmIn U V w B L P S b N hand mp F H n d lg s) (hC : Wl.Calm n d) (hs : lg.stop ≤ 1000000000000) :
    CallsIn Fence.wide 5 Tryz.prog 26 #[.pointer (some ⟨P, 0, none⟩)] w fun e w' => e = .returned (.int .i64 0) ∧ AbA U V B L P S b N hand mp F H n lg s w.heap.size w w' := by
  refine callsIn_of_wp_marks Tryz.func26 rfl trivial ?_ rfl
  simp only [Tryz.ntmps26, List.size_toArray, List.length_cons, List.length_nil, Nat.reduceAdd, Nat.reduceSub, Array.replicate_succ, Array.replicate_zero, List.push_toArray, List.append_toArray, List.nil_append, List.cons_append]
  obtain ⟨Q, hQ⟩ : ∃ Q, Q = w.heap.size := ⟨_, rfl⟩
  obtain ⟨W0, hW0⟩ : ∃ W0, W0 = (w.alloc (.cells #[.pointer (some ⟨P, 0, none⟩)] 26)).alloc (.cells #[.int .i64 0] 47) := ⟨_, rfl⟩
  have hs0 : W0.heap.size = Q + 2 := by rw [hW0, hQ]; simp
  have hr0 : W0.heap[Q]? = some (.cells #[.pointer (some ⟨P, 0, none⟩)] 26 (0, 0)) := by
    rw [hW0, hQ]; exact (Boxed.new w _ _).alloc _
  have hr1 : W0.heap[Q + 1]? = some (.cells #[.int .i64 0] 47 (0, 0)) := by
    have h := heap_alloc_last (w.alloc (.cells #[.pointer (some ⟨P, 0, none⟩)] 26)) (.cells #[.int .i64 0] 47)
    rw [World.size_alloc, ← hQ] at h
    rw [hW0]; exact h
  have hB0 : Below w.heap.size w W0 := by
    rw [hW0]
    exact ((Below.refl _ w).alloc (Nat.le_refl _) _).alloc (by simp) _
  have hin0 := h.below hB0
  have HLT : Hid (∀ i, Both U V i ∨ PmX P mp F i → i < Q) := fun i hi => by
    rw [hQ]
    rcases hi with hi | hi
    · exact wl_plt h.log i hi
    · exact h.pm.lt i hi
  have hnone := pmNone_any hin0.pm.row
  have hdir := pmDirtyF_any W0 (some ⟨P, 0, none⟩)
  rw [hs0] at hdir
  have cQ := blk_cell hr0 0 (v := .pointer (some ⟨P, 0, none⟩)) rfl
  have HIN := Lib.hid hin0
  have HC := Lib.hid hC
  have HS := Lib.hid hs
  have HB := Lib.hid hB0
  have HS0 : Hid (W0.heap.size = Q + 2) := hs0
  have HR0 := Lib.hid hr0
  have HR1 := Lib.hid hr1
  have HQ := Lib.hid hQ
  clear h hC hs hin0 hB0 hr0 hr1 hs0
  rw [← hQ]
  clear hQ
  gi_wp2
  rw [← hW0, ← HQ.out]
  clear hW0
  gi_wp2_with (first
    | (refine ⟨trivial, ?_⟩; gi_at_call 38; refine (callsIn_wide.2 hnone).mono ?_; rintro e w2 ⟨rfl, hw2⟩; rw [hw2]; clear hnone hw2)
    | (refine ⟨trivial, ?_⟩; gi_at_call 53; refine (callsIn_wide.2 hdir).mono ?_; rintro e w2 ⟨rfl, hw2⟩; rw [hw2]; clear hdir hw2))
  obtain ⟨W1, hW1⟩ : ∃ W1, W1 = W0.alloc (.cells #[.pointer (some ⟨P, 0, none⟩)] 26) := ⟨_, rfl⟩
  rw [← hW1]
  have hs1 : W1.heap.size = Q + 3 := by rw [hW1, World.size_alloc, HS0.out]
  have hr2 : W1.heap[Q + 2]? = some (.cells #[.pointer (some ⟨P, 0, none⟩)] 26 (0, 0)) := by
    have h := heap_alloc_last W0 (.cells #[.pointer (some ⟨P, 0, none⟩)] 26)
    rw [HS0.out] at h
    rw [hW1]; exact h
  have hB1 : Below W0.heap.size W0 W1 := by rw [hW1]; exact (Below.refl _ W0).alloc (Nat.le_refl _) _
  have HB1 : Hid (Below w.heap.size w W1) := HB.out.trans (hB1.mono (by rw [HS0.out, ← HQ.out]; omega))
  have hin1 := HIN.out.below hB1
  have hI0 : AlI U V W1 B L P S b N hand mp Q (Q + 2) n F H d lg s (fun j => Both U V j ∨ j = P) [] W1 :=
    ⟨U, V, d, lg, s, rfl, hin1, HC.out, Or.inl rfl, ⟨rfl, rfl, rfl, rfl, rfl, fun _ => Or.inl rfl⟩, rfl, (hB1.block Q (by rw [HS0.out]; omega)).trans HR0.out, (hB1.block (Q + 1) (by rw [HS0.out]; omega)).trans HR1.out, hr2, Touch.refl _ _, fun _ h => Or.inl h, fun _ h => Or.inl h⟩
  have HI0 := Lib.hid hI0
  have HS1 : Hid (W1.heap.size = Q + 3) := hs1
  clear hW1 hs1 hr2 hB1 hin1 hI0
  refine wpIn_rangeFunc_view (w := W1) (w0 := W1) rfl (by decide) (gf := 80) (lb := #[.pointer (some ⟨Q + 2, 0, none⟩)]) rfl trivial (enters_of Tryz.func80 (by kernel_rfl) rfl)
    (pmSeq_in P B S b N L s.frames mp (Q + 2) H (clF F) W1 _ (by decide)) (Below.refl _ _) (fun _ => rfl)
    (AlI U V W1 B L P S b N hand mp Q (Q + 2) n F H d lg s) (fun j => Both U V j ∨ j = P) (fun X => alI_kept (Nat.le_refl _) X) ?hV ?hlt HI0.out
    (fun x => { tmps := #[.pointer (some ⟨P, 0, none⟩), .pointer (some ⟨Q, 0, none⟩), .pointer (some ⟨Q + 1, 0, none⟩), .pointer (some ⟨P, 5 + x * 7, none⟩), undef, .pointer (some ⟨P, 0, none⟩), .bool false, .pointer (some ⟨P, 0, none⟩), .func (.func 80) #[] #[.pointer (some ⟨Q + 2, 0, none⟩)], .pointer (some ⟨P, 5 + x * 7, none⟩), undef, undef, undef, undef, undef, undef], defers := [] }) ?assign ?body ?done
  case hV =>
    rintro X pre W ⟨U1, V1, d1, lg1, s1, -, hin, -, -, ⟨-, -, e3, -⟩, -, -, -, hrr, -⟩
    exact ⟨⟨hand, by rw [← e3]; exact hin.pm.row⟩, hin.pm.map, blk_cell hrr 0 rfl⟩
  case hlt =>
    rintro X pre W ⟨U1, V1, d1, lg1, s1, rfl, hin, -⟩ i (hi | rfl)
    · exact wl_plt hin.log i hi
    · exact hin.pm.row.lt
  case assign =>
    intro l x W K hK
    gi_wp2
    exact hK
  case body =>
    intro l X pre x W hI hY
    have hst := al_step hI hY HS.out (by have := HS1.out; omega) HLT.out (by omega)
    have hcQ : W.cell? ⟨Q, 0, none⟩ = some (.pointer (some ⟨P, 0, none⟩)) := by
      obtain ⟨U1, V1, d1, lg1, s1, -, -, -, -, -, -, hq, -⟩ := hI
      exact blk_cell hq 0 rfl
    have HST := Lib.hid hst
    clear hst hI hY
    gi_wp2_with (refine ⟨trivial, ?_⟩; gi_at_call 52; refine (CallsIn.inRound l (callsIn_wide.2 HST.out)).mono ?_; rintro e w' ⟨rfl, hX⟩; have HX := Lib.hid hX; clear hX HST)
    exact HX.out
  case done =>
    intro D xs X W hD hS hI hK
    have hrow : W.heap[Q + 1]? = some (.cells #[.int .i64 0] 47 (0, 0)) := by
      obtain ⟨U1, V1, d1, lg1, s1, -, -, -, -, -, -, -, hr, -⟩ := hI
      exact hr
    have hcr := blk_cell hrow 0 rfl
    have hfr := blk_free hrow 0
    have HROW := Lib.hid hrow
    have HD := Lib.hid hD
    have HSS := Lib.hid hS
    have HI := Lib.hid hI
    have HK := Lib.hid hK
    clear hD hS hI hK hrow
    gi_wp2
    have hDQ : Q + 3 ≤ D := by have := HD.out; have := HS1.out; omega
    have hk2 : (W.setCell ⟨Q + 1, 0, none⟩ (.int .i64 0)).heap[D]? = some (.deferred (some [])) := (Touch.set (S := (· = Q + 1)) (Q + 1) 0 _ rfl).row HK.out (by omega)
    refine ⟨by simp, .inl ⟨_, _, rfl, run_takeDeferred hk2, ?_⟩⟩
    refine ⟨_, fla_results _ _ (Q + 1) (.int .i64 0) rfl ?_, rfl, ?_⟩
    · rw [World.putObj_heap_other (by omega), blk_set HROW.out]; rfl
    · have hlow : ∀ j, Q ≤ j → w.heap.size ≤ j := fun j hj => by rw [← HQ.out]; exact hj
      obtain ⟨U1, V1, d1, lg1, s1, F1, h1, h2, h3, h4, h5, h6, h7, h8⟩ := al_end HI.out HSS.out (T := fun j => j = Q + 1 ∨ j = D) (((Touch.set (S := fun j => j = Q + 1 ∨ j = D) (Q + 1) 0 _ (Or.inl rfl))).trans ((touch_putObj _ D _).mono fun j _ hj => Or.inr hj)) (by
        rintro i (rfl | rfl)
        · exact ⟨by omega, Or.inl rfl⟩
        · exact ⟨by omega, Or.inr ⟨_, HK.out, rfl, rfl⟩⟩) (by have := HS1.out; omega) HLT.out
      have hsz := HB1.out.size
      exact ⟨U1, V1, d1, lg1, s1, F1, h1, h2, h3, h4, h5, (Touch.of_new HB1.out).trans (h6.mono fun j _ hj => hj.elim Or.inl fun hj => Or.inr hj), h7.under hsz, h8.under hsz⟩
theorem pmFlushAll_any {U V : Nat → Prop} {w : World} {B L P S b N hand mp n : Nat} {F : List Fr} {H : List (Option Nat)} {d : Dk.Dev} {lg : Wl.S} {s : Po.S} (h : PmIn U V w B L P S b N hand mp F H n d lg s) (hC : Wl.Calm n d) (hs : lg.stop ≤ 1000000000000) :
    Calls Tryz.prog 26 #[.pointer (some ⟨P, 0, none⟩)] w fun e w' => e = .returned (.int .i64 0) ∧ AbA U V B L P S b N hand mp F H n lg s w.heap.size w w' := callsIn_wide.1 (pmFlushAll_in h hC hs)
theorem po_flushall {U V X : Nat → Prop} {w : World} {B L P n : Nat} {d : Dk.Dev} {lg : Wl.S} {s : Po.S} (h : PoIn plS PmPO poHw U V X w B L P d lg s) (hC : Wl.Calm n d) (hs : lg.stop ≤ 1000000000000) : Calls Tryz.prog 26 #[.pointer (some ⟨P, 0, none⟩)] w fun e w' =>
    e = .returned (.int .i64 0) ∧ ∃ d' lg' s', PoWent plS PmPO poHw U V X w B L P w' d' lg' s' ∧ Wl.Calm n d' ∧ Po.Lf lg lg' ∧ Po.AllBack s s' := by
  obtain ⟨S, b, N, hand, mp, F, H, hin, rfl⟩ := po_in h (Wl.calm_near hC (pl_ok h.log.1))
  refine (pmFlushAll_any hin hC hs).mono ?_
  rintro e w' ⟨rfl, U1, V1, d1, lg1, s1, F1, h1, h2, h3, h4, h5, h6, h7, h8⟩
  refine ⟨rfl, d1, lg1, s1, went_of h1 (h6.mono fun j hj e => ?_) h7 h8 (grew_same h5) (by rw [h3.start]; exact h.log.2), h2, h3, h4⟩
  rcases e with (e | e) | e
  · exact Or.inl e
  · exact Or.inr (Or.inl e)
  · omega
end Go.Proofs.YtbpodmallknhfaaGreat
namespace Go.Proofs.YtbpodmallknhfaaGreat
open Go.RowKit
theorem own_pool : PoApi WlPD plS PmPO hdS poHw poHp where
  dok := fun h => by
    obtain ⟨m1, m2, h1, -⟩ := h
    exact h1.own.ok
  pkeep := fun h ht hs => ⟨wl_pkeep h.1 ht hs, h.2⟩
  plt := fun h => wl_plt h.1
  dev := fun h => wl_dev h.1
  okeep := po_okeep
  olt := po_olt
  ogood := po_ogood
  hw_blank := fun _ hs hf h => po_hw_blank hs hf h
  new := wl_new
  make := fun {U w B n} a c h hf => (wl_make_oth (a : Int) (c : Int) h Wl.calm_fresh ⟨by omega, by have := hf.2.2.2; have := (show Dk.size (Dk.fresh n n) ≤ 65536 by obtain ⟨m1, m2, hP, -⟩ := h; exact hP.own.size); have := (Wl.calm_fresh (n := n)).sz; have := hf.1; omega⟩ ⟨by omega, by have := hf.2.1; omega⟩).mono fun e w' hA => by
    obtain ⟨L, U', V', d', h1, h2, h3, h4, h5, h6, h7⟩ := hA.1 hf
    exact ⟨L, U', V', d', h1, ⟨h2, by show (52 : Nat) ≠ 0; decide⟩, h4, h3, h5, h6, h7⟩
  mend := fun h hC hf _ _ hw => po_mend h hC hf hw
  make_pool := fun fr h hC hf _ _ hok h1 h2 => po_make fr h hC hf hok h1 h2
  get := fun m h hC hs hm hf => po_get m h hC hs hm hf
  put := fun m x u h hN hs hm hf hx hB hl => po_put m x u h hN hs hm hf hx hB hl
  pin := fun m h hC hs hm hf hp => po_pin m h hC hs hm hf hp
  pins := fun m h hC hm _ => po_pins m h hC hm
  flushall := fun h hC hs => po_flushall h hC hs
  dirty := fun h hC => po_dirty h hC
end Go.Proofs.YtbpodmallknhfaaGreat
