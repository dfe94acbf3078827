/- Parts of a proof. Conditions: as each row says. -/
import Derived.Test.YtbpodmallknhfaaGreatAr26
import Derived.Test.YtbpodmallknhfaaGreatAr05
import Derived.Test.YtbpodmallknhfaaGreatAr07
import Derived.Test.YtbpodmallknhfaaGreatAr06
import Derived.Test.YtbpodmallknhfaaGreatAr10
import Derived.Test.YtbpodmallknhfaaGreatAr09
import Derived.Test.YtbpodmallknhfaaGreatAr13
import Derived.Test.YtbpodmallknhfaaGreatAr03
import Derived.Test.YtbpodmallknhfaaGreatAr15
import Derived.Test.YtbpodmallknhfaaGreatAr22
import Derived.Test.YtbpodmallknhfaaGreatAr23
import Derived.Test.YtbpodmallknhfaaGreatAr21
import Derived.Test.YtbpodmallknhfaaGreatAr16
import Derived.Laws.StructEq
import Derived.Deep.RegionWith
import Derived.RangeFuncCalls
import Derived.Maps.AppendAt
namespace Go.Proofs.YtbpodmallknhfaaGreat
open Go.RowKit
theorem plNone_nil (w : World) : Calls Tryz.prog 62 #[.pointer none] w fun e w' => e = .returned (.bool true) ∧ w = w' := by
  go_enter Tryz.func62, Tryz.ntmps62
  go_wp2_with fail
  go_ret
  exact ⟨rfl, rfl⟩
theorem plStart_nil (w : World) : Calls Tryz.prog 44 #[.pointer none] w fun e w' => e = .returned (.int .u64 0) ∧ w = w' := by
  have HN := Lib.hid (plNone_nil w)
  go_enter Tryz.func44, Tryz.ntmps44
  go_wp2_with fail
  refine HN.out.mono ?_
  rintro e w1 ⟨rfl, rfl⟩
  clear HN
  go_wp2_with fail
  go_ret
  exact ⟨rfl, rfl⟩
theorem pmNew_nolog {w : World} (d : Option Addr) (a : Po.Ar) (fr : Int) : Calls Tryz.prog 18 #[.pointer d, .pointer none, ArV a, .int .i64 fr] w fun e w' => e = .returned (.tuple #[.pointer none, .int .i64 1]) ∧ Below w.heap.size w w' := by
  obtain ⟨W, hW, hA, hb⟩ := md_boxes a w
  have HST := Lib.hid (plStart_nil W)
  have HB := Lib.hid hb
  clear hA hb
  unfold ArV
  go_enter Tryz.func18, Tryz.ntmps18
  go_upto_region 1 with (fail)
  rw [← hW]
  clear hW
  go_wp2_with fail
  refine HST.out.mono ?_
  rintro e w0 ⟨rfl, rfl⟩
  clear HST
  go_wp2_with fail
  go_ret2
  exact ⟨rfl, HB.out⟩
theorem pmNew_not {w : World} {B L a c : Nat} {k : Wl.Kn} {pl wa : Value} {dn : Bool} (p : Option Addr) (ar : Po.Ar) (e0 : Nat) (he0 : 1 ≤ e0) (hl : LogAt w L k B a c pl wa dn) (hk : k.start ≠ 0) (fr : Int) (hLD : ∀ W, Below w.heap.size w W → Calls Tryz.prog 45 #[.pointer p, ArV ar] W fun e w' => e = .returned (.tuple #[RgZ, .int .i64 (e0 : Int)]) ∧ Below W.heap.size W w') :
    Calls Tryz.prog 18 #[.pointer p, .pointer (some ⟨L, 0, none⟩), ArV ar, .int .i64 fr] w fun e w' => e = .returned (.tuple #[.pointer none, .int .i64 (e0 : Int)]) ∧ Below w.heap.size w w' := by
  obtain ⟨W, hW, hA, hb⟩ := md_boxes ar w
  have HST := Lib.hid (wlStart_any (hl.below hb))
  have HLD := Lib.hid (hLD W hb)
  have hst0 : ¬ (k.start : Int) = 0 := by omega
  have hst1 : ((k.start : Int) == 0) = false := by simp; omega
  have a0 := blk_cell hA 0 (v := .int .i64 ar.spare) rfl
  have a1 := blk_cell hA 1 (v := .int .i64 ar.base) rfl
  have a2 := blk_cell hA 2 (v := .int .i64 ar.pages) rfl
  have HB := Lib.hid hb
  have h1 : ¬ (e0 : Int) = 0 := by omega
  have h2 : ((e0 : Int) != 0) = true := by simp; omega
  clear hA hb hLD hl hk he0
  unfold ArV at *
  go_enter Tryz.func18, Tryz.ntmps18
  go_upto_region 1 with (fail)
  rw [← hW]
  clear hW
  go_wp2_with fail
  refine HST.out.mono ?_
  rintro e w0 ⟨rfl, rfl⟩
  clear HST
  go_wp2_with fail
  refine HLD.out.mono ?_
  rintro e w1 ⟨rfl, hb1⟩
  have HB1 := Lib.hid hb1
  unfold RgZ
  clear hb1 HLD a0 a1 a2
  go_wp2_with fail
  go_ret2
  exact ⟨rfl, (HB.out.trans (HB1.out.mono HB.out.size)).alloc (by have := HB.out.size; have := HB1.out.size; omega) _⟩
theorem pmNew_frames {w : World} {B L m1 m2 n S b N a c : Nat} {d : Dk.Dev} {k : Wl.Kn} {pl wa : Value} {dn : Bool} (hP : PDev w B m1 m2 d) (hN : Wl.Near n d) (hf : (arN S b N).Fits n) (hn : n ≤ 65536) (hl : LogAt w L k B a c pl wa dn) (hk : k.start ≠ 0) (fr : Int) (hfr : ¬ (1 ≤ fr ∧ fr ≤ 64)) :
    Calls Tryz.prog 18 #[.pointer (some ⟨B, 0, none⟩), .pointer (some ⟨L, 0, none⟩), ArV (arN S b N), .int .i64 fr] w fun e w' => e = .returned (.tuple #[.pointer none, .int .i64 2]) ∧ Below w.heap.size w w' := by
  have hL := fits_lies.1 hf
  obtain ⟨W, hW, hA, hb⟩ := md_boxes (arN S b N) w
  have hs := hL.spare
  have h16 := hL.base
  have HST := Lib.hid (wlStart_any (hl.below hb))
  have hst0 : ¬ (k.start : Int) = 0 := by omega
  have hst1 : ((k.start : Int) == 0) = false := by simp; omega
  have HLD := Lib.hid (laid_any_ (hP.below hb) hN.sz (by omega) hn (arN S b N) ⟨⟨by unfold arN; dsimp only; omega, by unfold arN; dsimp only; omega⟩, ⟨by unfold arN; dsimp only; omega, by unfold arN; dsimp only; omega⟩, ⟨by unfold arN; dsimp only; omega, by unfold arN; dsimp only; omega⟩⟩)
  have a0 := blk_cell hA 0 (v := .int .i64 (S : Int)) rfl
  have a1 := blk_cell hA 1 (v := .int .i64 (b : Int)) rfl
  have a2 := blk_cell hA 2 (v := .int .i64 (N : Int)) rfl
  have HF := Lib.hid hf
  have HB := Lib.hid hb
  clear hP hN hf hn hl hk hL hA hb hs h16
  unfold ArV
  go_enter Tryz.func18, Tryz.ntmps18
  go_upto_region 1 with (fail)
  rw [← hW]
  clear hW
  go_wp2_with fail
  refine HST.out.mono ?_
  rintro e w0 ⟨rfl, rfl⟩
  clear HST
  go_wp2_with fail
  refine HLD.out.mono ?_
  rintro e w1 ⟨hb1, he, -⟩
  have he := he HF.out
  subst he
  have HB1 := Lib.hid hb1
  have hbb : Below w.heap.size w (w1.alloc (.cells #[.pointer (some ⟨B, 0, none⟩), .int .i64 (S : Int), .int .i64 (b : Int), .int .i64 (N : Int)] 95)) := (HB.out.trans (hb1.mono HB.out.size)).alloc (by have := HB.out.size; have := hb1.size; omega) _
  have HBB := Lib.hid hbb
  clear hb1 hbb HLD a0 a1 a2
  unfold RgI arN
  dsimp only
  by_cases h1 : fr < 1
  · clear hfr
    go_wp2_with fail
    go_ret2
    exact ⟨rfl, HBB.out⟩
  · have h2 : (64 : Int) < fr := by omega
    clear hfr
    go_wp2_with fail
    go_ret2
    exact ⟨rfl, HBB.out⟩
end Go.Proofs.YtbpodmallknhfaaGreat
namespace Go.Proofs.YtbpodmallknhfaaGreat
open Go.RowKit
def plS (U V : Nat → Prop) (w : World) (B L : Nat) (d : Dk.Dev) (lg : Wl.S) : Prop := WlPL U V w B L d lg ∧ lg.start ≠ 0
def hdS (d : Dk.Dev) (lg : Wl.S) : Prop := Wl.Hd d lg ∧ lg.start ≠ 0
def poHw (d : Dk.Dev) (a : Po.Ar) (f : Nat → Po.Pg) : Prop := ∃ S b N, a = arN S b N ∧ Rg.Lies (Dk.size d) S b N ∧ Rg.HwN S b N d f
def poHp (d : Dk.Dev) (a : Po.Ar) (c : Nat → Po.Pg → Prop) : Prop := ∃ S b N, a = arN S b N ∧ Rg.Lies (Dk.size d) S b N ∧ Rg.HpN S b N d c
theorem arN_inj {S b N S' b' N' : Nat} (h : arN S b N = arN S' b' N') : S = S' ∧ b = b' ∧ N = N' := by
  unfold arN at h
  injection h with h1 h2 h3
  exact ⟨Int.ofNat_inj.1 h1, Int.ofNat_inj.1 h2, Int.ofNat_inj.1 h3⟩
theorem has_ar {S b N i : Nat} : (arN S b N).Has i ↔ Rg.Has S b N i := by
  unfold arN Po.Ar.Has Rg.Has
  dsimp only
  omega
theorem pl_size {U V : Nat → Prop} {w : World} {B L : Nat} {d : Dk.Dev} {lg : Wl.S} (h : WlPL U V w B L d lg) : Dk.size d ≤ 65536 := by
  obtain ⟨m1, m2, pl, wa, -, -, hP, -⟩ := h
  exact hP.own.size
theorem pl_ok {U V : Nat → Prop} {w : World} {B L : Nat} {d : Dk.Dev} {lg : Wl.S} (h : WlPL U V w B L d lg) : Dk.Ok d := by
  obtain ⟨m1, m2, pl, wa, -, -, hP, -⟩ := h
  exact hP.own.ok
theorem po_in {U V X : Nat → Prop} {w : World} {B L P n : Nat} {d : Dk.Dev} {lg : Wl.S} {s : Po.S} (h : PoIn plS PmPO poHw U V X w B L P d lg s) (hN : Wl.Near n d) : ∃ S b N hand mp F H, PmIn U V w B L P S b N hand mp F H n d lg s ∧ X = PmX P mp F := by
  obtain ⟨S, b, N, hand, mp, F, H, hpm, hX⟩ := h.own
  obtain ⟨S', b', N', e, hL, hw⟩ := h.area
  obtain ⟨rfl, rfl, rfl⟩ := arN_inj (hpm.ar.symm.trans e)
  rw [hN.sz] at hL
  refine ⟨S, b, N, hand, mp, F, H, ⟨h.log.1, hpm, hL, hw, by rw [← hX]; exact h.off, h.rule, fun i hi => h.away i ?_, hN, by rw [← hN.sz]; exact pl_size h.log.1⟩, hX⟩
  rw [hpm.ar]
  exact has_ar.2 hi
theorem in_po {U V : Nat → Prop} {w : World} {B L P S b N hand mp n : Nat} {F : List Fr} {H : List (Option Nat)} {d : Dk.Dev} {lg : Wl.S} {s : Po.S} (h : PmIn U V w B L P S b N hand mp F H n d lg s) (hst : lg.start ≠ 0) : PoIn plS PmPO poHw U V (PmX P mp F) w B L P d lg s :=
  ⟨⟨h.log, hst⟩, ⟨S, b, N, hand, mp, F, H, h.pm, rfl⟩, ⟨S, b, N, h.pm.ar, by rw [h.near.sz]; exact h.lies, h.hw⟩, h.off, h.rule, fun i hi => h.away i (by rw [h.pm.ar] at hi; exact has_ar.1 hi)⟩
theorem went_of {U V U1 V1 : Nat → Prop} {w w' : World} {B L P S b N hand mp n : Nat} {F F1 : List Fr} {H1 : List (Option Nat)} {d1 : Dk.Dev} {lg1 : Wl.S} {s1 : Po.S} (h : PmIn U1 V1 w' B L P S b N hand mp F1 H1 n d1 lg1 s1) (ht : Touch (fun j => Both U V j ∨ j = P ∨ j = mp) w w') (hu : Grew U U1 w) (hv : Grew V V1 w) (hx : Grew (PmX P mp F) (PmX P mp F1) w) (hst : lg1.start ≠ 0) :
    PoWent plS PmPO poHw U V (PmX P mp F) w B L P w' d1 lg1 s1 :=
  ⟨U1, V1, PmX P mp F1, in_po h hst, ht.mono fun j _ e => (by
    rcases e with (e | e) | e | e
    · exact Or.inl e
    · exact Or.inr (Or.inl e)
    · exact Or.inr (Or.inr (Or.inl e))
    · exact Or.inr (Or.inr (Or.inr (Or.inl e)))), hu, hv, hx⟩
theorem po_okeep {X T : Nat → Prop} {w w' : World} {B L P : Nat} {s : Po.S} (h : PmPO X w B L P s) (ht : Touch T w w') (hs : ∀ i, X i → ¬ T i) : PmPO X w' B L P s := by
  obtain ⟨S, b, N, hand, mp, F, H, h1, rfl⟩ := h
  exact ⟨S, b, N, hand, mp, F, H, h1.keep ht hs, rfl⟩
theorem po_olt {X : Nat → Prop} {w : World} {B L P : Nat} {s : Po.S} (h : PmPO X w B L P s) : ∀ i, X i → i < w.heap.size := by
  obtain ⟨S, b, N, hand, mp, F, H, h1, rfl⟩ := h
  exact h1.lt
theorem po_ogood {X : Nat → Prop} {w : World} {B L P : Nat} {s : Po.S} (h : PmPO X w B L P s) : Po.Good s := by
  obtain ⟨S, b, N, hand, mp, F, H, h1, rfl⟩ := h
  exact h1.good
theorem po_hw_blank {d : Dk.Dev} {a : Po.Ar} {n : Nat} (hs : Dk.size d = n) (hf : a.Fits n) (h : ∀ i, a.Has i → d.waits.getD i none = none ∧ d.lasts.getD i [] = Dk.blank) : poHw d a fun _ => Po.blank := by
  obtain ⟨S, b, N, rfl⟩ := ar_nat hf
  exact ⟨S, b, N, rfl, by rw [hs]; exact fits_lies.1 hf, Rg.hwn_blank (fun i hi => (h i (has_ar.2 hi)).1) fun i hi => (h i (has_ar.2 hi)).2⟩
theorem po_get {U V X : Nat → Prop} {w : World} {B L P n : Nat} {d : Dk.Dev} {lg : Wl.S} {s : Po.S} (m : Nat) (h : PoIn plS PmPO poHw U V X w B L P d lg s) (hC : Wl.Calm n d) (hs : lg.stop ≤ 1000000000000) (hm : (m : Int) < s.ar.pages) (hf : Po.Free s m) :
    Calls Tryz.prog 20 #[.pointer (some ⟨P, 0, none⟩), .int .i64 (m : Int)] w fun e w' =>
    ∃ u d' lg' s', e = .returned (.tuple #[PgV (s.now m).1 u, .int .i64 0]) ∧ Own w.heap.size w' u (s.now m).2 ∧ PoGave plS PmPO poHw U V X w B L P w' d' lg' s' u ∧ Wl.Calm n d' ∧ Po.Lf lg lg' ∧ Po.Moved s s' ∧ m ∈ s'.held ∧ ((∀ k, s.first k = none) → d' = d ∧ lg' = lg) := by
  obtain ⟨S, b, N, hand, mp, F, H, hin, rfl⟩ := po_in h (Wl.calm_near hC (pl_ok h.log.1))
  rw [hin.pm.ar] at hm
  refine (pmGet_any hin hC hs (by have hm : (m : Int) < (N : Int) := hm; omega) hf).mono ?_
  rintro e w' ⟨u, i, hand1, F1, H1, U1, V1, d1, lg1, s1, e1, hO, ⟨hi, hpg, hmem, hmv, hin1, hcalm, hlf, ht, hgu, hgv, hgx, hnone⟩, hub⟩
  obtain ⟨U2, V2, X2, g1, g2, g3, g4, g5⟩ := went_of hin1 ht hgu hgv hgx (by rw [hlf.start]; exact h.log.2)
  refine ⟨u, d1, lg1, s1, e1, hO, ⟨U1, V1, PmX P mp F1, in_po hin1 (by rw [hlf.start]; exact h.log.2), ht.mono fun j _ e => (by
    rcases e with (e | e) | e | e
    · exact Or.inl e
    · exact Or.inr (Or.inl e)
    · exact Or.inr (Or.inr (Or.inl e))
    · exact Or.inr (Or.inr (Or.inr (Or.inl e)))), hgu, hgv, hgx, fun g hg e => ?_⟩, hcalm hC, hlf, hmv, hmem, hnone⟩
  obtain ⟨a1, a2⟩ := hub g hg
  rcases e with e | e | e
  · exact a1 (Or.inl e)
  · exact a1 (Or.inr e)
  · exact a2 e
theorem po_pin {U V X : Nat → Prop} {w : World} {B L P n : Nat} {d : Dk.Dev} {lg : Wl.S} {s : Po.S} (m : Nat) (h : PoIn plS PmPO poHw U V X w B L P d lg s) (hC : Wl.Calm n d) (hs : lg.stop ≤ 1000000000000) (hm : (m : Int) < s.ar.pages) (hf : Po.Free s m) (hp : s.pins m ≤ 1000000) :
    Calls Tryz.prog 23 #[.pointer (some ⟨P, 0, none⟩), .int .i64 (m : Int)] w fun e w' =>
    e = .returned (.int .i64 0) ∧ ∃ d' lg' s', PoWent plS PmPO poHw U V X w B L P w' d' lg' s' ∧ Wl.Calm n d' ∧ Po.Lf lg lg' ∧ Po.Pinned s m s' := by
  obtain ⟨S, b, N, hand, mp, F, H, hin, rfl⟩ := po_in h (Wl.calm_near hC (pl_ok h.log.1))
  rw [hin.pm.ar] at hm
  refine (pmPin_any hin hC hs (by have hm : (m : Int) < (N : Int) := hm; omega) hf hp).mono ?_
  rintro e w' ⟨hand1, F1, H1, U1, V1, d1, lg1, s1, e1, hin1, hcalm, hlf, hpn, ht, hgu, hgv, hgx⟩
  exact ⟨e1, d1, lg1, s1, went_of hin1 ht hgu hgv hgx (by rw [hlf.start]; exact h.log.2), hcalm hC, hlf, hpn⟩
theorem po_put {U V X : Nat → Prop} {w : World} {B L P n : Nat} {d : Dk.Dev} {lg : Wl.S} {s : Po.S} (m : Nat) (x : Po.Pg) (u : Value) (h : PoIn plS PmPO poHw U V X w B L P d lg s) (hN : Wl.Near n d) (hs : lg.stop ≤ 1000000000000) (hm : (m : Int) < s.ar.pages) (hf : Po.Free s m) (hx : Po.PgOk x) (hB : Bts w u x.2) (hl : x.1 < lg.stop) :
    Calls Tryz.prog 21 #[.pointer (some ⟨P, 0, none⟩), .int .i64 (m : Int), PgV x.1 u] w fun e w' =>
    (∃ d' lg' s', e = .returned (.int .i64 0) ∧ PoWent plS PmPO poHw U V X w B L P w' d' lg' s' ∧ Wl.Near n d' ∧ (Wl.Calm n d → Wl.Calm n d') ∧ Po.Lf lg lg' ∧ Po.PutTo s m x s') ∨
    (¬ Wl.Calm n d ∧ e = .returned (.int .i64 6) ∧ ∃ U' d' lg' c, WlPD U' w' B d' ∧ Wl.Near n d' ∧ Touch (Three U V X) w w' ∧ Grew U U' w ∧ Po.Lf lg lg' ∧ (∀ k x, c k x → (x = s.disk k ∨ x = s.now k) ∧ x.1 < lg'.flushed) ∧ ∀ ps, hdS (Dk.crash d' ps) lg' ∧ poHp (Dk.crash d' ps) s.ar c) := by
  obtain ⟨S, b, N, hand, mp, F, H, hin, rfl⟩ := po_in h hN
  have har := hin.pm.ar
  rw [har] at hm
  refine (pmPutP_any hin (fun _ => hs) (by have hm : (m : Int) < (N : Int) := hm; omega) x u hx hB fun _ => hl).mono ?_
  intro e w' hA
  rcases hA with ⟨hand1, F1, H1, U1, V1, d1, lg1, s1, e1, hin1, hcalm, hlf, hpt, -, ht, hgu, hgv, hgx⟩ | ⟨hnf, -⟩ | ⟨hnc, e1, U', d', lg', c, e2, e3, e4, e5, e6, e7, e8⟩
  · exact Or.inl ⟨d1, lg1, s1, e1, went_of hin1 ht hgu hgv hgx (by rw [hlf.start]; exact h.log.2), hin1.near, hcalm, hlf, hpt⟩
  · exact absurd hf hnf
  · refine Or.inr ⟨hnc, e1, U', d', lg', c, e2, e3, e4.mono fun j _ e => ?_, e5, e6, e7, fun ps => ⟨⟨(e8 ps).1, by rw [e6.start]; exact h.log.2⟩, S, b, N, har, by rw [(e3.crash ps).sz]; exact hin.lies, (e8 ps).2⟩⟩
    rcases e with (e | e) | e | e
    · exact Or.inl e
    · exact Or.inr (Or.inl e)
    · exact Or.inr (Or.inr (Or.inl e))
    · exact Or.inr (Or.inr (Or.inr (Or.inl e)))
end Go.Proofs.YtbpodmallknhfaaGreat
namespace Go.Proofs.YtbpodmallknhfaaGreat
open Go.RowKit
theorem po_mend {U V : Nat → Prop} {w : World} {B L n : Nat} {d : Dk.Dev} {lg : Wl.S} {a : Po.Ar} {f : Nat → Po.Pg} (h : plS U V w B L d lg) (hC : Wl.Calm n d) (hf : a.Fits n) (hw : poHw d a f) :
    Calls Tryz.prog 19 #[.pointer (some ⟨B, 0, none⟩), ArV a] w fun e w' => e = .returned (.int .i64 0) ∧ ∃ U' d', plS U' V w' B L d' lg ∧ Wl.Calm n d' ∧ poHw d' a f ∧ Touch U w w' ∧ Grew U U' w := by
  have hst := h.2
  have h := h.1
  obtain ⟨S, b, N, rfl, hL, hw⟩ := hw
  have hN := Wl.calm_near hC (pl_ok h)
  have hsz := pl_size h
  obtain ⟨m1, m2, pl, wa, h1, h2, h3, h4, h5, h6⟩ := h
  refine (Mend_any h3 hN hf (by rw [← hN.sz]; exact hsz)).mono ?_
  rintro e w' ⟨e1, hp, ht⟩
  have hm := Rg.mend_calm hC.off hw
  rw [hm] at e1 hp
  subst h4
  refine ⟨e1, DS B m1 m2, d, ⟨⟨m1, m2, pl, wa, h1.keep ht fun j hj hd => h5 j hd (by rw [h2]; exact hj), h2, hp, rfl, h5, h6⟩, hst⟩, hC, ⟨S, b, N, rfl, hL, hw⟩, ht, fun _ h => Or.inl h⟩
theorem po_laid_bad {U : Nat → Prop} {w : World} {B n : Nat} {d : Dk.Dev} {a : Po.Ar} (h : WlPD U w B d) (hs : Dk.size d = n) (ha : ArOk a) (hf : ¬ a.Fits n) : ∀ W, Below w.heap.size w W → Calls Tryz.prog 45 #[.pointer (some ⟨B, 0, none⟩), ArV a] W fun e w' => e = .returned (.tuple #[RgZ, .int .i64 ((2 : Nat) : Int)]) ∧ Below W.heap.size W w' := fun W hb => by
  obtain ⟨m1, m2, h3, -⟩ := h
  refine (laid_any_ (h3.below hb) hs (by have := h3.own.one; omega) (by rw [← hs]; exact h3.own.size) a ha).mono ?_
  rintro e w' ⟨h1, -, h2⟩
  exact ⟨h2 hf, h1⟩
theorem po_mend_bad {U : Nat → Prop} {w : World} {B n : Nat} {d : Dk.Dev} {a : Po.Ar} (h : WlPD U w B d) (hC : Wl.Calm n d) (ha : ArOk a) (hf : ¬ a.Fits n) : Calls Tryz.prog 19 #[.pointer (some ⟨B, 0, none⟩), ArV a] w fun e w' => e = .returned (.int .i64 2) ∧ Below w.heap.size w w' :=
  Mend_not _ a 2 (by decide) (po_laid_bad h hC.sz ha hf)
theorem po_mend_nil {a : Po.Ar} (w : World) : Calls Tryz.prog 19 #[.pointer none, ArV a] w fun e w' => e = .returned (.int .i64 1) ∧ Below w.heap.size w w' :=
  Mend_not _ a 1 (by decide) fun W _ => laid_nil_any a W
theorem heldL_none (N : Nat) : heldL (List.replicate N none) = [] := by
  refine List.eq_nil_of_length_eq_zero ?_
  rw [heldL_length]
  simp
theorem fa_zero (i : Nat) : fa (List.replicate 64 Fr.zero) i = Fr.zero := by
  unfold fa
  exact Dk.getD_replicate _ _ _
theorem wl_start_ne {V : Nat → Prop} {U : Nat → Prop} {w : World} {B L : Nat} {d : Dk.Dev} {lg : Wl.S} (h : WlPL U V w B L d lg) : ∃ pl wa, LogAt w L (Wl.kn lg) B lg.at_ lg.count pl wa false := by
  obtain ⟨m1, m2, pl, wa, h1, -⟩ := h
  exact ⟨pl, wa, h1.log⟩
theorem po_make {U V : Nat → Prop} {w : World} {B L n : Nat} {d : Dk.Dev} {lg : Wl.S} {a : Po.Ar} {f : Nat → Po.Pg} (fr : Nat) (h : plS U V w B L d lg) (hC : Wl.Calm n d) (hf : a.Fits n) (hok : ∀ k, Po.PgOk (f k)) (h1 : 1 ≤ fr) (h2 : fr ≤ 64) :
    Calls Tryz.prog 18 #[.pointer (some ⟨B, 0, none⟩), .pointer (some ⟨L, 0, none⟩), ArV a, .int .i64 (fr : Int)] w fun e w' =>
    ∃ P X, e = .returned (.tuple #[.pointer (some ⟨P, 0, none⟩), .int .i64 0]) ∧ PmPO X w' B L P (Po.fresh f fr a) ∧ (∀ i, X i → w.heap.size ≤ i) ∧ Below w.heap.size w w' := by
  have hst := h.2
  have h := h.1
  obtain ⟨S, b, N, rfl⟩ := ar_nat hf
  have hN := Wl.calm_near hC (pl_ok h)
  have hsz := pl_size h
  have hL := fits_lies.1 hf
  have hbase := hL.base
  obtain ⟨pl, wa, hlog⟩ := wl_start_ne h
  obtain ⟨m1, m2, -, -, -, -, h3, -⟩ := h
  rw [hN.sz] at hsz
  refine (pmNew_walk h3 hN hf hsz hlog hst fr ⟨h1, h2⟩).mono ?_
  rintro e w' ⟨P, mp, e1, hrow, hmap, hP, hmp, hne, hb⟩
  have hh : (Po.fresh f fr (arN S b N)).held = [] := rfl
  refine ⟨P, PmX P mp (List.replicate 64 Fr.zero), e1, ⟨S, b, N, 0, mp, _, _, ⟨hrow, hmap, List.length_replicate, rfl, ⟨h1, h2⟩, h1, by rw [heldL_none]; rfl, fun k i hk => ?_, fun i hi => absurd hi (Nat.not_lt_zero i), fun i hi => absurd hi (Nat.not_lt_zero i), fun i _ => fa_zero i, Po.good_fresh hok, by omega, hne, fun i g hg => ?_⟩, rfl⟩, ?_, hb⟩
  · rw [Dk.getD_replicate] at hk; cases hk
  · rw [fa_zero] at hg; cases hg
  · rintro i (rfl | rfl | ⟨j, hj⟩)
    · exact hP
    · exact hmp
    · rw [fa_zero] at hj; cases hj
theorem po_make_bad {U V : Nat → Prop} {w : World} {B L n : Nat} {d : Dk.Dev} {lg : Wl.S} {a : Po.Ar} (fr : Int) (h : plS U V w B L d lg) (hC : Wl.Calm n d) (ha : ArOk a) (hf : ¬ (a.Fits n ∧ 1 ≤ fr ∧ fr ≤ 64)) :
    Calls Tryz.prog 18 #[.pointer (some ⟨B, 0, none⟩), .pointer (some ⟨L, 0, none⟩), ArV a, .int .i64 fr] w fun e w' => e = .returned (.tuple #[.pointer none, .int .i64 2]) ∧ Below w.heap.size w w' := by
  have hst := h.2
  have h := h.1
  have hN := Wl.calm_near hC (pl_ok h)
  have hsz := pl_size h
  obtain ⟨pl, wa, hlog⟩ := wl_start_ne h
  have hd := wl_dev h
  by_cases h1 : a.Fits n
  · obtain ⟨S, b, N, rfl⟩ := ar_nat h1
    obtain ⟨m1, m2, -, -, -, -, h3, -⟩ := h
    rw [hN.sz] at hsz
    exact pmNew_frames h3 hN h1 hsz hlog hst fr fun h2 => hf ⟨h1, h2⟩
  · exact pmNew_not _ a 2 (by decide) hlog hst fr (po_laid_bad hd hC.sz ha h1)
theorem po_make_nodev {U V : Nat → Prop} {w : World} {B L : Nat} {d : Dk.Dev} {lg : Wl.S} {a : Po.Ar} (fr : Int) (h : plS U V w B L d lg) :
    Calls Tryz.prog 18 #[.pointer none, .pointer (some ⟨L, 0, none⟩), ArV a, .int .i64 fr] w fun e w' => e = .returned (.tuple #[.pointer none, .int .i64 1]) ∧ Below w.heap.size w w' := by
  have hst := h.2
  have h := h.1
  obtain ⟨pl, wa, hlog⟩ := wl_start_ne h
  exact pmNew_not _ a 1 (by decide) hlog hst fr fun W _ => laid_nil_any a W
section
variable {U V X : Nat → Prop} {w : World} {B L P n : Nat} {d : Dk.Dev} {lg : Wl.S} {s : Po.S}
theorem po_pins (m : Nat) (h : PoIn plS PmPO poHw U V X w B L P d lg s) (hC : Wl.Calm n d) (hm : (m : Int) < s.ar.pages) : Calls Tryz.prog 12 #[.pointer (some ⟨P, 0, none⟩), .int .i64 (m : Int)] w fun e w' => e = .returned (.int .i64 (s.pins m : Int)) ∧ ∃ q, w' = w.drewN q := by
  obtain ⟨S, b, N, hand, mp, F, H, hin, -⟩ := po_in h (Wl.calm_near hC (pl_ok h.log.1))
  rw [hin.pm.ar] at hm
  refine (pmPins_any hin (by have hm : (m : Int) < (N : Int) := hm; omega)).mono ?_
  rintro e w' ⟨h1, h2⟩
  exact ⟨h1, 0, h2⟩
end
end Go.Proofs.YtbpodmallknhfaaGreat
namespace Go.Proofs.YtbpodmallknhfaaGreat
open Go.RowKit
theorem grown_of_below {W W' : World} (h : Below W.heap.size W W') : W.grownBy W' none := ⟨h.os, h.tape, h.output, h.size, fun k hk _ => h.block k hk⟩
end Go.Proofs.YtbpodmallknhfaaGreat
namespace Go.Proofs.YtbpodmallknhfaaGreat
open Go.RowKit
def Kind (W : World) (i : Nat) : Prop := ∃ o, W.heap[i]? = some o ∧ (o.isCells = true ∨ o.isWalk = true)
theorem kind_cells {W : World} {i : Nat} {cs : Array Value} {t : TypeId} {f : Nat × Nat} (h : W.heap[i]? = some (.cells cs t f)) : Kind W i := ⟨_, h, Or.inl rfl⟩
theorem kind_ne {W : World} {i l : Nat} {o : Obj} (h : Kind W i) (hl : W.heap[l]? = some o) (h1 : o.isCells = false) (h2 : o.isWalk = false) : i ≠ l := fun e => by
  obtain ⟨o', h3, h4⟩ := h
  rw [e, hl] at h3
  cases h3
  rcases h4 with h4 | h4
  · rw [h1] at h4; cases h4
  · rw [h2] at h4; cases h4
theorem touch_putObj (W : World) (l : Nat) (o : Obj) : Touch (· = l) W (W.putObj l o) := ⟨rfl, rfl, rfl, by simp [World.putObj], fun i _ hi => World.putObj_heap_other hi⟩
theorem touch_grown {W W' : World} (h : W.grownBy W' none) : Touch (fun _ => False) W W' := ⟨h.os, h.tape, h.output, h.size, fun i hi _ => h.block i hi (fun e => by cases e)⟩
theorem pmDirtyF_any (w : World) (p : Option Addr) : Calls Tryz.prog 53 #[.pointer p] w fun e w' =>
    e = .returned (.func (.func 80) #[] #[.pointer (some ⟨w.heap.size, 0, none⟩)]) ∧ w' = w.alloc (.cells #[.pointer p] 26) := by
  have hmf : ∀ (fn : Fn) (first cap : Array Value) (w : World), (Instr.makeFunc fn first cap).run Tryz.prog w = .ok (.func fn first cap) w := fun _ _ _ _ => rfl
  go_enter Tryz.func53, Tryz.ntmps53
  go_wp2_with fail
  go_ret
  exact ⟨rfl, rfl⟩
end Go.Proofs.YtbpodmallknhfaaGreat
namespace Go.Proofs.YtbpodmallknhfaaGreat
open Go.RowKit Go.Shelf
attribute [local go_sem] Oper.semAt_some in
set_option maxRecDepth 100000 in
set_option maxHeartbeats 4000000 in
theorem pmSeq_nil (Q : Nat) (w : World) (n : Nat) (hn : 1 ≤ n) :
    SeqV Fence.wide n Tryz.prog 80 #[.pointer (some ⟨Q, 0, none⟩)] (fun _ : Nat => #[.pointer none]) (fun _ W => W.cell? ⟨Q, 0, none⟩ = some (.pointer none)) (fun _ _ => False) (fun xs => xs = []) w := by
  intro l J X W hW hJ hV hXl hY h0
  refine callsIn_of_wp Tryz.func80 rfl trivial ?_ rfl
  simp only [Tryz.ntmps80, List.size_toArray, List.length_cons, List.length_nil, Nat.reduceAdd, Nat.reduceSub, Array.replicate_succ, Array.replicate_zero, List.push_toArray, List.append_toArray, List.nil_append, List.cons_append]
  have hbox0 := hV X [] W h0
  have HJ := Lib.hid hJ
  have H0 := Lib.hid h0
  have hhe := pmHeld_nil W
  clear hJ hV hXl hY h0 hW
  gi_wp2_with (refine ⟨trivial, ?_⟩; gi_at_call 11; refine (callsIn_wide.2 hhe).mono ?_; rintro e w1 ⟨rfl, hb⟩; have HB := Lib.hid hb; clear hb hhe)
  gi_loopw [9] (fun i wr => i = .int .i64 0 ∧ wr = w1) (fun _ _ => 0)
  case atStart => exact ⟨rfl, rfl⟩
  case round =>
    obtain ⟨rfl, rfl⟩ := hrel
    gi_wp2
    go_end0
    exact ⟨⟨_, rfl⟩, [], X, rfl, HJ.out X [] W _ H0.out (grown_of_below HB.out)⟩
theorem boxNil_kept {R Z : Nat} {w0 : World} (hz : w0.heap.size ≤ Z) (X : Nat → Prop) : KeptV Z (fun (_ : List Nat) W => X = (fun _ => False) ∧ W.heap[R]? = some (.cells #[.pointer none] 26 (0, 0)) ∧ Touch (fun j => w0.heap.size ≤ j) w0 W) := by
  refine ⟨fun pre W W' h hg => ?_, fun pre W l o o' h hl ho h1 h2 => ?_⟩
  · have hT := touch_grown hg
    exact ⟨h.1, hT.row h.2.1 id, h.2.2.trans (hT.mono fun _ _ h => h.elim)⟩
  · have hT := touch_putObj W l o'
    exact ⟨h.1, hT.row h.2.1 (fun e => kind_ne (kind_cells h.2.1) ho h1 h2 e), h.2.2.trans (hT.mono fun _ _ e => by have e : _ = l := e; omega)⟩
attribute [local go_sem] Oper.semAt_some in
set_option maxRecDepth 100000 in
set_option maxHeartbeats 4000000 in
theorem pmDirty_nil (w : World) : Calls Tryz.prog 27 #[.pointer none] w fun e w' => e = .returned (.slice none 0 0) ∧ Below w.heap.size w w' := by
  refine (callsIn_wide (n := 5)).1 ?_
  refine callsIn_of_wp_marks Tryz.func27 rfl trivial ?_ rfl
  simp only [Tryz.ntmps27, List.size_toArray, List.length_cons, List.length_nil, Nat.reduceAdd, Nat.reduceSub, Array.replicate_succ, Array.replicate_zero, List.push_toArray, List.append_toArray, List.nil_append, List.cons_append]
  obtain ⟨A, hA⟩ : ∃ A, A = w.heap.size := ⟨_, rfl⟩
  obtain ⟨W0, hW0⟩ : ∃ W0, W0 = w.alloc (.cells #[.slice none 0 0] 66) := ⟨_, rfl⟩
  have hs0 : W0.heap.size = A + 1 := by rw [hW0, hA]; simp
  have hr0 : Boxed W0 A 66 (.slice none 0 0) := by rw [hW0, hA]; exact Boxed.new w _ _
  have hB0 : Below w.heap.size w W0 := by rw [hW0]; exact (Below.refl _ w).alloc (Nat.le_refl _) _
  have hdir := pmDirtyF_any W0 none
  rw [hs0] at hdir
  have HB := Lib.hid hB0
  have HS0 : Hid (W0.heap.size = A + 1) := hs0
  have HR0 := Lib.hid hr0
  have HA := Lib.hid hA
  clear hB0 hr0 hs0
  rw [← hA]
  clear hA
  gi_wp2
  rw [← hW0, ← HA.out]
  clear hW0
  gi_wp2_with (refine ⟨trivial, ?_⟩; gi_at_call 53; refine (callsIn_wide.2 hdir).mono ?_; rintro e w2 ⟨rfl, hw2⟩; rw [hw2]; clear hdir hw2)
  obtain ⟨W1, hW1⟩ : ∃ W1, W1 = W0.alloc (.cells #[.pointer none] 26) := ⟨_, rfl⟩
  rw [← hW1]
  have hs1 : W1.heap.size = A + 2 := by rw [hW1, World.size_alloc, HS0.out]
  have hr2 : W1.heap[A + 1]? = some (.cells #[.pointer none] 26 (0, 0)) := by
    have h := heap_alloc_last W0 (.cells #[.pointer none] 26)
    rw [HS0.out] at h
    rw [hW1]; exact h
  have hB1 : Below W0.heap.size W0 W1 := by rw [hW1]; exact (Below.refl _ W0).alloc (Nat.le_refl _) _
  have HB1 : Hid (Below w.heap.size w W1) := HB.out.trans (hB1.mono (by rw [HS0.out, ← HA.out]; omega))
  have HR2 := Lib.hid hr2
  have HRA : Hid (Boxed W1 A 66 (.slice none 0 0)) := (hB1.block A (by rw [HS0.out]; omega)).trans HR0.out
  have HS1 : Hid (W1.heap.size = A + 2) := hs1
  clear hW1 hs1 hr2 hB1
  refine wpIn_rangeFunc_view (w := W1) (w0 := W1) rfl (by decide) (gf := 80) (lb := #[.pointer (some ⟨A + 1, 0, none⟩)]) rfl trivial (enters_of Tryz.func80 (by kernel_rfl) rfl)
    (pmSeq_nil (A + 1) W1 _ (by decide)) (Below.refl _ _) (fun _ => rfl)
    (fun X _ W => X = (fun _ => False) ∧ W.heap[A + 1]? = some (.cells #[.pointer none] 26 (0, 0)) ∧ Touch (fun j => W1.heap.size ≤ j) W1 W) (fun _ => False) (fun X => boxNil_kept (Nat.le_refl _) X) ?hV ?hlt ⟨rfl, HR2.out, Touch.refl _ _⟩
    (fun _ => { tmps := #[.pointer none, undef, .slice none 0 0, .pointer (some ⟨A, 0, none⟩), .pointer none, .pointer none, .func (.func 80) #[] #[.pointer (some ⟨A + 1, 0, none⟩)], .pointer none, undef, undef, undef, undef, undef, undef, undef, undef, undef, undef, undef, undef, undef, undef], defers := [] }) ?assign ?body ?done
  case hV => exact fun X pre W h => blk_cell h.2.1 0 rfl
  case hlt =>
    rintro X pre W ⟨rfl, -⟩ i hi
    exact hi.elim
  case assign =>
    intro l x W K hK
    gi_wp2
    exact hK
  case body => exact fun _ _ _ _ _ _ h => h.elim
  case done =>
    rintro D xs X W hD hS ⟨-, -, hT⟩ hK
    have hbx : Boxed W A 66 (.slice none 0 0) := hT.row HRA.out (by have := HS1.out; omega)
    have hc := hbx.cell
    have HT := Lib.hid hT
    have HK := Lib.hid hK
    have HD := Lib.hid hD
    clear hD hS hT hK hbx
    gi_wp2
    refine ⟨by simp, .inl ⟨_, _, rfl, run_takeDeferred HK.out, ?_⟩⟩
    refine ⟨_, results_tmp rfl _ _ _, rfl, ?_⟩
    have hA2 := HA.out
    have h1 : Below w.heap.size w W := (HB1.out).trans (HT.out.below (fun j hj => by have := HS1.out; omega) (by have := HS1.out; omega))
    have h9 := h1.trans (belowK_b (w := w) (Nat.le_refl _) W D (.deferred (some [])) (.deferred none) (by have := HD.out; have := HS1.out; omega) HK.out rfl rfl)
    rw [← hA2] at h9
    exact h9
end Go.Proofs.YtbpodmallknhfaaGreat
namespace Go.Proofs.YtbpodmallknhfaaGreat
open Go.RowKit Go.Shelf
theorem fla_results (tmps : Array Value) (w : World) (g : Nat) (v : Value) (h : tmps.getD 2 undef = .pointer (some ⟨g, 0, none⟩)) (r : w.heap[g]? = some (.cells #[v] 47 (0, 0))) :
    (results Tryz.f26 tmps).run Tryz.prog w = .ok v w := by
  have hr : Tryz.f26.results = #[.cell 2 47] := rfl
  have h' : tmps[2]?.getD undef = .pointer (some ⟨g, 0, none⟩) := by simpa using h
  have c0 := blk_cell r 0 (v := v) rfl
  have l0 : (loadVar 47 ⟨g, 0, none⟩).run Tryz.prog w = .ok v w := by simp [loadVar, run_underlying Tryz.underlying47, c0]
  simp [results, hr, h', asAddr, l0]
attribute [local go_sem] Oper.semAt_some in
set_option maxRecDepth 100000 in
theorem pmFlushAll_nil (w : World) : Calls Tryz.prog 26 #[.pointer none] w fun e w' => e = .returned (.int .i64 1) ∧ Below w.heap.size w w' := by
  refine (callsIn_wide (n := 5)).1 ?_
  refine callsIn_of_wp_marks Tryz.func26 rfl trivial ?_ rfl
  simp only [Tryz.ntmps26, List.size_toArray, List.length_cons, List.length_nil, Nat.reduceAdd, Nat.reduceSub, Array.replicate_succ, Array.replicate_zero, List.push_toArray, List.append_toArray, List.nil_append, List.cons_append]
  obtain ⟨Q, hQ⟩ : ∃ Q, Q = w.heap.size := ⟨_, rfl⟩
  obtain ⟨W0, hW0⟩ : ∃ W0, W0 = (w.alloc (.cells #[.pointer none] 26)).alloc (.cells #[.int .i64 0] 47) := ⟨_, rfl⟩
  have hr0 : W0.heap[Q]? = some (.cells #[.pointer none] 26 (0, 0)) := by
    rw [hW0, hQ]; exact (Boxed.new w _ _).alloc _
  have hr1 : W0.heap[Q + 1]? = some (.cells #[.int .i64 0] 47 (0, 0)) := by
    have h := heap_alloc_last (w.alloc (.cells #[.pointer none] 26)) (.cells #[.int .i64 0] 47)
    rw [World.size_alloc, ← hQ] at h
    rw [hW0]; exact h
  have hB0 : Below w.heap.size w W0 := by
    rw [hW0]
    exact ((Below.refl _ w).alloc (Nat.le_refl _) _).alloc (by simp) _
  have hnone := pmNone_nil W0
  have cQ := blk_cell hr0 0 (v := .pointer none) rfl
  have cR := blk_cell hr1 0 (v := .int .i64 0) rfl
  have fR := blk_free hr1 0
  have HB := Lib.hid hB0
  have HR1 := Lib.hid hr1
  have HQ := Lib.hid hQ
  clear hB0 hr0 hr1
  rw [← hQ]
  clear hQ
  gi_wp2
  rw [← hW0, ← HQ.out]
  clear hW0
  gi_wp2_with (refine ⟨trivial, ?_⟩; gi_at_call 38; refine (callsIn_wide.2 hnone).mono ?_; rintro e w2 ⟨rfl, hw2⟩; rw [hw2]; clear hnone hw2)
  have hb := HB.out
  rw [← HQ.out] at hb
  exact ⟨_, fla_results _ _ (Q + 1) (.int .i64 1) rfl (by rw [blk_set HR1.out]; rfl), rfl, hb.trans ((Below.refl _ _).setCell (p := ⟨Q + 1, 0, none⟩) (Nat.le_succ Q) _)⟩
end Go.Proofs.YtbpodmallknhfaaGreat
namespace Go.Proofs.YtbpodmallknhfaaGreat
open Go.RowKit
theorem own_pool : PoApi WlPD plS PmPO hdS poHw poHp where
  dok := fun h => by
    obtain ⟨m1, m2, h1, -⟩ := h
    exact h1.own.ok
  pkeep := fun h ht hs => ⟨wl_pkeep h.1 ht hs, h.2⟩
  plt := fun h => wl_plt h.1
  dev := fun h => wl_dev h.1
  okeep := po_okeep
  olt := po_olt
  ogood := po_ogood
  hw_blank := fun _ hs hf h => po_hw_blank hs hf h
  new := wl_new
  make := fun {U w B n} a c h hf => (wl_make_oth (a : Int) (c : Int) h Wl.calm_fresh ⟨by omega, by have := hf.2.2.2; have := (show Dk.size (Dk.fresh n n) ≤ 65536 by obtain ⟨m1, m2, hP, -⟩ := h; exact hP.own.size); have := (Wl.calm_fresh (n := n)).sz; have := hf.1; omega⟩ ⟨by omega, by have := hf.2.1; omega⟩).mono fun e w' hA => by
    obtain ⟨L, U', V', d', h1, h2, h3, h4, h5, h6, h7⟩ := hA.1 hf
    exact ⟨L, U', V', d', h1, ⟨h2, by show (52 : Nat) ≠ 0; decide⟩, h4, h3, h5, h6, h7⟩
  mend := fun h hC hf _ _ hw => po_mend h hC hf hw
  mend_bad := fun h hC ha hf => po_mend_bad h hC ha hf
  mend_nil := fun w _ => po_mend_nil w
  make_pool := fun fr h hC hf _ _ hok h1 h2 => po_make fr h hC hf hok h1 h2
  make_bad := fun fr h hC ha _ hf => po_make_bad fr h hC ha hf
  make_nolog := fun fr _ _ _ _ => pmNew_nolog _ _ fr
  make_nodev := fun fr h _ _ _ => po_make_nodev fr h
  get := fun m h hC hs hm hf => po_get m h hC hs hm hf
  put := fun m x u h hN hs hm hf hx hB hl => po_put m x u h hN hs hm hf hx hB hl
  pin := fun m h hC hs hm hf hp => po_pin m h hC hs hm hf hp
  pins := fun m h hC hm _ => po_pins m h hC hm
  get_nil := fun m w _ => pmGet_not _ m 1 (by decide) (ask_nil m)
  put_nil := fun m k l u w _ _ hB => pmPut_not _ m k u l 1 (by decide) hB (ask_nil m)
  pin_nil := fun m w _ => pmPin_not _ m 1 (by decide) (ask_nil m)
  unpin_nil := fun m w _ => pmUnpin_nil m w
  flush_nil := fun m w _ => pmFlush_not _ m 1 (by decide) (ask_nil m)
  flushall_nil := pmFlushAll_nil
  dirty_nil := pmDirty_nil
  held_nil := pmHeld_nil
  pins_nil := fun m w _ => pmPins_nil m w
end Go.Proofs.YtbpodmallknhfaaGreat
