/- Parts of a proof. Conditions: as each row says. -/
import Derived.Test.YtbpodmallknhfaaGreatAr07
import Derived.Test.YtbpodmallknhfaaGreatAr20
import Derived.Test.YtbpodmallknhfaaGreatAr15
import Derived.Test.YtbpodmallknhfaaGreatAr11
import Derived.BigQuiet
namespace Go.Proofs.YtbpodmallknhfaaGreat
open Go.RowKit
def PutS (B m1 m2 L : Nat) (i : Nat) : Prop := DS B m1 m2 i ∨ i = L
abbrev LogC (k : Wl.Kn) (B a c : Nat) (pl wa : Value) (dn : Bool) : Array Value := #[.int .u64 (k.start : Int), .int .u64 (k.flushed : Int), .int .u64 (k.point : Int), .int .u32 (k.epoch : Int), .pointer (some ⟨B, 0, none⟩), .int .i64 (a : Int), .int .i64 (c : Int), pl, wa, .bool dn]
def LogAt (w : World) (L : Nat) (k : Wl.Kn) (B a c : Nat) (pl wa : Value) (dn : Bool) : Prop := w.heap[L]? = some (.cells (LogC k B a c pl wa dn) 122 (0, 0))
section
variable {w w' : World} {L B a c : Nat} {k : Wl.Kn} {pl wa : Value} {dn : Bool}
theorem LogAt.cell (h : LogAt w L k B a c pl wa dn) (i : Nat) {v : Value} (hv : (LogC k B a c pl wa dn)[i]? = some v) : w.cell? ⟨L, i, none⟩ = some v := blk_cell h i hv
theorem LogAt.drew (h : LogAt w L k B a c pl wa dn) (n : Nat) : LogAt (w.drewN n) L k B a c pl wa dn := h
theorem LogAt.lt (h : LogAt w L k B a c pl wa dn) : L < w.heap.size := lt_of_block h
theorem LogAt.below (h : LogAt w L k B a c pl wa dn) (hb : Below w.heap.size w w') : LogAt w' L k B a c pl wa dn := (hb.block L h.lt).trans h
theorem LogAt.touch {T : Nat → Prop} (h : LogAt w L k B a c pl wa dn) (ht : Touch T w w') (hL : ¬ T L) : LogAt w' L k B a c pl wa dn := ht.row h hL
theorem wlNone_any (h : LogAt w L k B a c pl wa dn) : Calls Tryz.prog 62 #[.pointer (some ⟨L, 0, none⟩)] w fun e w' => e = .returned (.bool false) ∧ w = w' := by
  have c4 := h.cell 4 (v := .pointer (some ⟨B, 0, none⟩)) rfl
  clear h
  go_enter Tryz.func62, Tryz.ntmps62
  go_wp2
  go_ret
  exact ⟨rfl, rfl⟩
theorem wlReady_any (h : LogAt w L k B a c pl wa false) : Calls Tryz.prog 55 #[.pointer (some ⟨L, 0, none⟩)] w fun e w' => e = .returned (.int .i64 0) ∧ w = w' := by
  have hn := wlNone_any h
  have c9 := h.cell 9 (v := .bool false) rfl
  clear h
  go_enter Tryz.func55, Tryz.ntmps55
  go_wp2_with (go_at_call 62; refine hn.mono ?_; rintro e w' ⟨rfl, rfl⟩)
  go_ret
  exact ⟨rfl, rfl⟩
theorem wlTold_any (h : LogAt w L k B a c pl wa false) (x : Nat) : Calls Tryz.prog 90 #[.pointer (some ⟨L, 0, none⟩), .int .i64 (x : Int)] w fun e w' =>
    e = .returned (.int .i64 (x : Int)) ∧ LogAt w' L k B a c pl wa (decide (x ≠ 0)) ∧ Touch (· = L) w w' := by
  have c9 := h.cell 9 (v := .bool false) rfl
  have f9 := blk_free h 9
  obtain ⟨z, hz⟩ : ∃ z, decide (x ≠ 0) = z := ⟨_, rfl⟩
  have s9 : LogAt (w.setCell ⟨L, 9, none⟩ (.bool z)) L k B a c pl wa z := blk_set (i := 9) h (.bool z)
  have ht : Touch (· = L) w (w.setCell ⟨L, 9, none⟩ (.bool z)) := Touch.set (S := (· = L)) (a := w) L 9 (.bool z) rfl
  have hz2 : ((x : Int) != 0) = z := by rw [← hz, Bool.eq_iff_iff]; simp
  rw [hz]
  have S9 := Lib.hid s9
  have HT := Lib.hid ht
  clear hz h s9 ht
  go_enter Tryz.func90, Tryz.ntmps90
  go_wp2
  go_ret
  exact ⟨rfl, S9.out, HT.out⟩
theorem wlTold_ok (h : LogAt w L k B a c pl wa false) : Calls Tryz.prog 90 #[.pointer (some ⟨L, 0, none⟩), .int .i64 0] w fun e w' =>
    e = .returned (.int .i64 0) ∧ LogAt w' L k B a c pl wa false ∧ Touch (· = L) w w' := wlTold_any h 0
theorem wlHalves_any (h : LogAt w L k B a c pl wa dn) (hc : c ≤ 8192) : Calls Tryz.prog 87 #[.pointer (some ⟨L, 0, none⟩)] w fun e w' => e = .returned (.int .u64 ((2 * c : Nat) : Int)) ∧ w = w' := by
  have c6 := h.cell 6 (v := .int .i64 (c : Int)) rfl
  have h1 := IntWalk.u64_in (c : Int) (by omega)
  have h2 : IntKind.u64.wrap (2 * (c : Int)) = ((2 * c : Nat) : Int) := by rw [IntWalk.u64_in _ (by omega)]; omega
  clear h
  generalize ((2 * c : Nat) : Int) = z at *
  go_enter Tryz.func87, Tryz.ntmps87
  go_wp2
  go_ret
  exact ⟨rfl, rfl⟩
theorem wlStart_any (h : LogAt w L k B a c pl wa dn) : Calls Tryz.prog 44 #[.pointer (some ⟨L, 0, none⟩)] w fun e w' => e = .returned (.int .u64 (k.start : Int)) ∧ w = w' := by
  have hn := wlNone_any h
  have c0 := h.cell 0 (v := .int .u64 (k.start : Int)) rfl
  clear h
  go_enter Tryz.func44, Tryz.ntmps44
  go_wp2_with (go_at_call 62; refine hn.mono ?_; rintro e w' ⟨rfl, rfl⟩)
  go_ret
  exact ⟨rfl, rfl⟩
theorem wlFlushed_any (h : LogAt w L k B a c pl wa dn) : Calls Tryz.prog 77 #[.pointer (some ⟨L, 0, none⟩)] w fun e w' => e = .returned (.int .u64 (k.flushed : Int)) ∧ w = w' := by
  have hn := wlNone_any h
  have c0 := h.cell 1 (v := .int .u64 (k.flushed : Int)) rfl
  clear h
  go_enter Tryz.func77, Tryz.ntmps77
  go_wp2_with (go_at_call 62; refine hn.mono ?_; rintro e w' ⟨rfl, rfl⟩)
  go_ret
  exact ⟨rfl, rfl⟩
theorem wlEnd_any {p : Option Addr} {n cap : Nat} (h : LogAt w L k B a c pl (.slice p n cap) dn) (hs : k.flushed + n < 18446744073709551616) : Calls Tryz.prog 35 #[.pointer (some ⟨L, 0, none⟩)] w fun e w' => e = .returned (.int .u64 ((k.flushed + n : Nat) : Int)) ∧ ∃ q, w' = w.drewN q := by
  have hn := wlNone_any h
  have c1 := h.cell 1 (v := .int .u64 (k.flushed : Int)) rfl
  have c8 := h.cell 8 (v := .slice p n cap) rfl
  have h1 := IntWalk.u64_in (n : Int) (by omega)
  have h2 : IntKind.u64.wrap ((k.flushed : Int) + (n : Int)) = ((k.flushed + n : Nat) : Int) := by rw [IntWalk.u64_in _ (by omega)]; omega
  clear h hs
  generalize ((k.flushed + n : Nat) : Int) = z at *
  go_enter Tryz.func35, Tryz.ntmps35
  go_wp2_with (go_at_call 62; refine hn.mono ?_; rintro e w' ⟨rfl, rfl⟩)
  go_quiet (fail)
  go_wp2
  go_ret
  exact ⟨rfl, _, rfl⟩
theorem round_nums {g n r : Nat} (h : g / n = r) (h1 : r < 4294967296) : IntKind.u64.wrap ((g : Int) / (n : Int)) = (r : Int) ∧ (r : Int) % 4294967296 = (r : Int) := by
  have h0 : (g : Int) / (n : Int) = (r : Int) := by rw [← h]; rfl
  rw [h0]
  exact ⟨IntWalk.u64_in _ (by omega), by omega⟩
theorem wlRound_any (h : LogAt w L k B a c pl wa dn) (g : Nat) (hc1 : 1 ≤ c) (hc : c ≤ 8192) (hr : g / (2 * c) < 4294967296) : Calls Tryz.prog 161 #[.pointer (some ⟨L, 0, none⟩), .int .u64 (g : Int)] w fun e w' => e = .returned (.int .u32 ((g / (2 * c) : Nat) : Int)) ∧ w = w' := by
  have hh := wlHalves_any h hc
  obtain ⟨N, hN⟩ : ∃ N, 2 * c = N := ⟨_, rfl⟩
  rw [hN] at hh hr ⊢
  have h3 : ¬ (N : Int) = 0 := by omega
  have h4 : ((N : Int) == 0) = false := by rw [beq_eq_false_iff_ne]; exact h3
  obtain ⟨r, hr2⟩ : ∃ r, g / N = r := ⟨_, rfl⟩
  obtain ⟨h1, h2⟩ := round_nums hr2 (by rw [← hr2]; exact hr)
  rw [hr2]
  clear h hr hc hc1 hN hr2
  generalize (r : Int) = z at *
  generalize (N : Int) = zc at *
  go_enter Tryz.func161, Tryz.ntmps161
  go_wp2_with (go_at_call 87; refine hh.mono ?_; rintro e w' ⟨rfl, rfl⟩)
  go_ret
  exact ⟨rfl, rfl⟩
theorem sector_nums {a m n g : Nat} (h : g % n = m) (ha : a ≤ 65536) (hm : m < 16384) : (g : Int) % (n : Int) = (m : Int) ∧ IntKind.u64.wrap ((m : Int).tdiv 2) = ((m / 2 : Nat) : Int) ∧ wrap64 ((a : Int) + 2) = ((a + 2 : Nat) : Int) ∧ wrap64 ((m / 2 : Nat) : Int) = ((m / 2 : Nat) : Int) ∧ wrap64 (((a + 2 : Nat) : Int) + ((m / 2 : Nat) : Int)) = ((a + 2 + m / 2 : Nat) : Int) := by
  have h0 : (g : Int) % (n : Int) = (m : Int) := by rw [← h]; rfl
  refine ⟨h0, ?_, ?_, ?_, ?_⟩
  · rw [IntWalk.u64_quo _ _ (by omega)]; rfl
  · rw [IntWalk.wrap64_in _ (by omega)]; omega
  · rw [IntWalk.wrap64_in _ (by omega)]
  · rw [IntWalk.wrap64_in _ (by omega)]; omega
set_option maxHeartbeats 800000 in
theorem wlSector_any (h : LogAt w L k B a c pl wa dn) (g : Nat) (hc1 : 1 ≤ c) (hc : c ≤ 8192) (ha : a ≤ 65536) : Calls Tryz.prog 98 #[.pointer (some ⟨L, 0, none⟩), .int .u64 (g : Int)] w fun e w' => e = .returned (.int .i64 ((a + 2 + g % (2 * c) / 2 : Nat) : Int)) ∧ ∃ q, w' = w.drewN q := by
  have hh := fun q => wlHalves_any (h.drew q) hc
  have c5 := h.cell 5 (v := .int .i64 (a : Int)) rfl
  obtain ⟨N, hN⟩ : ∃ N, 2 * c = N := ⟨_, rfl⟩
  have hm : g % N < N := Nat.mod_lt _ (by omega)
  have h3 : ¬ (N : Int) = 0 := by omega
  have h4 : ((N : Int) == 0) = false := by rw [beq_eq_false_iff_ne]; exact h3
  obtain ⟨m, hm2⟩ : ∃ m, g % N = m := ⟨_, rfl⟩
  obtain ⟨h1, h2, h5, h6, h7⟩ := sector_nums (a := a) hm2 ha (by omega)
  rw [hN] at hh ⊢
  rw [hm2]
  clear h hm hc ha hc1 hN hm2
  generalize ((a + 2 + m / 2 : Nat) : Int) = z1 at *
  generalize ((a + 2 : Nat) : Int) = z2 at *
  generalize ((m / 2 : Nat) : Int) = z3 at *
  generalize (m : Int) = z4 at *
  generalize (N : Int) = zc at *
  go_enter Tryz.func98, Tryz.ntmps98
  go_wp2_with fail
  go_quiet ((go_at_call 87; exact calls_quiet (hh _)))
  go_wp2
  go_ret
  exact ⟨ret_int h7, _, rfl⟩
end
end Go.Proofs.YtbpodmallknhfaaGreat
namespace Go.Proofs.YtbpodmallknhfaaGreat
open Go.RowKit
def LogV (L : Nat) (pl wa : Value) (i : Nat) : Prop := i = L ∨ pl.ownBlock = some i ∨ wa.ownBlock = some i
structure LogM (w : World) (L B : Nat) (s : Wl.S) (pl wa : Value) : Prop where
  ex : Wl.Ex s
  log : LogAt w L (Wl.kn s) B s.at_ s.count pl wa false
  qpl : QO 0 w pl (Wl.places s)
  owa : Own 0 w wa (Wl.waits s)
  npl : pl.ownBlock ≠ some L
  nwa : wa.ownBlock ≠ some L
  apart : ∀ i, pl.ownBlock = some i → wa.ownBlock ≠ some i
def WlPL (U V : Nat → Prop) (w : World) (B L : Nat) (d : Dk.Dev) (s : Wl.S) : Prop := ∃ m1 m2 pl wa, LogM w L B s pl wa ∧ V = LogV L pl wa ∧ PDev w B m1 m2 d ∧ U = DS B m1 m2 ∧ (∀ i, U i → ¬ V i) ∧ ∃ said, said ≤ s.stop ∧ Wl.Dv s said d
theorem Own.keep {base : Nat} {w w' : World} {v : Value} {l : List Nat} {T : Nat → Prop} (h : Own base w v l) (ht : Touch T w w') (hs : ∀ i, v.ownBlock = some i → ¬ T i) : Own base w' v l := by
  refine ⟨⟨h.own.1, ?_⟩, h.small, h.len⟩
  rcases h.own.2 with h2 | ⟨g, cap, cur, hv, hg, hh, r⟩
  · exact Or.inl h2
  · exact Or.inr ⟨g, cap, cur, hv, hg, ht.row hh (hs g (by rw [hv]; rfl)), r⟩
theorem Own.blk_lt {base : Nat} {w : World} {v : Value} {l : List Nat} (h : Own base w v l) : ∀ i, v.ownBlock = some i → i < w.heap.size := by
  intro i hi
  rcases h.own.2 with ⟨hv, -⟩ | ⟨g, cap, cur, hv, hg, hh, r⟩
  · rw [hv] at hi; cases hi
  · rw [hv] at hi
    simp only [Value.ownBlock, Option.some.injEq] at hi
    rw [← hi]; exact lt_of_block hh
section
variable {U V T : Nat → Prop} {w w' : World} {B L : Nat} {d : Dk.Dev} {s : Wl.S} {pl wa : Value}
theorem LogM.keep (h : LogM w L B s pl wa) (ht : Touch T w w') (hs : ∀ i, LogV L pl wa i → ¬ T i) : LogM w' L B s pl wa :=
  ⟨h.ex, h.log.touch ht (hs L (Or.inl rfl)), h.qpl.touch ht (fun g hg => hs g (Or.inr (Or.inl hg))), h.owa.keep ht (fun g hg => hs g (Or.inr (Or.inr hg))), h.npl, h.nwa, h.apart⟩
theorem LogM.lt (h : LogM w L B s pl wa) : ∀ i, LogV L pl wa i → i < w.heap.size := by
  rintro i (rfl | hi | hi)
  · exact h.log.lt
  · exact h.qpl.lt i hi
  · exact h.owa.blk_lt i hi
theorem wl_pkeep (h : WlPL U V w B L d s) (ht : Touch T w w') (hs : ∀ i, Both U V i → ¬ T i) : WlPL U V w' B L d s := by
  obtain ⟨m1, m2, pl, wa, h1, rfl, h3, rfl, h5, h6⟩ := h
  exact ⟨m1, m2, pl, wa, h1.keep ht (fun i hi => hs i (Or.inr hi)), rfl, h3.keep ht (fun i hi => hs i (Or.inl hi)), rfl, h5, h6⟩
theorem wl_plt (h : WlPL U V w B L d s) : ∀ i, Both U V i → i < w.heap.size := by
  obtain ⟨m1, m2, pl, wa, h1, rfl, h3, rfl, h5, h6⟩ := h
  rintro i (hi | hi)
  · exact h3.lt i hi
  · exact h1.lt i hi
theorem wl_dev (h : WlPL U V w B L d s) : WlPD U w B d := by
  obtain ⟨m1, m2, pl, wa, h1, rfl, h3, rfl, h5, h6⟩ := h
  exact ⟨m1, m2, h3, rfl⟩
theorem wa_slice {base : Nat} {v : Value} {l : List Nat} (h : Own base w v l) : ∃ p cap, v = .slice p l.length cap := by
  obtain ⟨p, cap, hv, -⟩ := h.bts.form
  exact ⟨p, cap, hv⟩
theorem LogM.end_ (h : LogM w L B s pl wa) : s.flushed + (Wl.waits s).length = s.stop := by
  have h1 := Wl.waits_length h.ex.good
  have h2 := h.ex.good.high
  omega
end
end Go.Proofs.YtbpodmallknhfaaGreat
