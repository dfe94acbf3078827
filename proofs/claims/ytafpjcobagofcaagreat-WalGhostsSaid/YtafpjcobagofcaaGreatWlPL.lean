/- The program's log over its device, with the blocks that are its own. Conditions: none. -/
import Derived.Test.YtafpjcobagofcaaGreatWlLog
import Derived.Test.YtafpjcobagofcaaGreatWlQuM
import Derived.Test.YtafpjcobagofcaaGreatWlBase
import Derived.Test.YtafpjcobagofcaaGreatWlDvM
namespace Go.Proofs.YtafpjcobagofcaaGreat
open Go.RowKit

def LogV (L : Nat) (pl wa : Value) (i : Nat) : Prop := i = L ∨ pl.ownBlock = some i ∨ wa.ownBlock = some i
/-- A log in memory. -/
structure LogM (w : World) (L B : Nat) (s : Wl.S) (pl wa : Value) : Prop where
  ex : Wl.Ex s
  log : LogAt w L (Wl.kn s) B s.at_ s.count pl wa false
  qpl : QO 0 w pl (Wl.places s)
  owa : Own 0 w wa (Wl.waits s)
  npl : pl.ownBlock ≠ some L
  nwa : wa.ownBlock ≠ some L
  apart : ∀ i, pl.ownBlock = some i → wa.ownBlock ≠ some i
def WlPM (V : Nat → Prop) (w : World) (L : Nat) (s : Wl.S) : Prop := ∃ B pl wa, LogM w L B s pl wa ∧ V = LogV L pl wa
def WlPL (U V : Nat → Prop) (w : World) (B L : Nat) (d : Dk.Dev) (s : Wl.S) : Prop := ∃ m1 m2 pl wa, LogM w L B s pl wa ∧ V = LogV L pl wa ∧ PDev w B m1 m2 d ∧ U = DS B m1 m2 ∧ (∀ i, U i → ¬ V i) ∧ ∃ said, said ≤ s.stop ∧ Wl.Dv s said d
theorem Own.keep {base : Nat} {w w' : World} {v : Value} {l : List Nat} {T : Nat → Prop} (h : Own base w v l) (ht : Touch T w w') (hs : ∀ i, v.ownBlock = some i → ¬ T i) : Own base w' v l := by
  refine ⟨⟨h.own.1, ?_⟩, h.small, h.len⟩
  rcases h.own.2 with h2 | ⟨g, cap, cur, hv, hg, hh, r⟩
  · exact Or.inl h2
  · exact Or.inr ⟨g, cap, cur, hv, hg, ht.row hh (hs g (by rw [hv]; rfl)), r⟩
theorem Own.blk_lt {base : Nat} {w : World} {v : Value} {l : List Nat} (h : Own base w v l) : ∀ i, v.ownBlock = some i → i < w.heap.size := by
  intro i hi
  rcases h.own.2 with ⟨hv, -⟩ | ⟨g, cap, cur, hv, hg, hh, r⟩
  · rw [hv] at hi; cases hi
  · rw [hv] at hi
    simp only [Value.ownBlock, Option.some.injEq] at hi
    rw [← hi]; exact lt_of_block hh
section
variable {U V T : Nat → Prop} {w w' : World} {B L : Nat} {d : Dk.Dev} {s : Wl.S} {pl wa : Value}
theorem LogM.keep (h : LogM w L B s pl wa) (ht : Touch T w w') (hs : ∀ i, LogV L pl wa i → ¬ T i) : LogM w' L B s pl wa :=
  ⟨h.ex, h.log.touch ht (hs L (Or.inl rfl)), h.qpl.touch ht (fun g hg => hs g (Or.inr (Or.inl hg))), h.owa.keep ht (fun g hg => hs g (Or.inr (Or.inr hg))), h.npl, h.nwa, h.apart⟩
theorem LogM.lt (h : LogM w L B s pl wa) : ∀ i, LogV L pl wa i → i < w.heap.size := by
  rintro i (rfl | hi | hi)
  · exact h.log.lt
  · exact h.qpl.lt i hi
  · exact h.owa.blk_lt i hi
theorem LogM.below (h : LogM w L B s pl wa) (hb : Below w.heap.size w w') : LogM w' L B s pl wa :=
  h.keep (T := fun i => w.heap.size ≤ i) (.of_below hb fun _ _ h => h) fun i hi => by have := h.lt i hi; omega
theorem wl_pkeep (h : WlPL U V w B L d s) (ht : Touch T w w') (hs : ∀ i, Both U V i → ¬ T i) : WlPL U V w' B L d s := by
  obtain ⟨m1, m2, pl, wa, h1, rfl, h3, rfl, h5, h6⟩ := h
  exact ⟨m1, m2, pl, wa, h1.keep ht (fun i hi => hs i (Or.inr hi)), rfl, h3.keep ht (fun i hi => hs i (Or.inl hi)), rfl, h5, h6⟩
theorem wl_plt (h : WlPL U V w B L d s) : ∀ i, Both U V i → i < w.heap.size := by
  obtain ⟨m1, m2, pl, wa, h1, rfl, h3, rfl, h5, h6⟩ := h
  rintro i (hi | hi)
  · exact h3.lt i hi
  · exact h1.lt i hi
theorem wl_dev (h : WlPL U V w B L d s) : WlPD U w B d := by
  obtain ⟨m1, m2, pl, wa, h1, rfl, h3, rfl, h5, h6⟩ := h
  exact ⟨m1, m2, h3, rfl⟩
theorem wl_mem (h : WlPL U V w B L d s) : WlPM V w L s := by
  obtain ⟨m1, m2, pl, wa, h1, rfl, h3, rfl, h5, h6⟩ := h
  exact ⟨B, pl, wa, h1, rfl⟩
theorem wl_mkeep (h : WlPM V w L s) (ht : Touch T w w') (hs : ∀ i, V i → ¬ T i) : WlPM V w' L s := by
  obtain ⟨B, pl, wa, h1, rfl⟩ := h
  exact ⟨B, pl, wa, h1.keep ht hs, rfl⟩
theorem wl_away (h : WlPL U V w B L d s) : ∀ i, U i → ¬ V i := by
  obtain ⟨m1, m2, pl, wa, h1, rfl, h3, rfl, h5, h6⟩ := h
  exact h5
theorem wl_good (h : WlPM V w L s) : Wl.Good s := by
  obtain ⟨B, pl, wa, h1, rfl⟩ := h
  exact h1.ex.good
theorem wl_hold (h : WlPL U V w B L d s) : Wl.Hd d s := by
  obtain ⟨m1, m2, pl, wa, h1, rfl, h3, rfl, h5, h6⟩ := h
  exact ⟨h1.ex, h6⟩
theorem wl_hold_crash (ps : List Nat) (h : WlPL U V w B L d s) : Wl.Hd (Dk.crash d ps) s := (wl_hold h).crash ps
theorem wa_slice {base : Nat} {v : Value} {l : List Nat} (h : Own base w v l) : ∃ p cap, v = .slice p l.length cap := by
  obtain ⟨p, cap, hv, -⟩ := h.bts.form
  exact ⟨p, cap, hv⟩
theorem LogM.end_ (h : LogM w L B s pl wa) : s.flushed + (Wl.waits s).length = s.stop := by
  have h1 := Wl.waits_length h.ex.good
  have h2 := h.ex.good.high
  omega
/-- What the log says of itself. -/
theorem wl_end_ (h : WlPM V w L s) (hs : s.stop ≤ 1000000000000) : Calls Tryz.prog 14 #[.pointer (some ⟨L, 0, none⟩)] w fun e w' => e = .returned (.int .u64 (s.stop : Int)) ∧ Below w.heap.size w w' := by
  obtain ⟨B, pl, wa, h1, rfl⟩ := h
  obtain ⟨p, cap, rfl⟩ := wa_slice h1.owa
  have he := h1.end_
  have hc := wlEnd_any h1.log (by show s.flushed + _ < _; omega)
  rw [show (Wl.kn s).flushed + (Wl.waits s).length = s.stop from he] at hc
  exact hc.mono fun _ _ ⟨he, q, hq⟩ => ⟨he, by rw [hq]; exact below_drewN _ _ _⟩
theorem wl_left (h : WlPM V w L s) (hs : s.stop ≤ 1000000000000) : Calls Tryz.prog 20 #[.pointer (some ⟨L, 0, none⟩)] w fun e w' => e = .returned (.int .i64 (Wl.left s)) ∧ Below w.heap.size w w' := by
  obtain ⟨B, pl, wa, h1, rfl⟩ := h
  obtain ⟨p, cap, rfl⟩ := wa_slice h1.owa
  have he := h1.end_
  have hr := h1.ex.room
  have hl := h1.ex.good.low
  have hh := h1.ex.good.high
  have hc := wlLeft_any h1.log (by show s.flushed + _ ≤ _; rw [he]; exact hr) (by show s.start ≤ _; omega) h1.ex.high
  have e2 : (((Wl.kn s).start / 52 + 2 * s.count) * 52 - ((Wl.kn s).flushed + (Wl.waits s).length) : Nat) = (s.start / 52 + 2 * s.count) * 52 - s.stop := by
    show (s.start / 52 + 2 * s.count) * 52 - (s.flushed + _) = _
    rw [he]
  rw [e2] at hc
  refine hc.mono fun _ _ ⟨hv, q, hq⟩ => ⟨?_, by rw [hq]; exact below_drewN _ _ _⟩
  rw [hv]
  refine ret_int ?_
  unfold Wl.left
  omega
theorem wl_start (h : WlPM V w L s) : Calls Tryz.prog 17 #[.pointer (some ⟨L, 0, none⟩)] w fun e w' => e = .returned (.int .u64 (s.start : Int)) ∧ Below w.heap.size w w' := by
  obtain ⟨B, pl, wa, h1, rfl⟩ := h
  exact (wlStart_any h1.log).mono fun _ _ ⟨he, hq⟩ => ⟨he, by rw [← hq]; exact Below.refl _ _⟩
theorem wl_epoch (h : WlPM V w L s) : Calls Tryz.prog 13 #[.pointer (some ⟨L, 0, none⟩)] w fun e w' => e = .returned (.int .u32 (s.epoch : Int)) ∧ Below w.heap.size w w' := by
  obtain ⟨B, pl, wa, h1, rfl⟩ := h
  exact (wlEpoch_any h1.log).mono fun _ _ ⟨he, hq⟩ => ⟨he, by rw [← hq]; exact Below.refl _ _⟩
end
end Go.Proofs.YtafpjcobagofcaaGreat
