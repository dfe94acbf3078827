/- The program's log in memory, and its small calls: is it there, is it ready, what was told, how many halves, which round, which sector, where it starts and ends, what is left. Conditions: the log's block. -/
import Derived.Test.YtafpjcobagofcaaGreatWlDvM
import Derived.Test.YtafpjcobagofcaaGreatWlDev
import Derived.Test.YtafpjcobagofcaaGreatCodeR
import Derived.BigQuiet
namespace Go.Proofs.YtafpjcobagofcaaGreat
open Go.RowKit

/-- The blocks of a device, and a log's. -/
def PutS (B m1 m2 L : Nat) (i : Nat) : Prop := DS B m1 m2 i ∨ i = L
/-- A log's block. -/
abbrev LogC (k : Wl.Kn) (B a c : Nat) (pl wa : Value) (dn : Bool) : Array Value := #[.int .u64 (k.start : Int), .int .u64 (k.flushed : Int), .int .u64 (k.point : Int), .int .u32 (k.epoch : Int), .pointer (some ⟨B, 0, none⟩), .int .i64 (a : Int), .int .i64 (c : Int), pl, wa, .bool dn]
def LogAt (w : World) (L : Nat) (k : Wl.Kn) (B a c : Nat) (pl wa : Value) (dn : Bool) : Prop := w.heap[L]? = some (.cells (LogC k B a c pl wa dn) 64 (0, 0))
section
variable {w w' : World} {L B a c : Nat} {k : Wl.Kn} {pl wa : Value} {dn : Bool}
theorem LogAt.cell (h : LogAt w L k B a c pl wa dn) (i : Nat) {v : Value} (hv : (LogC k B a c pl wa dn)[i]? = some v) : w.cell? ⟨L, i, none⟩ = some v := blk_cell h i hv
theorem LogAt.drew (h : LogAt w L k B a c pl wa dn) (n : Nat) : LogAt (w.drewN n) L k B a c pl wa dn := h
theorem LogAt.lt (h : LogAt w L k B a c pl wa dn) : L < w.heap.size := lt_of_block h
theorem LogAt.below (h : LogAt w L k B a c pl wa dn) (hb : Below w.heap.size w w') : LogAt w' L k B a c pl wa dn := (hb.block L h.lt).trans h
theorem LogAt.touch {T : Nat → Prop} (h : LogAt w L k B a c pl wa dn) (ht : Touch T w w') (hL : ¬ T L) : LogAt w' L k B a c pl wa dn := ht.row h hL

theorem wlNone_any (h : LogAt w L k B a c pl wa dn) : Calls Tryz.prog 31 #[.pointer (some ⟨L, 0, none⟩)] w fun e w' => e = .returned (.bool false) ∧ w = w' := by
  have c4 := h.cell 4 (v := .pointer (some ⟨B, 0, none⟩)) rfl
  clear h
  go_enter Tryz.func31, Tryz.ntmps31
  go_wp2
  go_ret
  exact ⟨rfl, rfl⟩
theorem wlNone_nil (w : World) : Calls Tryz.prog 31 #[.pointer none] w fun e w' => e = .returned (.bool true) ∧ w = w' := by
  go_enter Tryz.func31, Tryz.ntmps31
  go_wp2
  go_ret
  exact ⟨rfl, rfl⟩
theorem wlReady_any (h : LogAt w L k B a c pl wa false) : Calls Tryz.prog 26 #[.pointer (some ⟨L, 0, none⟩)] w fun e w' => e = .returned (.int .i64 0) ∧ w = w' := by
  have hn := wlNone_any h
  have c9 := h.cell 9 (v := .bool false) rfl
  clear h
  go_enter Tryz.func26, Tryz.ntmps26
  go_wp2_with (go_at_call 31; refine hn.mono ?_; rintro e w' ⟨rfl, rfl⟩)
  go_ret
  exact ⟨rfl, rfl⟩
theorem wlReady_nil (w : World) : Calls Tryz.prog 26 #[.pointer none] w fun e w' => e = .returned (.int .i64 1) ∧ w = w' := by
  have hn := wlNone_nil w
  go_enter Tryz.func26, Tryz.ntmps26
  go_wp2_with (go_at_call 31; refine hn.mono ?_; rintro e w' ⟨rfl, rfl⟩)
  go_ret
  exact ⟨rfl, rfl⟩
/-- What the device has told. -/
theorem wlTold_any (h : LogAt w L k B a c pl wa false) (x : Nat) : Calls Tryz.prog 43 #[.pointer (some ⟨L, 0, none⟩), .int .i64 (x : Int)] w fun e w' =>
    e = .returned (.int .i64 (x : Int)) ∧ LogAt w' L k B a c pl wa (decide (x ≠ 0)) ∧ Touch (· = L) w w' := by
  have c9 := h.cell 9 (v := .bool false) rfl
  have f9 := blk_free h 9
  obtain ⟨z, hz⟩ : ∃ z, decide (x ≠ 0) = z := ⟨_, rfl⟩
  have s9 : LogAt (w.setCell ⟨L, 9, none⟩ (.bool z)) L k B a c pl wa z := blk_set (i := 9) h (.bool z)
  have ht : Touch (· = L) w (w.setCell ⟨L, 9, none⟩ (.bool z)) := Touch.set (S := (· = L)) (a := w) L 9 (.bool z) rfl
  have hz2 : ((x : Int) != 0) = z := by rw [← hz, Bool.eq_iff_iff]; simp
  rw [hz]
  have S9 := Lib.hid s9
  have HT := Lib.hid ht
  clear hz h s9 ht
  go_enter Tryz.func43, Tryz.ntmps43
  go_wp2
  go_ret
  exact ⟨rfl, S9.out, HT.out⟩
theorem wlTold_ok (h : LogAt w L k B a c pl wa false) : Calls Tryz.prog 43 #[.pointer (some ⟨L, 0, none⟩), .int .i64 0] w fun e w' =>
    e = .returned (.int .i64 0) ∧ LogAt w' L k B a c pl wa false ∧ Touch (· = L) w w' := wlTold_any h 0
theorem wlHalves_any (h : LogAt w L k B a c pl wa dn) (hc : c ≤ 8192) : Calls Tryz.prog 35 #[.pointer (some ⟨L, 0, none⟩)] w fun e w' => e = .returned (.int .u64 ((2 * c : Nat) : Int)) ∧ w = w' := by
  have c6 := h.cell 6 (v := .int .i64 (c : Int)) rfl
  have h1 := IntWalk.u64_in (c : Int) (by omega)
  have h2 : IntKind.u64.wrap (2 * (c : Int)) = ((2 * c : Nat) : Int) := by rw [IntWalk.u64_in _ (by omega)]; omega
  clear h
  generalize ((2 * c : Nat) : Int) = z at *
  go_enter Tryz.func35, Tryz.ntmps35
  go_wp2
  go_ret
  exact ⟨rfl, rfl⟩
theorem wlStart_any (h : LogAt w L k B a c pl wa dn) : Calls Tryz.prog 17 #[.pointer (some ⟨L, 0, none⟩)] w fun e w' => e = .returned (.int .u64 (k.start : Int)) ∧ w = w' := by
  have hn := wlNone_any h
  have c0 := h.cell 0 (v := .int .u64 (k.start : Int)) rfl
  clear h
  go_enter Tryz.func17, Tryz.ntmps17
  go_wp2_with (go_at_call 31; refine hn.mono ?_; rintro e w' ⟨rfl, rfl⟩)
  go_ret
  exact ⟨rfl, rfl⟩
theorem wlStart_nil (w : World) : Calls Tryz.prog 17 #[.pointer none] w fun e w' => e = .returned (.int .u64 0) ∧ w = w' := by
  have hn := wlNone_nil w
  go_enter Tryz.func17, Tryz.ntmps17
  go_wp2_with (go_at_call 31; refine hn.mono ?_; rintro e w' ⟨rfl, rfl⟩)
  go_ret
  exact ⟨rfl, rfl⟩
theorem wlFlushed_any (h : LogAt w L k B a c pl wa dn) : Calls Tryz.prog 18 #[.pointer (some ⟨L, 0, none⟩)] w fun e w' => e = .returned (.int .u64 (k.flushed : Int)) ∧ w = w' := by
  have hn := wlNone_any h
  have c0 := h.cell 1 (v := .int .u64 (k.flushed : Int)) rfl
  clear h
  go_enter Tryz.func18, Tryz.ntmps18
  go_wp2_with (go_at_call 31; refine hn.mono ?_; rintro e w' ⟨rfl, rfl⟩)
  go_ret
  exact ⟨rfl, rfl⟩
theorem wlFlushed_nil (w : World) : Calls Tryz.prog 18 #[.pointer none] w fun e w' => e = .returned (.int .u64 0) ∧ w = w' := by
  have hn := wlNone_nil w
  go_enter Tryz.func18, Tryz.ntmps18
  go_wp2_with (go_at_call 31; refine hn.mono ?_; rintro e w' ⟨rfl, rfl⟩)
  go_ret
  exact ⟨rfl, rfl⟩
theorem wlPoint_any (h : LogAt w L k B a c pl wa dn) : Calls Tryz.prog 19 #[.pointer (some ⟨L, 0, none⟩)] w fun e w' => e = .returned (.int .u64 (k.point : Int)) ∧ w = w' := by
  have hn := wlNone_any h
  have c0 := h.cell 2 (v := .int .u64 (k.point : Int)) rfl
  clear h
  go_enter Tryz.func19, Tryz.ntmps19
  go_wp2_with (go_at_call 31; refine hn.mono ?_; rintro e w' ⟨rfl, rfl⟩)
  go_ret
  exact ⟨rfl, rfl⟩
theorem wlPoint_nil (w : World) : Calls Tryz.prog 19 #[.pointer none] w fun e w' => e = .returned (.int .u64 0) ∧ w = w' := by
  have hn := wlNone_nil w
  go_enter Tryz.func19, Tryz.ntmps19
  go_wp2_with (go_at_call 31; refine hn.mono ?_; rintro e w' ⟨rfl, rfl⟩)
  go_ret
  exact ⟨rfl, rfl⟩
theorem wlEpoch_any (h : LogAt w L k B a c pl wa dn) : Calls Tryz.prog 13 #[.pointer (some ⟨L, 0, none⟩)] w fun e w' => e = .returned (.int .u32 (k.epoch : Int)) ∧ w = w' := by
  have hn := wlNone_any h
  have c0 := h.cell 3 (v := .int .u32 (k.epoch : Int)) rfl
  clear h
  go_enter Tryz.func13, Tryz.ntmps13
  go_wp2_with (go_at_call 31; refine hn.mono ?_; rintro e w' ⟨rfl, rfl⟩)
  go_ret
  exact ⟨rfl, rfl⟩
theorem wlEpoch_nil (w : World) : Calls Tryz.prog 13 #[.pointer none] w fun e w' => e = .returned (.int .u32 0) ∧ w = w' := by
  have hn := wlNone_nil w
  go_enter Tryz.func13, Tryz.ntmps13
  go_wp2_with (go_at_call 31; refine hn.mono ?_; rintro e w' ⟨rfl, rfl⟩)
  go_ret
  exact ⟨rfl, rfl⟩
theorem wlEnd_any {p : Option Addr} {n cap : Nat} (h : LogAt w L k B a c pl (.slice p n cap) dn) (hs : k.flushed + n < 18446744073709551616) : Calls Tryz.prog 14 #[.pointer (some ⟨L, 0, none⟩)] w fun e w' => e = .returned (.int .u64 ((k.flushed + n : Nat) : Int)) ∧ ∃ q, w' = w.drewN q := by
  have hn := wlNone_any h
  have c1 := h.cell 1 (v := .int .u64 (k.flushed : Int)) rfl
  have c8 := h.cell 8 (v := .slice p n cap) rfl
  have h1 := IntWalk.u64_in (n : Int) (by omega)
  have h2 : IntKind.u64.wrap ((k.flushed : Int) + (n : Int)) = ((k.flushed + n : Nat) : Int) := by rw [IntWalk.u64_in _ (by omega)]; omega
  clear h hs
  generalize ((k.flushed + n : Nat) : Int) = z at *
  go_enter Tryz.func14, Tryz.ntmps14
  go_wp2_with (go_at_call 31; refine hn.mono ?_; rintro e w' ⟨rfl, rfl⟩)
  go_quiet (fail)
  go_wp2
  go_ret
  exact ⟨rfl, _, rfl⟩
theorem wlEnd_nil (w : World) : Calls Tryz.prog 14 #[.pointer none] w fun e w' => e = .returned (.int .u64 0) ∧ w = w' := by
  have hn := wlNone_nil w
  go_enter Tryz.func14, Tryz.ntmps14
  go_wp2_with (go_at_call 31; refine hn.mono ?_; rintro e w' ⟨rfl, rfl⟩)
  go_ret
  exact ⟨rfl, rfl⟩
theorem calls_drew {P : Program} {f : FuncId} {args : Array Value} {w : World} {n : Nat} {v : Value} (h : Calls P f args (w.drewN n) fun e w' => e = .returned v ∧ ∃ q, w' = (w.drewN n).drewN q) : Calls P f args (w.drewN n) fun e w'' => e = .returned v ∧ ∃ m, w'' = w.drewN m :=
  h.mono fun _ _ ⟨he, q, hq⟩ => ⟨he, n + q, by rw [hq]; exact World.drewN_drewN _ _ _⟩
theorem wlLeft_any {p : Option Addr} {n cap : Nat} (h : LogAt w L k B a c pl (.slice p n cap) dn) (hs : k.flushed + n ≤ (k.start / 52 + 2 * c) * 52) (hb : k.start ≤ 1000000000000000) (hc : c ≤ 8192) : Calls Tryz.prog 20 #[.pointer (some ⟨L, 0, none⟩)] w fun e w' => e = .returned (.int .i64 (((k.start / 52 + 2 * c) * 52 - (k.flushed + n) : Nat) : Int)) ∧ ∃ q, w' = w.drewN q := by
  have hn := wlNone_any h
  have he := fun q => wlEnd_any (h.drew q) (by omega)
  have hh := fun q => wlHalves_any (h.drew q) hc
  have c0 := h.cell 0 (v := .int .u64 (k.start : Int)) rfl
  have h1 : IntKind.u64.wrap ((k.start : Int) / 52) = ((k.start / 52 : Nat) : Int) := by rw [IntWalk.u64_in _ (by omega)]; omega
  have h2 : IntKind.u64.wrap (((k.start / 52 : Nat) : Int) + ((2 * c : Nat) : Int)) = ((k.start / 52 + 2 * c : Nat) : Int) := by rw [IntWalk.u64_in _ (by omega)]; omega
  have h3 : IntKind.u64.wrap (((k.start / 52 + 2 * c : Nat) : Int) * 52) = (((k.start / 52 + 2 * c) * 52 : Nat) : Int) := by rw [IntWalk.u64_in _ (by omega)]; omega
  have h4 : IntKind.u64.wrap ((((k.start / 52 + 2 * c) * 52 : Nat) : Int) - ((k.flushed + n : Nat) : Int)) = (((k.start / 52 + 2 * c) * 52 - (k.flushed + n) : Nat) : Int) := by rw [IntWalk.u64_in _ (by omega)]; omega
  have h5 := IntWalk.i64_in (((k.start / 52 + 2 * c) * 52 - (k.flushed + n) : Nat) : Int) (by omega)
  have h6 := IntWalk.wrap64_in (((k.start / 52 + 2 * c) * 52 - (k.flushed + n) : Nat) : Int) (by omega)
  clear h hs hb hc
  generalize (((k.start / 52 + 2 * c) * 52 - (k.flushed + n) : Nat) : Int) = z5 at *
  generalize (((k.start / 52 + 2 * c) * 52 : Nat) : Int) = z3 at *
  generalize ((k.start / 52 + 2 * c : Nat) : Int) = z2 at *
  generalize ((k.start / 52 : Nat) : Int) = z1 at *
  generalize ((2 * c : Nat) : Int) = zc at *
  generalize ((k.flushed + n : Nat) : Int) = ze at *
  go_enter Tryz.func20, Tryz.ntmps20
  go_wp2_with (go_at_call 31; refine hn.mono ?_; rintro e w' ⟨rfl, rfl⟩)
  go_quiet (first | (go_at_call 35; exact calls_quiet (hh _)) | (go_at_call 14; exact calls_drew (he _)))
  go_wp2
  go_ret
  exact ⟨rfl, _, rfl⟩
theorem wlLeft_nil (w : World) : Calls Tryz.prog 20 #[.pointer none] w fun e w' => e = .returned (.int .i64 0) ∧ w = w' := by
  have hn := wlNone_nil w
  go_enter Tryz.func20, Tryz.ntmps20
  go_wp2_with (go_at_call 31; refine hn.mono ?_; rintro e w' ⟨rfl, rfl⟩)
  go_ret
  exact ⟨rfl, rfl⟩
theorem round_nums {g n r : Nat} (h : g / n = r) (h1 : r < 4294967296) : IntKind.u64.wrap ((g : Int) / (n : Int)) = (r : Int) ∧ (r : Int) % 4294967296 = (r : Int) := by
  have h0 : (g : Int) / (n : Int) = (r : Int) := by rw [← h]; rfl
  rw [h0]
  exact ⟨IntWalk.u64_in _ (by omega), by omega⟩
theorem wlRound_any (h : LogAt w L k B a c pl wa dn) (g : Nat) (hc1 : 1 ≤ c) (hc : c ≤ 8192) (hr : g / (2 * c) < 4294967296) : Calls Tryz.prog 97 #[.pointer (some ⟨L, 0, none⟩), .int .u64 (g : Int)] w fun e w' => e = .returned (.int .u32 ((g / (2 * c) : Nat) : Int)) ∧ w = w' := by
  have hh := wlHalves_any h hc
  obtain ⟨N, hN⟩ : ∃ N, 2 * c = N := ⟨_, rfl⟩
  rw [hN] at hh hr ⊢
  have h3 : ¬ (N : Int) = 0 := by omega
  have h4 : ((N : Int) == 0) = false := by rw [beq_eq_false_iff_ne]; exact h3
  obtain ⟨r, hr2⟩ : ∃ r, g / N = r := ⟨_, rfl⟩
  obtain ⟨h1, h2⟩ := round_nums hr2 (by rw [← hr2]; exact hr)
  rw [hr2]
  clear h hr hc hc1 hN hr2
  generalize (r : Int) = z at *
  generalize (N : Int) = zc at *
  go_enter Tryz.func97, Tryz.ntmps97
  go_wp2_with (go_at_call 35; refine hh.mono ?_; rintro e w' ⟨rfl, rfl⟩)
  go_ret
  exact ⟨rfl, rfl⟩
theorem sector_nums {a m n g : Nat} (h : g % n = m) (ha : a ≤ 65536) (hm : m < 16384) : (g : Int) % (n : Int) = (m : Int) ∧ IntKind.u64.wrap ((m : Int).tdiv 2) = ((m / 2 : Nat) : Int) ∧ wrap64 ((a : Int) + 2) = ((a + 2 : Nat) : Int) ∧ wrap64 ((m / 2 : Nat) : Int) = ((m / 2 : Nat) : Int) ∧ wrap64 (((a + 2 : Nat) : Int) + ((m / 2 : Nat) : Int)) = ((a + 2 + m / 2 : Nat) : Int) := by
  have h0 : (g : Int) % (n : Int) = (m : Int) := by rw [← h]; rfl
  refine ⟨h0, ?_, ?_, ?_, ?_⟩
  · rw [IntWalk.u64_quo _ _ (by omega)]; rfl
  · rw [IntWalk.wrap64_in _ (by omega)]; omega
  · rw [IntWalk.wrap64_in _ (by omega)]
  · rw [IntWalk.wrap64_in _ (by omega)]; omega
set_option maxHeartbeats 800000 in
theorem wlSector_any (h : LogAt w L k B a c pl wa dn) (g : Nat) (hc1 : 1 ≤ c) (hc : c ≤ 8192) (ha : a ≤ 65536) : Calls Tryz.prog 64 #[.pointer (some ⟨L, 0, none⟩), .int .u64 (g : Int)] w fun e w' => e = .returned (.int .i64 ((a + 2 + g % (2 * c) / 2 : Nat) : Int)) ∧ ∃ q, w' = w.drewN q := by
  have hh := fun q => wlHalves_any (h.drew q) hc
  have c5 := h.cell 5 (v := .int .i64 (a : Int)) rfl
  obtain ⟨N, hN⟩ : ∃ N, 2 * c = N := ⟨_, rfl⟩
  have hm : g % N < N := Nat.mod_lt _ (by omega)
  have h3 : ¬ (N : Int) = 0 := by omega
  have h4 : ((N : Int) == 0) = false := by rw [beq_eq_false_iff_ne]; exact h3
  obtain ⟨m, hm2⟩ : ∃ m, g % N = m := ⟨_, rfl⟩
  obtain ⟨h1, h2, h5, h6, h7⟩ := sector_nums (a := a) hm2 ha (by omega)
  rw [hN] at hh ⊢
  rw [hm2]
  clear h hm hc ha hc1 hN hm2
  generalize ((a + 2 + m / 2 : Nat) : Int) = z1 at *
  generalize ((a + 2 : Nat) : Int) = z2 at *
  generalize ((m / 2 : Nat) : Int) = z3 at *
  generalize (m : Int) = z4 at *
  generalize (N : Int) = zc at *
  go_enter Tryz.func64, Tryz.ntmps64
  go_wp2_with fail
  go_quiet ((go_at_call 35; exact calls_quiet (hh _)))
  go_wp2
  go_ret
  exact ⟨ret_int h7, _, rfl⟩
end
end Go.Proofs.YtafpjcobagofcaaGreat
