/- A device that is not there, or was not made, refuses every call. Conditions: none. -/
import Derived.Test.YthjciddhghfcbaaDiskOwn
namespace Go.Proofs.Ythjciddhghfcbaa
open Go.RowKit

/-- No device, or one that was not made. -/
def Nought (w : World) (p : Option Addr) : Prop := p = none ∨ ∃ Z, p = some ⟨Z, 0, none⟩ ∧ w.cell? ⟨Z, 0, none⟩ = some (.int .i64 0)
theorem Nought.below {w w' : World} {p : Option Addr} (h : Nought w p) (hb : Below w.heap.size w w') : Nought w' p := by
  rcases h with rfl | ⟨Z, rfl, hc⟩
  · exact Or.inl rfl
  · refine Or.inr ⟨Z, rfl, ?_⟩
    rw [hb.cell (p := ⟨Z, 0, none⟩) (block_lt_of_cell hc)]
    exact hc

theorem nought_none {w : World} {p : Option Addr} (h : Nought w p) : Calls Try.prog 32 #[.pointer p] w fun e w' => e = .returned (.bool true) ∧ w' = w := by
  rcases h with rfl | ⟨Z, rfl, hc⟩
  · go_enter Try.func32, Try.ntmps32
    go_wp2
    go_ret
    exact ⟨rfl, rfl⟩
  · go_enter Try.func32, Try.ntmps32
    go_wp2
    go_ret
    exact ⟨rfl, rfl⟩

theorem nought_ready {w : World} {p : Option Addr} (h : Nought w p) : Calls Try.prog 35 #[.pointer p] w fun e w' => e = .returned (.int .i64 1) ∧ w' = w := by
  have hn := nought_none h
  clear h
  go_enter Try.func35, Try.ntmps35
  go_wp2_with (go_at_call 32; refine hn.mono ?_; rintro e w' ⟨rfl, rfl⟩)
  go_ret
  exact ⟨rfl, rfl⟩

theorem nought_read {w : World} {p : Option Addr} (h : Nought w p) (a : Int) : Calls Try.prog 18 #[.pointer p, .int .i64 a] w fun e w' => e = .returned (.tuple #[.slice none 0 0, .int .i64 1]) ∧ w' = w := by
  have hn := nought_ready h
  clear h
  go_enter Try.func18, Try.ntmps18
  go_wp2_with (go_at_call 35; refine hn.mono ?_; rintro e w' ⟨rfl, rfl⟩)
  go_ret2
  exact ⟨rfl, rfl⟩

theorem nought_write {w : World} {p : Option Addr} (h : Nought w p) (a : Int) (v : Value) : Calls Try.prog 19 #[.pointer p, .int .i64 a, v] w fun e w' => e = .returned (.int .i64 1) ∧ w' = w := by
  have hn := nought_ready h
  clear h
  go_enter Try.func19, Try.ntmps19
  go_wp2_with (go_at_call 35; refine hn.mono ?_; rintro e w' ⟨rfl, rfl⟩)
  go_ret
  exact ⟨rfl, rfl⟩

theorem nought_sync {w : World} {p : Option Addr} (h : Nought w p) : Calls Try.prog 21 #[.pointer p] w fun e w' => e = .returned (.int .i64 1) ∧ w' = w := by
  have hn := nought_ready h
  clear h
  go_enter Try.func21, Try.ntmps21
  go_wp2_with (go_at_call 35; refine hn.mono ?_; rintro e w' ⟨rfl, rfl⟩)
  go_ret
  exact ⟨rfl, rfl⟩

theorem nought_arm {w : World} {p : Option Addr} (h : Nought w p) (n : Int) : Calls Try.prog 22 #[.pointer p, .int .i64 n] w fun e w' => e = .returned (.int .i64 1) ∧ w' = w := by
  have hn := nought_ready h
  clear h
  go_enter Try.func22, Try.ntmps22
  go_wp2_with (go_at_call 35; refine hn.mono ?_; rintro e w' ⟨rfl, rfl⟩)
  go_ret
  exact ⟨rfl, rfl⟩

theorem nought_crash {w : World} {p : Option Addr} (h : Nought w p) (v : Value) : Calls Try.prog 23 #[.pointer p, v] w fun e w' => e = .returned (.int .i64 1) ∧ w' = w := by
  have hn := nought_none h
  clear h
  go_enter Try.func23, Try.ntmps23
  go_wp2_with (go_at_call 32; refine hn.mono ?_; rintro e w' ⟨rfl, rfl⟩)
  go_ret
  exact ⟨rfl, rfl⟩

theorem nought_sectors {w : World} {p : Option Addr} (h : Nought w p) : Calls Try.prog 13 #[.pointer p] w fun e w' => e = .returned (.int .i64 0) ∧ w' = w := by
  have hn := nought_none h
  clear h
  go_enter Try.func13, Try.ntmps13
  go_wp2_with (go_at_call 32; refine hn.mono ?_; rintro e w' ⟨rfl, rfl⟩)
  go_ret
  exact ⟨rfl, rfl⟩

theorem nought_used {w : World} {p : Option Addr} (h : Nought w p) : Calls Try.prog 14 #[.pointer p] w fun e w' => e = .returned (.int .i64 0) ∧ w' = w := by
  have hn := nought_none h
  clear h
  go_enter Try.func14, Try.ntmps14
  go_wp2_with (go_at_call 32; refine hn.mono ?_; rintro e w' ⟨rfl, rfl⟩)
  go_ret
  exact ⟨rfl, rfl⟩

theorem nought_waits {w : World} {p : Option Addr} (h : Nought w p) : Calls Try.prog 16 #[.pointer p] w fun e w' => e = .returned (.slice none 0 0) ∧ w' = w := by
  have hn := nought_none h
  clear h
  go_enter Try.func16, Try.ntmps16
  go_wp2_with (go_at_call 32; refine hn.mono ?_; rintro e w' ⟨rfl, rfl⟩)
  go_ret
  exact ⟨rfl, rfl⟩

theorem nought_copy {w : World} {p : Option Addr} (h : Nought w p) : Calls Try.prog 24 #[.pointer p] w fun e w' => e = .returned (.pointer none) ∧ w' = w := by
  have hn := nought_none h
  clear h
  go_enter Try.func24, Try.ntmps24
  go_wp2_with (go_at_call 32; refine hn.mono ?_; rintro e w' ⟨rfl, rfl⟩)
  go_ret
  exact ⟨rfl, rfl⟩

set_option maxHeartbeats 1600000 in
set_option maxRecDepth 20000 in
theorem diskNone_any (w : World) : Calls Try.prog 4 #[] w fun e w' => e = .returned (.bool true) ∧ Below w.heap.size w w' := by
  go_enter Try.func4, Try.ntmps4
  go_wp2_with fail
  obtain ⟨W, hW⟩ : ∃ W, W = (w.alloc (.cells #[.int .i64 0, .int .i64 0, .map none, .map none, .int .i64 0, .bool false] 41)).alloc (.cells #[.pointer none, .pointer (some ⟨w.heap.size, 0, none⟩)] 23) := ⟨_, rfl⟩
  rw [← hW]
  have hb0 : Below w.heap.size w W := by rw [hW]; exact ((Below.refl _ _).alloc (Nat.le_refl _) _).alloc (by simp) _
  have hz : W.cell? ⟨w.heap.size, 0, none⟩ = some (.int .i64 0) := by rw [hW]; simp
  have hr : W.heap[w.heap.size + 1]? = some (.cells #[.pointer none, .pointer (some ⟨w.heap.size, 0, none⟩)] 23 (0, 0)) := by
    have := heap_alloc_last (w.alloc (.cells #[.int .i64 0, .int .i64 0, .map none, .map none, .int .i64 0, .bool false] 41)) (.cells #[.pointer none, .pointer (some ⟨w.heap.size, 0, none⟩)] 23)
    rw [hW]
    rwa [show (w.alloc (.cells #[.int .i64 0, .int .i64 0, .map none, .map none, .int .i64 0, .bool false] 41)).heap.size = w.heap.size + 1 by simp] at this
  have HB0 := Lib.hid hb0
  have HZ := Lib.hid (show Nought W (some ⟨w.heap.size, 0, none⟩) from Or.inr ⟨_, rfl, hz⟩)
  have HR := Lib.hid hr
  clear hW hb0 hz hr
  go_loopw [3] (fun i wr => ∃ k : Nat, k ≤ 2 ∧ i = .int .i64 k ∧ Below W.heap.size W wr) (fun i _ => 2 - (intOf i).toNat)
  case atStart => exact ⟨0, by omega, rfl, Below.refl _ _⟩
  case round =>
    obtain ⟨k, hk, rfl, hb⟩ := hrel
    have HB := Lib.hid hb
    have HR1 := Lib.hid (show wr.heap[w.heap.size + 1]? = some (.cells #[.pointer none, .pointer (some ⟨w.heap.size, 0, none⟩)] 23 (0, 0)) by rw [hb.block _ (lt_of_block HR.out)]; exact HR.out)
    have HZ1 := Lib.hid (HZ.out.below hb)
    clear hb
    by_cases hlt : k < 2
    · obtain ⟨p, hp1, hp2⟩ : ∃ p, wr.cell? ⟨w.heap.size + 1, k, none⟩ = some (.pointer p) ∧ Nought wr p := by
        have h01 : k = 0 ∨ k = 1 := by omega
        rcases h01 with rfl | rfl
        · exact ⟨none, blk_cell HR1.out 0 rfl, Or.inl rfl⟩
        · exact ⟨_, blk_cell HR1.out 1 rfl, HZ1.out⟩
      have HP := Lib.hid hp2
      have hki : (k : Int) < 2 := by omega
      have HLT := Lib.hid hlt
      clear hp2 hlt
      go_wp2_with fail
      refine (nought_read HP.out 0).mono ?_
      rintro e w' ⟨rfl, rfl⟩
      clear hp1
      go_wp2_with fail
      refine (sector_own 1 _).mono ?_
      rintro e w2 ⟨g, rfl, -, -, hb2⟩
      have HB2 := Lib.hid (HB.out.trans (hb2.mono HB.out.size))
      have HP2 := Lib.hid (HP.out.below hb2)
      clear hb2
      go_wp2_with fail
      refine (nought_write HP2.out 0 _).mono ?_
      rintro e w' ⟨rfl, rfl⟩
      go_wp2_with fail
      refine (nought_sync HP2.out).mono ?_
      rintro e w' ⟨rfl, rfl⟩
      go_wp2_with fail
      refine (nought_arm HP2.out 1).mono ?_
      rintro e w' ⟨rfl, rfl⟩
      go_wp2_with fail
      refine (nought_crash HP2.out _).mono ?_
      rintro e w' ⟨rfl, rfl⟩
      go_wp2_with fail
      refine (nought_sectors HP2.out).mono ?_
      rintro e w' ⟨rfl, rfl⟩
      go_wp2_with fail
      refine (nought_used HP2.out).mono ?_
      rintro e w' ⟨rfl, rfl⟩
      go_wp2_with fail
      refine (nought_waits HP2.out).mono ?_
      rintro e w' ⟨rfl, rfl⟩
      go_wp2_with fail
      refine (nought_copy HP2.out).mono ?_
      rintro e w' ⟨rfl, rfl⟩
      go_wp2_with fail
      go_roundw
      case rel => exact ⟨k + 1, by have := HLT.out; omega, by go_num, HB2.out⟩
      case measure => have := HLT.out; simp [intOf]; omega
    · obtain rfl : k = 2 := by omega
      go_wp2_with fail
      refine (known_any own_api wr).mono ?_
      rintro e w2 ⟨rfl, hb2⟩
      have HB2 := Lib.hid (HB0.out.trans ((HB.out.trans (hb2.mono HB.out.size)).mono HB0.out.size))
      clear hb2
      go_wp2_with fail
      go_ret
      exact ⟨rfl, HB2.out⟩
end Go.Proofs.Ythjciddhghfcbaa
