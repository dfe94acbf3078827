/- What the statements' helpers of layer 3 answer over lists of floats: a copy with a marked number behind it, and that it is as it was. Conditions: the slices' cells hold the numbers; the room. -/
import Derived.Test.YtemamkbcagnigaaU64
import Derived.Test.YtemamkbcagnigaaQuantCode
import Derived.Deep.QuietTactic
import Derived.BigQuiet
namespace Go.Proofs.Ytemamkbcagnigaa
open Go.RowKit

/-- What lent hands back: the numbers in new memory, with 77 behind them. -/
structure LentAt (w w' : World) (l : List Int) (g cap : Nat) : Prop where
  room : l.length + 1 ≤ cap
  most : cap ≤ maxLen
  new : w.heap.size ≤ g
  cells : ∀ i, i < l.length + 1 → w'.cell? ⟨g, i, none⟩ = some (.int .u64 ((l ++ [77]).getD i 0))
  below : Below w.heap.size w w'

def Lent (w w' : World) (l : List Int) (e : Ending) : Prop := ∃ g cap, e = .returned (.slice (some ⟨g, 0, none⟩) l.length cap) ∧ LentAt w w' l g cap

theorem LentAt.bts {w w' : World} {l : List Int} {g cap : Nat} (h : LentAt w w' l g cap) (hs : ∀ x ∈ l, U64.Okk x) (hl : l.length ≤ 17592186044416) : U64.Bts w' (.slice (some ⟨g, 0, none⟩) l.length cap) l := by
  refine ⟨⟨_, cap, rfl, ⟨by have := h.room; omega, h.most⟩, fun h => by simp at h, fun _ => ⟨g, 0, rfl, fun i hi => ?_⟩⟩, hs, hl⟩
  rw [Nat.zero_add, h.cells i (by omega)]
  simp [List.getElem?_append_left hi]

theorem LentAt.later {w0 w w' : World} {l : List Int} {g cap : Nat} (h : LentAt w0 w l g cap) (hb : Below w.heap.size w w') : LentAt w0 w' l g cap := by
  refine ⟨h.room, h.most, h.new, fun i hi => ?_, h.below.trans (hb.mono h.below.size)⟩
  have hc := h.cells i hi
  rw [hb.cell (p := ⟨g, i, none⟩) (block_lt_of_cell hc)]
  exact hc

theorem LentAt.grown {w0 w w' : World} {l : List Int} {g cap B : Nat} (h : LentAt w0 w l g cap) (hg : w.grownBy w' (some B)) (hne : g ≠ B) (hB : w0.heap.size ≤ B) : LentAt w0 w' l g cap := by
  refine ⟨h.room, h.most, h.new, fun i hi => ?_, U64.below_grown h.below hg h.below.size hB⟩
  exact hg.cell (h.cells i hi) (by intro e; exact hne (Option.some.inj e))

set_option maxHeartbeats 800000 in
theorem lent_any (v : Value) (l : List Int) (w : World) (hB : U64.Bts w v l) (hl : l.length ≤ 1000000) :
    Calls Try.prog 16 #[v] w fun e w' => Lent w w' l e := by
  have HB := Lib.hid hB
  obtain ⟨p, cap, rfl, hr, hn, hp⟩ := hB.form
  clear hr hn hp hB
  have hown0 : (w.alloc (.cells #[] 22)).ownsRow w.heap.size 22 1 (.slice (some ⟨w.heap.size, 0, none⟩) 0 0) 0 [] := ⟨rfl, Or.inr ⟨w.heap.size, 0, #[], rfl, Nat.le_refl _, heap_alloc_last _ _, Nat.le_refl _, Nat.zero_le _, rfl, rfl⟩⟩
  have HO := Lib.hid hown0
  have hb0 : Below w.heap.size w (w.alloc (.cells #[] 22)) := (Below.refl _ _).alloc (Nat.le_refl _) _
  have HW0 := Lib.hid hb0
  clear hown0 hb0
  go_enter Try.func16, Try.ntmps16
  go_upto_region 1 with (fail)
  go_step
  go_step
  go_step
  go_step
  go_step
  go_step
  go_step
  refine U64.wpList_append_bts rfl (.tmp 3) (.tmp 4) rfl w.heap.size _ 0 [] rfl HO.out _ l rfl (HB.out.below HW0.out) (by omega) HW0.out.size ?_
  intro v1 w1 hown1 hb1
  have hbw1 := HW0.out.trans hb1
  have HO1 := Lib.hid (hown1.alloc (.cells #[.int .u64 77] 22))
  have HB1 := Lib.hid (U64.bts_alloc w1 [77] 1 (by decide) 22 (0, 0) (by intro x hx; simp at hx; subst hx; rfl) (by decide))
  have HW1 := Lib.hid (hbw1.alloc hbw1.size (.cells #[.int .u64 77] 22))
  clear hown1 hb1 hbw1
  go_step
  go_step
  go_step
  refine U64.wpList_append_bts rfl (.tmp 5) (.tmp 6) rfl w.heap.size _ (0 + l.length) _ rfl HO1.out _ [77] rfl HB1.out (by simp; omega) HW1.out.size ?_
  intro v2 w2 hown2 hb2
  have hbw2 := HW1.out.trans hb2
  rw [show ([] ++ U64.bytesV l ++ U64.bytesV [77]) = U64.bytesV (l ++ [77]) by simp [U64.bytesV], show 0 + l.length + [(77 : Int)].length = l.length + 1 by simp] at hown2
  obtain ⟨g, c2, rfl⟩ : ∃ g c2, v2 = .slice (some ⟨g, 0, none⟩) (l.length + 1) c2 := by
    rcases hown2.2 with ⟨_, h0⟩ | ⟨g, c, cur, hv, _⟩
    · omega
    · exact ⟨g, c, hv⟩
  obtain ⟨h1, h2, h3, h4, h5⟩ := U64.owns_cells hown2
  have HL : LentAt w w2 l g c2 := ⟨h2, h3, h1, fun i hi => h5 i (by simpa using hi), hbw2⟩
  have HL2 := Lib.hid HL
  have hm : c2 ≤ 9223372036854775807 := h3
  clear HL hown2 hb2 hbw2 h1 h3 h4 h5
  go_wp2
  go_ret
  exact ⟨g, c2, rfl, HL2.out⟩

set_option maxHeartbeats 1600000 in
set_option maxRecDepth 20000 in
theorem kept_any (v : Value) (l : List Int) (g cap : Nat) (w0 w : World) (hL : LentAt w0 w l g cap) (hB : U64.Bts w v l) (hl : l.length ≤ 1000000) :
    Calls Try.prog 19 #[.slice (some ⟨g, 0, none⟩) l.length cap, v] w fun e w' => e = .returned (.bool true) ∧ ∃ n, w' = w.drewN n := by
  have hroom := hL.room
  have hmost := hL.most
  unfold maxLen at hmost
  have h77 : w.cell? ⟨g, l.length, none⟩ = some (.int .u64 77) := by
    rw [hL.cells _ (by omega)]; simp
  have hLb := hL.bts hB.small hB.len
  have HL := Lib.hid hL
  have HB := Lib.hid hB
  obtain ⟨p, cap2, rfl, hr, hn, hp⟩ := hB.form
  have HP := Lib.hid hp
  clear hB hL hn hp hLb
  have H77 := Lib.hid h77
  clear h77
  go_enter Try.func19, Try.ntmps19
  go_wp2
  go_loopw [6] (fun i wr => ∃ (k : Nat) (n : Nat), k ≤ l.length ∧ i = .int .i64 k ∧ wr = w.drewN n) (fun i _ => l.length - (intOf i).toNat)
  case atStart => exact ⟨0, 0, by omega, rfl, rfl⟩
  case round =>
    obtain ⟨k, n, hk, rfl, rfl⟩ := hrel
    by_cases hlt : k < l.length
    · have hc1 := HL.out.cells k (by omega)
      obtain ⟨b, off, hpe, hc⟩ := HP.out (by omega)
      subst hpe
      have hc2 := hc k hlt
      have he : (l ++ [77]).getD k 0 = l.getD k 0 := by simp [List.getElem?_append_left hlt]
      rw [he] at hc1
      clear hc he
      clear hr HB
      go_wp2
      go_quiet (fail)
      go_wp2
      go_roundw
      case rel => exact ⟨k + 1, _, by omega, by go_num, rfl⟩
      case measure => simp [intOf]; omega
    · have h77 := H77.out
      clear hr HB
      go_wp2
      go_ret
      exact ⟨rfl, _, rfl⟩
end Go.Proofs.Ytemamkbcagnigaa
