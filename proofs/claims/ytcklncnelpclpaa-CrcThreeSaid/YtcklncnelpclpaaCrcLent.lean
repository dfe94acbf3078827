/- What the statements' helpers lent and kept answer. Conditions: the slice's cells hold the bytes. -/
import Derived.Test.YtcklncnelpclpaaCrcAppend
namespace Go.Proofs.Ytcklncnelpclpaa
open Go.RowKit

/-- What lent hands back: the bytes in new memory, with 77 and 78 behind them. -/
structure LentAt (w w' : World) (l : List Nat) (g cap : Nat) : Prop where
  room : l.length + 2 ≤ cap
  most : cap ≤ maxLen
  new : w.heap.size ≤ g
  cells : ∀ i, i < l.length + 2 → w'.cell? ⟨g, i, none⟩ = some (.int .u8 ((l ++ [77, 78]).getD i 0 : Nat))
  below : Below w.heap.size w w'

def Lent (w w' : World) (l : List Nat) (e : Ending) : Prop := ∃ g cap, e = .returned (.slice (some ⟨g, 0, none⟩) l.length cap) ∧ LentAt w w' l g cap

set_option maxHeartbeats 800000 in
theorem lent_any (v : Value) (l : List Nat) (w : World) (hB : Bts w v l) (hl : l.length + 2 ≤ 140737488355328) :
    Calls Try.prog 6 #[v] w fun e w' => Lent w w' l e := by
  have HB := Lib.hid hB
  obtain ⟨p, cap, rfl, hr, hn, hp⟩ := hB.form
  clear hr hn hp hB
  have hown0 : (w.alloc (.cells #[] 5)).ownsRow w.heap.size 5 1 (.slice (some ⟨w.heap.size, 0, none⟩) 0 0) 0 [] := ⟨rfl, Or.inr ⟨w.heap.size, 0, #[], rfl, Nat.le_refl _, heap_alloc_last _ _, Nat.le_refl _, Nat.zero_le _, rfl, rfl⟩⟩
  have HO := Lib.hid hown0
  have hb0 : Below w.heap.size w (w.alloc (.cells #[] 5)) := (Below.refl _ _).alloc (Nat.le_refl _) _
  have HW0 := Lib.hid hb0
  clear hown0 hb0
  go_enter Try.func6, Try.ntmps6
  go_upto_region 1 with (fail)
  go_step
  go_step
  go_step
  go_step
  go_step
  go_step
  go_step
  refine wpList_append_bts rfl (.tmp 3) (.tmp 4) rfl w.heap.size _ 0 [] rfl HO.out _ l rfl (HB.out.below HW0.out) (by omega) HW0.out.size ?_
  intro v1 w1 hown1 hb1
  have hbw1 := HW0.out.trans hb1
  have HO1 := Lib.hid (hown1.alloc (.cells #[.int .u8 77, .int .u8 78] 5))
  have HB1 := Lib.hid (bts_alloc w1 [77, 78] 2 (by decide) 5 (0, 0) (by decide) (by decide))
  have HW1 := Lib.hid (hbw1.alloc hbw1.size (.cells #[.int .u8 77, .int .u8 78] 5))
  clear hown1 hb1 hbw1
  go_step
  go_step
  go_step
  refine wpList_append_bts rfl (.tmp 5) (.tmp 6) rfl w.heap.size _ (0 + l.length) _ rfl HO1.out _ [77, 78] rfl HB1.out (by simp; omega) HW1.out.size ?_
  intro v2 w2 hown2 hb2
  have hbw2 := HW1.out.trans hb2
  rw [show ([] ++ bytesV l ++ bytesV [77, 78]) = bytesV (l ++ [77, 78]) by simp [bytesV], show 0 + l.length + [77, 78].length = l.length + 2 by simp] at hown2
  obtain ⟨g, c2, rfl⟩ : ∃ g c2, v2 = .slice (some ⟨g, 0, none⟩) (l.length + 2) c2 := by
    rcases hown2.2 with ⟨_, h0⟩ | ⟨g, c, cur, hv, _⟩
    · omega
    · exact ⟨g, c, hv⟩
  obtain ⟨h1, h2, h3, h4, h5⟩ := owns_cells hown2
  have HL : LentAt w w2 l g c2 := ⟨h2, h3, h1, fun i hi => h5 i (by simpa using hi), hbw2⟩
  have HL2 := Lib.hid HL
  have hm : c2 ≤ 9223372036854775807 := h3
  clear HL hown2 hb2 hbw2 h1 h3 h4 h5
  go_wp2
  go_ret
  exact ⟨g, c2, rfl, HL2.out⟩

theorem strOf_conv {w : World} {v : Value} {l : List Nat} (hB : Bts w v l) :
    (convert 22 9 v).run Try.prog w = .ok (.string (strOfNums (l.map fun x : Nat => (x : Int)))) w := by
  obtain ⟨p, cap, rfl, _, hn, hp⟩ := hB.form
  rcases Nat.eq_zero_or_pos l.length with h0 | h0
  · obtain rfl : l = [] := List.eq_nil_of_length_eq_zero h0
    cases p with
    | none => exact run_convert_bytes_nil w 22 5 Try.underlying22 Try.underlying5 _ _ _ Try.underlying9
    | some ad =>
      have h := run_convert_bytes_string (P := Try.prog) w 22 9 5 (some ad) 0 cap Try.underlying22 Try.underlying5 Try.underlying9
      have h2 := run_bytesToString (P := Try.prog) w ad 0 cap [] (by rfl)
      rw [h2] at h
      exact h
  · obtain ⟨b, off, rfl, hc⟩ := hp h0
    refine run_convert_bytes_arg w 22 5 Try.underlying22 Try.underlying5 b off l.length cap (l.map fun x : Nat => (x : Int)) (by simp) (fun i hi => ?_) _ Try.underlying9
    rw [hc i hi]
    simp [List.getElem?_eq_getElem hi]

theorem LentAt.bts {w w' : World} {l : List Nat} {g cap : Nat} (h : LentAt w w' l g cap) (hs : ∀ x ∈ l, x < 256) (hl : l.length ≤ 140737488355328) : Bts w' (.slice (some ⟨g, 0, none⟩) l.length cap) l := by
  refine ⟨⟨_, cap, rfl, ⟨by have := h.room; omega, h.most⟩, fun h => by simp at h, fun _ => ⟨g, 0, rfl, fun i hi => ?_⟩⟩, hs, hl⟩
  rw [Nat.zero_add, h.cells i (by omega)]
  simp [List.getElem?_append_left hi]

set_option maxHeartbeats 800000 in
theorem kept_any (v : Value) (l : List Nat) (g cap : Nat) (w0 w : World) (hL : LentAt w0 w l g cap) (hB : Bts w v l) (hl : l.length + 2 ≤ 140737488355328) :
    Calls Try.prog 11 #[.slice (some ⟨g, 0, none⟩) l.length cap, v] w fun e w' => e = .returned (.bool true) ∧ w = w' := by
  have hroom := hL.room
  have hmost := hL.most
  unfold maxLen at hmost
  have h77 : w.cell? ⟨g, l.length, none⟩ = some (.int .u8 77) := by
    rw [hL.cells _ (by omega)]; simp
  have h78 : w.cell? ⟨g, l.length + 1, none⟩ = some (.int .u8 78) := by
    rw [hL.cells _ (by omega)]; simp
  have hc1 := strOf_conv (hL.bts hB.small hB.len)
  have hc2 := strOf_conv hB
  obtain ⟨p, cap2, rfl, -, -, -⟩ := hB.form
  clear hB hL
  generalize strOfNums (l.map fun x : Nat => (x : Int)) = S at hc1 hc2
  generalize l.length = n at *
  go_enter Try.func11, Try.ntmps11
  go_wp2
  go_ret
  exact ⟨rfl, rfl⟩

theorem LentAt.later {w0 w w' : World} {l : List Nat} {g cap : Nat} (h : LentAt w0 w l g cap) (hb : Below w.heap.size w w') : LentAt w0 w' l g cap := by
  refine ⟨h.room, h.most, h.new, fun i hi => ?_, h.below.trans (hb.mono h.below.size)⟩
  have hc := h.cells i hi
  rw [hb.cell (p := ⟨g, i, none⟩) (block_lt_of_cell hc)]
  exact hc
end Go.Proofs.Ytcklncnelpclpaa
