/- Pieces of bytes put together: what join and components answer. Conditions: the slices' cells hold what they tell; the room. -/
import Derived.Test.YtpliogkcfhcfpaaItemMay
import Derived.Test.YtpliogkcfhcfpaaCodeFix
import Derived.Test.YtpliogkcfhcfpaaOff
namespace Go.Proofs.Ytpliogkcfhcfpaa
open Go.RowKit

/-- The slice value v reads as the pieces ls. -/
structure Pcs (w : World) (v : Value) (ls : List (List Nat)) : Prop where
  form : ∃ p cap, v = .slice p ls.length cap ∧ (ls.length ≤ cap ∧ cap ≤ 9223372036854775807) ∧ (0 < ls.length → ∃ b off, p = some ⟨b, off, none⟩ ∧ ∀ i, i < ls.length → ∃ u, w.cell? ⟨b, off + i, none⟩ = some u ∧ Bts w u (ls.getD i []))
  len : ls.length ≤ 35184372088832

theorem Pcs.below {w w' : World} {v : Value} {ls : List (List Nat)} (h : Pcs w v ls) (hb : Below w.heap.size w w') : Pcs w' v ls := by
  obtain ⟨p, cap, hv, hr, hp⟩ := h.form
  refine ⟨⟨p, cap, hv, hr, fun h0 => ?_⟩, h.len⟩
  obtain ⟨b, off, hpe, hc⟩ := hp h0
  refine ⟨b, off, hpe, fun i hi => ?_⟩
  obtain ⟨u, hu, hB⟩ := hc i hi
  refine ⟨u, ?_, hB.below hb⟩
  rw [hb.cell (p := ⟨b, off + i, none⟩) (block_lt_of_cell hu)]
  exact hu

theorem flat_take_succ (ls : List (List Nat)) (k : Nat) (h : k < ls.length) : (ls.take (k + 1)).flatten = (ls.take k).flatten ++ ls.getD k [] := by
  rw [List.take_succ_eq_append_getElem h, List.flatten_append, List.flatten_singleton, List.getD_eq_getElem?_getD, List.getElem?_eq_getElem h]; rfl

theorem flat_take_le (ls : List (List Nat)) (k : Nat) : (ls.take k).flatten.length ≤ ls.flatten.length := by
  have h := congrArg (fun l => l.flatten.length) (List.take_append_drop k ls)
  simp only [List.flatten_append, List.length_append] at h
  omega

set_option maxHeartbeats 1600000 in
set_option maxRecDepth 20000 in
theorem join_any (v : Value) (ls : List (List Nat)) (w : World) (hP : Pcs w v ls) (hl : ls.flatten.length ≤ 140737488355328) :
    Calls Try.prog 23 #[v] w fun e w' => ∃ v', e = .returned v' ∧ Own w.heap.size w' v' ls.flatten ∧ Below w.heap.size w w' := by
  have HP := Lib.hid hP
  obtain ⟨p, cap, rfl, hr, hp⟩ := hP.form
  have HC := Lib.hid hp
  have hn := hP.len
  clear hP hp
  go_enter Try.func23, Try.ntmps23
  go_wp2_with fail
  go_loopw [3, 11] (fun s i wr => ∃ k : Nat, k ≤ ls.length ∧ i = .int .i64 k ∧ s = .int .i64 ((ls.take k).flatten.length : Nat) ∧ w = wr) (fun _ i _ => ls.length - (intOf i).toNat)
  case atStart => exact ⟨0, by omega, rfl, rfl, rfl⟩
  case round =>
    obtain ⟨k, hk, rfl, rfl, rfl⟩ := hrel
    by_cases hlt : k < ls.length
    · have hs := congrArg List.length (flat_take_succ ls k hlt)
      rw [List.length_append] at hs
      have hle := flat_take_le ls (k + 1)
      obtain ⟨b, off, rfl, hc⟩ := HC.out (by omega)
      obtain ⟨u, hu, hB⟩ := hc k hlt
      obtain ⟨q, qc, rfl, -, -, -⟩ := hB.form
      have HS := Lib.hid hs
      have hsum : (ls.take k).flatten.length + (ls.getD k []).length ≤ 140737488355328 := by omega
      clear hs hB hc hle
      generalize (ls.getD k []).length = m at *
      generalize (ls.take k).flatten.length = s at *
      go_wp2_with fail
      go_roundw
      case rel => exact ⟨k + 1, by omega, by go_num, by rw [HS.out]; go_num, by first | rfl | trivial⟩
      case measure => simp [intOf]; omega
    · obtain rfl : k = ls.length := by omega
      rw [List.take_length]
      generalize hF : ls.flatten.length = F at *
      have HF := Lib.hid hF
      clear hF
      go_upto_region 7 with (fail)
      iterate 4 go_step
      refine wpList_make_Own rfl _ _ rfl w.heap.size .i64 .i64 (F : Int) F rfl rfl rfl (by omega) (Nat.le_refl _) ?_
      intro v1 w1 hO1 hb1
      have HO1 := Lib.hid hO1
      have HW1 := Lib.hid hb1
      clear hO1 hb1
      go_wp2_with fail
      go_loopw [6, 24] (fun s i wr => ∃ k : Nat, k ≤ ls.length ∧ i = .int .i64 k ∧ Own w.heap.size wr s (ls.take k).flatten ∧ Below w.heap.size w wr) (fun _ i _ => ls.length - (intOf i).toNat)
      case atStart => exact ⟨0, by omega, rfl, HO1.out, HW1.out⟩
      case round =>
        obtain ⟨k, hk, rfl, hO, hb⟩ := hrel
        have HO := Lib.hid hO
        have HW := Lib.hid hb
        clear hO hb
        by_cases hlt : k < ls.length
        · have hs := flat_take_succ ls k hlt
          have hle := flat_take_le ls (k + 1)
          rw [hs, List.length_append] at hle
          have HS := Lib.hid hs
          have HP2 := Lib.hid (HP.out.below HW.out)
          obtain ⟨p', cap', hv', -, hp'⟩ := HP2.out.form
          simp only [Value.slice.injEq] at hv'
          obtain ⟨rfl, -, rfl⟩ := hv'
          obtain ⟨b, off, rfl, hc⟩ := hp' (by omega)
          obtain ⟨u, hu, hB⟩ := hc k hlt
          have HB := Lib.hid hB
          have hFF := HF.out
          have HLE : Hid ((ls.take k).flatten.length + (ls.getD k []).length ≤ 140737488355328) := by show _ ≤ _; omega
          obtain ⟨q, qc, rfl, -, -, -⟩ := hB.form
          clear hs hB hc hle hp' hFF
          generalize ls.getD k [] = x at *
          go_upto_region 11 with (fail)
          iterate 7 go_step
          refine wpList_append_Own rfl (.tmp 28) (.tmp 29) rfl w.heap.size _ _ rfl HO.out _ _ rfl HB.out HLE.out HW.out.size ?_
          intro v2 w2 hO2 hb2 _
          rw [← HS.out] at hO2
          have HO2 := Lib.hid hO2
          have HW2 := Lib.hid (HW.out.trans hb2)
          clear hO2 hb2
          go_wp2
          go_roundw
          case rel => exact ⟨k + 1, by omega, by go_num, HO2.out, HW2.out⟩
          case measure => simp [intOf]; omega
        · obtain rfl : k = ls.length := by omega
          rw [List.take_length] at HO
          go_wp2
          go_ret
          exact ⟨_, rfl, HO.out, HW.out⟩
end Go.Proofs.Ytpliogkcfhcfpaa
