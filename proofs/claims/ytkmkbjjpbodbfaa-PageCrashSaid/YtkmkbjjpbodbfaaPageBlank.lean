/- The program's blank page. Conditions: none. -/
import Derived.Test.YtkmkbjjpbodbfaaPageRef
namespace Go.Proofs.Ytkmkbjjpbodbfaa
open Go.RowKit

set_option maxHeartbeats 400000 in
set_option maxRecDepth 20000 in
theorem blank_page (w : World) : Calls Try.prog 13 #[] w fun e w' => ∃ v, e = .returned (PgV 0 v) ∧ Own w.heap.size w' v (Pg.zeros 500) ∧ Below w.heap.size w w' := by
  obtain ⟨W, hW⟩ : ∃ W, W = w.alloc (.cells #[.int .u64 0, .slice none 0 0] 25) := ⟨_, rfl⟩
  have hmk : (Instr.makeSlice 23 (.int .i64 500) (.int .i64 500)).run Try.prog (w.alloc (.cells #[.int .u64 0, .slice none 0 0] 25)) = .ok (.slice (some ⟨(w.alloc (.cells #[.int .u64 0, .slice none 0 0] 25)).heap.size, 0, none⟩) 500 500) _ := made_bytes 500 (by decide) _
  have HO := Lib.hid (made_own 500 (by decide) W)
  have hr : W.heap[w.heap.size]? = some (.cells #[.int .u64 0, .slice none 0 0] 25 (0, 0)) := by rw [hW]; exact heap_alloc_last _ _
  have hb : Below w.heap.size w W := by rw [hW]; exact (Below.refl _ _).alloc (Nat.le_refl _) _
  have hsz := lt_of_block hr
  rw [← hW] at hmk
  obtain ⟨W1, hW1⟩ : ∃ W1, W1 = W.alloc (.cells ((Pg.zeros 500).map bv).toArray 5) := ⟨_, rfl⟩
  have hb1 : Below W.heap.size W W1 := by rw [hW1]; exact (Below.refl _ _).alloc (Nat.le_refl _) _
  have hr1 : W1.heap[w.heap.size]? = some (.cells #[.int .u64 0, .slice none 0 0] 25 (0, 0)) := by rw [hb1.block _ (lt_of_block hr)]; exact hr
  rw [← hW1] at hmk HO
  obtain ⟨h2, hg2⟩ := set2 (x := .int .u64 0) (y := .slice (some ⟨W.heap.size, 0, none⟩) 500 500) hr1
  have q0 := cell2_0 h2
  have q1 := cell2_1 h2
  have HG := Lib.hid hg2
  have HQ0 := Lib.hid q0
  have HQ1 := Lib.hid q1
  clear h2 hg2 q0 q1
  go_enter Try.func13, Try.ntmps13
  go_wp2_with fail
  rw [← hW, hmk]
  have c0 := cell2_0 hr1
  have c1 := cell2_1 hr1
  have f0 := free2 hr1 0
  have f1 := free2 hr1 1
  clear hW1 hmk hr hr1 hW
  go_wp2_with fail
  have q0 := HQ0.out
  have q1 := HQ1.out
  refine bodyPost_ret (v := PgV 0 (.slice (some ⟨W.heap.size, 0, none⟩) 500 500)) (by simp [results, Try.results13, go_sem, q0, q1]) rfl ⟨_, rfl, ?_, ?_⟩
  · exact (HO.out.from (Nat.le_of_lt hsz)).grown HG.out (Or.inr (by simp [Value.ownBlock]; omega))
  · exact below_grown (hb.trans (hb1.mono hb.size)) HG.out (by have := hb1.size; omega) (Nat.le_refl _)

end Go.Proofs.Ytkmkbjjpbodbfaa
