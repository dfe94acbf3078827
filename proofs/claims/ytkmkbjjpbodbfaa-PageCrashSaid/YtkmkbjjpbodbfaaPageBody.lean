/- A law's body: 500 bytes of a number; where a page lies. Conditions: none. -/
import Derived.Test.YtkmkbjjpbodbfaaPageRef
import Derived.Test.YtkmkbjjpbodbfaaDiskPure
import Derived.IntWalk
namespace Go.Proofs.Ytkmkbjjpbodbfaa
open Go.RowKit

theorem Pg.set_mid {α : Type} (A l : List α) (k : Nat) (x : α) (hA : k < A.length) (hl : k < l.length) (hx : A[k]? = some x) : (A.take k ++ l.drop k).set k x = A.take (k + 1) ++ l.drop (k + 1) := by
  rw [List.set_append_right _ _ (by simp; omega), show k - (A.take k).length = 0 by simp; omega]
  rw [List.drop_eq_getElem_cons hl, List.set_cons_zero, List.take_succ_eq_append_getElem hA]
  rw [List.getElem?_eq_getElem hA] at hx
  simp only [Option.some.injEq] at hx
  rw [hx, List.append_assoc, List.singleton_append]
theorem body_wrap (n : Int) (k : Nat) : wrap64 (n + (k : Int) * 7) % 256 = (Pg.bodyB n k : Int) := by
  unfold Pg.bodyB wrap64
  omega

set_option maxHeartbeats 800000 in
set_option maxRecDepth 20000 in
theorem body_any (n : Int) (w : World) : Calls Try.prog 17 #[.int .i64 n] w fun e w' => ∃ g, e = .returned (.slice (some ⟨g, 0, none⟩) 500 500) ∧ w.heap.size ≤ g ∧ Own w.heap.size w' (.slice (some ⟨g, 0, none⟩) 500 500) (Pg.bodyL n) ∧ Below w.heap.size w w' := by
  have hmk : (Instr.makeSlice 23 (.int .i64 500) (.int .i64 500)).run Try.prog w = .ok (.slice (some ⟨w.heap.size, 0, none⟩) 500 500) (w.alloc (.cells ((Pg.zeros 500).map bv).toArray 5)) := made_bytes 500 (by decide) w
  obtain ⟨W, hW⟩ : ∃ W, W = w.alloc (.cells ((Pg.zeros 500).map bv).toArray 5) := ⟨_, rfl⟩
  have hb0 : Below w.heap.size w W := by rw [hW]; exact (Below.refl _ _).alloc (Nat.le_refl _) _
  have hr0 : W.heap[w.heap.size]? = some (.cells ((Pg.zeros 500).map bv).toArray 5 (0, 0)) := by rw [hW]; exact heap_alloc_last _ _
  rw [← hW] at hmk
  have HR := Lib.hid hr0
  have HB := Lib.hid hb0
  obtain ⟨g, hg⟩ : ∃ g, w.heap.size = g := ⟨_, rfl⟩
  rw [hg] at hmk HR
  have HG := Lib.hid hg
  clear hW hb0 hr0 hg
  go_enter Try.func17, Try.ntmps17
  go_wp2_with fail
  clear hmk
  go_loopw [4] (fun i wr => ∃ k : Nat, k ≤ 500 ∧ i = .int .i64 k ∧ wr.heap[g]? = some (.cells (((Pg.bodyL n).take k ++ (Pg.zeros 500).drop k).map bv).toArray 5 (0, 0)) ∧ Touch (fun j => j = g) W wr) (fun i _ => 500 - (intOf i).toNat)
  case atStart => exact ⟨0, Nat.zero_le _, rfl, HR.out, .refl _ _⟩
  case round =>
    obtain ⟨k, hk, rfl, hG, hT⟩ := hrel
    have HG1 := Lib.hid hG
    have HT := Lib.hid hT
    clear hG hT
    by_cases hlt : k < 500
    · have hki : (k : Int) < 500 := by omega
      have hlen : k < ((Pg.bodyL n).take k ++ (Pg.zeros 500).drop k).length := by simp [Pg.bodyL_length, Pg.zeros_length]; omega
      have c1 := blk_at HG1.out 0 hlen
      have f1 := blk_free HG1.out k
      have hm := blk_map (i := k) HG1.out (Pg.bodyB n k)
      rw [Pg.set_mid (Pg.bodyL n) (Pg.zeros 500) k (Pg.bodyB n k) (by rw [Pg.bodyL_length]; exact hlt) (by simp [Pg.zeros_length]; omega) (by simp [Pg.bodyL, hlt])] at hm
      have HM := Lib.hid hm
      have HT2 := Lib.hid (HT.out.trans (.set g k (bv (Pg.bodyB n k)) rfl))
      clear hm hlen
      go_wp2_with fail
      rw [body_wrap]
      go_roundw
      case rel => exact ⟨k + 1, by omega, by go_num, HM.out, HT2.out⟩
      case measure => simp [intOf]; omega
    · obtain rfl : k = 500 := by omega
      have hG := HG1.out
      rw [List.take_of_length_le (by rw [Pg.bodyL_length]; omega), List.drop_of_length_le (by simp [Pg.zeros_length]), List.append_nil] at hG
      have HG2 := Lib.hid hG
      clear hG
      go_wp2_with fail
      go_ret
      have ho := own_blk (base := g) HG2.out (Nat.le_refl _) (Pg.bodyL_small n) (by rw [Pg.bodyL_length]; decide)
      rw [Pg.bodyL_length] at ho
      exact ⟨g, rfl, by rw [HG.out]; exact Nat.le_refl _, by rw [HG.out]; exact ho, HB.out.trans (HT.out.below (fun i e => by rw [e, HG.out]; exact Nat.le_refl _) (by have := HB.out.size; omega))⟩

/-- Does a page lie on a device? -/
def Pg.lies (s base n : Int) : Bool := decide (0 ≤ base ∧ 0 ≤ n ∧ base ≤ s ∧ n < (s - base).tdiv 4)
theorem lies_false {s base n : Int} (h : ¬ (0 ≤ base ∧ 0 ≤ n ∧ base ≤ s ∧ n < (s - base).tdiv 4)) : Pg.lies s base n = false := decide_eq_false h
theorem lies_true {s base n : Int} (h : 0 ≤ base ∧ 0 ≤ n ∧ base ≤ s ∧ n < (s - base).tdiv 4) : Pg.lies s base n = true := decide_eq_true h
set_option maxHeartbeats 400000 in
set_option maxRecDepth 20000 in
theorem lies_any (s base n : Int) (w : World) (hs : 0 ≤ s ∧ s ≤ 9223372036854775807) :
    Calls Try.prog 19 #[.int .i64 s, .int .i64 base, .int .i64 n] w fun e w' => e = .returned (.bool (Pg.lies s base n)) ∧ w = w' := by
  have HS := Lib.hid hs
  clear hs
  by_cases h1 : 0 ≤ base
  · by_cases h2 : 0 ≤ n
    · by_cases h3 : base ≤ s
      · have hw := IntWalk.i64_in (s - base) (by have := HS.out; omega)
        have HQ : Hid (wrap64 ((s - base).tdiv 4) = (s - base).tdiv 4) := by
          have e : (s - base).tdiv 4 = (s - base) / 4 := Int.tdiv_eq_ediv_of_nonneg (by omega)
          have := HS.out
          show _ = _
          rw [e]
          unfold wrap64
          omega
        have HD : Hid (Pg.lies s base n = decide (n < (s - base).tdiv 4)) := by
          show decide _ = _
          by_cases h4 : n < (s - base).tdiv 4
          · rw [decide_eq_true h4, decide_eq_true ⟨h1, h2, h3, h4⟩]
          · rw [decide_eq_false h4, decide_eq_false (fun h => h4 h.2.2.2)]
        go_enter Try.func19, Try.ntmps19
        go_wp2_with fail
        go_ret
        refine ⟨?_, rfl⟩
        show Ending.returned (.bool (decide (n < wrap64 ((s - base).tdiv 4)))) = _
        rw [HQ.out, HD.out]
      · rw [lies_false (fun h => h3 h.2.2.1)]
        go_enter Try.func19, Try.ntmps19
        go_wp2_with fail
        go_ret
        exact ⟨rfl, rfl⟩
    · rw [lies_false (fun h => h2 h.2.1)]
      go_enter Try.func19, Try.ntmps19
      go_wp2_with fail
      go_ret
      exact ⟨rfl, rfl⟩
  · rw [lies_false (fun h => h1 h.1)]
    go_enter Try.func19, Try.ntmps19
    go_wp2_with fail
    go_ret
    exact ⟨rfl, rfl⟩
end Go.Proofs.Ytkmkbjjpbodbfaa
