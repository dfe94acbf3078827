/- What the document's device answers to List: the numbers of those that wait, in new memory. Conditions: the device's blocks. -/
import Derived.Test.YthjciddhghfcbaaDiskCall
import Derived.Test.YthjciddhghfcbaaInts
namespace Go.Proofs.Ythjciddhghfcbaa
open Go.RowKit

namespace Dk
def upto (d : Dev) (k : Nat) : List Nat := (List.range k).filter fun i => (d.waits.getD i none).isSome
theorem listL_eq : ∀ (ws : List (Option (List Nat))) (i : Nat), listL i ws = ((List.range ws.length).filter fun j => (ws.getD j none).isSome).map (· + i)
  | [], _ => rfl
  | none :: ws, i => by
    rw [listL, listL_eq ws (i + 1), List.length_cons, List.range_succ_eq_map, List.filter_cons_of_neg (by simp), List.filter_map, List.map_map]
    congr 1
    funext x
    simp only [Function.comp]
    omega
  | some b :: ws, i => by
    rw [listL, listL_eq ws (i + 1), List.length_cons, List.range_succ_eq_map, List.filter_cons_of_pos (by simp), List.filter_map, List.map_cons, List.map_map]
    congr 1
    · omega
    · congr 1
      funext x
      simp only [Function.comp]
      omega
theorem list_eq (d : Dev) : list d = upto d d.waits.length := by
  unfold list upto
  rw [listL_eq]
  simp
theorem upto_next (d : Dev) (k : Nat) : upto d (k + 1) = upto d k ++ if (d.waits.getD k none).isSome then [k] else [] := by
  unfold upto
  rw [List.range_succ, List.filter_append]
  congr 1
  by_cases h : (d.waits.getD k none).isSome = true
  · rw [if_pos h, List.filter_cons_of_pos (p := fun i => (d.waits.getD i none).isSome) h]; rfl
  · rw [if_neg h, List.filter_cons_of_neg (p := fun i => (d.waits.getD i none).isSome) h]; rfl
theorem upto_length (d : Dev) (k : Nat) : (upto d k).length ≤ k := Nat.le_trans (List.length_filter_le _ _) (by simp)
end Dk

theorem okk_small (x : Nat) (h : x ≤ 65536) : Ints.Okk (x : Int) := by
  have h1 : IntKind.i64.min = -9223372036854775808 := rfl
  have h2 : IntKind.i64.max = 9223372036854775807 := rfl
  unfold Ints.Okk
  simp only [Lit.wf, Bool.and_eq_true, decide_eq_true_eq]
  omega

set_option maxHeartbeats 800000 in
set_option maxRecDepth 20000 in
theorem refList_any (B g1 g2 g3 : Nat) (d : Dk.Dev) (w : World) (hR : RDev w B g1 g2 g3 d) :
    Calls Try.prog 17 #[.pointer (some ⟨B, 0, none⟩)] w fun e w' => ∃ u, e = .returned u ∧ Ints.Own w.heap.size w' u ((Dk.list d).map fun x : Nat => (x : Int)) ∧ Below w.heap.size w w' := by
  have HR := Lib.hid hR
  have hsz := hR.sz
  have hwl := hR.ok.w
  rw [Dk.list_eq, hwl]
  obtain ⟨n, hn⟩ : ∃ n, Dk.size d = n := ⟨_, rfl⟩
  rw [hn] at hsz hwl ⊢
  have HN := Lib.hid hn
  have HWL := Lib.hid hwl
  clear hR hn hwl
  go_enter Try.func17, Try.ntmps17
  go_wp2_with fail
  go_loopw [3, 4] (fun u i wr => ∃ k : Nat, k ≤ n ∧ i = .int .i64 k ∧ Ints.Own w.heap.size wr u ((Dk.upto d k).map fun x : Nat => (x : Int)) ∧ Below w.heap.size w wr) (fun _ i _ => n - (intOf i).toNat)
  case atStart => exact ⟨0, Nat.zero_le _, rfl, Ints.own_nil _ _, Below.refl _ _⟩
  case round =>
    obtain ⟨k, hk, rfl, hO, hb⟩ := hrel
    have HO := Lib.hid hO
    have HW := Lib.hid hb
    have hRk := HR.out.below hb
    have c1 := blk_cell hRk.blk 1 (v := .slice (some ⟨g2, 0, none⟩) n n) (by rw [← HN.out]; rfl)
    clear hO hb
    by_cases hlt : k < n
    · have e2' := blk_at hRk.waits none (show k < d.waits.length by rw [HWL.out]; exact hlt)
      have hnx := Dk.upto_next d k
      have hul := Dk.upto_length d k
      cases hW : d.waits.getD k none with
      | none =>
        have e2 : wr.cell? ⟨g2, k, none⟩ = some (.string { data := #[] }) := by rw [e2', hW]; rfl
        rw [hW] at hnx
        have HNX := Lib.hid (show Dk.upto d (k + 1) = Dk.upto d k by rw [hnx]; simp)
        clear e2' hnx hRk hW
        go_wp2_with fail
        go_roundw
        case rel => exact ⟨k + 1, by omega, by go_num, by rw [HNX.out]; exact HO.out, HW.out⟩
        case measure => simp [intOf]; omega
      | some b =>
        rw [hW] at hnx
        have HNX := Lib.hid (show Dk.upto d (k + 1) = Dk.upto d k ++ [k] by rw [hnx]; simp)
        have hsec := hRk.ok.w1 b (by
          have hl : k < d.waits.length := by rw [HWL.out]; exact hlt
          rw [List.getD_eq_getElem?_getD, List.getElem?_eq_getElem hl, Option.getD_some] at hW
          rw [← hW]; exact List.getElem_mem _)
        have hS := empty_str b (by have := hsec.1; omega)
        have e2 : wr.cell? ⟨g2, k, none⟩ = some (sv b) := by rw [e2', hW]; rfl
        unfold sv at e2
        generalize strOfNums (b.map fun x : Nat => (x : Int)) = S at e2 hS
        clear e2' hnx hRk hW hsec
        go_upto_region 6 with (fail)
        iterate 10 go_step
        refine Ints.wpList_append_byte rfl (.tmp 22) (.tmp 24) rfl w.heap.size _ ((Dk.upto d k).map fun x : Nat => (x : Int)) rfl HO.out rfl (k : Int) (okk_small k (by omega)) (by rw [List.length_map]; omega) HW.out.size ?_
        intro v2 w2 hown2 hb2
        have HO2 := Lib.hid hown2
        have HW2 := Lib.hid (HW.out.trans hb2)
        clear hown2 hb2 c1 e2 hS
        go_wp2_with fail
        go_roundw
        case rel => exact ⟨k + 1, by omega, by go_num, by rw [HNX.out, List.map_append]; exact HO2.out, HW2.out⟩
        case measure => simp [intOf]; omega
    · obtain rfl : k = n := by omega
      clear hRk
      go_wp2_with fail
      go_ret
      exact ⟨_, rfl, HO.out, HW.out⟩
end Go.Proofs.Ythjciddhghfcbaa
