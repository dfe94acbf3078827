/- What the document's reader tells, over any world. Conditions: the reader's block and its bytes. -/
import Derived.Test.YtkchoelegdknoaaCodeTake
namespace Go.Proofs.Ytkchoelegdknoaa
open Go.RowKit

theorem drop_num (l : List Nat) (c k : Nat) (hk : k < c) (hc : c ≤ l.length) : Cod.num ((l.take c).drop k) = l.getD k 0 + 256 * Cod.num ((l.take c).drop (k + 1)) := by
  rw [List.drop_eq_getElem_cons (by simp; omega), Cod.num]
  congr 1
  simp [List.getElem?_eq_getElem (show k < l.length by omega)]

theorem num_small (l : List Nat) (c k : Nat) (hs : ∀ y ∈ l, y < 256) (hk : 1 ≤ k) (hc : c ≤ 8) : Cod.num ((l.take c).drop k) < 72057594037927936 := by
  have h := Cod.num_lt ((l.take c).drop k) (fun y hy => hs y (List.mem_of_mem_take (List.mem_of_mem_drop hy)))
  have hl : ((l.take c).drop k).length ≤ 7 := by simp; omega
  exact Nat.lt_of_lt_of_le h (Nat.pow_le_pow_right (i := ((l.take c).drop k).length) (j := 7) (by decide : 256 > 0) hl)

set_option maxHeartbeats 1600000 in
set_option maxRecDepth 20000 in
theorem refNum_any (lo : Nat → Prop) (B e c : Nat) (l : List Nat) (w : World) (hR : Rd 79 lo w B l e) (hc1 : 1 ≤ c) (hc8 : c ≤ 8) :
    Calls Try.prog 56 #[.pointer (some ⟨B, 0, none⟩), .int .i64 (c : Int)] w fun en w' => en = .returned (.int .u64 ((Cod.rdNum c l e).1 : Nat)) ∧ Rd 79 lo w' B (Cod.rdNum c l e).2.1 (Cod.rdNum c l e).2.2 ∧ w.grownBy w' (some B) := by
  have HR := Lib.hid hR
  obtain ⟨s, hS⟩ := hR
  have HS := Lib.hid hS
  have HB := Lib.hid hS.2.1
  obtain ⟨p, cap, rfl, hr, hn, hp⟩ := HB.out.form
  have hcap := hr.1
  have hcap2 := hr.2
  have hlen := HB.out.len
  have g0 := cell2_0 hS.1
  have g1 := cell2_1 hS.1
  have hf0 := free2 hS.1 0
  have hf1 := free2 hS.1 1
  have HP := Lib.hid hp
  clear hS hr hn hp
  unfold Cod.rdNum
  by_cases he : e ≠ 0
  · rw [if_pos he]
    have h0 : ((e : Int) == 0) = false := by simp; omega
    have h1 : ((e : Int) != 0) = true := by simp; omega
    have h2 : ¬ (e : Int) = 0 := by omega
    clear he
    go_enter Try.func56, Try.ntmps56
    go_wp2
    go_ret
    exact ⟨rfl, HR.out, grownBy_refl _ _⟩
  · obtain rfl : e = 0 := by omega
    rw [if_neg he]
    clear he
    by_cases hl : l.length < c
    · rw [if_pos hl]
      go_enter Try.func56, Try.ntmps56
      go_wp2
      go_ret
      exact ⟨rfl, HR.out.fail 4, grownBy_setCell _ _ _ _⟩
    · rw [if_neg hl]
      obtain ⟨b, off, rfl, hc⟩ := HP.out (by omega)
      clear HP
      have HC := Lib.hid hc
      clear hc
      go_enter Try.func56, Try.ntmps56
      go_wp2
      go_loop [5, 6] (fun n i => ∃ k : Nat, k ≤ c ∧ i = .int .i64 ((k : Int) - 1) ∧ n = .int .u64 (Cod.num ((l.take c).drop k) : Nat)) (fun _ i => (intOf i + 1).toNat)
      case atStart => exact ⟨c, Nat.le_refl _, rfl, by rw [List.drop_eq_nil_of_le (by simp; omega)]; rfl⟩
      case round =>
        obtain ⟨k, hk, rfl, rfl⟩ := hrel
        by_cases h0 : k = 0
        · subst h0
          go_wp2
          all_goals
            go_ret
            refine ⟨rfl, HS.out.move ?_ rfl, grownBy_setCell _ _ _ _⟩
            first
              | exact HB.out.drop c (by omega)
              | (rw [show l.drop c = [] from List.drop_eq_nil_of_le (by omega)]
                 exact bts_zero _ _ _ _ (by omega) (by omega))
        · obtain ⟨j, rfl⟩ : ∃ j, k = j + 1 := ⟨k - 1, by omega⟩
          have hx := HB.out.getD j
          have hck := HC.out j (by omega)
          have HN := Lib.hid (drop_num l c j (by omega) (by omega))
          have hsm := num_small l c (j + 1) HB.out.small (by omega) hc8
          generalize l.getD j 0 = x at hck hx HN
          generalize Cod.num ((l.take c).drop (j + 1)) = n at HN hsm ⊢
          go_wp2
          go_round
          case rel => exact ⟨j, by omega, rfl, by rw [HN.out]; congr 1; omega⟩
          case measure => simp [intOf]

end Go.Proofs.Ytkchoelegdknoaa
