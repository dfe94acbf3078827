/- Bits turned within four bytes in a row of a record's form, plainly. Conditions: none. -/
import Derived.Test.YtkchoelegdknoaaLrPure
namespace Go.Proofs.Ytkchoelegdknoaa.Lr

theorem own_two {x : R} (h : Within x) : 2 ≤ (own x).length := by
  unfold own
  rcases h with ⟨hk, -⟩ | ⟨hk, -⟩ | ⟨hk, -⟩ | ⟨hk, -⟩ | ⟨hk, -⟩
  · rw [if_pos hk]; simp only [List.length_append, Cod.le_length]; omega
  · rw [if_neg (by omega), if_pos hk]; simp only [List.length_append, Cod.le_length]; omega
  · rw [if_neg (by omega), if_neg (by omega), if_pos hk]; simp only [List.length_append, Cod.le_length]; omega
  · rw [if_neg (by omega), if_neg (by omega), if_neg (by omega), if_pos hk]; simp only [Cod.le_length]; omega
  · rw [if_neg (by omega), if_neg (by omega), if_neg (by omega), if_neg (by omega), if_pos hk]
    have a := Cod.uv_pos x.opn.length
    have b := Cod.uv_pos x.dirt.length
    simp only [List.length_append]; omega
theorem mod_step8 (t i : Nat) : t % 2 ^ (8 * (i + 1)) = (t % 2 ^ (8 * i)) ^^^ (2 ^ (8 * i) * (t / 2 ^ (8 * i) % 256)) := by
  apply Nat.eq_of_testBit_eq
  intro j
  rw [Nat.testBit_xor, Nat.testBit_mod_two_pow, Nat.testBit_mod_two_pow, Nat.testBit_two_pow_mul, show (256 : Nat) = 2 ^ 8 from rfl, Nat.testBit_mod_two_pow, Nat.testBit_div_two_pow]
  by_cases h : j < 8 * i
  · simp [h, show j < 8 * (i + 1) by omega, show ¬ 8 * i ≤ j by omega]
  · have h2 : 8 * i ≤ j := by omega
    rw [show j - 8 * i + 8 * i = j by omega]
    by_cases h3 : j < 8 * (i + 1)
    · simp [h, h2, h3, show j - 8 * i < 8 by omega]
    · simp [h, h2, h3, show ¬ j - 8 * i < 8 by omega]
/-- What stands behind i of the four bytes. -/
structure Tn (F : List Nat) (f t i : Nat) (c : List Nat) : Prop where
  len : c.length = F.length
  small : ∀ x ∈ c, x < 256
  six : c.take 6 = F.take 6
  sum : Crc.le (c.drop 4) = Crc.le (F.drop 4) ^^^ (2 ^ (8 * (f - 4)) * (t % 2 ^ (8 * i)))
theorem tn_first {F : List Nat} (f t : Nat) (h : ∀ x ∈ F, x < 256) : Tn F f t 0 F := ⟨rfl, h, rfl, by rw [Nat.mul_zero, Nat.pow_zero, Nat.mod_one, Nat.mul_zero, Nat.xor_zero]⟩
theorem Tn.step {F : List Nat} {f t i : Nat} {c : List Nat} (h : Tn F f t i c) (h6 : 6 ≤ f) (hl : f + i < F.length) : Tn F f t (i + 1) (c.set (f + i) (c.getD (f + i) 0 ^^^ (t / 2 ^ (8 * i) % 256))) := by
  refine ⟨by rw [List.length_set]; exact h.len, fun x hx => ?_, ?_, ?_⟩
  · rcases List.mem_or_eq_of_mem_set hx with hx | rfl
    · exact h.small x hx
    · refine Nat.xor_lt_two_pow (n := 8) ?_ (Nat.mod_lt _ (by decide))
      rw [List.getD_eq_getElem?_getD, List.getElem?_eq_getElem (by rw [h.len]; exact hl)]
      exact h.small _ (List.getElem_mem _)
  · rw [List.take_set_of_le (by omega)]
    exact h.six
  · have e1 : (c.set (f + i) (c.getD (f + i) 0 ^^^ (t / 2 ^ (8 * i) % 256))).drop 4 = (c.drop 4).set (f + i - 4) ((c.drop 4).getD (f + i - 4) 0 ^^^ (t / 2 ^ (8 * i) % 256)) := by
      rw [List.drop_set, if_neg (by omega)]
      congr 2
      simp only [List.getD_eq_getElem?_getD, List.getElem?_drop]
      rw [show 4 + (f + i - 4) = f + i by omega]
    rw [e1, Crc.le_set _ _ _ (by rw [List.length_drop, h.len]; omega), h.sum, mod_step8, Crc.mul_xor, Nat.xor_assoc]
    congr 2
    rw [← Nat.mul_assoc, ← Nat.pow_add, show 8 * (f + i - 4) = 8 * (f - 4) + 8 * i by omega]
theorem tn_none {x : R} (hM : May x) (hO : Ok x) {f t : Nat} {c : List Nat} (h : Tn (form x) f t 4 c) (ht : t < 4294967296) (h0 : t ≠ 0) (h6 : 6 ≤ f) (hf : f + 4 ≤ (form x).length) : ∀ y, ¬ Is c y := by
  refine turned_none hM hO c t (8 * (f - 4)) h.len h.six ?_ ht h0 ?_
  · have h2 := h.sum
    rwa [Nat.mod_eq_of_lt (show t < 2 ^ (8 * 4) from ht)] at h2
  · rw [rest_length]
    rw [form_length] at hf
    omega
end Go.Proofs.Ytkchoelegdknoaa.Lr
