/- Pages as bytes, plainly: their form, what bytes are opened as, a law's bodies. Conditions: none. -/
import Derived.Test.YtkmkbjjpbodbfaaCodePure
import Derived.Test.YtkmkbjjpbodbfaaCrcPure
namespace Go.Proofs.Ytkmkbjjpbodbfaa.Pg
open Go.Proofs.Ytkmkbjjpbodbfaa.Cod

theorem two32 : (2 : Nat) ^ 32 = 4294967296 := by decide
def zeros (n : Nat) : List Nat := List.replicate n 0
/-- What the sum is of, and a page's bytes. -/
def rest (n : Nat) (l : List Nat) : List Nat := le 8 n ++ l
def form (n : Nat) (l : List Nat) : List Nat := le 4 (Crc.more 0 (rest n l)) ++ rest n l
/-- What bytes are opened as: 2, 14 or 0; the place in the log; the body. -/
def openE (b : List Nat) : Nat := if b.length ≠ 512 then 2 else if b = zeros 512 then 0 else if num (b.take 4) ≠ Crc.more 0 (b.drop 4) then 14 else 0
def openN (b : List Nat) : Nat := if openE b = 0 then num ((b.drop 4).take 8) else 0
def openL (b : List Nat) : List Nat := if openE b = 0 then b.drop 12 else []

theorem zeros_length (n : Nat) : (zeros n).length = n := List.length_replicate
theorem zeros_lt (n : Nat) : ∀ x ∈ zeros n, x < 256 := by
  intro x hx
  rw [List.eq_of_mem_replicate hx]
  decide
theorem rest_length (n : Nat) (l : List Nat) : (rest n l).length = 8 + l.length := by unfold rest; rw [List.length_append, le_length]
theorem form_length (n : Nat) (l : List Nat) : (form n l).length = 12 + l.length := by unfold form; rw [List.length_append, le_length, rest_length]; omega
theorem rest_lt {n : Nat} {l : List Nat} (h : ∀ x ∈ l, x < 256) : ∀ x ∈ rest n l, x < 256 := by
  intro x hx
  rcases List.mem_append.1 hx with hx | hx
  · exact le_lt _ _ x hx
  · exact h x hx
theorem form_lt {n : Nat} {l : List Nat} (h : ∀ x ∈ l, x < 256) : ∀ x ∈ form n l, x < 256 := by
  intro x hx
  rcases List.mem_append.1 hx with hx | hx
  · exact le_lt _ _ x hx
  · exact rest_lt h x hx
theorem sum_lt {l : List Nat} (h : ∀ x ∈ l, x < 256) : Crc.more 0 l < 4294967296 := by
  have := Crc.more_lt (s := 0) (by decide) h
  rwa [two32] at this

theorem form_take (n : Nat) (l : List Nat) : (form n l).take 4 = le 4 (Crc.more 0 (rest n l)) := List.take_left' (le_length _ _)
theorem form_drop (n : Nat) (l : List Nat) : (form n l).drop 4 = rest n l := List.drop_left' (le_length _ _)
theorem rest_take (n : Nat) (l : List Nat) : (rest n l).take 8 = le 8 n := List.take_left' (le_length _ _)
theorem rest_drop (n : Nat) (l : List Nat) : (rest n l).drop 8 = l := List.drop_left' (le_length _ _)
theorem drop_twelve (b : List Nat) : b.drop 12 = (b.drop 4).drop 8 := by rw [List.drop_drop]

theorem openE_form {n : Nat} {l : List Nat} (h : ∀ x ∈ l, x < 256) (hl : l.length = 500) : openE (form n l) = 0 := by
  unfold openE
  rw [if_neg (by rw [form_length, hl]; decide)]
  split
  · rfl
  · rw [form_take, form_drop, num_le, Nat.mod_eq_of_lt (sum_lt (rest_lt h)), if_neg (by simp)]
theorem openN_form {n : Nat} {l : List Nat} (h : ∀ x ∈ l, x < 256) (hl : l.length = 500) (hn : n < 18446744073709551616) : openN (form n l) = n := by
  unfold openN
  rw [if_pos (openE_form h hl), form_drop, rest_take, num_le, Nat.mod_eq_of_lt hn]
theorem openL_form {n : Nat} {l : List Nat} (h : ∀ x ∈ l, x < 256) (hl : l.length = 500) : openL (form n l) = l := by
  unfold openL
  rw [if_pos (openE_form h hl), drop_twelve, form_drop, rest_drop]

/-- .. and of bytes that were opened the page's form is themselves, but where they are the blank ones. -/
theorem form_open {b : List Nat} (h : ∀ x ∈ b, x < 256) (he : openE b = 0) (hz : b ≠ zeros 512) : form (openN b) (openL b) = b := by
  have hl : b.length = 512 := by
    unfold openE at he
    split at he
    · cases he
    · omega
  have hs : num (b.take 4) = Crc.more 0 (b.drop 4) := by
    unfold openE at he
    rw [if_neg (by omega), if_neg hz] at he
    split at he
    · cases he
    · next h => simpa using h
  have e1 : rest (openN b) (openL b) = b.drop 4 := by
    unfold rest openN openL
    rw [if_pos he, if_pos he, drop_twelve]
    have h8 : ((b.drop 4).take 8).length = 8 := by simp; omega
    have := le_num ((b.drop 4).take 8) (fun x hx => h x (List.mem_of_mem_drop (List.mem_of_mem_take hx)))
    rw [h8] at this
    rw [this, List.take_append_drop]
  unfold form
  rw [e1, ← hs]
  have h4 : (b.take 4).length = 4 := by simp; omega
  have := le_num (b.take 4) (fun x hx => h x (List.mem_of_mem_take hx))
  rw [h4] at this
  rw [this, List.take_append_drop]

theorem openE_zeros : openE (zeros 512) = 0 := by unfold openE; rw [if_neg (by rw [zeros_length]; decide), if_pos rfl]
theorem openN_zeros : openN (zeros 512) = 0 := by unfold openN; rw [if_pos openE_zeros]; decide
theorem openL_zeros : openL (zeros 512) = zeros 500 := by unfold openL; rw [if_pos openE_zeros]; unfold zeros; rw [List.drop_replicate]
theorem openL_lt {b : List Nat} (h : ∀ x ∈ b, x < 256) : ∀ x ∈ openL b, x < 256 := by
  intro x hx
  unfold openL at hx
  split at hx
  · exact h x (List.mem_of_mem_drop hx)
  · simp at hx
theorem openL_length {b : List Nat} (he : openE b = 0) : (openL b).length = 500 := by
  have hl : b.length = 512 := by
    unfold openE at he
    split at he
    · cases he
    · omega
  unfold openL
  rw [if_pos he, List.length_drop, hl]
theorem openL_bad {b : List Nat} (he : openE b ≠ 0) : openL b = [] := if_neg he
theorem openN_bad {b : List Nat} (he : openE b ≠ 0) : openN b = 0 := if_neg he
theorem openN_lt {b : List Nat} (h : ∀ x ∈ b, x < 256) : openN b < 18446744073709551616 := by
  unfold openN
  split
  · have h1 := num_lt ((b.drop 4).take 8) (fun x hx => h x (List.mem_of_mem_drop (List.mem_of_mem_take hx)))
    have h2 : ((b.drop 4).take 8).length ≤ 8 := by simp; omega
    exact Nat.lt_of_lt_of_le h1 (Nat.le_trans (Nat.pow_le_pow_right (by decide) h2) (by decide))
  · decide

/-- A law's body of a number. -/
def bodyB (n : Int) (i : Nat) : Nat := ((n + i * 7) % 256).toNat
def bodyL (n : Int) : List Nat := (List.range 500).map (bodyB n)
theorem bodyB_lt (n : Int) (i : Nat) : bodyB n i < 256 := by unfold bodyB; omega
theorem bodyL_length (n : Int) : (bodyL n).length = 500 := by simp [bodyL]
theorem bodyL_small (n : Int) : ∀ x ∈ bodyL n, x < 256 := by
  intro x hx
  obtain ⟨i, -, rfl⟩ := List.mem_map.1 hx
  exact bodyB_lt n i
end Go.Proofs.Ytkmkbjjpbodbfaa.Pg
