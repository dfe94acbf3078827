/- Records as bytes, plainly: their form, and how it is read. Conditions: none. -/
import Derived.Test.YtpliogkcfhcfpaaCodePure
namespace Go.Proofs.Ytpliogkcfhcfpaa.Itm
open Go.Proofs.Ytpliogkcfhcfpaa.Cod

/-- A component as a number below 2^32, and back. -/
def u32 (c : Int) : Nat := (c % 4294967296).toNat
def i32 (n : Nat) : Int := if n < 2147483648 then (n : Int) else (n : Int) - 4294967296
def Comp (c : Int) : Prop := -2147483648 ≤ c ∧ c ≤ 2147483647

theorem u32_lt (c : Int) : u32 c < 4294967296 := by unfold u32; omega
theorem i32_u32 {c : Int} (h : Comp c) : i32 (u32 c) = c := by
  unfold Comp at h; unfold i32 u32; split <;> omega
theorem u32_i32 {n : Nat} (h : n < 4294967296) : u32 (i32 n) = n := by unfold u32 i32; split <;> omega
theorem comp_i32 {n : Nat} (h : n < 4294967296) : Comp (i32 n) := by unfold Comp i32; split <;> omega

/-- The components' bytes. -/
def comps : List Int → List Nat
  | [] => []
  | c :: r => le 4 (u32 c) ++ comps r

theorem comps_append : ∀ a b : List Int, comps (a ++ b) = comps a ++ comps b
  | [], b => rfl
  | c :: r, b => by rw [List.cons_append, comps, comps, comps_append r b, List.append_assoc]
theorem comps_one (c : Int) : comps [c] = le 4 (u32 c) := by simp [comps]
theorem comps_length : ∀ a : List Int, (comps a).length = 4 * a.length
  | [] => rfl
  | c :: r => by rw [comps, List.length_append, le_length, comps_length r, List.length_cons]; omega
theorem comps_lt : ∀ a : List Int, ∀ x ∈ comps a, x < 256
  | [], x, h => by simp [comps] at h
  | c :: r, x, h => by
    rw [comps] at h
    rcases List.mem_append.1 h with h | h
    · exact le_lt _ _ x h
    · exact comps_lt r x h

/-- Why a record may not be: 9, 3; 0 if it may. -/
def mayE (nv nm : Nat) : Nat := if nv < 1 ∨ 4096 < nv then 9 else if 1024 < nm then 3 else 0

theorem may_zero {nv nm : Nat} (h : mayE nv nm = 0) : 1 ≤ nv ∧ nv ≤ 4096 ∧ nm ≤ 1024 := by
  unfold mayE at h
  split at h
  · omega
  · split at h
    · omega
    · omega
theorem may_of {nv nm : Nat} (h1 : 1 ≤ nv) (h2 : nv ≤ 4096) (h3 : nm ≤ 1024) : mayE nv nm = 0 := by
  unfold mayE; rw [if_neg (by omega), if_neg (by omega)]

/-- A record's form. -/
def form (k : Nat) (v : List Int) (m : List Nat) : List Nat := le 8 k ++ uv v.length ++ comps v ++ (uv m.length ++ m)

theorem form_length (k : Nat) (v : List Int) (m : List Nat) : (form k v m).length = 8 + (uv v.length).length + 4 * v.length + (uv m.length).length + m.length := by
  unfold form
  simp only [List.length_append, le_length, comps_length]
  omega

theorem form_lt (k : Nat) (v : List Int) (m : List Nat) (hm : ∀ x ∈ m, x < 256) : ∀ x ∈ form k v m, x < 256 := by
  intro x hx
  unfold form at hx
  simp only [List.mem_append] at hx
  rcases hx with ((h | h) | h) | (h | h)
  · exact le_lt _ _ x h
  · exact uv_lt _ x h
  · exact comps_lt _ x h
  · exact uv_lt _ x h
  · exact hm x h

/-- So many components, read one by one. -/
def rdVec : Nat → List Nat → Nat → List Int × List Nat × Nat
  | 0, l, e => ([], l, e)
  | k + 1, l, e => ((rdVec k l e).1 ++ [i32 (rdNum 4 (rdVec k l e).2.1 (rdVec k l e).2.2).1], (rdNum 4 (rdVec k l e).2.1 (rdVec k l e).2.2).2)

theorem rdVec_length : ∀ (k : Nat) (l : List Nat) (e : Nat), (rdVec k l e).1.length = k
  | 0, _, _ => rfl
  | k + 1, l, e => by rw [rdVec, List.length_append, rdVec_length k l e]; rfl

theorem rdNum_small {k : Nat} {l : List Nat} {e : Nat} (hs : ∀ x ∈ l, x < 256) : ∀ x ∈ (rdNum k l e).2.1, x < 256 := by
  unfold rdNum
  split
  · exact hs
  · split
    · exact hs
    · exact fun x hx => hs x (List.mem_of_mem_drop hx)
theorem rdNum_lt {k : Nat} {l : List Nat} {e : Nat} (hs : ∀ x ∈ l, x < 256) : (rdNum k l e).1 < 256 ^ k := by
  have h0 : 0 < 256 ^ k := Nat.pow_pos (by decide)
  unfold rdNum
  split
  · exact h0
  · split
    · exact h0
    · next h =>
      have := num_lt (l.take k) (fun x hx => hs x (List.mem_of_mem_take hx))
      rwa [List.length_take, Nat.min_eq_left (by omega)] at this
theorem rdUv_small {l : List Nat} {e : Nat} (hs : ∀ x ∈ l, x < 256) : ∀ x ∈ (rdUv l e).2.1, x < 256 := by
  unfold rdUv
  split
  · exact hs
  · split
    · exact hs
    · exact fun x hx => hs x (List.mem_of_mem_drop hx)
theorem rdUv_lt (l : List Nat) (e : Nat) : (rdUv l e).1 < 18446744073709551616 := by
  unfold rdUv
  split
  · show 0 < _; decide
  · split
    · show 0 < _; decide
    · exact cnt_lt64 l
theorem rdVec_small : ∀ (k : Nat) {l : List Nat} {e : Nat}, (∀ x ∈ l, x < 256) → ∀ x ∈ (rdVec k l e).2.1, x < 256
  | 0, _, _, hs => hs
  | k + 1, l, e, hs => by rw [rdVec]; exact rdNum_small (rdVec_small k hs)
theorem rdVec_comp : ∀ (k : Nat) {l : List Nat} {e : Nat}, (∀ x ∈ l, x < 256) → ∀ c ∈ (rdVec k l e).1, Comp c
  | 0, _, _, _, c, hc => by simp [rdVec] at hc
  | k + 1, l, e, hs, c, hc => by
    rw [rdVec] at hc
    rcases List.mem_append.1 hc with hc | hc
    · exact rdVec_comp k hs c hc
    · rw [List.mem_singleton.1 hc]
      exact comp_i32 (rdNum_lt (k := 4) (rdVec_small k hs))

/-- What is read without an error was the bytes. -/
theorem rdNum_ok {k : Nat} {l : List Nat} {e : Nat} (hs : ∀ x ∈ l, x < 256) (h : (rdNum k l e).2.2 = 0) : e = 0 ∧ l = le k (rdNum k l e).1 ++ (rdNum k l e).2.1 := by
  unfold rdNum at h ⊢
  by_cases he : e ≠ 0
  · rw [if_pos he] at h; exact absurd h he
  rw [if_neg he] at h ⊢
  by_cases hl : l.length < k
  · rw [if_pos hl] at h; exact Nat.noConfusion h
  rw [if_neg hl]
  refine ⟨by omega, ?_⟩
  have := le_num (l.take k) (fun x hx => hs x (List.mem_of_mem_take hx))
  rw [List.length_take, Nat.min_eq_left (by omega)] at this
  show l = le k (num (l.take k)) ++ l.drop k
  rw [this, List.take_append_drop]
theorem rdUv_ok {l : List Nat} {e : Nat} (hs : ∀ x ∈ l, x < 256) (h : (rdUv l e).2.2 = 0) : e = 0 ∧ l = uv (rdUv l e).1 ++ (rdUv l e).2.1 := by
  unfold rdUv at h ⊢
  by_cases he : e ≠ 0
  · rw [if_pos he] at h; exact absurd h he
  rw [if_neg he] at h ⊢
  by_cases hl : (cnt 0 l).2 = 0
  · rw [if_pos hl] at h; exact Nat.noConfusion h
  rw [if_neg hl]
  refine ⟨by omega, ?_⟩
  show l = uv (cnt 0 l).1 ++ l.drop (cnt 0 l).2
  rw [(uv_cnt l 0 hs hl).1, List.take_append_drop]
theorem rdVec_ok : ∀ (k : Nat) {l : List Nat} {e : Nat}, (∀ x ∈ l, x < 256) → (rdVec k l e).2.2 = 0 → e = 0 ∧ l = comps (rdVec k l e).1 ++ (rdVec k l e).2.1
  | 0, l, e, _, h => ⟨h, rfl⟩
  | k + 1, l, e, hs, h => by
    rw [rdVec] at h ⊢
    obtain ⟨h1, h2⟩ := rdNum_ok (rdVec_small k hs) h
    obtain ⟨h3, h4⟩ := rdVec_ok k hs h1
    refine ⟨h3, ?_⟩
    show l = comps ((rdVec k l e).1 ++ [i32 (rdNum 4 (rdVec k l e).2.1 (rdVec k l e).2.2).1]) ++ (rdNum 4 (rdVec k l e).2.1 (rdVec k l e).2.2).2.1
    rw [comps_append, comps_one, u32_i32 (rdNum_lt (k := 4) (rdVec_small k hs)), List.append_assoc, ← h2]
    exact h4
theorem rdText_ok {l : List Nat} {e most : Nat} (hs : ∀ x ∈ l, x < 256) (h : (rdText (most : Nat) l e).2.2 = 0) :
    e = 0 ∧ l = (uv (rdText (most : Nat) l e).1.length ++ (rdText (most : Nat) l e).1) ++ (rdText (most : Nat) l e).2.1 ∧ (rdText (most : Nat) l e).1.length ≤ most := by
  unfold rdText at h ⊢
  by_cases he : e ≠ 0
  · rw [if_pos he] at h; exact absurd h he
  rw [if_neg he] at h ⊢
  by_cases hl : (cnt 0 l).2 = 0
  · rw [if_pos hl] at h; exact Nat.noConfusion h
  rw [if_neg hl] at h ⊢
  by_cases h3 : max ((most : Nat) : Int) 0 < ((cnt 0 l).1 : Int)
  · rw [if_pos h3] at h; exact Nat.noConfusion h
  rw [if_neg h3] at h ⊢
  by_cases h4 : l.length - (cnt 0 l).2 < (cnt 0 l).1
  · rw [if_pos h4] at h; exact Nat.noConfusion h
  rw [if_neg h4]
  have hn : ((l.drop (cnt 0 l).2).take (cnt 0 l).1).length = (cnt 0 l).1 := by simp; omega
  refine ⟨by omega, ?_, ?_⟩
  · show l = (uv ((l.drop (cnt 0 l).2).take (cnt 0 l).1).length ++ (l.drop (cnt 0 l).2).take (cnt 0 l).1) ++ (l.drop (cnt 0 l).2).drop (cnt 0 l).1
    rw [hn, (uv_cnt l 0 hs hl).1, List.append_assoc, List.take_append_drop, List.take_append_drop]
  · show ((l.drop (cnt 0 l).2).take (cnt 0 l).1).length ≤ most
    rw [hn]; omega

/-- What was put is read again, whatever is behind it. -/
theorem rd_le {k n : Nat} (hn : n < 256 ^ k) (t : List Nat) : rdNum k (le k n ++ t) 0 = (n, t, 0) := by
  unfold rdNum
  have hl := le_length k n
  rw [if_neg (by decide), if_neg (by simp; omega)]
  rw [List.take_append_of_le_length (by omega), List.drop_append_of_le_length (by omega), List.take_of_length_le (by omega), List.drop_of_length_le (by omega), num_le, Nat.mod_eq_of_lt hn]
  rfl
theorem rd_uv2 {n : Nat} (h : n < 18446744073709551616) (t : List Nat) : rdUv (uv n ++ t) 0 = (n, t, 0) := by
  unfold rdUv
  rw [if_neg (by decide), cnt_of_uv t h]
  have hp := uv_pos n
  rw [if_neg (by show ¬ (uv n).length = 0; omega)]
  simp
theorem rd_text2 {s : List Nat} {most : Nat} (hm : s.length ≤ most) (h : s.length < 18446744073709551616) (t : List Nat) : rdText (most : Nat) ((uv s.length ++ s) ++ t) 0 = (s, t, 0) := by
  unfold rdText
  rw [List.append_assoc, if_neg (by decide), cnt_of_uv (s ++ t) h]
  have hp := uv_pos s.length
  simp only []
  rw [if_neg (by omega), if_neg (by omega), if_neg (by simp)]
  simp
theorem rd_vec : ∀ (k : Nat) (v : List Int) (t : List Nat), k ≤ v.length → (∀ c ∈ v, Comp c) → rdVec k (comps v ++ t) 0 = (v.take k, comps (v.drop k) ++ t, 0)
  | 0, v, t, _, _ => by rw [rdVec]; rfl
  | k + 1, v, t, hk, hc => by
    have hd : v.drop k = v[k] :: v.drop (k + 1) := List.drop_eq_getElem_cons (by omega)
    rw [rdVec, rd_vec k v t (by omega) hc]
    simp only []
    rw [hd, comps, List.append_assoc, rd_le (Nat.lt_of_lt_of_le (u32_lt _) (by decide)), i32_u32 (hc _ (List.getElem_mem _))]
    rw [List.take_succ_eq_append_getElem (by omega)]

/-- How bytes are read as a record: its parts, what is left, the error. -/
def parts (l : List Nat) : Nat × List Int × List Nat × List Nat × Nat :=
  let a := rdNum 8 l 0
  let b := rdUv a.2.1 a.2.2
  let c := rdVec b.1 b.2.1 b.2.2
  let d := rdText (1024 : Nat) c.2.1 c.2.2
  (a.1, c.1, d.1, d.2.1, d.2.2)

/-- The count of the components. -/
def dim (l : List Nat) : Nat := (rdUv (rdNum 8 l 0).2.1 (rdNum 8 l 0).2.2).1

/-- Are the bytes just a form? -/
def Good (l : List Nat) : Prop := dim l ≤ 4096 ∧ (parts l).2.2.2.2 = 0 ∧ (parts l).2.2.2.1 = [] ∧ 1 ≤ (parts l).2.1.length

theorem parts_form {k : Nat} {v : List Int} {m : List Nat} (t : List Nat) (hk : k < 18446744073709551616) (hv : ∀ c ∈ v, Comp c) (h2 : v.length ≤ 4096) (h3 : m.length ≤ 1024) :
    parts (form k v m ++ t) = (k, v, m, t, 0) ∧ dim (form k v m ++ t) = v.length := by
  unfold parts dim form
  have e : le 8 k ++ uv v.length ++ comps v ++ (uv m.length ++ m) ++ t = le 8 k ++ (uv v.length ++ (comps v ++ ((uv m.length ++ m) ++ t))) := by simp only [List.append_assoc]
  rw [e, rd_le (Nat.lt_of_lt_of_le hk (by decide))]
  simp only []
  rw [rd_uv2 (by omega)]
  simp only []
  rw [rd_vec v.length v _ (Nat.le_refl _) hv, List.take_length, List.drop_length]
  simp only [comps, List.nil_append]
  rw [rd_text2 h3 (by omega)]
  exact ⟨rfl, trivial⟩

theorem good_form {k : Nat} {v : List Int} {m : List Nat} (hk : k < 18446744073709551616) (hv : ∀ c ∈ v, Comp c) (h1 : 1 ≤ v.length) (h2 : v.length ≤ 4096) (h3 : m.length ≤ 1024) : Good (form k v m) := by
  have h := parts_form (k := k) (v := v) (m := m) [] hk hv h2 h3
  rw [List.append_nil] at h
  unfold Good
  rw [h.1, h.2]
  exact ⟨h2, rfl, rfl, h1⟩

/-- What is read as a record is its form. -/
theorem form_of_good {l : List Nat} (hs : ∀ x ∈ l, x < 256) (h : Good l) :
    l = form (parts l).1 (parts l).2.1 (parts l).2.2.1 ∧ (parts l).1 < 18446744073709551616 ∧ (∀ c ∈ (parts l).2.1, Comp c) ∧ 1 ≤ (parts l).2.1.length ∧ (parts l).2.1.length ≤ 4096 ∧ (parts l).2.2.1.length ≤ 1024 := by
  obtain ⟨hd, he, hr, h1⟩ := h
  have hlen : (parts l).2.1.length = dim l := rdVec_length _ _ _
  have hsA := rdNum_small (k := 8) (e := 0) hs
  have hsB := rdUv_small (e := (rdNum 8 l 0).2.2) hsA
  have hsC := rdVec_small (rdUv (rdNum 8 l 0).2.1 (rdNum 8 l 0).2.2).1 (e := (rdUv (rdNum 8 l 0).2.1 (rdNum 8 l 0).2.2).2.2) hsB
  obtain ⟨hc, ht, hm⟩ := rdText_ok hsC he
  obtain ⟨hb, hv⟩ := rdVec_ok _ hsB hc
  obtain ⟨ha, hu⟩ := rdUv_ok hsA hb
  obtain ⟨_, hk⟩ := rdNum_ok hs ha
  refine ⟨?_, rdNum_lt (k := 8) hs, rdVec_comp _ hsB, h1, by omega, hm⟩
  have hr' : (rdText (1024 : Nat) (rdVec (rdUv (rdNum 8 l 0).2.1 (rdNum 8 l 0).2.2).1 (rdUv (rdNum 8 l 0).2.1 (rdNum 8 l 0).2.2).2.1 (rdUv (rdNum 8 l 0).2.1 (rdNum 8 l 0).2.2).2.2).2.1 (rdVec (rdUv (rdNum 8 l 0).2.1 (rdNum 8 l 0).2.2).1 (rdUv (rdNum 8 l 0).2.1 (rdNum 8 l 0).2.2).2.1 (rdUv (rdNum 8 l 0).2.1 (rdNum 8 l 0).2.2).2.2).2.2).2.1 = [] := hr
  rw [hr', List.append_nil] at ht
  unfold form
  rw [hlen]
  show l = le 8 (rdNum 8 l 0).1 ++ uv (rdUv (rdNum 8 l 0).2.1 (rdNum 8 l 0).2.2).1 ++ comps (rdVec (rdUv (rdNum 8 l 0).2.1 (rdNum 8 l 0).2.2).1 (rdUv (rdNum 8 l 0).2.1 (rdNum 8 l 0).2.2).2.1 (rdUv (rdNum 8 l 0).2.1 (rdNum 8 l 0).2.2).2.2).1 ++ _
  refine hk.trans ?_
  rw [List.append_assoc, List.append_assoc]
  congr 1
  refine hu.trans ?_
  congr 1
  refine hv.trans ?_
  congr 1

/-- Cut, or with something behind it, a form is none. -/
theorem not_good_cut {k : Nat} {v : List Int} {m : List Nat} (hk : k < 18446744073709551616) (hv : ∀ c ∈ v, Comp c) (h2 : v.length ≤ 4096) (h3 : m.length ≤ 1024) (hm : ∀ x ∈ m, x < 256) (n : Nat) (hn : n < (form k v m).length) : ¬ Good ((form k v m).take n) := by
  intro h
  obtain ⟨e, a1, a2, a3, a4, a5⟩ := form_of_good (fun x hx => form_lt k v m hm x (List.mem_of_mem_take hx)) h
  have h0 := (parts_form (k := k) (v := v) (m := m) [] hk hv h2 h3).1
  have hx := (parts_form ((form k v m).drop n) a1 a2 a4 a5).1
  rw [← e, List.take_append_drop] at hx
  rw [List.append_nil] at h0
  rw [h0] at hx
  have : (form k v m).drop n = [] := by
    have := congrArg (fun p => p.2.2.2.1) hx
    exact this.symm
  have hl := congrArg List.length this
  rw [List.length_drop, List.length_nil] at hl
  omega
theorem not_good_more {k : Nat} {v : List Int} {m : List Nat} (hk : k < 18446744073709551616) (hv : ∀ c ∈ v, Comp c) (h2 : v.length ≤ 4096) (h3 : m.length ≤ 1024) (x : Nat) : ¬ Good (form k v m ++ [x]) := by
  intro h
  have h0 := (parts_form (k := k) (v := v) (m := m) [x] hk hv h2 h3).1
  have := h.2.2.1
  rw [h0] at this
  exact absurd this (by simp)
end Go.Proofs.Ytpliogkcfhcfpaa.Itm
