/- The program's small functions of slots: what bytes are left, how many slots are without those at the end, a slot's mark, noughts. Conditions: the values read so; the room. -/
import Derived.Test.YtbfpmpomcaijcaaSlApi
namespace Go.Proofs.Ytbfpmpomcaijcaa
open Go.RowKit

namespace Sl
/-- What is left of some bytes behind texts, one after the other; it stops below 0. -/
def spr : List (List Nat) → Int → Int
  | [], a => a
  | d :: r, a => if a - (2 + (d.length : Int)) < 0 then a - (2 + (d.length : Int)) else spr r (a - (2 + (d.length : Int)))
theorem tot_cons (d : List Nat) (r : List (List Nat)) : tot (d :: r) = d.length + tot r := by simp [tot]
theorem spr_ge : ∀ {ls : List (List Nat)} {a : Int}, 2 * (ls.length : Int) + (tot ls : Int) ≤ a → spr ls a = a - (2 * (ls.length : Int) + (tot ls : Int))
  | [], a, _ => by simp [spr, tot]
  | d :: r, a, h => by
    rw [tot_cons, List.length_cons] at h ⊢
    unfold spr
    rw [if_neg (by omega), spr_ge (by omega)]
    omega
theorem spr_lt : ∀ {ls : List (List Nat)} {a : Int}, 0 ≤ a → a < 2 * (ls.length : Int) + (tot ls : Int) → spr ls a < 0
  | [], a, h0, h => by simp [tot] at h; omega
  | d :: r, a, h0, h => by
    rw [tot_cons, List.length_cons] at h
    unfold spr
    split
    · assumption
    · exact spr_lt (by omega) (by omega)
def spare (ls : List (List Nat)) : Int := spr ls 494
theorem spare_ge {s : S} (h : took s ≤ 500) : spare s.data = 500 - (took s : Int) := by
  have e : took s = 6 + 2 * s.data.length + tot s.data := rfl
  unfold spare
  rw [spr_ge (by omega), e]
  omega
theorem spare_lt {s : S} (h : 500 < took s) : spare s.data < 0 := by
  have e : took s = 6 + 2 * s.data.length + tot s.data := rfl
  exact spr_lt (by decide) (by omega)
theorem drop_cons {ls : List (List Nat)} {k : Nat} (h : k < ls.length) : ls.drop k = ls.getD k [] :: ls.drop (k + 1) := by
  rw [List.drop_eq_getElem_cons h, List.getD_eq_getElem?_getD, List.getElem?_eq_getElem h]; rfl
/-- A slot's mark. -/
def mk (f : Bool) (n : Nat) : Nat := if f then n + 1 else 0
def zeros (l : List Nat) : Bool := l.all (· == 0)
end Sl

set_option maxHeartbeats 1600000 in
set_option maxRecDepth 20000 in
theorem spare_any (dv : Value) (ls : List (List Nat)) (w : World) (h : DAt w dv ls) (hl : ls.length ≤ 1000000) (ht : Sl.tot ls ≤ 1000000) :
    Calls Try.prog 30 #[dv] w fun e w' => e = .returned (.int .i64 (Sl.spare ls)) ∧ w = w' := by
  obtain ⟨p, cap, rfl, -, -, hform⟩ := h.form2
  have HF := Lib.hid hform
  have HT := Lib.hid ht
  clear h hform ht
  obtain ⟨r, hr⟩ : ∃ r, r = Sl.spare ls := ⟨_, rfl⟩
  rw [← hr]
  have HR := Lib.hid hr
  clear hr
  go_enter Try.func30, Try.ntmps30
  go_wp2_with fail
  go_loopw [3, 8] (fun a i wr => ∃ (k : Nat) (x : Int), k ≤ ls.length ∧ i = .int .i64 k ∧ a = .int .i64 x ∧ 0 ≤ x ∧ x ≤ 494 ∧ Sl.spr (ls.drop k) x = r ∧ w = wr) (fun _ i _ => ls.length - (intOf i).toNat)
  case atStart => exact ⟨0, 494, Nat.zero_le _, rfl, rfl, by decide, by decide, by rw [HR.out]; rfl, rfl⟩
  case round =>
    obtain ⟨k, x, hk, rfl, rfl, hx0, hx1, hs, rfl⟩ := hrel
    have HS := Lib.hid hs
    clear hs
    by_cases hlt : k < ls.length
    · obtain ⟨b, off, rfl, hc⟩ := HF.out (by omega)
      obtain ⟨q, c, hu, -⟩ := hc k hlt
      have hm := Sl.tot_ge hlt
      have hm2 : (ls.getD k []).length ≤ 1000000 := Nat.le_trans hm HT.out
      have HS2 : Hid (Sl.spr (ls.getD k [] :: ls.drop (k + 1)) x = r) := by rw [← Sl.drop_cons hlt]; exact HS.out
      have HLT := Lib.hid hlt
      obtain ⟨d, hd⟩ : ∃ d, d = ls.getD k [] := ⟨_, rfl⟩
      rw [← hd] at hu hm2 HS2
      have hw1 := IntWalk.i64_in (2 + (d.length : Int)) (by omega)
      have hw2 := IntWalk.i64_in (x - (2 + (d.length : Int))) (by omega)
      have hw3 := IntWalk.i64_in ((k : Int) + 1) (by omega)
      clear hc hm hd
      by_cases h1 : x - (2 + (d.length : Int)) < 0
      · have HR2 : Hid (x - (2 + (d.length : Int)) = r) := by
          have := HS2.out
          unfold Sl.spr at this
          rw [if_pos h1] at this
          exact this
        go_wp2_with fail
        go_ret
        exact ⟨by rw [HR2.out]; rfl, rfl⟩
      · have HR2 : Hid (Sl.spr (ls.drop (k + 1)) (x - (2 + (d.length : Int))) = r) := by
          have := HS2.out
          unfold Sl.spr at this
          rw [if_neg h1] at this
          exact this
        go_wp2_with fail
        go_roundw
        case rel => exact ⟨k + 1, x - (2 + (d.length : Int)), by have := HLT.out; omega, by go_num, rfl, by omega, by omega, HR2.out, by first | rfl | trivial⟩
        case measure => have := HLT.out; simp [intOf]; omega
    · obtain rfl : k = ls.length := by omega
      have HR2 : Hid (x = r) := by
        have := HS.out
        rw [List.drop_length] at this
        exact this
      go_wp2_with fail
      go_ret
      exact ⟨by rw [HR2.out]; rfl, rfl⟩

set_option maxHeartbeats 1600000 in
set_option maxRecDepth 20000 in
theorem trimmed_any (fv : Value) (l : List Bool) (w : World) (h : Bo.Bts w fv (FB l)) :
    Calls Try.prog 31 #[fv] w fun e w' => e = .returned (.int .i64 (Sl.trimN l l.length : Nat)) ∧ w = w' := by
  have hlen := h.len
  rw [fb_length] at hlen
  obtain ⟨p, cap, h1, -, -, h4⟩ := h.form
  rw [fb_length] at h1 h4
  subst h1
  have HF := Lib.hid h4
  clear h h4
  obtain ⟨r, hr⟩ : ∃ r, r = Sl.trimN l l.length := ⟨_, rfl⟩
  rw [← hr]
  have HR := Lib.hid hr
  clear hr
  go_enter Try.func31, Try.ntmps31
  go_wp2_with fail
  go_loopw [3] (fun i wr => ∃ k : Nat, k ≤ l.length ∧ i = .int .i64 k ∧ Sl.trimN l k = r ∧ w = wr) (fun i _ => (intOf i).toNat)
  case atStart => exact ⟨l.length, Nat.le_refl _, rfl, HR.out.symm, rfl⟩
  case round =>
    obtain ⟨k, hk, rfl, hs, rfl⟩ := hrel
    by_cases h0 : 0 < k
    · have hi0 : (0 : Int) < (k : Int) := by omega
      obtain ⟨b, off, rfl, hc⟩ := HF.out (by omega)
      have hu := hc (k - 1) (by omega)
      rw [fb_getD] at hu
      obtain ⟨m, rfl⟩ : ∃ m, k = m + 1 := ⟨k - 1, by omega⟩
      rw [show m + 1 - 1 = m from rfl] at hu
      have hw1 := IntWalk.i64_in (((m + 1 : Nat) : Int) - 1) (by omega)
      have hz1 : (0 : Int) ≤ ((m + 1 : Nat) : Int) - 1 := by omega
      have hz2 : ((m + 1 : Nat) : Int) - 1 < (l.length : Int) := by omega
      have hz3 : (((m + 1 : Nat) : Int) - 1).toNat = m := by omega
      unfold Sl.trimN at hs
      have HK := Lib.hid hk
      clear hc
      cases hf : l.getD m false with
      | true =>
        rw [hf] at hs hu
        rw [if_pos rfl] at hs
        have HS := Lib.hid hs
        clear hs hf
        go_wp2_with fail
        go_ret
        exact ⟨by rw [HS.out]; rfl, rfl⟩
      | false =>
        rw [hf] at hs hu
        rw [if_neg (by decide)] at hs
        have HS := Lib.hid hs
        clear hs hf
        go_wp2_with fail
        go_roundw
        case rel => exact ⟨m, by have := HK.out; omega, by go_num, HS.out, by first | rfl | trivial⟩
        case measure => simp [intOf]
    · obtain rfl : k = 0 := by omega
      have HS := Lib.hid hs
      clear hs
      go_wp2_with fail
      go_ret
      exact ⟨by rw [← HS.out]; rfl, rfl⟩

set_option maxRecDepth 20000 in
theorem mark_any (f : Bool) (p : Option Addr) (n c : Nat) (w : World) (hn : n ≤ 60000) :
    Calls Try.prog 29 #[.bool f, .slice p n c] w fun e w' => e = .returned (.int .u16 (Sl.mk f n : Nat)) ∧ w = w' := by
  have hw1 := IntWalk.i64_in ((n : Int) + 1) (by omega)
  have hw2 : IntKind.u16.wrap ((n : Int) + 1) = (n : Int) + 1 := by
    show ((n : Int) + 1) % 65536 = (n : Int) + 1
    omega
  cases f with
  | true =>
    go_enter Try.func29, Try.ntmps29
    go_wp2_with fail
    go_ret
    exact ⟨by unfold Sl.mk; rfl, rfl⟩
  | false =>
    go_enter Try.func29, Try.ntmps29
    go_wp2_with fail
    go_ret
    exact ⟨rfl, rfl⟩

set_option maxHeartbeats 1600000 in
set_option maxRecDepth 20000 in
theorem noughts_any (v : Value) (l : List Nat) (w : World) (h : Bts w v l) :
    Calls Try.prog 40 #[v] w fun e w' => e = .returned (.bool (Sl.zeros l)) ∧ w = w' := by
  have hlen := h.len
  obtain ⟨p, cap, rfl, -, -, hform⟩ := h.form
  have HF := Lib.hid hform
  clear h hform
  obtain ⟨r, hr⟩ : ∃ r, r = Sl.zeros l := ⟨_, rfl⟩
  rw [← hr]
  have HR := Lib.hid hr
  clear hr
  go_enter Try.func40, Try.ntmps40
  go_wp2_with fail
  go_loopw [7] (fun i wr => ∃ k : Nat, k ≤ l.length ∧ i = .int .i64 k ∧ Sl.zeros (l.drop k) = r ∧ w = wr) (fun i _ => l.length - (intOf i).toNat)
  case atStart => exact ⟨0, Nat.zero_le _, rfl, HR.out.symm, rfl⟩
  case round =>
    obtain ⟨k, hk, rfl, hs, rfl⟩ := hrel
    have HS := Lib.hid hs
    clear hs
    by_cases hlt : k < l.length
    · obtain ⟨b, off, rfl, hc⟩ := HF.out (by omega)
      have hu := hc k hlt
      have HS2 : Hid (((l.getD k 0 == 0) && Sl.zeros (l.drop (k + 1))) = r) := by
        have h1 := HS.out
        have h3 : l.drop k = l.getD k 0 :: l.drop (k + 1) := by
          rw [List.drop_eq_getElem_cons hlt, List.getD_eq_getElem?_getD, List.getElem?_eq_getElem hlt]; rfl
        rw [h3] at h1
        exact h1
      have HLT := Lib.hid hlt
      obtain ⟨x, hx⟩ : ∃ x, x = l.getD k 0 := ⟨_, rfl⟩
      rw [← hx] at hu HS2
      have hw3 := IntWalk.i64_in ((k : Int) + 1) (by omega)
      clear hc hx
      by_cases h1 : x = 0
      · subst h1
        have HR2 : Hid (Sl.zeros (l.drop (k + 1)) = r) := by
          have h2 := HS2.out
          show _ = _
          rw [← h2]; rfl
        go_wp2_with fail
        go_roundw
        case rel => exact ⟨k + 1, by have := HLT.out; omega, by go_num, HR2.out, by first | rfl | trivial⟩
        case measure => have := HLT.out; simp [intOf]; omega
      · have HR2 : Hid (false = r) := by
          have h2 := HS2.out
          have h3 : (x == 0) = false := by simpa using h1
          rw [h3] at h2
          exact h2
        have hx0 : ((x : Int) != 0) = true := by simp; omega
        go_wp2_with fail
        go_ret
        exact ⟨by rw [← HR2.out]; rfl, rfl⟩
    · obtain rfl : k = l.length := by omega
      have HR2 : Hid (true = r) := by
        have := HS.out
        rw [List.drop_length] at this
        exact this
      go_wp2_with fail
      go_ret
      exact ⟨by rw [← HR2.out]; rfl, rfl⟩
end Go.Proofs.Ytbfpmpomcaijcaa
