/- What the program's reader tells of counts and texts, over any world. Conditions: the reader's block and its bytes. -/
import Derived.Test.YtkchoelegdknoaaCodeCnt
import Derived.Test.YtkchoelegdknoaaCodeTake
namespace Go.Proofs.Ytkchoelegdknoaa
open Go.RowKit

set_option maxHeartbeats 400000 in
set_option maxRecDepth 20000 in
theorem Uv_err (lo : Nat → Prop) (B e : Nat) (l : List Nat) (w : World) (hR : Rd 77 lo w B l e) (he : e ≠ 0) :
    Calls Try.prog 73 #[.pointer (some ⟨B, 0, none⟩)] w fun en w' => en = .returned (.int .u64 0) ∧ w = w' := by
  have HR := Lib.hid hR
  have h0 : ((e : Int) == 0) = false := by simp; omega
  have h1 : ((e : Int) != 0) = true := by simp; omega
  have h2 : ¬ (e : Int) = 0 := by omega
  clear hR he
  go_enter Try.func73, Try.ntmps73
  go_wp2_with fail
  refine (err_any lo B e l _ HR.out).mono ?_
  rintro en w' ⟨rfl, rfl⟩
  go_wp2_with fail
  go_ret
  exact ⟨rfl, rfl⟩

set_option maxHeartbeats 400000 in
set_option maxRecDepth 20000 in
theorem Uv_nil (w : World) :
    Calls Try.prog 73 #[.pointer none] w fun en w' => en = .returned (.int .u64 0) ∧ w = w' := by
  go_enter Try.func73, Try.ntmps73
  go_wp2_with fail
  refine (err_nil _).mono ?_
  rintro en w' ⟨rfl, rfl⟩
  go_wp2_with fail
  go_ret
  exact ⟨rfl, rfl⟩

set_option maxHeartbeats 800000 in
set_option maxRecDepth 20000 in
theorem Uv_none (lo : Nat → Prop) (B : Nat) (l : List Nat) (w : World) (hR : Rd 77 lo w B l 0) (hk : (Cod.cnt 0 l).2 = 0) :
    Calls Try.prog 73 #[.pointer (some ⟨B, 0, none⟩)] w fun e w' => e = .returned (.int .u64 0) ∧ Rd 77 lo w' B l 4 ∧ w.grownBy w' (some B) := by
  have HR := Lib.hid hR
  obtain ⟨s, hS⟩ := hR
  have HS := Lib.hid hS
  have HB := Lib.hid hS.2.1
  obtain ⟨p, cap, rfl, -, -, -⟩ := HB.out.form
  have hc0 := cell2_0 hS.1
  have hc1 := cell2_1 hS.1
  have hf := free2 hS.1 1
  have HK := Lib.hid hk
  clear hS hk
  go_enter Try.func73, Try.ntmps73
  go_wp2_with fail
  refine (err_any lo B 0 l _ HR.out).mono ?_
  rintro e w' ⟨rfl, rfl⟩
  go_wp2_with fail
  refine (firstUv_any _ l _ HB.out).mono ?_
  rintro e w' ⟨rfl, rfl⟩
  rw [HK.out]
  go_wp2_with fail
  go_ret
  exact ⟨rfl, HR.out.fail 4, grownBy_setCell _ _ _ _⟩

set_option maxHeartbeats 800000 in
set_option maxRecDepth 20000 in
theorem Uv_ok (lo : Nat → Prop) (B : Nat) (l : List Nat) (w : World) (hR : Rd 77 lo w B l 0) (hk : (Cod.cnt 0 l).2 ≠ 0) :
    Calls Try.prog 73 #[.pointer (some ⟨B, 0, none⟩)] w fun e w' => e = .returned (.int .u64 ((Cod.cnt 0 l).1 : Nat)) ∧ Rd 77 lo w' B (l.drop (Cod.cnt 0 l).2) 0 ∧ w.grownBy w' (some B) := by
  have HR := Lib.hid hR
  obtain ⟨s, hS⟩ := hR
  have HS := Lib.hid hS
  have HB := Lib.hid hS.2.1
  have hkl := Cod.cnt_len l 0
  have HF := Lib.hid (firstUv_any s l w HB.out)
  generalize Cod.cnt 0 l = c at hk hkl HF ⊢
  obtain ⟨n, k⟩ := c
  have hk1 : 0 < k := by simp at hk; omega
  have hk2 : k ≤ l.length := hkl
  obtain ⟨p, cap, rfl, hr, hn, hp⟩ := HB.out.form
  obtain ⟨b, off, rfl, hc⟩ := hp (by omega)
  have hcap := hr.1
  have hcap2 := hr.2
  have hlen := HB.out.len
  have hc0 := cell2_0 hS.1
  have hf := free2 hS.1 0
  clear hS hk hkl hr hn hp hc
  go_enter Try.func73, Try.ntmps73
  go_wp2_with fail
  refine (err_any lo B 0 l _ HR.out).mono ?_
  rintro e w' ⟨rfl, rfl⟩
  go_wp2_with fail
  refine HF.out.mono ?_
  rintro e w' ⟨rfl, rfl⟩
  go_wp2_with fail
  all_goals
    go_ret
    refine ⟨rfl, ?_, grownBy_setCell _ _ _ _⟩
    refine HS.out.move ?_ rfl
    first
      | exact HS.out.2.1.drop k hk2
      | (rw [show l.drop k = [] from List.drop_eq_nil_of_le (by omega)]
         exact bts_zero _ _ _ _ (by omega) (by omega))

/-- A count is read. -/
theorem Uv_any (lo : Nat → Prop) (B e : Nat) (l : List Nat) (w : World) (hR : Rd 77 lo w B l e) :
    Calls Try.prog 73 #[.pointer (some ⟨B, 0, none⟩)] w fun en w' => en = .returned (.int .u64 ((Cod.rdUv l e).1 : Nat)) ∧ Rd 77 lo w' B (Cod.rdUv l e).2.1 (Cod.rdUv l e).2.2 ∧ w.grownBy w' (some B) := by
  unfold Cod.rdUv
  by_cases he : e ≠ 0
  · rw [if_pos he]
    exact (Uv_err lo B e l w hR he).mono fun en w' ⟨h1, h2⟩ => by subst h2; exact ⟨h1, hR, grownBy_refl _ _⟩
  · obtain rfl : e = 0 := by omega
    rw [if_neg he]
    by_cases hk : (Cod.cnt 0 l).2 = 0
    · rw [if_pos hk]; exact Uv_none lo B l w hR hk
    · rw [if_neg hk]; exact Uv_ok lo B l w hR hk

set_option maxHeartbeats 400000 in
set_option maxRecDepth 20000 in
theorem Text_err (lo : Nat → Prop) (B e : Nat) (l : List Nat) (most : Int) (w : World) (hR : Rd 77 lo w B l e) (he : e ≠ 0) :
    Calls Try.prog 51 #[.pointer (some ⟨B, 0, none⟩), .int .i64 most] w fun en w' => en = .returned (.slice none 0 0) ∧ w = w' := by
  have HR := Lib.hid hR
  have h0 : ((e : Int) == 0) = false := by simp; omega
  have h1 : ((e : Int) != 0) = true := by simp; omega
  have h2 : ¬ (e : Int) = 0 := by omega
  clear hR he
  go_enter Try.func51, Try.ntmps51
  go_wp2_with fail
  refine (err_any lo B e l _ HR.out).mono ?_
  rintro en w' ⟨rfl, rfl⟩
  go_wp2_with fail
  go_ret
  exact ⟨rfl, rfl⟩

set_option maxHeartbeats 400000 in
set_option maxRecDepth 20000 in
theorem Text_nil (most : Int) (w : World) :
    Calls Try.prog 51 #[.pointer none, .int .i64 most] w fun en w' => en = .returned (.slice none 0 0) ∧ w = w' := by
  go_enter Try.func51, Try.ntmps51
  go_wp2_with fail
  refine (err_nil _).mono ?_
  rintro en w' ⟨rfl, rfl⟩
  go_wp2_with fail
  go_ret
  exact ⟨rfl, rfl⟩

set_option maxHeartbeats 800000 in
set_option maxRecDepth 20000 in
theorem Text_none (lo : Nat → Prop) (B : Nat) (l : List Nat) (most : Int) (w : World) (hR : Rd 77 lo w B l 0) (hk : (Cod.cnt 0 l).2 = 0) :
    Calls Try.prog 51 #[.pointer (some ⟨B, 0, none⟩), .int .i64 most] w fun e w' => e = .returned (.slice none 0 0) ∧ Rd 77 lo w' B l 4 ∧ w.grownBy w' (some B) := by
  have HR := Lib.hid hR
  obtain ⟨s, hS⟩ := hR
  have HS := Lib.hid hS
  have HB := Lib.hid hS.2.1
  obtain ⟨p, cap, rfl, hr, hn, -⟩ := HB.out.form
  have hcap := hr.1
  have hcap2 := hr.2
  have hlen := HB.out.len
  have hc0 := cell2_0 hS.1
  have hc1 := cell2_1 hS.1
  have hf := free2 hS.1 1
  have HK := Lib.hid hk
  have hcz : cap = 0 ∨ 0 < cap := by omega
  clear hS hk hr
  cases p with
  | none =>
    obtain rfl := hn rfl
    clear hn hcz
    go_enter Try.func51, Try.ntmps51
    go_wp2_with fail
    refine (err_any lo B 0 l _ HR.out).mono ?_
    rintro e w' ⟨rfl, rfl⟩
    go_wp2_with fail
    refine (firstUv_any _ l _ HB.out).mono ?_
    rintro e w' ⟨rfl, rfl⟩
    rw [HK.out]
    go_wp2_with fail
    go_ret
    exact ⟨rfl, HR.out.fail 4, grownBy_setCell _ _ _ _⟩
  | some ad =>
    clear hn
    go_enter Try.func51, Try.ntmps51
    go_wp2_with fail
    refine (err_any lo B 0 l _ HR.out).mono ?_
    rintro e w' ⟨rfl, rfl⟩
    go_wp2_with fail
    refine (firstUv_any _ l _ HB.out).mono ?_
    rintro e w' ⟨rfl, rfl⟩
    rw [HK.out]
    go_wp2_with fail
    go_ret
    exact ⟨rfl, HR.out.fail 4, grownBy_setCell _ _ _ _⟩
end Go.Proofs.Ytkchoelegdknoaa
