/- How far two lists of numbers are: what the program's Dist, the document's, the law's same, known and cut answer. Conditions: the slices' cells hold the numbers. -/
import Derived.Test.YtljichhmfbefaaaVectNum
import Derived.Outline
namespace Go.Proofs.Ytljichhmfbefaaa
open Go.RowKit

namespace Vp
def dsum : List Int → List Int → Int
  | x :: a, y :: b => ab (x - y) + dsum a b
  | _, _ => 0

theorem ab_nonneg (n : Int) : 0 ≤ ab n := by unfold ab; split <;> omega

theorem dsum_snoc : ∀ (a b : List Int) (x y : Int), a.length = b.length → dsum (a ++ [x]) (b ++ [y]) = dsum a b + ab (x - y)
  | [], [], x, y, _ => by simp [dsum]
  | u :: a, v :: b, x, y, h => by
    have := dsum_snoc a b x y (by simpa using h)
    simp only [List.cons_append, dsum, this]
    omega
  | [], _ :: _, _, _, h => by simp at h
  | _ :: _, [], _, _, h => by simp at h

theorem dsum_nonneg : ∀ a b : List Int, 0 ≤ dsum a b
  | [], _ => by simp [dsum]
  | _ :: _, [] => by simp [dsum]
  | u :: a, v :: b => by have := dsum_nonneg a b; have := ab_nonneg (u - v); simp only [dsum]; omega

theorem okk32 {x : Int} (h : I32.Okk x) : -2147483648 ≤ x ∧ x ≤ 2147483647 := by
  unfold I32.Okk at h
  have h1 : IntKind.i32.min = -2147483648 := rfl
  have h2 : IntKind.i32.max = 2147483647 := rfl
  simp only [Lit.wf, Bool.and_eq_true, decide_eq_true_eq] at h
  omega

theorem ab_le {x y : Int} (hx : I32.Okk x) (hy : I32.Okk y) : ab (x - y) ≤ 4294967295 := by
  have := okk32 hx
  have := okk32 hy
  unfold ab; split <;> omega

theorem dsum_le : ∀ a b : List Int, (∀ x ∈ a, I32.Okk x) → (∀ x ∈ b, I32.Okk x) → dsum a b ≤ 4294967295 * a.length
  | [], _, _, _ => by simp [dsum]
  | u :: a, [], _, _ => by simp only [dsum, List.length_cons]; omega
  | u :: a, v :: b, ha, hb => by
    have := dsum_le a b (fun x hx => ha x (by simp [hx])) (fun x hx => hb x (by simp [hx]))
    have := ab_le (ha u (by simp)) (hb v (by simp))
    simp only [dsum, List.length_cons]
    omega

theorem dsum_comm : ∀ a b : List Int, dsum a b = dsum b a
  | [], [] => rfl
  | [], _ :: _ => rfl
  | _ :: _, [] => rfl
  | u :: a, v :: b => by
    have := dsum_comm a b
    have h : ab (u - v) = ab (v - u) := by unfold ab; split <;> split <;> omega
    simp only [dsum, this, h]

theorem dsum_zero : ∀ a b : List Int, a.length = b.length → (dsum a b = 0 ↔ a = b)
  | [], [], _ => by simp [dsum]
  | [], _ :: _, h => by simp at h
  | _ :: _, [], h => by simp at h
  | u :: a, v :: b, h => by
    have ih := dsum_zero a b (by simpa using h)
    have h1 := dsum_nonneg a b
    have h2 := ab_nonneg (u - v)
    have h3 : ab (u - v) = 0 ↔ u = v := by unfold ab; split <;> omega
    simp only [dsum, List.cons.injEq]
    rw [← ih, ← h3]
    omega

theorem dsum_tri : ∀ a b c : List Int, a.length = b.length → b.length = c.length → dsum a c ≤ dsum a b + dsum b c
  | [], [], [], _, _ => by simp [dsum]
  | u :: a, v :: b, x :: c, h, k => by
    have ih := dsum_tri a b c (by simpa using h) (by simpa using k)
    have h3 : ab (u - x) ≤ ab (u - v) + ab (v - x) := by unfold ab; split <;> split <;> split <;> omega
    simp only [dsum]
    omega
  | [], _ :: _, _, h, _ => by simp at h
  | _ :: _, [], _, h, _ => by simp at h
  | [], [], _ :: _, _, h => by simp at h
  | _ :: _, _ :: _, [], _, h => by simp at h

def may (a b : List Int) : Prop := a.length = b.length ∧ 1 ≤ a.length ∧ a.length ≤ 4096
instance (a b : List Int) : Decidable (may a b) := by unfold may; infer_instance
def far (a b : List Int) : Int := if may a b then dsum a b else 0
def ferr (a b : List Int) : Int := if may a b then 0 else 9

theorem dsum_step (a b : List Int) (k : Nat) (h : a.length = b.length) (hk : k < a.length) : dsum (a.take (k + 1)) (b.take (k + 1)) = dsum (a.take k) (b.take k) + ab (a.getD k 0 - b.getD k 0) := by
  rw [I32.take_succ_getD a k hk, I32.take_succ_getD b k (by omega)]
  exact dsum_snoc _ _ _ _ (by simp; omega)
end Vp

/-- What Dist answers. -/
def DistAns (a b : List Int) (w : World) (e : Ending) (w' : World) : Prop := e = .returned (.tuple #[.int .i64 (Vp.far a b), .int .i64 (Vp.ferr a b)]) ∧ w = w'

set_option maxHeartbeats 800000 in
set_option maxRecDepth 20000 in
theorem dist_any (va vb : Value) (a b : List Int) (w : World) (hA : I32.Bts w va a) (hB : I32.Bts w vb b) :
    Calls Try.prog 10 #[va, vb] w (DistAns a b w) := by
  unfold DistAns
  have HA := Lib.hid hA
  have HB := Lib.hid hB
  obtain ⟨pa, ca, rfl, hra, -, hpa⟩ := hA.form
  obtain ⟨pb, cb, rfl, hrb, -, hpb⟩ := hB.form
  have la := hA.len
  have lb := hB.len
  have HPA := Lib.hid hpa
  have HPB := Lib.hid hpb
  clear hpa hpb hA hB
  by_cases hm : Vp.may a b
  · have e1 : Vp.far a b = Vp.dsum a b := if_pos hm
    have e2 : Vp.ferr a b = 0 := if_pos hm
    rw [e1, e2]
    clear e1 e2
    obtain ⟨h1, h2, h3⟩ := hm
    go_enter Try.func10, Try.ntmps10
    go_wp2_with fail
    go_loop [6, 26] (fun s i => ∃ k : Nat, k ≤ a.length ∧ i = .int .i64 k ∧ s = .int .i64 (Vp.dsum (a.take k) (b.take k))) (fun _ i => a.length - (intOf i).toNat)
    case atStart => exact ⟨0, by omega, rfl, by simp [Vp.dsum]⟩
    case round =>
      obtain ⟨k, hk, rfl, rfl⟩ := hrel
      by_cases hlt : k < a.length
      · have HS := Lib.hid (Vp.dsum_step a b k h1 hlt)
        have hle := Vp.dsum_le (a.take k) (b.take k) (HA.out.mem_take k) (HB.out.mem_take k)
        rw [List.length_take] at hle
        have hge := Vp.dsum_nonneg (a.take k) (b.take k)
        have hx := Vp.okk32 (HA.out.getD k)
        have hy := Vp.okk32 (HB.out.getD k)
        have hxy := Vp.ab_le (HA.out.getD k) (HB.out.getD k)
        have hxy0 := Vp.ab_nonneg (a.getD k 0 - b.getD k 0)
        obtain ⟨ba, oa, rfl, hca⟩ := HPA.out (by omega)
        obtain ⟨bb, ob, rfl, hcb⟩ := HPB.out (by omega)
        have hc1 := hca k hlt
        have hc2 := hcb k (by omega)
        clear hca hcb HPA HPB HA HB
        generalize a.getD k 0 = x at *
        generalize b.getD k 0 = y at *
        generalize Vp.dsum (a.take k) (b.take k) = s at *
        have hs := HS.out
        have c1 : IntKind.i64.wrap x = x := IntWalk.i64_in _ (by omega)
        have c2 : IntKind.i64.wrap y = y := IntWalk.i64_in _ (by omega)
        have c3 : IntKind.i64.wrap (x - y) = x - y := IntWalk.i64_in _ (by omega)
        have c4 : IntKind.i64.wrap (s + Vp.ab (x - y)) = s + Vp.ab (x - y) := IntWalk.i64_in _ (by omega)
        have hk' : k < b.length := by omega
        clear hs
        go_wp2_with ((with_reducible refine (size_any _ _ (by omega) (by omega)).mono ?_); rintro e w' ⟨rfl, rfl⟩)
        go_round
        case rel => exact ⟨k + 1, by omega, by go_num, by rw [HS.out]⟩
        case measure => simp [intOf]; omega
      · have e1 : a.take k = a := List.take_of_length_le (by omega)
        have e2 : b.take k = b := List.take_of_length_le (by omega)
        rw [e1, e2]
        clear e1 e2
        go_wp2_with fail
        go_ret2
        exact ⟨rfl, rfl⟩
  · have e1 : Vp.far a b = 0 := if_neg hm
    have e2 : Vp.ferr a b = 9 := if_neg hm
    rw [e1, e2]
    unfold Vp.may at hm
    clear e1 e2
    go_enter Try.func10, Try.ntmps10
    by_cases h1 : a.length = b.length
    · by_cases h2 : 1 ≤ a.length
      · have h3 : 4096 < a.length := by omega
        go_wp2_with fail
        go_ret2
        exact ⟨rfl, rfl⟩
      · have h3 : a.length < 1 := by omega
        go_wp2_with fail
        go_ret2
        exact ⟨rfl, rfl⟩
    · go_wp2_with fail
      go_ret2
      exact ⟨rfl, rfl⟩
end Go.Proofs.Ytljichhmfbefaaa
