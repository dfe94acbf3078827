/- The document's Total, and how often a number is in a list. Conditions: the slice's cells hold the numbers. -/
import Derived.Test.YtemamkbcagnigaaQuantLent
import Derived.Test.YtemamkbcagnigaaQuantTotal
namespace Go.Proofs.Ytemamkbcagnigaa
open Go.RowKit

set_option maxHeartbeats 1600000 in
set_option maxRecDepth 20000 in
/-- What the document's Total goes by. -/
theorem refTotal_any (a b : Nat) (w : World) (ha : a < 18446744073709551616) (hb : b < 18446744073709551616) :
    Calls Try.prog 21 #[.int .u64 (a : Int), .int .u64 (b : Int)] w fun e w' => e = .returned (.int .i64 (Qf.tot a b)) ∧ w = w' := by
  have a1 := u64_top a ha
  have b1 := u64_top b hb
  have a2 := u64_flip a ha
  have b2 := u64_flip b hb
  have a3 := u64_low a ha
  have b3 := u64_low b hb
  have key : ∀ x : Nat, x < 18446744073709551616 → (Qf.sgn x = true → Qf.rk x = 9223372036854775807 - Qf.rung x ∧ Qf.rung x ≤ 9223372036854775807) ∧ (Qf.sgn x = false → Qf.rk x = Qf.flip x) := by
    intro x hx
    constructor
    · intro h
      have := Qf.sgn_true h
      unfold Qf.rk Qf.rung
      rw [h]
      simp only [if_true]
      omega
    · intro h
      unfold Qf.rk Qf.flip
      rw [h]
      simp only [Bool.false_eq_true, if_false]
  obtain ⟨ka1, ka2⟩ := key a ha
  obtain ⟨kb1, kb2⟩ := key b hb
  have htot : Qf.tot a b = Qf.cmp3 (Qf.rk a) (Qf.rk b) := rfl
  rw [htot]
  clear key htot
  have hfa := Qf.flip_lt ha
  have hfb := Qf.flip_lt hb
  generalize Qf.rk a = ra at *
  generalize Qf.rk b = rb at *
  have HC : ∀ P : Prop, (ra < rb → P) → (rb < ra → P) → (ra = rb → P) → P := fun P p q r => by
    rcases Nat.lt_trichotomy ra rb with h | h | h
    · exact p h
    · exact r h
    · exact q h
  have c1 : ra < rb → Qf.cmp3 ra rb = -1 := fun h => if_pos h
  have c2 : rb < ra → Qf.cmp3 ra rb = 1 := fun h => by unfold Qf.cmp3; rw [if_neg (by omega), if_pos h]
  have c3 : ra = rb → Qf.cmp3 ra rb = 0 := fun h => by unfold Qf.cmp3; rw [if_neg (by omega), if_neg (by omega)]
  cases hsa : Qf.sgn a
  all_goals cases hsb : Qf.sgn b
  all_goals
    rw [hsa] at a1
    rw [hsb] at b1
    simp only [Bool.false_eq_true, if_false, if_true] at a1 b1
    first
      | (have ea := ka2 hsa; have la : True := trivial)
      | (obtain ⟨ea, la⟩ := ka1 hsa)
    first
      | (have eb := kb2 hsb; have lb : True := trivial)
      | (obtain ⟨eb, lb⟩ := kb1 hsb)
    clear ka1 ka2 kb1 kb2 hsa hsb
    generalize Qf.flip a = fa at *
    generalize Qf.flip b = fb at *
    generalize Qf.rung a = ga at *
    generalize Qf.rung b = gb at *
    refine HC _ ?_ ?_ ?_
  all_goals
    intro hlt
    first
      | rw [c1 hlt]
      | rw [c2 hlt]
      | rw [c3 hlt]
    clear c1 c2 c3 HC
    have z1 : (ra : Int) = _ := congrArg (fun z : Nat => (z : Int)) ea
    have z2 : (rb : Int) = _ := congrArg (fun z : Nat => (z : Int)) eb
    subst ea eb
    clear z1 z2
    go_enter Try.func21, Try.ntmps21
    go_wp2
    go_ret
    exact ⟨rfl, rfl⟩
theorem count_one (y x : Int) : List.count x [y] = if y = x then 1 else 0 := by
  by_cases h : y = x
  · rw [if_pos h, h]; simp
  · rw [if_neg h]; simp [h]

theorem take_snoc (l : List Int) (k : Nat) (h : k < l.length) : l.take (k + 1) = l.take k ++ [l.getD k 0] := by
  rw [List.take_succ_eq_append_getElem h, List.getD_eq_getElem?_getD, List.getElem?_eq_getElem h]; rfl

set_option maxHeartbeats 800000 in
set_option maxRecDepth 20000 in
theorem count_any (v : Value) (l : List Int) (x : Int) (w : World) (hB : U64.Bts w v l) (hl : l.length ≤ 1000000) :
    Calls Try.prog 23 #[v, .int .u64 x] w fun e w' => e = .returned (.int .i64 (l.count x : Nat)) ∧ w = w' := by
  obtain ⟨p, cap, rfl, hr, hn, hp⟩ := hB.form
  have HP := Lib.hid hp
  clear hB hn hp
  go_enter Try.func23, Try.ntmps23
  go_wp2
  go_loop [5, 6] (fun c i => ∃ k : Nat, k ≤ l.length ∧ i = .int .i64 k ∧ c = .int .i64 ((l.take k).count x : Nat)) (fun _ i => l.length - (intOf i).toNat)
  case atStart => exact ⟨0, by omega, rfl, by simp⟩
  case round =>
    obtain ⟨k, hk, rfl, rfl⟩ := hrel
    have hle : (l.take k).count x ≤ k := Nat.le_trans List.count_le_length (List.length_take_le _ _)
    by_cases hlt : k < l.length
    · have hs := take_snoc l k hlt
      have hcnt : (l.take (k + 1)).count x = (l.take k).count x + (if l.getD k 0 = x then 1 else 0) := by
        rw [hs, List.count_append, count_one]
      have HC := Lib.hid hcnt
      obtain ⟨b, off, hpe, hc⟩ := HP.out (by omega)
      subst hpe
      have hck := hc k hlt
      clear hc hs hcnt hr
      generalize l.getD k 0 = y at *
      generalize (l.take k).count x = c at *
      by_cases h : y = x
      · have HY := Lib.hid h
        subst h
        go_wp2
        go_round
        case rel => exact ⟨k + 1, by omega, by go_num, by rw [HC.out, if_pos rfl]; go_num⟩
        case measure => simp [intOf]; omega
      · have HY := Lib.hid h
        go_wp2
        go_round
        case rel => exact ⟨k + 1, by omega, by go_num, by rw [HC.out, if_neg HY.out]; go_num⟩
        case measure => simp [intOf]; omega
    · have he : l.take k = l := List.take_of_length_le (by omega)
      have HE := Lib.hid he
      clear he
      go_wp2
      go_ret
      exact ⟨by rw [HE.out]; rfl, rfl⟩

theorem refTotal_int (a b : Int) (w : World) (ha : U64.Okk a) (hb : U64.Okk b) :
    Calls Try.prog 21 #[.int .u64 a, .int .u64 b] w fun e w' => e = .returned (.int .i64 (Qf.tot a.toNat b.toNat)) ∧ w = w' := by
  have h : ∀ x : Int, U64.Okk x → x.toNat < 18446744073709551616 ∧ ((x.toNat : Nat) : Int) = x := by
    intro x h
    unfold U64.Okk at h
    have h1 : IntKind.u64.min = 0 := rfl
    have h2 : IntKind.u64.max = 18446744073709551615 := rfl
    simp only [Lit.wf, Bool.and_eq_true, decide_eq_true_eq] at h
    omega
  have := refTotal_any a.toNat b.toNat w (h a ha).1 (h b hb).1
  rw [(h a ha).2, (h b hb).2] at this
  exact this
end Go.Proofs.Ytemamkbcagnigaa
