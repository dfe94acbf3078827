/- What the reader's fixed numbers are, over any world. Conditions: the reader's block and its bytes. -/
import Derived.Test.YtkchoelegdknoaaCodeRd
import Derived.Test.YtkchoelegdknoaaCodePut
namespace Go.Proofs.Ytkchoelegdknoaa
open Go.RowKit

theorem pow256 (k : Nat) : (2 : Nat) ^ (8 * k) = 256 ^ k := by rw [Nat.pow_mul]
theorem shl_cast (x k : Nat) : (x : Int) * 2 ^ (8 * k) = ((x * 256 ^ k : Nat) : Int) := by
  rw [← pow256 k, Int.natCast_mul, Int.natCast_pow]; rfl
theorem shl_lt (x k c : Nat) (hx : x < 256) (hk : k < c) : x * 256 ^ k < 256 ^ c := by
  have h1 : x * 256 ^ k < 256 ^ (k + 1) := by
    rw [Nat.pow_succ, Nat.mul_comm]
    exact Nat.mul_lt_mul_of_pos_left hx (Nat.pow_pos (by decide))
  exact Nat.lt_of_lt_of_le h1 (Nat.pow_le_pow_right (by decide) hk)

theorem or_shl8 (acc x k : Nat) (hk : k < 1) (ha : acc < 256 ^ k) (hx : x < 256) : bits .or .u8 (acc : Int) (IntKind.u8.wrap ((x : Int) * 2 ^ (8 * k))) = ((acc + x * 256 ^ k : Nat) : Int) := by
  have h1 : x * 256 ^ k < 256 := shl_lt x k 1 hx hk
  have h2 : acc < 256 := Nat.lt_of_lt_of_le ha (Nat.pow_le_pow_right (i := k) (j := 1) (by decide : 256 > 0) (by omega))
  rw [shl_cast]
  have hw : IntKind.u8.wrap ((x * 256 ^ k : Nat) : Int) = ((x * 256 ^ k : Nat) : Int) := by
    rw [show IntKind.u8.wrap ((x * 256 ^ k : Nat) : Int) = ((x * 256 ^ k : Nat) : Int) % 256 by simp [IntKind.wrap, IntKind.bits, IntKind.signed]]
    omega
  rw [hw, u8_or_nat _ _ h2 h1, Nat.or_comm, nat_join (8 * k) _ _ (by rw [pow256]; exact Nat.mul_mod_left _ _) (by rw [pow256]; exact ha), Nat.add_comm]

theorem num_step8 (l : List Nat) (k : Nat) (x : Nat) (hk : k < 1) (hl : k < l.length) (hs : ∀ y ∈ l, y < 256) (hx : x < 256) (hN : l.take (k + 1) = l.take k ++ [x]) :
    bits .or .u8 (Cod.num (l.take k) : Nat) (IntKind.u8.wrap ((x : Int) * 2 ^ (8 * k))) = (Cod.num (l.take (k + 1)) : Nat) := by
  have hll : (l.take k).length = k := by simp; omega
  have ha : Cod.num (l.take k) < 256 ^ k := by
    have := Cod.num_lt (l.take k) (fun y hy => hs y (List.mem_of_mem_take hy))
    rwa [hll] at this
  rw [or_shl8 _ x k hk ha hx, hN, Cod.num_snoc, hll]

set_option maxHeartbeats 400000 in
set_option maxRecDepth 20000 in
theorem take8_err (lo : Nat → Prop) (B e : Nat) (l : List Nat) (w : World) (hR : Rd 77 lo w B l e) (he : e ≠ 0) :
    Calls Try.prog 70 #[.pointer (some ⟨B, 0, none⟩)] w fun en w' => en = .returned (.int .u8 0) ∧ w = w' := by
  have HR := Lib.hid hR
  have h0 : ((e : Int) == 0) = false := by simp; omega
  have h1 : ((e : Int) != 0) = true := by simp; omega
  have h2 : ¬ (e : Int) = 0 := by omega
  clear hR he
  go_enter Try.func70, Try.ntmps70
  go_wp2_with fail
  refine (err_any lo B e l _ HR.out).mono ?_
  rintro en w' ⟨rfl, rfl⟩
  go_wp2_with fail
  go_ret
  exact ⟨rfl, rfl⟩

set_option maxHeartbeats 400000 in
set_option maxRecDepth 20000 in
theorem take8_nil (w : World) :
    Calls Try.prog 70 #[.pointer none] w fun en w' => en = .returned (.int .u8 0) ∧ w = w' := by
  go_enter Try.func70, Try.ntmps70
  go_wp2_with fail
  refine (err_nil _).mono ?_
  rintro en w' ⟨rfl, rfl⟩
  go_wp2_with fail
  go_ret
  exact ⟨rfl, rfl⟩

set_option maxHeartbeats 800000 in
set_option maxRecDepth 20000 in
theorem take8_short (lo : Nat → Prop) (B : Nat) (l : List Nat) (w : World) (hR : Rd 77 lo w B l 0) (hl : l.length < 1) :
    Calls Try.prog 70 #[.pointer (some ⟨B, 0, none⟩)] w fun e w' => e = .returned (.int .u8 0) ∧ Rd 77 lo w' B l 4 ∧ w.grownBy w' (some B) := by
  have HR := Lib.hid hR
  obtain ⟨s, hh, hB, -, -⟩ := hR
  obtain ⟨p, cap, rfl, -, -, -⟩ := hB.form
  have hc0 := cell2_0 hh
  have hc1 := cell2_1 hh
  have hf := free2 hh 1
  clear hB hh
  go_enter Try.func70, Try.ntmps70
  go_wp2_with fail
  refine (err_any lo B 0 l _ HR.out).mono ?_
  rintro e w' ⟨rfl, rfl⟩
  go_wp2_with fail
  go_quiet ((go_at_call 78; exact calls_quiet (width8 _)))
  go_wp2
  go_ret
  exact ⟨rfl, (HR.out.below (below_drewN _ _ _)).fail 4, grownBy_trans (grownBy_below (below_drewN _ _ _) _) (grownBy_setCell _ _ _ _)⟩

set_option maxHeartbeats 1600000 in
set_option maxRecDepth 20000 in
theorem take8_ok (lo : Nat → Prop) (B : Nat) (l : List Nat) (w : World) (hR : Rd 77 lo w B l 0) (hl : 1 ≤ l.length) :
    Calls Try.prog 70 #[.pointer (some ⟨B, 0, none⟩)] w fun e w' => e = .returned (.int .u8 (Cod.num (l.take 1) : Nat)) ∧ Rd 77 lo w' B (l.drop 1) 0 ∧ w.grownBy w' (some B) := by
  have HR := Lib.hid hR
  obtain ⟨s, hS⟩ := hR
  have HS := Lib.hid hS
  have HB := Lib.hid hS.2.1
  obtain ⟨p, cap, rfl, hr, hn, hp⟩ := HB.out.form
  obtain ⟨b, off, rfl, hc⟩ := hp (by omega)
  have hcap := hr.1
  have hcap2 := hr.2
  have hc0 := cell2_0 hS.1
  clear hS hr hn hp hc
  go_enter Try.func70, Try.ntmps70
  go_wp2_with fail
  refine (err_any lo B 0 l _ HR.out).mono ?_
  rintro e w' ⟨rfl, rfl⟩
  go_wp2_with fail
  go_quiet ((go_at_call 78; exact calls_quiet (width8 _)))
  go_wp2
  have HW2 := Lib.hid (below_drewN w.heap.size w nq)
  have HS2 := Lib.hid (HS.out.below HW2.out)
  generalize w.drewN nq = w2 at HW2 HS2 ⊢
  clear hc0
  have hc0 := cell2_0 HS2.out.1
  go_quiet ((go_at_call 78; exact calls_quiet (width8 _)))
  have HW3 := Lib.hid (HW2.out.trans (below_drewN w.heap.size w2 nq))
  have HS3 := Lib.hid (HS2.out.below (below_drewN w2.heap.size w2 nq))
  generalize w2.drewN nq = w3 at HW3 HS3 ⊢
  clear hc0 HW2 HS2
  go_wp2
  have hlen := HB.out.len
  go_loop [3, 26] (fun n i => ∃ k : Nat, k ≤ 1 ∧ i = .int .i64 k ∧ n = .int .u8 (Cod.num (l.take k) : Nat)) (fun _ i => 1 - (intOf i).toNat)
  case atStart => exact ⟨0, by omega, rfl, rfl⟩
  case round =>
    obtain ⟨k, hk, rfl, rfl⟩ := hrel
    by_cases hlt : k < 1
    · have hck : w3.cell? ⟨b, off + k, none⟩ = some (.int .u8 (l.getD k 0 : Nat)) := by
        obtain ⟨p', cap', he, -, -, hp⟩ := HS3.out.2.1.form
        obtain ⟨b', off', hpe, hc⟩ := hp (by omega)
        simp only [Value.slice.injEq] at he
        obtain ⟨rfl, -, rfl⟩ := he
        simp only [Option.some.injEq, Addr.mk.injEq] at hpe
        obtain ⟨rfl, rfl, -⟩ := hpe
        exact hc k (by omega)
      have hx := HB.out.getD k
      have HN := Lib.hid (take_succ_getD l k (by omega))
      generalize l.getD k 0 = x at hck hx HN
      have HST := Lib.hid (num_step8 l k x hlt (by omega) HB.out.small hx HN.out)
      have hst2 := HST.out
      rw [show IntKind.u8.wrap ((x : Int) * 2 ^ (8 * k)) = (x : Int) * 2 ^ (8 * k) % 256 by simp [IntKind.wrap, IntKind.bits, IntKind.signed]] at hst2
      have HST2 := Lib.hid hst2
      clear hst2
      go_wp2
      go_round
      case rel => exact ⟨k + 1, by omega, by go_num, by first | rw [HST.out] | rw [HST2.out]⟩
      case measure => simp [intOf]; omega
    · obtain rfl : k = 1 := by omega
      have hc0 := cell2_0 HS3.out.1
      have hf := free2 HS3.out.1 0
      go_wp2
      refine wp_region_still_tail 9 (by kernel_rfl) (by kernel_rfl) ?_
      simp only [List.take_succ_cons, List.take_zero, List.drop_succ_cons, List.drop_zero]
      iterate 5 still_step
      still_call (calls_still (width8 _))
      repeat still_step
      refine wpStill_nil ?_
      go_wp2
      all_goals
        go_ret
        refine ⟨rfl, ?_, grownBy_trans (grownBy_below HW3.out _) (grownBy_trans (grownBy_drew _ _) (grownBy_setCell _ _ _ _))⟩
        refine (HS3.out.below (below_drew _ _)).move ?_ rfl
        try rw [← List.drop_one]
        first
          | exact (HS3.out.2.1.below (below_drew _ _)).drop 1 hl
          | (have hz : l.length = 1 := by omega
             rw [show l.drop 1 = [] from List.drop_eq_nil_of_le (by omega), hz]
             exact ⟨⟨_, _, rfl, by simp, (fun h => by simp at h), fun h => absurd h (by simp)⟩, by simp, by simp⟩)

/-- A number of 1 bytes is read. -/
theorem take8_any (lo : Nat → Prop) (B e : Nat) (l : List Nat) (w : World) (hR : Rd 77 lo w B l e) :
    Calls Try.prog 70 #[.pointer (some ⟨B, 0, none⟩)] w fun en w' => en = .returned (.int .u8 ((Cod.rdNum 1 l e).1 : Nat)) ∧ Rd 77 lo w' B (Cod.rdNum 1 l e).2.1 (Cod.rdNum 1 l e).2.2 ∧ w.grownBy w' (some B) := by
  unfold Cod.rdNum
  by_cases he : e ≠ 0
  · rw [if_pos he]
    exact (take8_err lo B e l w hR he).mono fun en w' ⟨h1, h2⟩ => by subst h2; exact ⟨h1, hR, grownBy_refl _ _⟩
  · obtain rfl : e = 0 := by omega
    rw [if_neg he]
    by_cases hl : l.length < 1
    · rw [if_pos hl]; exact take8_short lo B l w hR hl
    · rw [if_neg hl]; exact take8_ok lo B l w hR (by omega)

set_option maxHeartbeats 400000 in
set_option maxRecDepth 20000 in
theorem U8_any (lo : Nat → Prop) (B e : Nat) (l : List Nat) (w : World) (hR : Rd 77 lo w B l e) :
    Calls Try.prog 50 #[.pointer (some ⟨B, 0, none⟩)] w fun en w' => en = .returned (.int .u8 ((Cod.rdNum 1 l e).1 : Nat)) ∧ Rd 77 lo w' B (Cod.rdNum 1 l e).2.1 (Cod.rdNum 1 l e).2.2 ∧ w.grownBy w' (some B) := by
  have HR := Lib.hid hR
  clear hR
  go_enter Try.func50, Try.ntmps50
  go_wp2_with fail
  refine (take8_any lo B e l _ HR.out).mono ?_
  rintro en w1 ⟨rfl, h1, h2⟩
  have H1 := Lib.hid h1
  have H2 := Lib.hid h2
  clear h1 h2
  go_wp2
  go_ret
  exact ⟨rfl, H1.out, H2.out⟩

set_option maxHeartbeats 400000 in
set_option maxRecDepth 20000 in
theorem U8_nil (w : World) : Calls Try.prog 50 #[.pointer none] w fun en w' => en = .returned (.int .u8 0) ∧ w = w' := by
  go_enter Try.func50, Try.ntmps50
  go_wp2_with fail
  refine (take8_nil _).mono ?_
  rintro en w' ⟨rfl, rfl⟩
  go_wp2
  go_ret
  exact ⟨rfl, rfl⟩

theorem or_shl16 (acc x k : Nat) (hk : k < 2) (ha : acc < 256 ^ k) (hx : x < 256) : bits .or .u16 (acc : Int) (IntKind.u16.wrap ((x : Int) * 2 ^ (8 * k))) = ((acc + x * 256 ^ k : Nat) : Int) := by
  have h1 : x * 256 ^ k < 65536 := shl_lt x k 2 hx hk
  have h2 : acc < 65536 := Nat.lt_of_lt_of_le ha (Nat.pow_le_pow_right (i := k) (j := 2) (by decide : 256 > 0) (by omega))
  rw [shl_cast]
  have hw : IntKind.u16.wrap ((x * 256 ^ k : Nat) : Int) = ((x * 256 ^ k : Nat) : Int) := by
    rw [show IntKind.u16.wrap ((x * 256 ^ k : Nat) : Int) = ((x * 256 ^ k : Nat) : Int) % 65536 by simp [IntKind.wrap, IntKind.bits, IntKind.signed]]
    omega
  rw [hw, u16_or_nat _ _ h2 h1, Nat.or_comm, nat_join (8 * k) _ _ (by rw [pow256]; exact Nat.mul_mod_left _ _) (by rw [pow256]; exact ha), Nat.add_comm]

theorem num_step16 (l : List Nat) (k : Nat) (x : Nat) (hk : k < 2) (hl : k < l.length) (hs : ∀ y ∈ l, y < 256) (hx : x < 256) (hN : l.take (k + 1) = l.take k ++ [x]) :
    bits .or .u16 (Cod.num (l.take k) : Nat) (IntKind.u16.wrap ((x : Int) * 2 ^ (8 * k))) = (Cod.num (l.take (k + 1)) : Nat) := by
  have hll : (l.take k).length = k := by simp; omega
  have ha : Cod.num (l.take k) < 256 ^ k := by
    have := Cod.num_lt (l.take k) (fun y hy => hs y (List.mem_of_mem_take hy))
    rwa [hll] at this
  rw [or_shl16 _ x k hk ha hx, hN, Cod.num_snoc, hll]

set_option maxHeartbeats 400000 in
set_option maxRecDepth 20000 in
theorem take16_err (lo : Nat → Prop) (B e : Nat) (l : List Nat) (w : World) (hR : Rd 77 lo w B l e) (he : e ≠ 0) :
    Calls Try.prog 68 #[.pointer (some ⟨B, 0, none⟩)] w fun en w' => en = .returned (.int .u16 0) ∧ w = w' := by
  have HR := Lib.hid hR
  have h0 : ((e : Int) == 0) = false := by simp; omega
  have h1 : ((e : Int) != 0) = true := by simp; omega
  have h2 : ¬ (e : Int) = 0 := by omega
  clear hR he
  go_enter Try.func68, Try.ntmps68
  go_wp2_with fail
  refine (err_any lo B e l _ HR.out).mono ?_
  rintro en w' ⟨rfl, rfl⟩
  go_wp2_with fail
  go_ret
  exact ⟨rfl, rfl⟩

set_option maxHeartbeats 400000 in
set_option maxRecDepth 20000 in
theorem take16_nil (w : World) :
    Calls Try.prog 68 #[.pointer none] w fun en w' => en = .returned (.int .u16 0) ∧ w = w' := by
  go_enter Try.func68, Try.ntmps68
  go_wp2_with fail
  refine (err_nil _).mono ?_
  rintro en w' ⟨rfl, rfl⟩
  go_wp2_with fail
  go_ret
  exact ⟨rfl, rfl⟩

set_option maxHeartbeats 800000 in
set_option maxRecDepth 20000 in
theorem take16_short (lo : Nat → Prop) (B : Nat) (l : List Nat) (w : World) (hR : Rd 77 lo w B l 0) (hl : l.length < 2) :
    Calls Try.prog 68 #[.pointer (some ⟨B, 0, none⟩)] w fun e w' => e = .returned (.int .u16 0) ∧ Rd 77 lo w' B l 4 ∧ w.grownBy w' (some B) := by
  have HR := Lib.hid hR
  obtain ⟨s, hh, hB, -, -⟩ := hR
  obtain ⟨p, cap, rfl, -, -, -⟩ := hB.form
  have hc0 := cell2_0 hh
  have hc1 := cell2_1 hh
  have hf := free2 hh 1
  clear hB hh
  go_enter Try.func68, Try.ntmps68
  go_wp2_with fail
  refine (err_any lo B 0 l _ HR.out).mono ?_
  rintro e w' ⟨rfl, rfl⟩
  go_wp2_with fail
  go_quiet ((go_at_call 62; exact calls_quiet (width16 _)))
  go_wp2
  go_ret
  exact ⟨rfl, (HR.out.below (below_drewN _ _ _)).fail 4, grownBy_trans (grownBy_below (below_drewN _ _ _) _) (grownBy_setCell _ _ _ _)⟩

set_option maxHeartbeats 1600000 in
set_option maxRecDepth 20000 in
theorem take16_ok (lo : Nat → Prop) (B : Nat) (l : List Nat) (w : World) (hR : Rd 77 lo w B l 0) (hl : 2 ≤ l.length) :
    Calls Try.prog 68 #[.pointer (some ⟨B, 0, none⟩)] w fun e w' => e = .returned (.int .u16 (Cod.num (l.take 2) : Nat)) ∧ Rd 77 lo w' B (l.drop 2) 0 ∧ w.grownBy w' (some B) := by
  have HR := Lib.hid hR
  obtain ⟨s, hS⟩ := hR
  have HS := Lib.hid hS
  have HB := Lib.hid hS.2.1
  obtain ⟨p, cap, rfl, hr, hn, hp⟩ := HB.out.form
  obtain ⟨b, off, rfl, hc⟩ := hp (by omega)
  have hcap := hr.1
  have hcap2 := hr.2
  have hc0 := cell2_0 hS.1
  clear hS hr hn hp hc
  go_enter Try.func68, Try.ntmps68
  go_wp2_with fail
  refine (err_any lo B 0 l _ HR.out).mono ?_
  rintro e w' ⟨rfl, rfl⟩
  go_wp2_with fail
  go_quiet ((go_at_call 62; exact calls_quiet (width16 _)))
  go_wp2
  have HW2 := Lib.hid (below_drewN w.heap.size w nq)
  have HS2 := Lib.hid (HS.out.below HW2.out)
  generalize w.drewN nq = w2 at HW2 HS2 ⊢
  clear hc0
  have hc0 := cell2_0 HS2.out.1
  go_quiet ((go_at_call 62; exact calls_quiet (width16 _)))
  have HW3 := Lib.hid (HW2.out.trans (below_drewN w.heap.size w2 nq))
  have HS3 := Lib.hid (HS2.out.below (below_drewN w2.heap.size w2 nq))
  generalize w2.drewN nq = w3 at HW3 HS3 ⊢
  clear hc0 HW2 HS2
  go_wp2
  have hlen := HB.out.len
  go_loop [3, 26] (fun n i => ∃ k : Nat, k ≤ 2 ∧ i = .int .i64 k ∧ n = .int .u16 (Cod.num (l.take k) : Nat)) (fun _ i => 2 - (intOf i).toNat)
  case atStart => exact ⟨0, by omega, rfl, rfl⟩
  case round =>
    obtain ⟨k, hk, rfl, rfl⟩ := hrel
    by_cases hlt : k < 2
    · have hck : w3.cell? ⟨b, off + k, none⟩ = some (.int .u8 (l.getD k 0 : Nat)) := by
        obtain ⟨p', cap', he, -, -, hp⟩ := HS3.out.2.1.form
        obtain ⟨b', off', hpe, hc⟩ := hp (by omega)
        simp only [Value.slice.injEq] at he
        obtain ⟨rfl, -, rfl⟩ := he
        simp only [Option.some.injEq, Addr.mk.injEq] at hpe
        obtain ⟨rfl, rfl, -⟩ := hpe
        exact hc k (by omega)
      have hx := HB.out.getD k
      have HN := Lib.hid (take_succ_getD l k (by omega))
      generalize l.getD k 0 = x at hck hx HN
      have HST := Lib.hid (num_step16 l k x hlt (by omega) HB.out.small hx HN.out)
      have hst2 := HST.out
      rw [show IntKind.u16.wrap ((x : Int) * 2 ^ (8 * k)) = (x : Int) * 2 ^ (8 * k) % 65536 by simp [IntKind.wrap, IntKind.bits, IntKind.signed]] at hst2
      have HST2 := Lib.hid hst2
      clear hst2
      go_wp2
      go_round
      case rel => exact ⟨k + 1, by omega, by go_num, by first | rw [HST.out] | rw [HST2.out]⟩
      case measure => simp [intOf]; omega
    · obtain rfl : k = 2 := by omega
      have hc0 := cell2_0 HS3.out.1
      have hf := free2 HS3.out.1 0
      go_wp2
      refine wp_region_still_tail 9 (by kernel_rfl) (by kernel_rfl) ?_
      simp only [List.take_succ_cons, List.take_zero, List.drop_succ_cons, List.drop_zero]
      iterate 5 still_step
      still_call (calls_still (width16 _))
      repeat still_step
      refine wpStill_nil ?_
      go_wp2
      all_goals
        go_ret
        refine ⟨rfl, ?_, grownBy_trans (grownBy_below HW3.out _) (grownBy_trans (grownBy_drew _ _) (grownBy_setCell _ _ _ _))⟩
        refine (HS3.out.below (below_drew _ _)).move ?_ rfl
        try rw [← List.drop_one]
        first
          | exact (HS3.out.2.1.below (below_drew _ _)).drop 2 hl
          | (have hz : l.length = 2 := by omega
             rw [show l.drop 2 = [] from List.drop_eq_nil_of_le (by omega), hz]
             exact ⟨⟨_, _, rfl, by simp, (fun h => by simp at h), fun h => absurd h (by simp)⟩, by simp, by simp⟩)

/-- A number of 2 bytes is read. -/
theorem take16_any (lo : Nat → Prop) (B e : Nat) (l : List Nat) (w : World) (hR : Rd 77 lo w B l e) :
    Calls Try.prog 68 #[.pointer (some ⟨B, 0, none⟩)] w fun en w' => en = .returned (.int .u16 ((Cod.rdNum 2 l e).1 : Nat)) ∧ Rd 77 lo w' B (Cod.rdNum 2 l e).2.1 (Cod.rdNum 2 l e).2.2 ∧ w.grownBy w' (some B) := by
  unfold Cod.rdNum
  by_cases he : e ≠ 0
  · rw [if_pos he]
    exact (take16_err lo B e l w hR he).mono fun en w' ⟨h1, h2⟩ => by subst h2; exact ⟨h1, hR, grownBy_refl _ _⟩
  · obtain rfl : e = 0 := by omega
    rw [if_neg he]
    by_cases hl : l.length < 2
    · rw [if_pos hl]; exact take16_short lo B l w hR hl
    · rw [if_neg hl]; exact take16_ok lo B l w hR (by omega)

set_option maxHeartbeats 400000 in
set_option maxRecDepth 20000 in
theorem U16_any (lo : Nat → Prop) (B e : Nat) (l : List Nat) (w : World) (hR : Rd 77 lo w B l e) :
    Calls Try.prog 48 #[.pointer (some ⟨B, 0, none⟩)] w fun en w' => en = .returned (.int .u16 ((Cod.rdNum 2 l e).1 : Nat)) ∧ Rd 77 lo w' B (Cod.rdNum 2 l e).2.1 (Cod.rdNum 2 l e).2.2 ∧ w.grownBy w' (some B) := by
  have HR := Lib.hid hR
  clear hR
  go_enter Try.func48, Try.ntmps48
  go_wp2_with fail
  refine (take16_any lo B e l _ HR.out).mono ?_
  rintro en w1 ⟨rfl, h1, h2⟩
  have H1 := Lib.hid h1
  have H2 := Lib.hid h2
  clear h1 h2
  go_wp2
  go_ret
  exact ⟨rfl, H1.out, H2.out⟩

set_option maxHeartbeats 400000 in
set_option maxRecDepth 20000 in
theorem U16_nil (w : World) : Calls Try.prog 48 #[.pointer none] w fun en w' => en = .returned (.int .u16 0) ∧ w = w' := by
  go_enter Try.func48, Try.ntmps48
  go_wp2_with fail
  refine (take16_nil _).mono ?_
  rintro en w' ⟨rfl, rfl⟩
  go_wp2
  go_ret
  exact ⟨rfl, rfl⟩

theorem or_shl32 (acc x k : Nat) (hk : k < 4) (ha : acc < 256 ^ k) (hx : x < 256) : bits .or .u32 (acc : Int) (IntKind.u32.wrap ((x : Int) * 2 ^ (8 * k))) = ((acc + x * 256 ^ k : Nat) : Int) := by
  have h1 : x * 256 ^ k < 4294967296 := shl_lt x k 4 hx hk
  have h2 : acc < 4294967296 := Nat.lt_of_lt_of_le ha (Nat.pow_le_pow_right (i := k) (j := 4) (by decide : 256 > 0) (by omega))
  rw [shl_cast]
  have hw : IntKind.u32.wrap ((x * 256 ^ k : Nat) : Int) = ((x * 256 ^ k : Nat) : Int) := by
    rw [show IntKind.u32.wrap ((x * 256 ^ k : Nat) : Int) = ((x * 256 ^ k : Nat) : Int) % 4294967296 by simp [IntKind.wrap, IntKind.bits, IntKind.signed]]
    omega
  rw [hw, u32_or_nat _ _ h2 h1, Nat.or_comm, nat_join (8 * k) _ _ (by rw [pow256]; exact Nat.mul_mod_left _ _) (by rw [pow256]; exact ha), Nat.add_comm]

theorem num_step32 (l : List Nat) (k : Nat) (x : Nat) (hk : k < 4) (hl : k < l.length) (hs : ∀ y ∈ l, y < 256) (hx : x < 256) (hN : l.take (k + 1) = l.take k ++ [x]) :
    bits .or .u32 (Cod.num (l.take k) : Nat) (IntKind.u32.wrap ((x : Int) * 2 ^ (8 * k))) = (Cod.num (l.take (k + 1)) : Nat) := by
  have hll : (l.take k).length = k := by simp; omega
  have ha : Cod.num (l.take k) < 256 ^ k := by
    have := Cod.num_lt (l.take k) (fun y hy => hs y (List.mem_of_mem_take hy))
    rwa [hll] at this
  rw [or_shl32 _ x k hk ha hx, hN, Cod.num_snoc, hll]

set_option maxHeartbeats 400000 in
set_option maxRecDepth 20000 in
theorem take32_err (lo : Nat → Prop) (B e : Nat) (l : List Nat) (w : World) (hR : Rd 77 lo w B l e) (he : e ≠ 0) :
    Calls Try.prog 67 #[.pointer (some ⟨B, 0, none⟩)] w fun en w' => en = .returned (.int .u32 0) ∧ w = w' := by
  have HR := Lib.hid hR
  have h0 : ((e : Int) == 0) = false := by simp; omega
  have h1 : ((e : Int) != 0) = true := by simp; omega
  have h2 : ¬ (e : Int) = 0 := by omega
  clear hR he
  go_enter Try.func67, Try.ntmps67
  go_wp2_with fail
  refine (err_any lo B e l _ HR.out).mono ?_
  rintro en w' ⟨rfl, rfl⟩
  go_wp2_with fail
  go_ret
  exact ⟨rfl, rfl⟩

set_option maxHeartbeats 400000 in
set_option maxRecDepth 20000 in
theorem take32_nil (w : World) :
    Calls Try.prog 67 #[.pointer none] w fun en w' => en = .returned (.int .u32 0) ∧ w = w' := by
  go_enter Try.func67, Try.ntmps67
  go_wp2_with fail
  refine (err_nil _).mono ?_
  rintro en w' ⟨rfl, rfl⟩
  go_wp2_with fail
  go_ret
  exact ⟨rfl, rfl⟩

set_option maxHeartbeats 800000 in
set_option maxRecDepth 20000 in
theorem take32_short (lo : Nat → Prop) (B : Nat) (l : List Nat) (w : World) (hR : Rd 77 lo w B l 0) (hl : l.length < 4) :
    Calls Try.prog 67 #[.pointer (some ⟨B, 0, none⟩)] w fun e w' => e = .returned (.int .u32 0) ∧ Rd 77 lo w' B l 4 ∧ w.grownBy w' (some B) := by
  have HR := Lib.hid hR
  obtain ⟨s, hh, hB, -, -⟩ := hR
  obtain ⟨p, cap, rfl, -, -, -⟩ := hB.form
  have hc0 := cell2_0 hh
  have hc1 := cell2_1 hh
  have hf := free2 hh 1
  clear hB hh
  go_enter Try.func67, Try.ntmps67
  go_wp2_with fail
  refine (err_any lo B 0 l _ HR.out).mono ?_
  rintro e w' ⟨rfl, rfl⟩
  go_wp2_with fail
  go_quiet ((go_at_call 64; exact calls_quiet (width32 _)))
  go_wp2
  go_ret
  exact ⟨rfl, (HR.out.below (below_drewN _ _ _)).fail 4, grownBy_trans (grownBy_below (below_drewN _ _ _) _) (grownBy_setCell _ _ _ _)⟩

set_option maxHeartbeats 1600000 in
set_option maxRecDepth 20000 in
theorem take32_ok (lo : Nat → Prop) (B : Nat) (l : List Nat) (w : World) (hR : Rd 77 lo w B l 0) (hl : 4 ≤ l.length) :
    Calls Try.prog 67 #[.pointer (some ⟨B, 0, none⟩)] w fun e w' => e = .returned (.int .u32 (Cod.num (l.take 4) : Nat)) ∧ Rd 77 lo w' B (l.drop 4) 0 ∧ w.grownBy w' (some B) := by
  have HR := Lib.hid hR
  obtain ⟨s, hS⟩ := hR
  have HS := Lib.hid hS
  have HB := Lib.hid hS.2.1
  obtain ⟨p, cap, rfl, hr, hn, hp⟩ := HB.out.form
  obtain ⟨b, off, rfl, hc⟩ := hp (by omega)
  have hcap := hr.1
  have hcap2 := hr.2
  have hc0 := cell2_0 hS.1
  clear hS hr hn hp hc
  go_enter Try.func67, Try.ntmps67
  go_wp2_with fail
  refine (err_any lo B 0 l _ HR.out).mono ?_
  rintro e w' ⟨rfl, rfl⟩
  go_wp2_with fail
  go_quiet ((go_at_call 64; exact calls_quiet (width32 _)))
  go_wp2
  have HW2 := Lib.hid (below_drewN w.heap.size w nq)
  have HS2 := Lib.hid (HS.out.below HW2.out)
  generalize w.drewN nq = w2 at HW2 HS2 ⊢
  clear hc0
  have hc0 := cell2_0 HS2.out.1
  go_quiet ((go_at_call 64; exact calls_quiet (width32 _)))
  have HW3 := Lib.hid (HW2.out.trans (below_drewN w.heap.size w2 nq))
  have HS3 := Lib.hid (HS2.out.below (below_drewN w2.heap.size w2 nq))
  generalize w2.drewN nq = w3 at HW3 HS3 ⊢
  clear hc0 HW2 HS2
  go_wp2
  have hlen := HB.out.len
  go_loop [3, 26] (fun n i => ∃ k : Nat, k ≤ 4 ∧ i = .int .i64 k ∧ n = .int .u32 (Cod.num (l.take k) : Nat)) (fun _ i => 4 - (intOf i).toNat)
  case atStart => exact ⟨0, by omega, rfl, rfl⟩
  case round =>
    obtain ⟨k, hk, rfl, rfl⟩ := hrel
    by_cases hlt : k < 4
    · have hck : w3.cell? ⟨b, off + k, none⟩ = some (.int .u8 (l.getD k 0 : Nat)) := by
        obtain ⟨p', cap', he, -, -, hp⟩ := HS3.out.2.1.form
        obtain ⟨b', off', hpe, hc⟩ := hp (by omega)
        simp only [Value.slice.injEq] at he
        obtain ⟨rfl, -, rfl⟩ := he
        simp only [Option.some.injEq, Addr.mk.injEq] at hpe
        obtain ⟨rfl, rfl, -⟩ := hpe
        exact hc k (by omega)
      have hx := HB.out.getD k
      have HN := Lib.hid (take_succ_getD l k (by omega))
      generalize l.getD k 0 = x at hck hx HN
      have HST := Lib.hid (num_step32 l k x hlt (by omega) HB.out.small hx HN.out)
      have hst2 := HST.out
      rw [show IntKind.u32.wrap ((x : Int) * 2 ^ (8 * k)) = (x : Int) * 2 ^ (8 * k) % 4294967296 by simp [IntKind.wrap, IntKind.bits, IntKind.signed]] at hst2
      have HST2 := Lib.hid hst2
      clear hst2
      go_wp2
      go_round
      case rel => exact ⟨k + 1, by omega, by go_num, by first | rw [HST.out] | rw [HST2.out]⟩
      case measure => simp [intOf]; omega
    · obtain rfl : k = 4 := by omega
      have hc0 := cell2_0 HS3.out.1
      have hf := free2 HS3.out.1 0
      go_wp2
      refine wp_region_still_tail 9 (by kernel_rfl) (by kernel_rfl) ?_
      simp only [List.take_succ_cons, List.take_zero, List.drop_succ_cons, List.drop_zero]
      iterate 5 still_step
      still_call (calls_still (width32 _))
      repeat still_step
      refine wpStill_nil ?_
      go_wp2
      all_goals
        go_ret
        refine ⟨rfl, ?_, grownBy_trans (grownBy_below HW3.out _) (grownBy_trans (grownBy_drew _ _) (grownBy_setCell _ _ _ _))⟩
        refine (HS3.out.below (below_drew _ _)).move ?_ rfl
        try rw [← List.drop_one]
        first
          | exact (HS3.out.2.1.below (below_drew _ _)).drop 4 hl
          | (have hz : l.length = 4 := by omega
             rw [show l.drop 4 = [] from List.drop_eq_nil_of_le (by omega), hz]
             exact ⟨⟨_, _, rfl, by simp, (fun h => by simp at h), fun h => absurd h (by simp)⟩, by simp, by simp⟩)

/-- A number of 4 bytes is read. -/
theorem take32_any (lo : Nat → Prop) (B e : Nat) (l : List Nat) (w : World) (hR : Rd 77 lo w B l e) :
    Calls Try.prog 67 #[.pointer (some ⟨B, 0, none⟩)] w fun en w' => en = .returned (.int .u32 ((Cod.rdNum 4 l e).1 : Nat)) ∧ Rd 77 lo w' B (Cod.rdNum 4 l e).2.1 (Cod.rdNum 4 l e).2.2 ∧ w.grownBy w' (some B) := by
  unfold Cod.rdNum
  by_cases he : e ≠ 0
  · rw [if_pos he]
    exact (take32_err lo B e l w hR he).mono fun en w' ⟨h1, h2⟩ => by subst h2; exact ⟨h1, hR, grownBy_refl _ _⟩
  · obtain rfl : e = 0 := by omega
    rw [if_neg he]
    by_cases hl : l.length < 4
    · rw [if_pos hl]; exact take32_short lo B l w hR hl
    · rw [if_neg hl]; exact take32_ok lo B l w hR (by omega)

set_option maxHeartbeats 400000 in
set_option maxRecDepth 20000 in
theorem U32_any (lo : Nat → Prop) (B e : Nat) (l : List Nat) (w : World) (hR : Rd 77 lo w B l e) :
    Calls Try.prog 47 #[.pointer (some ⟨B, 0, none⟩)] w fun en w' => en = .returned (.int .u32 ((Cod.rdNum 4 l e).1 : Nat)) ∧ Rd 77 lo w' B (Cod.rdNum 4 l e).2.1 (Cod.rdNum 4 l e).2.2 ∧ w.grownBy w' (some B) := by
  have HR := Lib.hid hR
  clear hR
  go_enter Try.func47, Try.ntmps47
  go_wp2_with fail
  refine (take32_any lo B e l _ HR.out).mono ?_
  rintro en w1 ⟨rfl, h1, h2⟩
  have H1 := Lib.hid h1
  have H2 := Lib.hid h2
  clear h1 h2
  go_wp2
  go_ret
  exact ⟨rfl, H1.out, H2.out⟩

set_option maxHeartbeats 400000 in
set_option maxRecDepth 20000 in
theorem U32_nil (w : World) : Calls Try.prog 47 #[.pointer none] w fun en w' => en = .returned (.int .u32 0) ∧ w = w' := by
  go_enter Try.func47, Try.ntmps47
  go_wp2_with fail
  refine (take32_nil _).mono ?_
  rintro en w' ⟨rfl, rfl⟩
  go_wp2
  go_ret
  exact ⟨rfl, rfl⟩

theorem or_shl64 (acc x k : Nat) (hk : k < 8) (ha : acc < 256 ^ k) (hx : x < 256) : bits .or .u64 (acc : Int) (IntKind.u64.wrap ((x : Int) * 2 ^ (8 * k))) = ((acc + x * 256 ^ k : Nat) : Int) := by
  have h1 : x * 256 ^ k < 18446744073709551616 := shl_lt x k 8 hx hk
  have h2 : acc < 18446744073709551616 := Nat.lt_of_lt_of_le ha (Nat.pow_le_pow_right (i := k) (j := 8) (by decide : 256 > 0) (by omega))
  rw [shl_cast]
  have hw : IntKind.u64.wrap ((x * 256 ^ k : Nat) : Int) = ((x * 256 ^ k : Nat) : Int) := by
    rw [show IntKind.u64.wrap ((x * 256 ^ k : Nat) : Int) = ((x * 256 ^ k : Nat) : Int) % 18446744073709551616 by simp [IntKind.wrap, IntKind.bits, IntKind.signed]]
    omega
  rw [hw, u64_or_nat _ _ h2 h1, Nat.or_comm, nat_join (8 * k) _ _ (by rw [pow256]; exact Nat.mul_mod_left _ _) (by rw [pow256]; exact ha), Nat.add_comm]

theorem num_step64 (l : List Nat) (k : Nat) (x : Nat) (hk : k < 8) (hl : k < l.length) (hs : ∀ y ∈ l, y < 256) (hx : x < 256) (hN : l.take (k + 1) = l.take k ++ [x]) :
    bits .or .u64 (Cod.num (l.take k) : Nat) (IntKind.u64.wrap ((x : Int) * 2 ^ (8 * k))) = (Cod.num (l.take (k + 1)) : Nat) := by
  have hll : (l.take k).length = k := by simp; omega
  have ha : Cod.num (l.take k) < 256 ^ k := by
    have := Cod.num_lt (l.take k) (fun y hy => hs y (List.mem_of_mem_take hy))
    rwa [hll] at this
  rw [or_shl64 _ x k hk ha hx, hN, Cod.num_snoc, hll]

set_option maxHeartbeats 400000 in
set_option maxRecDepth 20000 in
theorem take64_err (lo : Nat → Prop) (B e : Nat) (l : List Nat) (w : World) (hR : Rd 77 lo w B l e) (he : e ≠ 0) :
    Calls Try.prog 69 #[.pointer (some ⟨B, 0, none⟩)] w fun en w' => en = .returned (.int .u64 0) ∧ w = w' := by
  have HR := Lib.hid hR
  have h0 : ((e : Int) == 0) = false := by simp; omega
  have h1 : ((e : Int) != 0) = true := by simp; omega
  have h2 : ¬ (e : Int) = 0 := by omega
  clear hR he
  go_enter Try.func69, Try.ntmps69
  go_wp2_with fail
  refine (err_any lo B e l _ HR.out).mono ?_
  rintro en w' ⟨rfl, rfl⟩
  go_wp2_with fail
  go_ret
  exact ⟨rfl, rfl⟩

set_option maxHeartbeats 400000 in
set_option maxRecDepth 20000 in
theorem take64_nil (w : World) :
    Calls Try.prog 69 #[.pointer none] w fun en w' => en = .returned (.int .u64 0) ∧ w = w' := by
  go_enter Try.func69, Try.ntmps69
  go_wp2_with fail
  refine (err_nil _).mono ?_
  rintro en w' ⟨rfl, rfl⟩
  go_wp2_with fail
  go_ret
  exact ⟨rfl, rfl⟩

set_option maxHeartbeats 800000 in
set_option maxRecDepth 20000 in
theorem take64_short (lo : Nat → Prop) (B : Nat) (l : List Nat) (w : World) (hR : Rd 77 lo w B l 0) (hl : l.length < 8) :
    Calls Try.prog 69 #[.pointer (some ⟨B, 0, none⟩)] w fun e w' => e = .returned (.int .u64 0) ∧ Rd 77 lo w' B l 4 ∧ w.grownBy w' (some B) := by
  have HR := Lib.hid hR
  obtain ⟨s, hh, hB, -, -⟩ := hR
  obtain ⟨p, cap, rfl, -, -, -⟩ := hB.form
  have hc0 := cell2_0 hh
  have hc1 := cell2_1 hh
  have hf := free2 hh 1
  clear hB hh
  go_enter Try.func69, Try.ntmps69
  go_wp2_with fail
  refine (err_any lo B 0 l _ HR.out).mono ?_
  rintro e w' ⟨rfl, rfl⟩
  go_wp2_with fail
  go_quiet ((go_at_call 63; exact calls_quiet (width64 _)))
  go_wp2
  go_ret
  exact ⟨rfl, (HR.out.below (below_drewN _ _ _)).fail 4, grownBy_trans (grownBy_below (below_drewN _ _ _) _) (grownBy_setCell _ _ _ _)⟩

set_option maxHeartbeats 1600000 in
set_option maxRecDepth 20000 in
theorem take64_ok (lo : Nat → Prop) (B : Nat) (l : List Nat) (w : World) (hR : Rd 77 lo w B l 0) (hl : 8 ≤ l.length) :
    Calls Try.prog 69 #[.pointer (some ⟨B, 0, none⟩)] w fun e w' => e = .returned (.int .u64 (Cod.num (l.take 8) : Nat)) ∧ Rd 77 lo w' B (l.drop 8) 0 ∧ w.grownBy w' (some B) := by
  have HR := Lib.hid hR
  obtain ⟨s, hS⟩ := hR
  have HS := Lib.hid hS
  have HB := Lib.hid hS.2.1
  obtain ⟨p, cap, rfl, hr, hn, hp⟩ := HB.out.form
  obtain ⟨b, off, rfl, hc⟩ := hp (by omega)
  have hcap := hr.1
  have hcap2 := hr.2
  have hc0 := cell2_0 hS.1
  clear hS hr hn hp hc
  go_enter Try.func69, Try.ntmps69
  go_wp2_with fail
  refine (err_any lo B 0 l _ HR.out).mono ?_
  rintro e w' ⟨rfl, rfl⟩
  go_wp2_with fail
  go_quiet ((go_at_call 63; exact calls_quiet (width64 _)))
  go_wp2
  have HW2 := Lib.hid (below_drewN w.heap.size w nq)
  have HS2 := Lib.hid (HS.out.below HW2.out)
  generalize w.drewN nq = w2 at HW2 HS2 ⊢
  clear hc0
  have hc0 := cell2_0 HS2.out.1
  go_quiet ((go_at_call 63; exact calls_quiet (width64 _)))
  have HW3 := Lib.hid (HW2.out.trans (below_drewN w.heap.size w2 nq))
  have HS3 := Lib.hid (HS2.out.below (below_drewN w2.heap.size w2 nq))
  generalize w2.drewN nq = w3 at HW3 HS3 ⊢
  clear hc0 HW2 HS2
  go_wp2
  have hlen := HB.out.len
  go_loop [3, 26] (fun n i => ∃ k : Nat, k ≤ 8 ∧ i = .int .i64 k ∧ n = .int .u64 (Cod.num (l.take k) : Nat)) (fun _ i => 8 - (intOf i).toNat)
  case atStart => exact ⟨0, by omega, rfl, rfl⟩
  case round =>
    obtain ⟨k, hk, rfl, rfl⟩ := hrel
    by_cases hlt : k < 8
    · have hck : w3.cell? ⟨b, off + k, none⟩ = some (.int .u8 (l.getD k 0 : Nat)) := by
        obtain ⟨p', cap', he, -, -, hp⟩ := HS3.out.2.1.form
        obtain ⟨b', off', hpe, hc⟩ := hp (by omega)
        simp only [Value.slice.injEq] at he
        obtain ⟨rfl, -, rfl⟩ := he
        simp only [Option.some.injEq, Addr.mk.injEq] at hpe
        obtain ⟨rfl, rfl, -⟩ := hpe
        exact hc k (by omega)
      have hx := HB.out.getD k
      have HN := Lib.hid (take_succ_getD l k (by omega))
      generalize l.getD k 0 = x at hck hx HN
      have HST := Lib.hid (num_step64 l k x hlt (by omega) HB.out.small hx HN.out)
      have hst2 := HST.out
      rw [show IntKind.u64.wrap ((x : Int) * 2 ^ (8 * k)) = (x : Int) * 2 ^ (8 * k) % 18446744073709551616 by simp [IntKind.wrap, IntKind.bits, IntKind.signed]] at hst2
      have HST2 := Lib.hid hst2
      clear hst2
      go_wp2
      go_round
      case rel => exact ⟨k + 1, by omega, by go_num, by first | rw [HST.out] | rw [HST2.out]⟩
      case measure => simp [intOf]; omega
    · obtain rfl : k = 8 := by omega
      have hc0 := cell2_0 HS3.out.1
      have hf := free2 HS3.out.1 0
      go_wp2
      refine wp_region_still_tail 9 (by kernel_rfl) (by kernel_rfl) ?_
      simp only [List.take_succ_cons, List.take_zero, List.drop_succ_cons, List.drop_zero]
      iterate 5 still_step
      still_call (calls_still (width64 _))
      repeat still_step
      refine wpStill_nil ?_
      go_wp2
      all_goals
        go_ret
        refine ⟨rfl, ?_, grownBy_trans (grownBy_below HW3.out _) (grownBy_trans (grownBy_drew _ _) (grownBy_setCell _ _ _ _))⟩
        refine (HS3.out.below (below_drew _ _)).move ?_ rfl
        try rw [← List.drop_one]
        first
          | exact (HS3.out.2.1.below (below_drew _ _)).drop 8 hl
          | (have hz : l.length = 8 := by omega
             rw [show l.drop 8 = [] from List.drop_eq_nil_of_le (by omega), hz]
             exact ⟨⟨_, _, rfl, by simp, (fun h => by simp at h), fun h => absurd h (by simp)⟩, by simp, by simp⟩)

/-- A number of 8 bytes is read. -/
theorem take64_any (lo : Nat → Prop) (B e : Nat) (l : List Nat) (w : World) (hR : Rd 77 lo w B l e) :
    Calls Try.prog 69 #[.pointer (some ⟨B, 0, none⟩)] w fun en w' => en = .returned (.int .u64 ((Cod.rdNum 8 l e).1 : Nat)) ∧ Rd 77 lo w' B (Cod.rdNum 8 l e).2.1 (Cod.rdNum 8 l e).2.2 ∧ w.grownBy w' (some B) := by
  unfold Cod.rdNum
  by_cases he : e ≠ 0
  · rw [if_pos he]
    exact (take64_err lo B e l w hR he).mono fun en w' ⟨h1, h2⟩ => by subst h2; exact ⟨h1, hR, grownBy_refl _ _⟩
  · obtain rfl : e = 0 := by omega
    rw [if_neg he]
    by_cases hl : l.length < 8
    · rw [if_pos hl]; exact take64_short lo B l w hR hl
    · rw [if_neg hl]; exact take64_ok lo B l w hR (by omega)

set_option maxHeartbeats 400000 in
set_option maxRecDepth 20000 in
theorem U64_any (lo : Nat → Prop) (B e : Nat) (l : List Nat) (w : World) (hR : Rd 77 lo w B l e) :
    Calls Try.prog 49 #[.pointer (some ⟨B, 0, none⟩)] w fun en w' => en = .returned (.int .u64 ((Cod.rdNum 8 l e).1 : Nat)) ∧ Rd 77 lo w' B (Cod.rdNum 8 l e).2.1 (Cod.rdNum 8 l e).2.2 ∧ w.grownBy w' (some B) := by
  have HR := Lib.hid hR
  clear hR
  go_enter Try.func49, Try.ntmps49
  go_wp2_with fail
  refine (take64_any lo B e l _ HR.out).mono ?_
  rintro en w1 ⟨rfl, h1, h2⟩
  have H1 := Lib.hid h1
  have H2 := Lib.hid h2
  clear h1 h2
  go_wp2
  go_ret
  exact ⟨rfl, H1.out, H2.out⟩

set_option maxHeartbeats 400000 in
set_option maxRecDepth 20000 in
theorem U64_nil (w : World) : Calls Try.prog 49 #[.pointer none] w fun en w' => en = .returned (.int .u64 0) ∧ w = w' := by
  go_enter Try.func49, Try.ntmps49
  go_wp2_with fail
  refine (take64_nil _).mono ?_
  rintro en w' ⟨rfl, rfl⟩
  go_wp2
  go_ret
  exact ⟨rfl, rfl⟩

end Go.Proofs.Ytkchoelegdknoaa
