/- What the reader's fixed numbers are, over any world. Conditions: the reader's block and its bytes. What the program's reader tells of counts and texts, over any world. Conditions: the reader's block and its bytes. What the program's reader tells of texts that begin with a count, over any world. Conditions: the reader's block and its bytes. -/
import Derived.Test.YtafpjcobagofcaaGreatCodeR
import Derived.Test.YtafpjcobagofcaaGreatCodeP
namespace Go.Proofs.YtafpjcobagofcaaGreat
open Go.RowKit

theorem pow256 (k : Nat) : (2 : Nat) ^ (8 * k) = 256 ^ k := by rw [Nat.pow_mul]
theorem shl_cast (x k : Nat) : (x : Int) * 2 ^ (8 * k) = ((x * 256 ^ k : Nat) : Int) := by
  rw [← pow256 k, Int.natCast_mul, Int.natCast_pow]; rfl
theorem shl_lt (x k c : Nat) (hx : x < 256) (hk : k < c) : x * 256 ^ k < 256 ^ c := by
  have h1 : x * 256 ^ k < 256 ^ (k + 1) := by
    rw [Nat.pow_succ, Nat.mul_comm]
    exact Nat.mul_lt_mul_of_pos_left hx (Nat.pow_pos (by decide))
  exact Nat.lt_of_lt_of_le h1 (Nat.pow_le_pow_right (by decide) hk)

theorem or_shl8 (acc x k : Nat) (hk : k < 1) (ha : acc < 256 ^ k) (hx : x < 256) : bits .or .u8 (acc : Int) (IntKind.u8.wrap ((x : Int) * 2 ^ (8 * k))) = ((acc + x * 256 ^ k : Nat) : Int) := by
  have h1 : x * 256 ^ k < 256 := shl_lt x k 1 hx hk
  have h2 : acc < 256 := Nat.lt_of_lt_of_le ha (Nat.pow_le_pow_right (i := k) (j := 1) (by decide : 256 > 0) (by omega))
  rw [shl_cast]
  have hw : IntKind.u8.wrap ((x * 256 ^ k : Nat) : Int) = ((x * 256 ^ k : Nat) : Int) := by
    rw [show IntKind.u8.wrap ((x * 256 ^ k : Nat) : Int) = ((x * 256 ^ k : Nat) : Int) % 256 by simp [IntKind.wrap, IntKind.bits, IntKind.signed]]
    omega
  rw [hw, u8_or_nat _ _ h2 h1, Nat.or_comm, nat_join (8 * k) _ _ (by rw [pow256]; exact Nat.mul_mod_left _ _) (by rw [pow256]; exact ha), Nat.add_comm]

theorem num_step8 (l : List Nat) (k : Nat) (x : Nat) (hk : k < 1) (hl : k < l.length) (hs : ∀ y ∈ l, y < 256) (hx : x < 256) (hN : l.take (k + 1) = l.take k ++ [x]) :
    bits .or .u8 (Cod.num (l.take k) : Nat) (IntKind.u8.wrap ((x : Int) * 2 ^ (8 * k))) = (Cod.num (l.take (k + 1)) : Nat) := by
  have hll : (l.take k).length = k := by simp; omega
  have ha : Cod.num (l.take k) < 256 ^ k := by
    have := Cod.num_lt (l.take k) (fun y hy => hs y (List.mem_of_mem_take hy))
    rwa [hll] at this
  rw [or_shl8 _ x k hk ha hx, hN, Cod.num_snoc, hll]

set_option maxHeartbeats 400000 in
set_option maxRecDepth 20000 in
theorem take8_err (lo : Nat → Prop) (B e : Nat) (l : List Nat) (w : World) (hR : Rd 127 lo w B l e) (he : e ≠ 0) :
    Calls Tryz.prog 111 #[.pointer (some ⟨B, 0, none⟩)] w fun en w' => en = .returned (.int .u8 0) ∧ w = w' := by
  have HR := Lib.hid hR
  have h0 : ((e : Int) == 0) = false := by simp; omega
  have h1 : ((e : Int) != 0) = true := by simp; omega
  have h2 : ¬ (e : Int) = 0 := by omega
  clear hR he
  go_enter Tryz.func111, Tryz.ntmps111
  go_wp2_with fail
  refine (err_any lo B e l _ HR.out).mono ?_
  rintro en w' ⟨rfl, rfl⟩
  go_wp2_with fail
  go_ret
  exact ⟨rfl, rfl⟩

set_option maxHeartbeats 400000 in
set_option maxRecDepth 20000 in
theorem take8_nil (w : World) :
    Calls Tryz.prog 111 #[.pointer none] w fun en w' => en = .returned (.int .u8 0) ∧ w = w' := by
  go_enter Tryz.func111, Tryz.ntmps111
  go_wp2_with fail
  refine (err_nil _).mono ?_
  rintro en w' ⟨rfl, rfl⟩
  go_wp2_with fail
  go_ret
  exact ⟨rfl, rfl⟩

set_option maxHeartbeats 800000 in
set_option maxRecDepth 20000 in
theorem take8_short (lo : Nat → Prop) (B : Nat) (l : List Nat) (w : World) (hR : Rd 127 lo w B l 0) (hl : l.length < 1) :
    Calls Tryz.prog 111 #[.pointer (some ⟨B, 0, none⟩)] w fun e w' => e = .returned (.int .u8 0) ∧ Rd 127 lo w' B l 4 ∧ w.grownBy w' (some B) := by
  have HR := Lib.hid hR
  obtain ⟨s, hh, hB, -, -⟩ := hR
  obtain ⟨p, cap, rfl, -, -, -⟩ := hB.form
  have hc0 := cell2_0 hh
  have hc1 := cell2_1 hh
  have hf := free2 hh 1
  clear hB hh
  go_enter Tryz.func111, Tryz.ntmps111
  go_wp2_with fail
  refine (err_any lo B 0 l _ HR.out).mono ?_
  rintro e w' ⟨rfl, rfl⟩
  go_wp2_with fail
  go_quiet ((go_at_call 120; exact calls_quiet (width8 _)))
  go_wp2
  go_ret
  exact ⟨rfl, (HR.out.below (below_drewN _ _ _)).fail 4, grownBy_trans (grownBy_below (below_drewN _ _ _) _) (grownBy_setCell _ _ _ _)⟩

set_option maxHeartbeats 1600000 in
set_option maxRecDepth 20000 in
theorem take8_ok (lo : Nat → Prop) (B : Nat) (l : List Nat) (w : World) (hR : Rd 127 lo w B l 0) (hl : 1 ≤ l.length) :
    Calls Tryz.prog 111 #[.pointer (some ⟨B, 0, none⟩)] w fun e w' => e = .returned (.int .u8 (Cod.num (l.take 1) : Nat)) ∧ Rd 127 lo w' B (l.drop 1) 0 ∧ w.grownBy w' (some B) := by
  have HR := Lib.hid hR
  obtain ⟨s, hS⟩ := hR
  have HS := Lib.hid hS
  have HB := Lib.hid hS.2.1
  obtain ⟨p, cap, rfl, hr, hn, hp⟩ := HB.out.form
  obtain ⟨b, off, rfl, hc⟩ := hp (by omega)
  have hcap := hr.1
  have hcap2 := hr.2
  have hc0 := cell2_0 hS.1
  clear hS hr hn hp hc
  go_enter Tryz.func111, Tryz.ntmps111
  go_wp2_with fail
  refine (err_any lo B 0 l _ HR.out).mono ?_
  rintro e w' ⟨rfl, rfl⟩
  go_wp2_with fail
  go_quiet ((go_at_call 120; exact calls_quiet (width8 _)))
  go_wp2
  have HW2 := Lib.hid (below_drewN w.heap.size w nq)
  have HS2 := Lib.hid (HS.out.below HW2.out)
  generalize w.drewN nq = w2 at HW2 HS2 ⊢
  clear hc0
  have hc0 := cell2_0 HS2.out.1
  go_quiet ((go_at_call 120; exact calls_quiet (width8 _)))
  have HW3 := Lib.hid (HW2.out.trans (below_drewN w.heap.size w2 nq))
  have HS3 := Lib.hid (HS2.out.below (below_drewN w2.heap.size w2 nq))
  generalize w2.drewN nq = w3 at HW3 HS3 ⊢
  clear hc0 HW2 HS2
  go_wp2
  have hlen := HB.out.len
  go_loop [3, 26] (fun n i => ∃ k : Nat, k ≤ 1 ∧ i = .int .i64 k ∧ n = .int .u8 (Cod.num (l.take k) : Nat)) (fun _ i => 1 - (intOf i).toNat)
  case atStart => exact ⟨0, by omega, rfl, rfl⟩
  case round =>
    obtain ⟨k, hk, rfl, rfl⟩ := hrel
    by_cases hlt : k < 1
    · have hck : w3.cell? ⟨b, off + k, none⟩ = some (.int .u8 (l.getD k 0 : Nat)) := by
        obtain ⟨p', cap', he, -, -, hp⟩ := HS3.out.2.1.form
        obtain ⟨b', off', hpe, hc⟩ := hp (by omega)
        simp only [Value.slice.injEq] at he
        obtain ⟨rfl, -, rfl⟩ := he
        simp only [Option.some.injEq, Addr.mk.injEq] at hpe
        obtain ⟨rfl, rfl, -⟩ := hpe
        exact hc k (by omega)
      have hx := HB.out.getD k
      have HN := Lib.hid (take_succ_getD l k (by omega))
      generalize l.getD k 0 = x at hck hx HN
      have HST := Lib.hid (num_step8 l k x hlt (by omega) HB.out.small hx HN.out)
      have hst2 := HST.out
      rw [show IntKind.u8.wrap ((x : Int) * 2 ^ (8 * k)) = (x : Int) * 2 ^ (8 * k) % 256 by simp [IntKind.wrap, IntKind.bits, IntKind.signed]] at hst2
      have HST2 := Lib.hid hst2
      clear hst2
      go_wp2
      go_round
      case rel => exact ⟨k + 1, by omega, by go_num, by first | rw [HST.out] | rw [HST2.out]⟩
      case measure => simp [intOf]; omega
    · obtain rfl : k = 1 := by omega
      have hc0 := cell2_0 HS3.out.1
      have hf := free2 HS3.out.1 0
      go_wp2
      refine wp_region_still_tail 9 (by kernel_rfl) (by kernel_rfl) ?_
      simp only [List.take_succ_cons, List.take_zero, List.drop_succ_cons, List.drop_zero]
      iterate 5 still_step
      still_call (calls_still (width8 _))
      repeat still_step
      refine wpStill_nil ?_
      go_wp2
      all_goals
        go_ret
        refine ⟨rfl, ?_, grownBy_trans (grownBy_below HW3.out _) (grownBy_trans (grownBy_drew _ _) (grownBy_setCell _ _ _ _))⟩
        refine (HS3.out.below (below_drew _ _)).move ?_ rfl
        try rw [← List.drop_one]
        first
          | exact (HS3.out.2.1.below (below_drew _ _)).drop 1 hl
          | (have hz : l.length = 1 := by omega
             rw [show l.drop 1 = [] from List.drop_eq_nil_of_le (by omega), hz]
             exact ⟨⟨_, _, rfl, by simp, (fun h => by simp at h), fun h => absurd h (by simp)⟩, by simp, by simp⟩)

/-- A number of 1 bytes is read. -/
theorem take8_any (lo : Nat → Prop) (B e : Nat) (l : List Nat) (w : World) (hR : Rd 127 lo w B l e) :
    Calls Tryz.prog 111 #[.pointer (some ⟨B, 0, none⟩)] w fun en w' => en = .returned (.int .u8 ((Cod.rdNum 1 l e).1 : Nat)) ∧ Rd 127 lo w' B (Cod.rdNum 1 l e).2.1 (Cod.rdNum 1 l e).2.2 ∧ w.grownBy w' (some B) := by
  unfold Cod.rdNum
  by_cases he : e ≠ 0
  · rw [if_pos he]
    exact (take8_err lo B e l w hR he).mono fun en w' ⟨h1, h2⟩ => by subst h2; exact ⟨h1, hR, grownBy_refl _ _⟩
  · obtain rfl : e = 0 := by omega
    rw [if_neg he]
    by_cases hl : l.length < 1
    · rw [if_pos hl]; exact take8_short lo B l w hR hl
    · rw [if_neg hl]; exact take8_ok lo B l w hR (by omega)

set_option maxHeartbeats 400000 in
set_option maxRecDepth 20000 in
theorem U8_any (lo : Nat → Prop) (B e : Nat) (l : List Nat) (w : World) (hR : Rd 127 lo w B l e) :
    Calls Tryz.prog 86 #[.pointer (some ⟨B, 0, none⟩)] w fun en w' => en = .returned (.int .u8 ((Cod.rdNum 1 l e).1 : Nat)) ∧ Rd 127 lo w' B (Cod.rdNum 1 l e).2.1 (Cod.rdNum 1 l e).2.2 ∧ w.grownBy w' (some B) := by
  have HR := Lib.hid hR
  clear hR
  go_enter Tryz.func86, Tryz.ntmps86
  go_wp2_with fail
  refine (take8_any lo B e l _ HR.out).mono ?_
  rintro en w1 ⟨rfl, h1, h2⟩
  have H1 := Lib.hid h1
  have H2 := Lib.hid h2
  clear h1 h2
  go_wp2
  go_ret
  exact ⟨rfl, H1.out, H2.out⟩

set_option maxHeartbeats 400000 in
set_option maxRecDepth 20000 in
theorem U8_nil (w : World) : Calls Tryz.prog 86 #[.pointer none] w fun en w' => en = .returned (.int .u8 0) ∧ w = w' := by
  go_enter Tryz.func86, Tryz.ntmps86
  go_wp2_with fail
  refine (take8_nil _).mono ?_
  rintro en w' ⟨rfl, rfl⟩
  go_wp2
  go_ret
  exact ⟨rfl, rfl⟩

theorem or_shl16 (acc x k : Nat) (hk : k < 2) (ha : acc < 256 ^ k) (hx : x < 256) : bits .or .u16 (acc : Int) (IntKind.u16.wrap ((x : Int) * 2 ^ (8 * k))) = ((acc + x * 256 ^ k : Nat) : Int) := by
  have h1 : x * 256 ^ k < 65536 := shl_lt x k 2 hx hk
  have h2 : acc < 65536 := Nat.lt_of_lt_of_le ha (Nat.pow_le_pow_right (i := k) (j := 2) (by decide : 256 > 0) (by omega))
  rw [shl_cast]
  have hw : IntKind.u16.wrap ((x * 256 ^ k : Nat) : Int) = ((x * 256 ^ k : Nat) : Int) := by
    rw [show IntKind.u16.wrap ((x * 256 ^ k : Nat) : Int) = ((x * 256 ^ k : Nat) : Int) % 65536 by simp [IntKind.wrap, IntKind.bits, IntKind.signed]]
    omega
  rw [hw, u16_or_nat _ _ h2 h1, Nat.or_comm, nat_join (8 * k) _ _ (by rw [pow256]; exact Nat.mul_mod_left _ _) (by rw [pow256]; exact ha), Nat.add_comm]

theorem num_step16 (l : List Nat) (k : Nat) (x : Nat) (hk : k < 2) (hl : k < l.length) (hs : ∀ y ∈ l, y < 256) (hx : x < 256) (hN : l.take (k + 1) = l.take k ++ [x]) :
    bits .or .u16 (Cod.num (l.take k) : Nat) (IntKind.u16.wrap ((x : Int) * 2 ^ (8 * k))) = (Cod.num (l.take (k + 1)) : Nat) := by
  have hll : (l.take k).length = k := by simp; omega
  have ha : Cod.num (l.take k) < 256 ^ k := by
    have := Cod.num_lt (l.take k) (fun y hy => hs y (List.mem_of_mem_take hy))
    rwa [hll] at this
  rw [or_shl16 _ x k hk ha hx, hN, Cod.num_snoc, hll]

set_option maxHeartbeats 400000 in
set_option maxRecDepth 20000 in
theorem take16_err (lo : Nat → Prop) (B e : Nat) (l : List Nat) (w : World) (hR : Rd 127 lo w B l e) (he : e ≠ 0) :
    Calls Tryz.prog 109 #[.pointer (some ⟨B, 0, none⟩)] w fun en w' => en = .returned (.int .u16 0) ∧ w = w' := by
  have HR := Lib.hid hR
  have h0 : ((e : Int) == 0) = false := by simp; omega
  have h1 : ((e : Int) != 0) = true := by simp; omega
  have h2 : ¬ (e : Int) = 0 := by omega
  clear hR he
  go_enter Tryz.func109, Tryz.ntmps109
  go_wp2_with fail
  refine (err_any lo B e l _ HR.out).mono ?_
  rintro en w' ⟨rfl, rfl⟩
  go_wp2_with fail
  go_ret
  exact ⟨rfl, rfl⟩

set_option maxHeartbeats 400000 in
set_option maxRecDepth 20000 in
theorem take16_nil (w : World) :
    Calls Tryz.prog 109 #[.pointer none] w fun en w' => en = .returned (.int .u16 0) ∧ w = w' := by
  go_enter Tryz.func109, Tryz.ntmps109
  go_wp2_with fail
  refine (err_nil _).mono ?_
  rintro en w' ⟨rfl, rfl⟩
  go_wp2_with fail
  go_ret
  exact ⟨rfl, rfl⟩

set_option maxHeartbeats 800000 in
set_option maxRecDepth 20000 in
theorem take16_short (lo : Nat → Prop) (B : Nat) (l : List Nat) (w : World) (hR : Rd 127 lo w B l 0) (hl : l.length < 2) :
    Calls Tryz.prog 109 #[.pointer (some ⟨B, 0, none⟩)] w fun e w' => e = .returned (.int .u16 0) ∧ Rd 127 lo w' B l 4 ∧ w.grownBy w' (some B) := by
  have HR := Lib.hid hR
  obtain ⟨s, hh, hB, -, -⟩ := hR
  obtain ⟨p, cap, rfl, -, -, -⟩ := hB.form
  have hc0 := cell2_0 hh
  have hc1 := cell2_1 hh
  have hf := free2 hh 1
  clear hB hh
  go_enter Tryz.func109, Tryz.ntmps109
  go_wp2_with fail
  refine (err_any lo B 0 l _ HR.out).mono ?_
  rintro e w' ⟨rfl, rfl⟩
  go_wp2_with fail
  go_quiet ((go_at_call 103; exact calls_quiet (width16 _)))
  go_wp2
  go_ret
  exact ⟨rfl, (HR.out.below (below_drewN _ _ _)).fail 4, grownBy_trans (grownBy_below (below_drewN _ _ _) _) (grownBy_setCell _ _ _ _)⟩

set_option maxHeartbeats 1600000 in
set_option maxRecDepth 20000 in
theorem take16_ok (lo : Nat → Prop) (B : Nat) (l : List Nat) (w : World) (hR : Rd 127 lo w B l 0) (hl : 2 ≤ l.length) :
    Calls Tryz.prog 109 #[.pointer (some ⟨B, 0, none⟩)] w fun e w' => e = .returned (.int .u16 (Cod.num (l.take 2) : Nat)) ∧ Rd 127 lo w' B (l.drop 2) 0 ∧ w.grownBy w' (some B) := by
  have HR := Lib.hid hR
  obtain ⟨s, hS⟩ := hR
  have HS := Lib.hid hS
  have HB := Lib.hid hS.2.1
  obtain ⟨p, cap, rfl, hr, hn, hp⟩ := HB.out.form
  obtain ⟨b, off, rfl, hc⟩ := hp (by omega)
  have hcap := hr.1
  have hcap2 := hr.2
  have hc0 := cell2_0 hS.1
  clear hS hr hn hp hc
  go_enter Tryz.func109, Tryz.ntmps109
  go_wp2_with fail
  refine (err_any lo B 0 l _ HR.out).mono ?_
  rintro e w' ⟨rfl, rfl⟩
  go_wp2_with fail
  go_quiet ((go_at_call 103; exact calls_quiet (width16 _)))
  go_wp2
  have HW2 := Lib.hid (below_drewN w.heap.size w nq)
  have HS2 := Lib.hid (HS.out.below HW2.out)
  generalize w.drewN nq = w2 at HW2 HS2 ⊢
  clear hc0
  have hc0 := cell2_0 HS2.out.1
  go_quiet ((go_at_call 103; exact calls_quiet (width16 _)))
  have HW3 := Lib.hid (HW2.out.trans (below_drewN w.heap.size w2 nq))
  have HS3 := Lib.hid (HS2.out.below (below_drewN w2.heap.size w2 nq))
  generalize w2.drewN nq = w3 at HW3 HS3 ⊢
  clear hc0 HW2 HS2
  go_wp2
  have hlen := HB.out.len
  go_loop [3, 26] (fun n i => ∃ k : Nat, k ≤ 2 ∧ i = .int .i64 k ∧ n = .int .u16 (Cod.num (l.take k) : Nat)) (fun _ i => 2 - (intOf i).toNat)
  case atStart => exact ⟨0, by omega, rfl, rfl⟩
  case round =>
    obtain ⟨k, hk, rfl, rfl⟩ := hrel
    by_cases hlt : k < 2
    · have hck : w3.cell? ⟨b, off + k, none⟩ = some (.int .u8 (l.getD k 0 : Nat)) := by
        obtain ⟨p', cap', he, -, -, hp⟩ := HS3.out.2.1.form
        obtain ⟨b', off', hpe, hc⟩ := hp (by omega)
        simp only [Value.slice.injEq] at he
        obtain ⟨rfl, -, rfl⟩ := he
        simp only [Option.some.injEq, Addr.mk.injEq] at hpe
        obtain ⟨rfl, rfl, -⟩ := hpe
        exact hc k (by omega)
      have hx := HB.out.getD k
      have HN := Lib.hid (take_succ_getD l k (by omega))
      generalize l.getD k 0 = x at hck hx HN
      have HST := Lib.hid (num_step16 l k x hlt (by omega) HB.out.small hx HN.out)
      have hst2 := HST.out
      rw [show IntKind.u16.wrap ((x : Int) * 2 ^ (8 * k)) = (x : Int) * 2 ^ (8 * k) % 65536 by simp [IntKind.wrap, IntKind.bits, IntKind.signed]] at hst2
      have HST2 := Lib.hid hst2
      clear hst2
      go_wp2
      go_round
      case rel => exact ⟨k + 1, by omega, by go_num, by first | rw [HST.out] | rw [HST2.out]⟩
      case measure => simp [intOf]; omega
    · obtain rfl : k = 2 := by omega
      have hc0 := cell2_0 HS3.out.1
      have hf := free2 HS3.out.1 0
      go_wp2
      refine wp_region_still_tail 9 (by kernel_rfl) (by kernel_rfl) ?_
      simp only [List.take_succ_cons, List.take_zero, List.drop_succ_cons, List.drop_zero]
      iterate 5 still_step
      still_call (calls_still (width16 _))
      repeat still_step
      refine wpStill_nil ?_
      go_wp2
      all_goals
        go_ret
        refine ⟨rfl, ?_, grownBy_trans (grownBy_below HW3.out _) (grownBy_trans (grownBy_drew _ _) (grownBy_setCell _ _ _ _))⟩
        refine (HS3.out.below (below_drew _ _)).move ?_ rfl
        try rw [← List.drop_one]
        first
          | exact (HS3.out.2.1.below (below_drew _ _)).drop 2 hl
          | (have hz : l.length = 2 := by omega
             rw [show l.drop 2 = [] from List.drop_eq_nil_of_le (by omega), hz]
             exact ⟨⟨_, _, rfl, by simp, (fun h => by simp at h), fun h => absurd h (by simp)⟩, by simp, by simp⟩)

/-- A number of 2 bytes is read. -/
theorem take16_any (lo : Nat → Prop) (B e : Nat) (l : List Nat) (w : World) (hR : Rd 127 lo w B l e) :
    Calls Tryz.prog 109 #[.pointer (some ⟨B, 0, none⟩)] w fun en w' => en = .returned (.int .u16 ((Cod.rdNum 2 l e).1 : Nat)) ∧ Rd 127 lo w' B (Cod.rdNum 2 l e).2.1 (Cod.rdNum 2 l e).2.2 ∧ w.grownBy w' (some B) := by
  unfold Cod.rdNum
  by_cases he : e ≠ 0
  · rw [if_pos he]
    exact (take16_err lo B e l w hR he).mono fun en w' ⟨h1, h2⟩ => by subst h2; exact ⟨h1, hR, grownBy_refl _ _⟩
  · obtain rfl : e = 0 := by omega
    rw [if_neg he]
    by_cases hl : l.length < 2
    · rw [if_pos hl]; exact take16_short lo B l w hR hl
    · rw [if_neg hl]; exact take16_ok lo B l w hR (by omega)

set_option maxHeartbeats 400000 in
set_option maxRecDepth 20000 in
theorem U16_any (lo : Nat → Prop) (B e : Nat) (l : List Nat) (w : World) (hR : Rd 127 lo w B l e) :
    Calls Tryz.prog 84 #[.pointer (some ⟨B, 0, none⟩)] w fun en w' => en = .returned (.int .u16 ((Cod.rdNum 2 l e).1 : Nat)) ∧ Rd 127 lo w' B (Cod.rdNum 2 l e).2.1 (Cod.rdNum 2 l e).2.2 ∧ w.grownBy w' (some B) := by
  have HR := Lib.hid hR
  clear hR
  go_enter Tryz.func84, Tryz.ntmps84
  go_wp2_with fail
  refine (take16_any lo B e l _ HR.out).mono ?_
  rintro en w1 ⟨rfl, h1, h2⟩
  have H1 := Lib.hid h1
  have H2 := Lib.hid h2
  clear h1 h2
  go_wp2
  go_ret
  exact ⟨rfl, H1.out, H2.out⟩

set_option maxHeartbeats 400000 in
set_option maxRecDepth 20000 in
theorem U16_nil (w : World) : Calls Tryz.prog 84 #[.pointer none] w fun en w' => en = .returned (.int .u16 0) ∧ w = w' := by
  go_enter Tryz.func84, Tryz.ntmps84
  go_wp2_with fail
  refine (take16_nil _).mono ?_
  rintro en w' ⟨rfl, rfl⟩
  go_wp2
  go_ret
  exact ⟨rfl, rfl⟩

theorem or_shl32 (acc x k : Nat) (hk : k < 4) (ha : acc < 256 ^ k) (hx : x < 256) : bits .or .u32 (acc : Int) (IntKind.u32.wrap ((x : Int) * 2 ^ (8 * k))) = ((acc + x * 256 ^ k : Nat) : Int) := by
  have h1 : x * 256 ^ k < 4294967296 := shl_lt x k 4 hx hk
  have h2 : acc < 4294967296 := Nat.lt_of_lt_of_le ha (Nat.pow_le_pow_right (i := k) (j := 4) (by decide : 256 > 0) (by omega))
  rw [shl_cast]
  have hw : IntKind.u32.wrap ((x * 256 ^ k : Nat) : Int) = ((x * 256 ^ k : Nat) : Int) := by
    rw [show IntKind.u32.wrap ((x * 256 ^ k : Nat) : Int) = ((x * 256 ^ k : Nat) : Int) % 4294967296 by simp [IntKind.wrap, IntKind.bits, IntKind.signed]]
    omega
  rw [hw, u32_or_nat _ _ h2 h1, Nat.or_comm, nat_join (8 * k) _ _ (by rw [pow256]; exact Nat.mul_mod_left _ _) (by rw [pow256]; exact ha), Nat.add_comm]

theorem num_step32 (l : List Nat) (k : Nat) (x : Nat) (hk : k < 4) (hl : k < l.length) (hs : ∀ y ∈ l, y < 256) (hx : x < 256) (hN : l.take (k + 1) = l.take k ++ [x]) :
    bits .or .u32 (Cod.num (l.take k) : Nat) (IntKind.u32.wrap ((x : Int) * 2 ^ (8 * k))) = (Cod.num (l.take (k + 1)) : Nat) := by
  have hll : (l.take k).length = k := by simp; omega
  have ha : Cod.num (l.take k) < 256 ^ k := by
    have := Cod.num_lt (l.take k) (fun y hy => hs y (List.mem_of_mem_take hy))
    rwa [hll] at this
  rw [or_shl32 _ x k hk ha hx, hN, Cod.num_snoc, hll]

set_option maxHeartbeats 400000 in
set_option maxRecDepth 20000 in
theorem take32_err (lo : Nat → Prop) (B e : Nat) (l : List Nat) (w : World) (hR : Rd 127 lo w B l e) (he : e ≠ 0) :
    Calls Tryz.prog 108 #[.pointer (some ⟨B, 0, none⟩)] w fun en w' => en = .returned (.int .u32 0) ∧ w = w' := by
  have HR := Lib.hid hR
  have h0 : ((e : Int) == 0) = false := by simp; omega
  have h1 : ((e : Int) != 0) = true := by simp; omega
  have h2 : ¬ (e : Int) = 0 := by omega
  clear hR he
  go_enter Tryz.func108, Tryz.ntmps108
  go_wp2_with fail
  refine (err_any lo B e l _ HR.out).mono ?_
  rintro en w' ⟨rfl, rfl⟩
  go_wp2_with fail
  go_ret
  exact ⟨rfl, rfl⟩

set_option maxHeartbeats 400000 in
set_option maxRecDepth 20000 in
theorem take32_nil (w : World) :
    Calls Tryz.prog 108 #[.pointer none] w fun en w' => en = .returned (.int .u32 0) ∧ w = w' := by
  go_enter Tryz.func108, Tryz.ntmps108
  go_wp2_with fail
  refine (err_nil _).mono ?_
  rintro en w' ⟨rfl, rfl⟩
  go_wp2_with fail
  go_ret
  exact ⟨rfl, rfl⟩

set_option maxHeartbeats 800000 in
set_option maxRecDepth 20000 in
theorem take32_short (lo : Nat → Prop) (B : Nat) (l : List Nat) (w : World) (hR : Rd 127 lo w B l 0) (hl : l.length < 4) :
    Calls Tryz.prog 108 #[.pointer (some ⟨B, 0, none⟩)] w fun e w' => e = .returned (.int .u32 0) ∧ Rd 127 lo w' B l 4 ∧ w.grownBy w' (some B) := by
  have HR := Lib.hid hR
  obtain ⟨s, hh, hB, -, -⟩ := hR
  obtain ⟨p, cap, rfl, -, -, -⟩ := hB.form
  have hc0 := cell2_0 hh
  have hc1 := cell2_1 hh
  have hf := free2 hh 1
  clear hB hh
  go_enter Tryz.func108, Tryz.ntmps108
  go_wp2_with fail
  refine (err_any lo B 0 l _ HR.out).mono ?_
  rintro e w' ⟨rfl, rfl⟩
  go_wp2_with fail
  go_quiet ((go_at_call 105; exact calls_quiet (width32 _)))
  go_wp2
  go_ret
  exact ⟨rfl, (HR.out.below (below_drewN _ _ _)).fail 4, grownBy_trans (grownBy_below (below_drewN _ _ _) _) (grownBy_setCell _ _ _ _)⟩

set_option maxHeartbeats 1600000 in
set_option maxRecDepth 20000 in
theorem take32_ok (lo : Nat → Prop) (B : Nat) (l : List Nat) (w : World) (hR : Rd 127 lo w B l 0) (hl : 4 ≤ l.length) :
    Calls Tryz.prog 108 #[.pointer (some ⟨B, 0, none⟩)] w fun e w' => e = .returned (.int .u32 (Cod.num (l.take 4) : Nat)) ∧ Rd 127 lo w' B (l.drop 4) 0 ∧ w.grownBy w' (some B) := by
  have HR := Lib.hid hR
  obtain ⟨s, hS⟩ := hR
  have HS := Lib.hid hS
  have HB := Lib.hid hS.2.1
  obtain ⟨p, cap, rfl, hr, hn, hp⟩ := HB.out.form
  obtain ⟨b, off, rfl, hc⟩ := hp (by omega)
  have hcap := hr.1
  have hcap2 := hr.2
  have hc0 := cell2_0 hS.1
  clear hS hr hn hp hc
  go_enter Tryz.func108, Tryz.ntmps108
  go_wp2_with fail
  refine (err_any lo B 0 l _ HR.out).mono ?_
  rintro e w' ⟨rfl, rfl⟩
  go_wp2_with fail
  go_quiet ((go_at_call 105; exact calls_quiet (width32 _)))
  go_wp2
  have HW2 := Lib.hid (below_drewN w.heap.size w nq)
  have HS2 := Lib.hid (HS.out.below HW2.out)
  generalize w.drewN nq = w2 at HW2 HS2 ⊢
  clear hc0
  have hc0 := cell2_0 HS2.out.1
  go_quiet ((go_at_call 105; exact calls_quiet (width32 _)))
  have HW3 := Lib.hid (HW2.out.trans (below_drewN w.heap.size w2 nq))
  have HS3 := Lib.hid (HS2.out.below (below_drewN w2.heap.size w2 nq))
  generalize w2.drewN nq = w3 at HW3 HS3 ⊢
  clear hc0 HW2 HS2
  go_wp2
  have hlen := HB.out.len
  go_loop [3, 26] (fun n i => ∃ k : Nat, k ≤ 4 ∧ i = .int .i64 k ∧ n = .int .u32 (Cod.num (l.take k) : Nat)) (fun _ i => 4 - (intOf i).toNat)
  case atStart => exact ⟨0, by omega, rfl, rfl⟩
  case round =>
    obtain ⟨k, hk, rfl, rfl⟩ := hrel
    by_cases hlt : k < 4
    · have hck : w3.cell? ⟨b, off + k, none⟩ = some (.int .u8 (l.getD k 0 : Nat)) := by
        obtain ⟨p', cap', he, -, -, hp⟩ := HS3.out.2.1.form
        obtain ⟨b', off', hpe, hc⟩ := hp (by omega)
        simp only [Value.slice.injEq] at he
        obtain ⟨rfl, -, rfl⟩ := he
        simp only [Option.some.injEq, Addr.mk.injEq] at hpe
        obtain ⟨rfl, rfl, -⟩ := hpe
        exact hc k (by omega)
      have hx := HB.out.getD k
      have HN := Lib.hid (take_succ_getD l k (by omega))
      generalize l.getD k 0 = x at hck hx HN
      have HST := Lib.hid (num_step32 l k x hlt (by omega) HB.out.small hx HN.out)
      have hst2 := HST.out
      rw [show IntKind.u32.wrap ((x : Int) * 2 ^ (8 * k)) = (x : Int) * 2 ^ (8 * k) % 4294967296 by simp [IntKind.wrap, IntKind.bits, IntKind.signed]] at hst2
      have HST2 := Lib.hid hst2
      clear hst2
      go_wp2
      go_round
      case rel => exact ⟨k + 1, by omega, by go_num, by first | rw [HST.out] | rw [HST2.out]⟩
      case measure => simp [intOf]; omega
    · obtain rfl : k = 4 := by omega
      have hc0 := cell2_0 HS3.out.1
      have hf := free2 HS3.out.1 0
      go_wp2
      refine wp_region_still_tail 9 (by kernel_rfl) (by kernel_rfl) ?_
      simp only [List.take_succ_cons, List.take_zero, List.drop_succ_cons, List.drop_zero]
      iterate 5 still_step
      still_call (calls_still (width32 _))
      repeat still_step
      refine wpStill_nil ?_
      go_wp2
      all_goals
        go_ret
        refine ⟨rfl, ?_, grownBy_trans (grownBy_below HW3.out _) (grownBy_trans (grownBy_drew _ _) (grownBy_setCell _ _ _ _))⟩
        refine (HS3.out.below (below_drew _ _)).move ?_ rfl
        try rw [← List.drop_one]
        first
          | exact (HS3.out.2.1.below (below_drew _ _)).drop 4 hl
          | (have hz : l.length = 4 := by omega
             rw [show l.drop 4 = [] from List.drop_eq_nil_of_le (by omega), hz]
             exact ⟨⟨_, _, rfl, by simp, (fun h => by simp at h), fun h => absurd h (by simp)⟩, by simp, by simp⟩)

/-- A number of 4 bytes is read. -/
theorem take32_any (lo : Nat → Prop) (B e : Nat) (l : List Nat) (w : World) (hR : Rd 127 lo w B l e) :
    Calls Tryz.prog 108 #[.pointer (some ⟨B, 0, none⟩)] w fun en w' => en = .returned (.int .u32 ((Cod.rdNum 4 l e).1 : Nat)) ∧ Rd 127 lo w' B (Cod.rdNum 4 l e).2.1 (Cod.rdNum 4 l e).2.2 ∧ w.grownBy w' (some B) := by
  unfold Cod.rdNum
  by_cases he : e ≠ 0
  · rw [if_pos he]
    exact (take32_err lo B e l w hR he).mono fun en w' ⟨h1, h2⟩ => by subst h2; exact ⟨h1, hR, grownBy_refl _ _⟩
  · obtain rfl : e = 0 := by omega
    rw [if_neg he]
    by_cases hl : l.length < 4
    · rw [if_pos hl]; exact take32_short lo B l w hR hl
    · rw [if_neg hl]; exact take32_ok lo B l w hR (by omega)

set_option maxHeartbeats 400000 in
set_option maxRecDepth 20000 in
theorem U32_any (lo : Nat → Prop) (B e : Nat) (l : List Nat) (w : World) (hR : Rd 127 lo w B l e) :
    Calls Tryz.prog 83 #[.pointer (some ⟨B, 0, none⟩)] w fun en w' => en = .returned (.int .u32 ((Cod.rdNum 4 l e).1 : Nat)) ∧ Rd 127 lo w' B (Cod.rdNum 4 l e).2.1 (Cod.rdNum 4 l e).2.2 ∧ w.grownBy w' (some B) := by
  have HR := Lib.hid hR
  clear hR
  go_enter Tryz.func83, Tryz.ntmps83
  go_wp2_with fail
  refine (take32_any lo B e l _ HR.out).mono ?_
  rintro en w1 ⟨rfl, h1, h2⟩
  have H1 := Lib.hid h1
  have H2 := Lib.hid h2
  clear h1 h2
  go_wp2
  go_ret
  exact ⟨rfl, H1.out, H2.out⟩

set_option maxHeartbeats 400000 in
set_option maxRecDepth 20000 in
theorem U32_nil (w : World) : Calls Tryz.prog 83 #[.pointer none] w fun en w' => en = .returned (.int .u32 0) ∧ w = w' := by
  go_enter Tryz.func83, Tryz.ntmps83
  go_wp2_with fail
  refine (take32_nil _).mono ?_
  rintro en w' ⟨rfl, rfl⟩
  go_wp2
  go_ret
  exact ⟨rfl, rfl⟩

theorem or_shl64 (acc x k : Nat) (hk : k < 8) (ha : acc < 256 ^ k) (hx : x < 256) : bits .or .u64 (acc : Int) (IntKind.u64.wrap ((x : Int) * 2 ^ (8 * k))) = ((acc + x * 256 ^ k : Nat) : Int) := by
  have h1 : x * 256 ^ k < 18446744073709551616 := shl_lt x k 8 hx hk
  have h2 : acc < 18446744073709551616 := Nat.lt_of_lt_of_le ha (Nat.pow_le_pow_right (i := k) (j := 8) (by decide : 256 > 0) (by omega))
  rw [shl_cast]
  have hw : IntKind.u64.wrap ((x * 256 ^ k : Nat) : Int) = ((x * 256 ^ k : Nat) : Int) := by
    rw [show IntKind.u64.wrap ((x * 256 ^ k : Nat) : Int) = ((x * 256 ^ k : Nat) : Int) % 18446744073709551616 by simp [IntKind.wrap, IntKind.bits, IntKind.signed]]
    omega
  rw [hw, u64_or_nat _ _ h2 h1, Nat.or_comm, nat_join (8 * k) _ _ (by rw [pow256]; exact Nat.mul_mod_left _ _) (by rw [pow256]; exact ha), Nat.add_comm]

theorem num_step64 (l : List Nat) (k : Nat) (x : Nat) (hk : k < 8) (hl : k < l.length) (hs : ∀ y ∈ l, y < 256) (hx : x < 256) (hN : l.take (k + 1) = l.take k ++ [x]) :
    bits .or .u64 (Cod.num (l.take k) : Nat) (IntKind.u64.wrap ((x : Int) * 2 ^ (8 * k))) = (Cod.num (l.take (k + 1)) : Nat) := by
  have hll : (l.take k).length = k := by simp; omega
  have ha : Cod.num (l.take k) < 256 ^ k := by
    have := Cod.num_lt (l.take k) (fun y hy => hs y (List.mem_of_mem_take hy))
    rwa [hll] at this
  rw [or_shl64 _ x k hk ha hx, hN, Cod.num_snoc, hll]

set_option maxHeartbeats 400000 in
set_option maxRecDepth 20000 in
theorem take64_err (lo : Nat → Prop) (B e : Nat) (l : List Nat) (w : World) (hR : Rd 127 lo w B l e) (he : e ≠ 0) :
    Calls Tryz.prog 110 #[.pointer (some ⟨B, 0, none⟩)] w fun en w' => en = .returned (.int .u64 0) ∧ w = w' := by
  have HR := Lib.hid hR
  have h0 : ((e : Int) == 0) = false := by simp; omega
  have h1 : ((e : Int) != 0) = true := by simp; omega
  have h2 : ¬ (e : Int) = 0 := by omega
  clear hR he
  go_enter Tryz.func110, Tryz.ntmps110
  go_wp2_with fail
  refine (err_any lo B e l _ HR.out).mono ?_
  rintro en w' ⟨rfl, rfl⟩
  go_wp2_with fail
  go_ret
  exact ⟨rfl, rfl⟩

set_option maxHeartbeats 400000 in
set_option maxRecDepth 20000 in
theorem take64_nil (w : World) :
    Calls Tryz.prog 110 #[.pointer none] w fun en w' => en = .returned (.int .u64 0) ∧ w = w' := by
  go_enter Tryz.func110, Tryz.ntmps110
  go_wp2_with fail
  refine (err_nil _).mono ?_
  rintro en w' ⟨rfl, rfl⟩
  go_wp2_with fail
  go_ret
  exact ⟨rfl, rfl⟩

set_option maxHeartbeats 800000 in
set_option maxRecDepth 20000 in
theorem take64_short (lo : Nat → Prop) (B : Nat) (l : List Nat) (w : World) (hR : Rd 127 lo w B l 0) (hl : l.length < 8) :
    Calls Tryz.prog 110 #[.pointer (some ⟨B, 0, none⟩)] w fun e w' => e = .returned (.int .u64 0) ∧ Rd 127 lo w' B l 4 ∧ w.grownBy w' (some B) := by
  have HR := Lib.hid hR
  obtain ⟨s, hh, hB, -, -⟩ := hR
  obtain ⟨p, cap, rfl, -, -, -⟩ := hB.form
  have hc0 := cell2_0 hh
  have hc1 := cell2_1 hh
  have hf := free2 hh 1
  clear hB hh
  go_enter Tryz.func110, Tryz.ntmps110
  go_wp2_with fail
  refine (err_any lo B 0 l _ HR.out).mono ?_
  rintro e w' ⟨rfl, rfl⟩
  go_wp2_with fail
  go_quiet ((go_at_call 104; exact calls_quiet (width64 _)))
  go_wp2
  go_ret
  exact ⟨rfl, (HR.out.below (below_drewN _ _ _)).fail 4, grownBy_trans (grownBy_below (below_drewN _ _ _) _) (grownBy_setCell _ _ _ _)⟩

set_option maxHeartbeats 1600000 in
set_option maxRecDepth 20000 in
theorem take64_ok (lo : Nat → Prop) (B : Nat) (l : List Nat) (w : World) (hR : Rd 127 lo w B l 0) (hl : 8 ≤ l.length) :
    Calls Tryz.prog 110 #[.pointer (some ⟨B, 0, none⟩)] w fun e w' => e = .returned (.int .u64 (Cod.num (l.take 8) : Nat)) ∧ Rd 127 lo w' B (l.drop 8) 0 ∧ w.grownBy w' (some B) := by
  have HR := Lib.hid hR
  obtain ⟨s, hS⟩ := hR
  have HS := Lib.hid hS
  have HB := Lib.hid hS.2.1
  obtain ⟨p, cap, rfl, hr, hn, hp⟩ := HB.out.form
  obtain ⟨b, off, rfl, hc⟩ := hp (by omega)
  have hcap := hr.1
  have hcap2 := hr.2
  have hc0 := cell2_0 hS.1
  clear hS hr hn hp hc
  go_enter Tryz.func110, Tryz.ntmps110
  go_wp2_with fail
  refine (err_any lo B 0 l _ HR.out).mono ?_
  rintro e w' ⟨rfl, rfl⟩
  go_wp2_with fail
  go_quiet ((go_at_call 104; exact calls_quiet (width64 _)))
  go_wp2
  have HW2 := Lib.hid (below_drewN w.heap.size w nq)
  have HS2 := Lib.hid (HS.out.below HW2.out)
  generalize w.drewN nq = w2 at HW2 HS2 ⊢
  clear hc0
  have hc0 := cell2_0 HS2.out.1
  go_quiet ((go_at_call 104; exact calls_quiet (width64 _)))
  have HW3 := Lib.hid (HW2.out.trans (below_drewN w.heap.size w2 nq))
  have HS3 := Lib.hid (HS2.out.below (below_drewN w2.heap.size w2 nq))
  generalize w2.drewN nq = w3 at HW3 HS3 ⊢
  clear hc0 HW2 HS2
  go_wp2
  have hlen := HB.out.len
  go_loop [3, 26] (fun n i => ∃ k : Nat, k ≤ 8 ∧ i = .int .i64 k ∧ n = .int .u64 (Cod.num (l.take k) : Nat)) (fun _ i => 8 - (intOf i).toNat)
  case atStart => exact ⟨0, by omega, rfl, rfl⟩
  case round =>
    obtain ⟨k, hk, rfl, rfl⟩ := hrel
    by_cases hlt : k < 8
    · have hck : w3.cell? ⟨b, off + k, none⟩ = some (.int .u8 (l.getD k 0 : Nat)) := by
        obtain ⟨p', cap', he, -, -, hp⟩ := HS3.out.2.1.form
        obtain ⟨b', off', hpe, hc⟩ := hp (by omega)
        simp only [Value.slice.injEq] at he
        obtain ⟨rfl, -, rfl⟩ := he
        simp only [Option.some.injEq, Addr.mk.injEq] at hpe
        obtain ⟨rfl, rfl, -⟩ := hpe
        exact hc k (by omega)
      have hx := HB.out.getD k
      have HN := Lib.hid (take_succ_getD l k (by omega))
      generalize l.getD k 0 = x at hck hx HN
      have HST := Lib.hid (num_step64 l k x hlt (by omega) HB.out.small hx HN.out)
      have hst2 := HST.out
      rw [show IntKind.u64.wrap ((x : Int) * 2 ^ (8 * k)) = (x : Int) * 2 ^ (8 * k) % 18446744073709551616 by simp [IntKind.wrap, IntKind.bits, IntKind.signed]] at hst2
      have HST2 := Lib.hid hst2
      clear hst2
      go_wp2
      go_round
      case rel => exact ⟨k + 1, by omega, by go_num, by first | rw [HST.out] | rw [HST2.out]⟩
      case measure => simp [intOf]; omega
    · obtain rfl : k = 8 := by omega
      have hc0 := cell2_0 HS3.out.1
      have hf := free2 HS3.out.1 0
      go_wp2
      refine wp_region_still_tail 9 (by kernel_rfl) (by kernel_rfl) ?_
      simp only [List.take_succ_cons, List.take_zero, List.drop_succ_cons, List.drop_zero]
      iterate 5 still_step
      still_call (calls_still (width64 _))
      repeat still_step
      refine wpStill_nil ?_
      go_wp2
      all_goals
        go_ret
        refine ⟨rfl, ?_, grownBy_trans (grownBy_below HW3.out _) (grownBy_trans (grownBy_drew _ _) (grownBy_setCell _ _ _ _))⟩
        refine (HS3.out.below (below_drew _ _)).move ?_ rfl
        try rw [← List.drop_one]
        first
          | exact (HS3.out.2.1.below (below_drew _ _)).drop 8 hl
          | (have hz : l.length = 8 := by omega
             rw [show l.drop 8 = [] from List.drop_eq_nil_of_le (by omega), hz]
             exact ⟨⟨_, _, rfl, by simp, (fun h => by simp at h), fun h => absurd h (by simp)⟩, by simp, by simp⟩)

/-- A number of 8 bytes is read. -/
theorem take64_any (lo : Nat → Prop) (B e : Nat) (l : List Nat) (w : World) (hR : Rd 127 lo w B l e) :
    Calls Tryz.prog 110 #[.pointer (some ⟨B, 0, none⟩)] w fun en w' => en = .returned (.int .u64 ((Cod.rdNum 8 l e).1 : Nat)) ∧ Rd 127 lo w' B (Cod.rdNum 8 l e).2.1 (Cod.rdNum 8 l e).2.2 ∧ w.grownBy w' (some B) := by
  unfold Cod.rdNum
  by_cases he : e ≠ 0
  · rw [if_pos he]
    exact (take64_err lo B e l w hR he).mono fun en w' ⟨h1, h2⟩ => by subst h2; exact ⟨h1, hR, grownBy_refl _ _⟩
  · obtain rfl : e = 0 := by omega
    rw [if_neg he]
    by_cases hl : l.length < 8
    · rw [if_pos hl]; exact take64_short lo B l w hR hl
    · rw [if_neg hl]; exact take64_ok lo B l w hR (by omega)

set_option maxHeartbeats 400000 in
set_option maxRecDepth 20000 in
theorem U64_any (lo : Nat → Prop) (B e : Nat) (l : List Nat) (w : World) (hR : Rd 127 lo w B l e) :
    Calls Tryz.prog 85 #[.pointer (some ⟨B, 0, none⟩)] w fun en w' => en = .returned (.int .u64 ((Cod.rdNum 8 l e).1 : Nat)) ∧ Rd 127 lo w' B (Cod.rdNum 8 l e).2.1 (Cod.rdNum 8 l e).2.2 ∧ w.grownBy w' (some B) := by
  have HR := Lib.hid hR
  clear hR
  go_enter Tryz.func85, Tryz.ntmps85
  go_wp2_with fail
  refine (take64_any lo B e l _ HR.out).mono ?_
  rintro en w1 ⟨rfl, h1, h2⟩
  have H1 := Lib.hid h1
  have H2 := Lib.hid h2
  clear h1 h2
  go_wp2
  go_ret
  exact ⟨rfl, H1.out, H2.out⟩

set_option maxHeartbeats 400000 in
set_option maxRecDepth 20000 in
theorem U64_nil (w : World) : Calls Tryz.prog 85 #[.pointer none] w fun en w' => en = .returned (.int .u64 0) ∧ w = w' := by
  go_enter Tryz.func85, Tryz.ntmps85
  go_wp2_with fail
  refine (take64_nil _).mono ?_
  rintro en w' ⟨rfl, rfl⟩
  go_wp2
  go_ret
  exact ⟨rfl, rfl⟩

end Go.Proofs.YtafpjcobagofcaaGreat

namespace Go.Proofs.YtafpjcobagofcaaGreat
open Go.RowKit

set_option maxHeartbeats 400000 in
set_option maxRecDepth 20000 in
theorem Uv_err (lo : Nat → Prop) (B e : Nat) (l : List Nat) (w : World) (hR : Rd 127 lo w B l e) (he : e ≠ 0) :
    Calls Tryz.prog 114 #[.pointer (some ⟨B, 0, none⟩)] w fun en w' => en = .returned (.int .u64 0) ∧ w = w' := by
  have HR := Lib.hid hR
  have h0 : ((e : Int) == 0) = false := by simp; omega
  have h1 : ((e : Int) != 0) = true := by simp; omega
  have h2 : ¬ (e : Int) = 0 := by omega
  clear hR he
  go_enter Tryz.func114, Tryz.ntmps114
  go_wp2_with fail
  refine (err_any lo B e l _ HR.out).mono ?_
  rintro en w' ⟨rfl, rfl⟩
  go_wp2_with fail
  go_ret
  exact ⟨rfl, rfl⟩

set_option maxHeartbeats 400000 in
set_option maxRecDepth 20000 in
theorem Uv_nil (w : World) :
    Calls Tryz.prog 114 #[.pointer none] w fun en w' => en = .returned (.int .u64 0) ∧ w = w' := by
  go_enter Tryz.func114, Tryz.ntmps114
  go_wp2_with fail
  refine (err_nil _).mono ?_
  rintro en w' ⟨rfl, rfl⟩
  go_wp2_with fail
  go_ret
  exact ⟨rfl, rfl⟩

set_option maxHeartbeats 800000 in
set_option maxRecDepth 20000 in
theorem Uv_none (lo : Nat → Prop) (B : Nat) (l : List Nat) (w : World) (hR : Rd 127 lo w B l 0) (hk : (Cod.cnt 0 l).2 = 0) :
    Calls Tryz.prog 114 #[.pointer (some ⟨B, 0, none⟩)] w fun e w' => e = .returned (.int .u64 0) ∧ Rd 127 lo w' B l 4 ∧ w.grownBy w' (some B) := by
  have HR := Lib.hid hR
  obtain ⟨s, hS⟩ := hR
  have HS := Lib.hid hS
  have HB := Lib.hid hS.2.1
  obtain ⟨p, cap, rfl, -, -, -⟩ := HB.out.form
  have hc0 := cell2_0 hS.1
  have hc1 := cell2_1 hS.1
  have hf := free2 hS.1 1
  have HK := Lib.hid hk
  clear hS hk
  go_enter Tryz.func114, Tryz.ntmps114
  go_wp2_with fail
  refine (err_any lo B 0 l _ HR.out).mono ?_
  rintro e w' ⟨rfl, rfl⟩
  go_wp2_with fail
  refine (firstUv_any _ l _ HB.out).mono ?_
  rintro e w' ⟨rfl, rfl⟩
  rw [HK.out]
  go_wp2_with fail
  go_ret
  exact ⟨rfl, HR.out.fail 4, grownBy_setCell _ _ _ _⟩

set_option maxHeartbeats 800000 in
set_option maxRecDepth 20000 in
theorem Uv_ok (lo : Nat → Prop) (B : Nat) (l : List Nat) (w : World) (hR : Rd 127 lo w B l 0) (hk : (Cod.cnt 0 l).2 ≠ 0) :
    Calls Tryz.prog 114 #[.pointer (some ⟨B, 0, none⟩)] w fun e w' => e = .returned (.int .u64 ((Cod.cnt 0 l).1 : Nat)) ∧ Rd 127 lo w' B (l.drop (Cod.cnt 0 l).2) 0 ∧ w.grownBy w' (some B) := by
  have HR := Lib.hid hR
  obtain ⟨s, hS⟩ := hR
  have HS := Lib.hid hS
  have HB := Lib.hid hS.2.1
  have hkl := Cod.cnt_len l 0
  have HF := Lib.hid (firstUv_any s l w HB.out)
  generalize Cod.cnt 0 l = c at hk hkl HF ⊢
  obtain ⟨n, k⟩ := c
  have hk1 : 0 < k := by simp at hk; omega
  have hk2 : k ≤ l.length := hkl
  obtain ⟨p, cap, rfl, hr, hn, hp⟩ := HB.out.form
  obtain ⟨b, off, rfl, hc⟩ := hp (by omega)
  have hcap := hr.1
  have hcap2 := hr.2
  have hlen := HB.out.len
  have hc0 := cell2_0 hS.1
  have hf := free2 hS.1 0
  clear hS hk hkl hr hn hp hc
  go_enter Tryz.func114, Tryz.ntmps114
  go_wp2_with fail
  refine (err_any lo B 0 l _ HR.out).mono ?_
  rintro e w' ⟨rfl, rfl⟩
  go_wp2_with fail
  refine HF.out.mono ?_
  rintro e w' ⟨rfl, rfl⟩
  go_wp2_with fail
  all_goals
    go_ret
    refine ⟨rfl, ?_, grownBy_setCell _ _ _ _⟩
    refine HS.out.move ?_ rfl
    first
      | exact HS.out.2.1.drop k hk2
      | (rw [show l.drop k = [] from List.drop_eq_nil_of_le (by omega)]
         exact bts_zero _ _ _ _ (by omega) (by omega))

/-- A count is read. -/
theorem Uv_any (lo : Nat → Prop) (B e : Nat) (l : List Nat) (w : World) (hR : Rd 127 lo w B l e) :
    Calls Tryz.prog 114 #[.pointer (some ⟨B, 0, none⟩)] w fun en w' => en = .returned (.int .u64 ((Cod.rdUv l e).1 : Nat)) ∧ Rd 127 lo w' B (Cod.rdUv l e).2.1 (Cod.rdUv l e).2.2 ∧ w.grownBy w' (some B) := by
  unfold Cod.rdUv
  by_cases he : e ≠ 0
  · rw [if_pos he]
    exact (Uv_err lo B e l w hR he).mono fun en w' ⟨h1, h2⟩ => by subst h2; exact ⟨h1, hR, grownBy_refl _ _⟩
  · obtain rfl : e = 0 := by omega
    rw [if_neg he]
    by_cases hk : (Cod.cnt 0 l).2 = 0
    · rw [if_pos hk]; exact Uv_none lo B l w hR hk
    · rw [if_neg hk]; exact Uv_ok lo B l w hR hk

set_option maxHeartbeats 400000 in
set_option maxRecDepth 20000 in
theorem Text_err (lo : Nat → Prop) (B e : Nat) (l : List Nat) (most : Int) (w : World) (hR : Rd 127 lo w B l e) (he : e ≠ 0) :
    Calls Tryz.prog 87 #[.pointer (some ⟨B, 0, none⟩), .int .i64 most] w fun en w' => en = .returned (.slice none 0 0) ∧ w = w' := by
  have HR := Lib.hid hR
  have h0 : ((e : Int) == 0) = false := by simp; omega
  have h1 : ((e : Int) != 0) = true := by simp; omega
  have h2 : ¬ (e : Int) = 0 := by omega
  clear hR he
  go_enter Tryz.func87, Tryz.ntmps87
  go_wp2_with fail
  refine (err_any lo B e l _ HR.out).mono ?_
  rintro en w' ⟨rfl, rfl⟩
  go_wp2_with fail
  go_ret
  exact ⟨rfl, rfl⟩

set_option maxHeartbeats 400000 in
set_option maxRecDepth 20000 in
theorem Text_nil (most : Int) (w : World) :
    Calls Tryz.prog 87 #[.pointer none, .int .i64 most] w fun en w' => en = .returned (.slice none 0 0) ∧ w = w' := by
  go_enter Tryz.func87, Tryz.ntmps87
  go_wp2_with fail
  refine (err_nil _).mono ?_
  rintro en w' ⟨rfl, rfl⟩
  go_wp2_with fail
  go_ret
  exact ⟨rfl, rfl⟩

set_option maxHeartbeats 800000 in
set_option maxRecDepth 20000 in
theorem Text_none (lo : Nat → Prop) (B : Nat) (l : List Nat) (most : Int) (w : World) (hR : Rd 127 lo w B l 0) (hk : (Cod.cnt 0 l).2 = 0) :
    Calls Tryz.prog 87 #[.pointer (some ⟨B, 0, none⟩), .int .i64 most] w fun e w' => e = .returned (.slice none 0 0) ∧ Rd 127 lo w' B l 4 ∧ w.grownBy w' (some B) := by
  have HR := Lib.hid hR
  obtain ⟨s, hS⟩ := hR
  have HS := Lib.hid hS
  have HB := Lib.hid hS.2.1
  obtain ⟨p, cap, rfl, hr, hn, -⟩ := HB.out.form
  have hcap := hr.1
  have hcap2 := hr.2
  have hlen := HB.out.len
  have hc0 := cell2_0 hS.1
  have hc1 := cell2_1 hS.1
  have hf := free2 hS.1 1
  have HK := Lib.hid hk
  have hcz : cap = 0 ∨ 0 < cap := by omega
  clear hS hk hr
  cases p with
  | none =>
    obtain rfl := hn rfl
    clear hn hcz
    go_enter Tryz.func87, Tryz.ntmps87
    go_wp2_with fail
    refine (err_any lo B 0 l _ HR.out).mono ?_
    rintro e w' ⟨rfl, rfl⟩
    go_wp2_with fail
    refine (firstUv_any _ l _ HB.out).mono ?_
    rintro e w' ⟨rfl, rfl⟩
    rw [HK.out]
    go_wp2_with fail
    go_ret
    exact ⟨rfl, HR.out.fail 4, grownBy_setCell _ _ _ _⟩
  | some ad =>
    clear hn
    go_enter Tryz.func87, Tryz.ntmps87
    go_wp2_with fail
    refine (err_any lo B 0 l _ HR.out).mono ?_
    rintro e w' ⟨rfl, rfl⟩
    go_wp2_with fail
    refine (firstUv_any _ l _ HB.out).mono ?_
    rintro e w' ⟨rfl, rfl⟩
    rw [HK.out]
    go_wp2_with fail
    go_ret
    exact ⟨rfl, HR.out.fail 4, grownBy_setCell _ _ _ _⟩
end Go.Proofs.YtafpjcobagofcaaGreat

namespace Go.Proofs.YtafpjcobagofcaaGreat
open Go.RowKit

theorem Bts.mid {w : World} {b off cap : Nat} {l : List Nat} (h : Bts w (.slice (some ⟨b, off, none⟩) l.length cap) l) (k n : Nat) (hn : n ≤ l.length - k) (hk : k ≤ l.length) : Bts w (.slice (some ⟨b, off + k, none⟩) n (cap - k)) ((l.drop k).take n) := by
  have h1 := h.drop k hk
  have e : l.length - k = (l.drop k).length := by simp
  rw [e] at h1 hn
  exact h1.take n hn
theorem Bts.rest {w : World} {b off cap : Nat} {l : List Nat} (h : Bts w (.slice (some ⟨b, off, none⟩) l.length cap) l) (k n : Nat) (hn : n ≤ l.length - k) (hk : k ≤ l.length) : Bts w (.slice (some ⟨b, off + k + n, none⟩) (l.length - k - n) (cap - k - n)) ((l.drop k).drop n) := by
  have h1 := h.drop k hk
  have e : l.length - k = (l.drop k).length := by simp
  rw [e] at h1 hn ⊢
  exact h1.drop n hn

theorem mid_set {T : TypeId} {lo : Nat → Prop} {B e : Nat} {w : World} {s m u : Value} {l t : List Nat} (hS : RdS T lo w B s l e) (hm : Bts w m t) (ho : m.ownBlock = s.ownBlock) (hl : t.length ≤ l.length := by (simp only [List.length_take, List.length_drop, List.length_tail, List.length_nil]; omega)) : Bts (w.setCell ⟨B, 0, none⟩ u) m t :=
  hm.grown (grownBy_setCell w B 0 u) (fun h0 he => hS.2.2.1 (hS.2.2.2 (by omega) B (by rw [← ho, he])))

theorem text_end {T : TypeId} {lo : Nat → Prop} {B e : Nat} {w w1 : World} {s s' v : Value} {l r t : List Nat} (hS : RdS T lo w B s l e) (hR : Bts w s' r) (ho : s'.ownBlock = s.ownBlock) (hl : r.length ≤ l.length)
    (hO : Own (w.setCell ⟨B, 0, none⟩ s').heap.size w1 v t) (hb : Below (w.setCell ⟨B, 0, none⟩ s').heap.size (w.setCell ⟨B, 0, none⟩ s') w1) : Own w.heap.size w1 v t ∧ Rd T lo w1 B r e ∧ w.grownBy w1 (some B) :=
  ⟨hO.from (by simp [World.setCell]), (hS.move hR ho hl).below hb, grownBy_trans (grownBy_setCell _ _ _ _) (grownBy_below hb _)⟩

set_option maxHeartbeats 1600000 in
set_option maxRecDepth 20000 in
theorem Text_long (lo : Nat → Prop) (B : Nat) (l : List Nat) (most : Int) (w : World) (hR : Rd 127 lo w B l 0) (hk : (Cod.cnt 0 l).2 ≠ 0) (hm : most ≤ 9223372036854775807) (hlong : max most 0 < ((Cod.cnt 0 l).1 : Int)) :
    Calls Tryz.prog 87 #[.pointer (some ⟨B, 0, none⟩), .int .i64 most] w fun e w' => e = .returned (.slice none 0 0) ∧ Rd 127 lo w' B l 3 ∧ w.grownBy w' (some B) := by
  have HR := Lib.hid hR
  obtain ⟨s, hS⟩ := hR
  have HS := Lib.hid hS
  have HB := Lib.hid hS.2.1
  have hkl := Cod.cnt_len l 0
  have HF := Lib.hid (firstUv_any s l w HB.out)
  generalize Cod.cnt 0 l = c at hk hkl HF hlong ⊢
  obtain ⟨n, k⟩ := c
  have hk1 : 0 < k := by simp at hk; omega
  have hk2 : k ≤ l.length := hkl
  obtain ⟨M, hM⟩ : ∃ M : Nat, max most 0 = (M : Int) := ⟨(max most 0).toNat, by omega⟩
  have hM2 : M ≤ 9223372036854775807 := by omega
  have hMn : M < n := by rw [hM] at hlong; exact Int.ofNat_lt.1 hlong
  obtain ⟨p, cap, rfl, hr, hn, hp⟩ := HB.out.form
  obtain ⟨b, off, rfl, hc⟩ := hp (by omega)
  have hcap := hr.1
  have hcap2 := hr.2
  have hlen := HB.out.len
  have hc0 := cell2_0 hS.1
  have hc1 := cell2_1 hS.1
  have hf := free2 hS.1 1
  clear hS hk hkl hr hn hp hc hm hlong
  go_enter Tryz.func87, Tryz.ntmps87
  go_wp2_with fail
  refine (err_any lo B 0 l _ HR.out).mono ?_
  rintro e w' ⟨rfl, rfl⟩
  go_wp2_with fail
  refine HF.out.mono ?_
  rintro e w' ⟨rfl, rfl⟩
  go_wp2_with fail
  all_goals
    go_ret
    exact ⟨rfl, HR.out.fail 3, grownBy_setCell _ _ _ _⟩

set_option maxHeartbeats 1600000 in
set_option maxRecDepth 20000 in
theorem Text_short (lo : Nat → Prop) (B : Nat) (l : List Nat) (most : Int) (w : World) (hR : Rd 127 lo w B l 0) (hk : (Cod.cnt 0 l).2 ≠ 0) (hm : most ≤ 9223372036854775807) (hlong : ¬ max most 0 < ((Cod.cnt 0 l).1 : Int)) (hs : l.length - (Cod.cnt 0 l).2 < (Cod.cnt 0 l).1) :
    Calls Tryz.prog 87 #[.pointer (some ⟨B, 0, none⟩), .int .i64 most] w fun e w' => e = .returned (.slice none 0 0) ∧ Rd 127 lo w' B l 4 ∧ w.grownBy w' (some B) := by
  have HR := Lib.hid hR
  obtain ⟨s, hS⟩ := hR
  have HS := Lib.hid hS
  have HB := Lib.hid hS.2.1
  have hkl := Cod.cnt_len l 0
  have HF := Lib.hid (firstUv_any s l w HB.out)
  generalize Cod.cnt 0 l = c at hk hkl HF hlong hs ⊢
  obtain ⟨n, k⟩ := c
  have hk1 : 0 < k := by simp at hk; omega
  have hk2 : k ≤ l.length := hkl
  obtain ⟨M, hM⟩ : ∃ M : Nat, max most 0 = (M : Int) := ⟨(max most 0).toNat, by omega⟩
  have hM2 : M ≤ 9223372036854775807 := by omega
  have hMn : n ≤ M := by rw [hM] at hlong; exact Int.ofNat_le.1 (Int.not_lt.1 hlong)
  have hs2 : l.length - k < n := hs
  obtain ⟨p, cap, rfl, hr, hn, hp⟩ := HB.out.form
  obtain ⟨b, off, rfl, hc⟩ := hp (by omega)
  have hcap := hr.1
  have hcap2 := hr.2
  have hlen := HB.out.len
  have hc0 := cell2_0 hS.1
  have hc1 := cell2_1 hS.1
  have hf := free2 hS.1 1
  clear hS hk hkl hr hn hp hc hm hlong hs
  go_enter Tryz.func87, Tryz.ntmps87
  go_wp2_with fail
  refine (err_any lo B 0 l _ HR.out).mono ?_
  rintro e w' ⟨rfl, rfl⟩
  go_wp2_with fail
  refine HF.out.mono ?_
  rintro e w' ⟨rfl, rfl⟩
  go_wp2_with fail
  all_goals
    go_ret
    exact ⟨rfl, HR.out.fail 4, grownBy_setCell _ _ _ _⟩

set_option maxHeartbeats 1600000 in
set_option maxRecDepth 20000 in
theorem Text_ok (lo : Nat → Prop) (B : Nat) (l : List Nat) (most : Int) (w : World) (hR : Rd 127 lo w B l 0) (hk : (Cod.cnt 0 l).2 ≠ 0) (hm : most ≤ 9223372036854775807) (hlong : ¬ max most 0 < ((Cod.cnt 0 l).1 : Int)) (hs : ¬ l.length - (Cod.cnt 0 l).2 < (Cod.cnt 0 l).1) :
    Calls Tryz.prog 87 #[.pointer (some ⟨B, 0, none⟩), .int .i64 most] w fun e w' => ∃ v, e = .returned v ∧ Own w.heap.size w' v ((l.drop (Cod.cnt 0 l).2).take (Cod.cnt 0 l).1) ∧ Rd 127 lo w' B ((l.drop (Cod.cnt 0 l).2).drop (Cod.cnt 0 l).1) 0 ∧ w.grownBy w' (some B) := by
  have HR := Lib.hid hR
  obtain ⟨s, hS⟩ := hR
  have HS := Lib.hid hS
  have HB := Lib.hid hS.2.1
  have hkl := Cod.cnt_len l 0
  have HF := Lib.hid (firstUv_any s l w HB.out)
  generalize Cod.cnt 0 l = c at hk hkl HF hlong hs ⊢
  obtain ⟨n, k⟩ := c
  have hk1 : 0 < k := by simp at hk; omega
  have hk2 : k ≤ l.length := hkl
  obtain ⟨M, hM⟩ : ∃ M : Nat, max most 0 = (M : Int) := ⟨(max most 0).toNat, by omega⟩
  have hM2 : M ≤ 9223372036854775807 := by omega
  have hMn : n ≤ M := by rw [hM] at hlong; exact Int.ofNat_le.1 (Int.not_lt.1 hlong)
  have hs2 : n ≤ l.length - k := by simp at hs; exact hs
  obtain ⟨p, cap, rfl, hr, hn, hp⟩ := HB.out.form
  obtain ⟨b, off, rfl, hc⟩ := hp (by omega)
  have hcap := hr.1
  have hcap2 := hr.2
  have hlen := HB.out.len
  have hc0 := cell2_0 hS.1
  have hf := free2 hS.1 0
  clear hS hk hkl hr hn hp hc hm hlong hs
  have hways : (cap = k ∧ l.length = k ∧ n = 0) ∨ (cap = k + n ∧ 0 < n ∧ l.length = k + n) ∨ k + n < cap := by omega
  rcases hways with ⟨rfl, hl, rfl⟩ | ⟨rfl, h0, hl⟩ | hw
  · have HL := Lib.hid hl
    clear hl
    go_enter Tryz.func87, Tryz.ntmps87
    go_wp2_with fail
    refine (err_any lo B 0 l _ HR.out).mono ?_
    rintro e w' ⟨rfl, rfl⟩
    go_wp2_with fail
    refine HF.out.mono ?_
    rintro e w' ⟨rfl, rfl⟩
    go_wp2_with fail
    have hrest : Bts w (.slice (some ⟨b, off, none⟩) 0 0) ((l.drop cap).drop 0) := by
      rw [show l.drop cap = [] from List.drop_eq_nil_of_le (by have := HL.out; omega)]
      exact bts_zero _ _ _ _ rfl (by omega)
    have HREST := Lib.hid hrest
    clear hrest
    have hmid : Bts (w.setCell ⟨B, 0, none⟩ (.slice (some ⟨b, off, none⟩) 0 0)) (.slice (some ⟨b, off, none⟩) 0 0) ((l.drop cap).take 0) := bts_zero _ _ _ _ rfl (by omega)
    refine (clone_any _ _ _ hmid).mono ?_
    rintro e w1 ⟨v1, rfl, hO1, hb1⟩
    have HEND := Lib.hid (text_end HS.out HREST.out rfl (by simp only [List.length_drop]; omega) hO1 hb1)
    clear hO1 hb1 hmid
    go_wp2_with fail
    go_ret
    exact ⟨_, rfl, HEND.out⟩
  · have HL := Lib.hid hl
    clear hl
    go_enter Tryz.func87, Tryz.ntmps87
    go_wp2_with fail
    refine (err_any lo B 0 l _ HR.out).mono ?_
    rintro e w' ⟨rfl, rfl⟩
    go_wp2_with fail
    refine HF.out.mono ?_
    rintro e w' ⟨rfl, rfl⟩
    go_wp2_with fail
    have hrest : Bts w (.slice (some ⟨b, off + k, none⟩) (l.length - k - n) 0) ((l.drop k).drop n) := by
      rw [List.drop_drop, show l.drop (k + n) = [] from List.drop_eq_nil_of_le (by have := HL.out; omega)]
      exact bts_zero _ _ _ _ (by have := HL.out; omega) (by omega)
    have HREST := Lib.hid hrest
    clear hrest
    have hm := HB.out.mid k n hs2 hk2
    rw [Nat.add_sub_cancel_left] at hm
    have HM := Lib.hid (mid_set (u := .slice (some ⟨b, off + k, none⟩) (l.length - k - n) 0) HS.out hm rfl)
    clear hm
    refine (clone_any _ _ _ HM.out).mono ?_
    rintro e w1 ⟨v1, rfl, hO1, hb1⟩
    have HEND := Lib.hid (text_end HS.out HREST.out rfl (by simp only [List.length_drop]; omega) hO1 hb1)
    clear hO1 hb1
    go_wp2_with fail
    go_ret
    exact ⟨_, rfl, HEND.out⟩
  · go_enter Tryz.func87, Tryz.ntmps87
    go_wp2_with fail
    refine (err_any lo B 0 l _ HR.out).mono ?_
    rintro e w' ⟨rfl, rfl⟩
    go_wp2_with fail
    refine HF.out.mono ?_
    rintro e w' ⟨rfl, rfl⟩
    go_wp2_with fail
    have HREST := Lib.hid (HB.out.rest k n hs2 hk2)
    have HM := Lib.hid (mid_set (u := .slice (some ⟨b, off + k + n, none⟩) (l.length - k - n) (cap - k - n)) HS.out (HB.out.mid k n hs2 hk2) rfl)
    refine (clone_any _ _ _ HM.out).mono ?_
    rintro e w1 ⟨v1, rfl, hO1, hb1⟩
    have HEND := Lib.hid (text_end HS.out HREST.out rfl (by simp only [List.length_drop]; omega) hO1 hb1)
    clear hO1 hb1
    go_wp2_with fail
    go_ret
    exact ⟨_, rfl, HEND.out⟩

/-- A text is read. -/
theorem Text_any (lo : Nat → Prop) (B e : Nat) (l : List Nat) (most : Int) (w : World) (hR : Rd 127 lo w B l e) (hm : most ≤ 9223372036854775807) :
    Calls Tryz.prog 87 #[.pointer (some ⟨B, 0, none⟩), .int .i64 most] w fun en w' => ∃ v, en = .returned v ∧ Own w.heap.size w' v (Cod.rdText most l e).1 ∧ Rd 127 lo w' B (Cod.rdText most l e).2.1 (Cod.rdText most l e).2.2 ∧ w.grownBy w' (some B) := by
  unfold Cod.rdText
  by_cases he : e ≠ 0
  · rw [if_pos he]
    exact (Text_err lo B e l most w hR he).mono fun en w' ⟨h1, h2⟩ => by subst h2; exact ⟨_, h1, own_nil _ _, hR, grownBy_refl _ _⟩
  · obtain rfl : e = 0 := by omega
    rw [if_neg he]
    by_cases hk : (Cod.cnt 0 l).2 = 0
    · rw [if_pos hk]; exact (Text_none lo B l most w hR hk).mono fun en w' ⟨h1, h2⟩ => ⟨_, h1, own_nil _ _, h2⟩
    · rw [if_neg hk]
      by_cases hl : max most 0 < ((Cod.cnt 0 l).1 : Int)
      · rw [if_pos hl]; exact (Text_long lo B l most w hR hk hm hl).mono fun en w' ⟨h1, h2⟩ => ⟨_, h1, own_nil _ _, h2⟩
      · rw [if_neg hl]
        by_cases hs : l.length - (Cod.cnt 0 l).2 < (Cod.cnt 0 l).1
        · rw [if_pos hs]; exact (Text_short lo B l most w hR hk hm hl hs).mono fun en w' ⟨h1, h2⟩ => ⟨_, h1, own_nil _ _, h2⟩
        · rw [if_neg hs]; exact Text_ok lo B l most w hR hk hm hl hs
end Go.Proofs.YtafpjcobagofcaaGreat
