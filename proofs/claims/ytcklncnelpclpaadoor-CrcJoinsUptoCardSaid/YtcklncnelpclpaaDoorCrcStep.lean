/- What the joining of sums is made of: the lowest bit, a step taken, a step squared, the byte's step. Conditions: registers are below 2^32; the library's table stands in its variable. -/
import Derived.Test.YtcklncnelpclpaaDoorCrcKnown
import Derived.Lib.TrailingZeros
namespace Go.Proofs.YtcklncnelpclpaaDoor
open Go.RowKit

/-! Plain arithmetic. -/
theorem low_parts (k m : Nat) : (2 ^ k * (2 * m + 1)) &&& (2 ^ k * (2 * m + 1) - 1) = 2 ^ (k + 1) * m ∧ (2 ^ (k + 1) * m) ^^^ 2 ^ k = 2 ^ k * (2 * m + 1) := by
  have hp : 0 < 2 ^ k := Nat.pow_pos (by decide)
  have hs : 2 ^ (k + 1) = 2 * 2 ^ k := Nat.pow_succ'
  have e0 : 2 ^ (k + 1) * m = 2 * (2 ^ k * m) := by rw [hs, Nat.mul_assoc]
  have e00 : 2 ^ k * (2 * m + 1) = 2 * (2 ^ k * m) + 2 ^ k := by rw [Nat.mul_add, Nat.mul_one, Nat.mul_left_comm]
  have e1 : 2 ^ k * (2 * m + 1) = 2 ^ (k + 1) * m + 2 ^ k := by omega
  have e2 : 2 ^ k * (2 * m + 1) - 1 = 2 ^ (k + 1) * m + (2 ^ k - 1) := by omega
  have e3 : 2 ^ (k + 1) * m = 2 ^ (k + 1) * m + 0 := rfl
  have l1 : 2 ^ k < 2 ^ (k + 1) := by omega
  have l2 : 2 ^ k - 1 < 2 ^ (k + 1) := by omega
  have l3 : 0 < 2 ^ (k + 1) := by omega
  constructor
  · rw [e2, e1]
    apply Nat.eq_of_testBit_eq; intro j
    rw [Nat.testBit_and, Nat.testBit_two_pow_mul_add _ l1, Nat.testBit_two_pow_mul_add _ l2, e3, Nat.testBit_two_pow_mul_add _ l3]
    by_cases hj : j < k + 1
    · rw [if_pos hj, if_pos hj, if_pos hj, Nat.testBit_two_pow, Nat.testBit_two_pow_sub_one]
      by_cases h : k = j
      · subst h; simp
      · simp [h]
    · rw [if_neg hj, if_neg hj, if_neg hj, Bool.and_self]
  · rw [e1]
    apply Nat.eq_of_testBit_eq; intro j
    rw [Nat.testBit_xor, Nat.testBit_two_pow_mul_add _ l1, e3, Nat.testBit_two_pow_mul_add _ l3]
    by_cases hj : j < k + 1
    · rw [if_pos hj, if_pos hj]; simp
    · rw [if_neg hj, if_neg hj, Nat.testBit_two_pow]
      simp [show k ≠ j by omega]

/-- The lowest set bit struck off. -/
theorem low_off (x : Nat) (h0 : x ≠ 0) (h : x < 2 ^ 32) : (x &&& (x - 1)) ^^^ 2 ^ Lib.ctz 32 x = x ∧ (x &&& (x - 1)) < x := by
  obtain ⟨m, hm, _⟩ := Lib.ctzFrom_spec 32 x (by omega) h
  have e : Lib.ctz 32 x = Lib.ctzFrom 32 x := by simp [Lib.ctz, h0]
  rw [e]
  generalize Lib.ctzFrom 32 x = k at hm ⊢
  obtain ⟨p1, p2⟩ := low_parts k m
  rw [← hm] at p1 p2
  have hp : 0 < 2 ^ k := Nat.pow_pos (by decide)
  have hs : 2 ^ (k + 1) = 2 * 2 ^ k := Nat.pow_succ'
  have e0 : 2 ^ (k + 1) * m = 2 * (2 ^ k * m) := by rw [hs, Nat.mul_assoc]
  have e00 : 2 ^ k * (2 * m + 1) = 2 * (2 ^ k * m) + 2 ^ k := by rw [Nat.mul_add, Nat.mul_one, Nat.mul_left_comm]
  rw [p1]
  exact ⟨p2, by omega⟩

/-- cs is the step by m bits of 0: what it makes of each single bit. -/
structure Stp (cs : Array Value) (m : Nat) : Prop where
  size : cs.size = 32
  at_ : ∀ i, i < 32 → cs[i]? = some (.int .u32 (Crc.Hn m (2 ^ i) : Nat))

theorem Stp.ones {cs : Array Value} {m : Nat} (h : Stp cs m) : cs.all (·.oneCell') = true := by
  rw [Array.all_eq_true]
  intro i hi
  have := h.at_ i (by have := h.size; omega)
  rw [Array.getElem?_eq_getElem hi] at this
  rw [Option.some.inj this]; rfl

/-- The library's table of the lowest bits' places stands in its variable. -/
def Tz (w : World) : Prop := ∀ j, j < 32 → w.cell? ⟨0, j, none⟩ = some (.int .u8 (Lib.deBruijn32tab.getD j 0 : Nat))
theorem Tz.below {w w' : World} (h : Tz w) (hb : Below w.heap.size w w') : Tz w' := by
  intro j hj
  have hc := h j hj
  rw [hb.cell (p := ⟨0, j, none⟩) (block_lt_of_cell hc)]
  exact hc

theorem tz_key (x a : Nat) (hx : x < 4294967296) (hlow : x &&& (4294967296 - x) = a) :
    bits .and .u32 (x : Int) (-(x : Int) % 4294967296) * 125613361 % 4294967296 / 134217728 = ((a * 125613361 % 4294967296 / 134217728 : Nat) : Int) ∨ x = 0 := by
  by_cases h0 : x = 0
  · exact Or.inr h0
  · left
    have e1 : -(x : Int) % 4294967296 = ((4294967296 - x : Nat) : Int) := by omega
    rw [e1, u32_and_nat x _ hx (by omega), hlow]
    omega

set_option maxHeartbeats 400000 in
theorem tz_core (x k idx : Nat) (w : World) (hx0 : ((x : Int) == 0) = false)
    (key : bits .and .u32 (x : Int) (-(x : Int) % 4294967296) * 125613361 % 4294967296 / 134217728 = (idx : Int))
    (hi : idx < 32) (hk : k < 32) (hcell : w.cell? ⟨0, idx, none⟩ = some (.int .u8 (k : Int))) :
    Calls Tryd.prog 15 #[.int .u32 (x : Int)] w fun e w' => e = .returned (.int .i64 (k : Int)) ∧ w = w' := by
  go_enter Tryd.func15, Tryd.ntmps15
  go_wp2_with (simp only [key])
  go_ret
  exact ⟨rfl, rfl⟩

theorem tz_any (x : Nat) (w : World) (hx : x < 4294967296) (h0 : x ≠ 0) (hT : Tz w) :
    Calls Tryd.prog 15 #[.int .u32 (x : Int)] w fun e w' => e = .returned (.int .i64 (Lib.ctz 32 x : Nat)) ∧ w = w' := by
  obtain ⟨hlow, hk⟩ := Lib.lowest_bit 32 x h0 hx
  obtain ⟨hi, htab⟩ := Lib.deBruijn32_at _ hk
  have hcell := hT _ hi
  rw [htab] at hcell
  exact tz_core x _ _ w (by simp [h0]) ((tz_key x _ hx hlow).resolve_right h0) hi hk hcell

set_option maxHeartbeats 400000 in
theorem stepTake_any (cs : Array Value) (m r : Nat) (w : World) (hS : Stp cs m) (hr : r < 4294967296) (hT : Tz w) :
    Calls Tryd.prog 10 #[.agg cs, .int .u32 (r : Int)] w fun e w' => e = .returned (.int .u32 (Crc.Hn m r : Nat)) ∧ Below w.heap.size w w' := by
  have HS := Lib.hid hS
  have HT := Lib.hid hT
  clear hS hT
  go_enter Tryd.func10, Tryd.ntmps10
  go_wp2
  have HB := Lib.hid (show Below w.heap.size w (w.alloc (.cells cs 30)) from (Below.refl _ _).alloc (Nat.le_refl _) _)
  have HC := Lib.hid (show ∀ i, i < 32 → (w.alloc (.cells cs 30)).cell? ⟨w.heap.size, i, none⟩ = some (.int .u32 (Crc.Hn m (2 ^ i) : Nat)) from fun i hi => by
    rw [cell_of_row _ w.heap.size i cs 30 (0, 0) (heap_alloc_last _ _)]; exact HS.out.at_ i hi)
  generalize w.alloc (.cells cs 30) = W at HB HC ⊢
  generalize hB : w.heap.size = B at HC ⊢
  have HT2 := Lib.hid (HT.out.below HB.out)
  clear hB
  go_loop [1, 5] (fun s1 s5 => ∃ x : Nat, x < 4294967296 ∧ s1 = .int .u32 x ∧ s5 = .int .u32 (Crc.Hn m r ^^^ Crc.Hn m x : Nat)) (fun s1 _ => (intOf s1).toNat)
  case atStart => exact ⟨r, hr, rfl, by rw [Nat.xor_self]; rfl⟩
  case round =>
    obtain ⟨x, hx, rfl, rfl⟩ := hrel
    by_cases h0 : x = 0
    · subst h0
      go_wp2
      go_ret
      exact ⟨ret_int (by rw [Crc.Hn_zero, Nat.xor_zero]), HB.out⟩
    · obtain ⟨l1, l2⟩ := low_off x h0 hx
      have hk := (Lib.lowest_bit 32 x h0 hx).2
      have hcell := HC.out _ hk
      have HL := Lib.hid l1
      have hx0 : ((x : Int) == 0) = false := by simp [h0]
      have hx1 : ((x : Int) != 0) = true := by simp [h0]
      have hand : bits .and .u32 (x : Int) ((x : Int) - 1) = ((x &&& (x - 1) : Nat) : Int) := by
        rw [show (x : Int) - 1 = ((x - 1 : Nat) : Int) by omega]; exact u32_and_nat x _ hx (by omega)
      have hpos : 1 ≤ x := by omega
      generalize hk2 : Lib.ctz 32 x = k at hk hcell
      have HK := Lib.hid hk2
      clear hk2 l1
      have b1 : Crc.Hn m r < 4294967296 := Crc.Hn_lt m hr
      have b2 : Crc.Hn m x < 4294967296 := Crc.Hn_lt m hx
      have b3 : Crc.Hn m (2 ^ k) < 4294967296 := Crc.Hn_lt m (Nat.pow_lt_pow_right (by decide) hk)
      have b4 := Nat.xor_lt_two_pow (n := 32) b1 b2
      have htz := tz_any x W hx h0 HT2.out
      rw [HK.out] at htz
      have HZ := Lib.hid htz
      clear htz h0
      go_wp2_with (go_at_call 15; refine HZ.out.mono ?_; rintro e w' ⟨rfl, rfl⟩)
      refine ⟨⟨x &&& (x - 1), by omega, rfl, ?_⟩, by simp [intOf]; omega⟩
      rw [xor_u32 _ _ b4 b3]
      have e : Crc.Hn m x = Crc.Hn m (x &&& (x - 1)) ^^^ Crc.Hn m (2 ^ k) := by
        rw [← Crc.Hn_xor, ← HK.out, HL.out]
      rw [e, Nat.xor_assoc, Nat.xor_assoc, Nat.xor_self, Nat.xor_zero]

theorem size30 : (Tryd.prog.info? 30).map (·.size) = some 32 := by kernel_rfl

theorem index_step (cs : Array Value) (i : Nat) (n : Int) (w : World) (hi : i < 32) (hc : cs[i]? = some (.int .u32 n)) :
    (Instr.index 30 (.agg cs) (.int .i64 (i : Int))).run Tryd.prog w = .ok (.int .u32 n) w := by
  have h1 : (0 : Int) ≤ (i : Int) ∧ (i : Int) < ((32 : Nat) : Int) := by omega
  simp [Instr.index, run_underlying Tryd.underlying30, asIntOf, part, hc, h1, go_sem]
  intro h
  omega

/-- What stands in memory in the middle of a squaring. -/
structure Sq (w wx : World) (b0 b1 b2 : Nat) (cs z : Array Value) (m i : Nat) (xs : Array Value) : Prop where
  c0 : wx.heap[b0]? = some (.cells cs 30 (0, 0))
  c1 : wx.heap[b1]? = some (.cells z 30 (0, 0))
  c2 : wx.heap[b2]? = some (.cells xs 30 (0, 0))
  size : xs.size = 32
  one : xs.all (·.oneCell') = true
  done_ : ∀ j, j < i → xs[j]? = some (.int .u32 (Crc.Hn (m + m) (2 ^ j) : Nat))
  below : Below w.heap.size w wx

theorem heap_lt {w : World} {b : Nat} {o : Obj} (h : w.heap[b]? = some o) : b < w.heap.size := (Array.getElem?_eq_some_iff.1 h).1

theorem Sq.later {w wx wy : World} {b0 b1 b2 : Nat} {cs z : Array Value} {m i : Nat} {xs : Array Value} (h : Sq w wx b0 b1 b2 cs z m i xs) (hb : Below wx.heap.size wx wy) : Sq w wy b0 b1 b2 cs z m i xs :=
  ⟨by rw [hb.block _ (heap_lt h.c0)]; exact h.c0, by rw [hb.block _ (heap_lt h.c1)]; exact h.c1, by rw [hb.block _ (heap_lt h.c2)]; exact h.c2, h.size, h.one, h.done_, h.below.trans (hb.mono h.below.size)⟩

theorem Sq.put {w wx : World} {b0 b1 b2 : Nat} {cs z : Array Value} {m i : Nat} {xs : Array Value} (h : Sq w wx b0 b1 b2 cs z m i xs) (h0 : b0 ≠ b2) (h1 : b1 ≠ b2) (hw : w.heap.size ≤ b2) (hi : i < 32) :
    Sq w (wx.setCell ⟨b2, i, none⟩ (.int .u32 (Crc.Hn (m + m) (2 ^ i) : Nat))) b0 b1 b2 cs z m (i + 1) (xs.setIfInBounds i (.int .u32 (Crc.Hn (m + m) (2 ^ i) : Nat))) := by
  refine ⟨by rw [heap_setCell_other _ ⟨b2, i, none⟩ _ _ h0]; exact h.c0, by rw [heap_setCell_other _ ⟨b2, i, none⟩ _ _ h1]; exact h.c1, heap_setCell_same _ _ _ _ _ _ h.c2, by simpa using h.size, all_set h.one _ _ rfl, fun j hj => ?_, h.below.setCell hw _⟩
  rw [Array.getElem?_setIfInBounds]
  by_cases e : i = j
  · rw [if_pos e, if_pos (by rw [h.size]; exact hi), e]
  · rw [if_neg e]; exact h.done_ j (by omega)

set_option maxHeartbeats 800000 in
theorem square_any (cs : Array Value) (m : Nat) (w : World) (hS : Stp cs m) (hT : Tz w) :
    Calls Tryd.prog 11 #[.agg cs] w fun e w' => ∃ cs2 : Array Value, e = .returned (.agg cs2) ∧ Stp cs2 (m + m) ∧ Below w.heap.size w w' := by
  have HS := Lib.hid hS
  have HT := Lib.hid hT
  have HSZ := Lib.hid (show (Tryd.prog.info? 30).map (·.size) = some cs.size by rw [hS.size]; exact size30)
  clear hS hT
  go_enter Tryd.func11, Tryd.ntmps11
  go_upto_region 2 with (fail)
  generalize hz : (#[.int .u32 0, .int .u32 0, .int .u32 0, .int .u32 0, .int .u32 0, .int .u32 0, .int .u32 0, .int .u32 0, .int .u32 0, .int .u32 0, .int .u32 0, .int .u32 0, .int .u32 0, .int .u32 0, .int .u32 0, .int .u32 0, .int .u32 0, .int .u32 0, .int .u32 0, .int .u32 0, .int .u32 0, .int .u32 0, .int .u32 0, .int .u32 0, .int .u32 0, .int .u32 0, .int .u32 0, .int .u32 0, .int .u32 0, .int .u32 0, .int .u32 0, .int .u32 0] : Array Value) = z
  have hzs : z.size = 32 := by rw [← hz]; rfl
  have hzo : z.all (·.oneCell') = true := by rw [← hz]; decide +kernel
  clear hz
  have hQ : Sq w (((w.alloc (.cells cs 30)).alloc (.cells z 30)).alloc (.cells z 30)) w.heap.size (w.heap.size + 1) (w.heap.size + 1 + 1) cs z m 0 z := by
    refine ⟨?_, ?_, ?_, hzs, hzo, fun j hj => absurd hj (by omega), (((Below.refl _ _).alloc (Nat.le_refl _) _).alloc (by simp) _).alloc (by simp; omega) _⟩
    · rw [Below.heap_alloc _ _ _ (by simp; omega), Below.heap_alloc _ _ _ (by simp)]; exact heap_alloc_last _ _
    · rw [Below.heap_alloc _ _ _ (by simp)]
      have h := heap_alloc_last (w.alloc (.cells cs 30)) (.cells z 30)
      rwa [show (w.alloc (.cells cs 30)).heap.size = w.heap.size + 1 by simp] at h
    · have h := heap_alloc_last ((w.alloc (.cells cs 30)).alloc (.cells z 30)) (.cells z 30)
      rwa [show ((w.alloc (.cells cs 30)).alloc (.cells z 30)).heap.size = w.heap.size + 1 + 1 by simp] at h
  generalize ((w.alloc (.cells cs 30)).alloc (.cells z 30)).alloc (.cells z 30) = W at hQ ⊢
  have HQ := Lib.hid hQ
  have HZ := Lib.hid hzs
  clear hQ hzs hzo
  obtain ⟨b2, hb2⟩ : ∃ b2, b2 = w.heap.size + 1 + 1 := ⟨_, rfl⟩
  obtain ⟨b1, hb1⟩ : ∃ b1, b1 = w.heap.size + 1 := ⟨_, rfl⟩
  obtain ⟨b0, hb0⟩ : ∃ b0, b0 = w.heap.size := ⟨_, rfl⟩
  rw [← hb2, ← hb1, ← hb0] at HQ ⊢
  have H0 := Lib.hid hb0
  have H1 := Lib.hid hb1
  have H2 := Lib.hid hb2
  clear hb0 hb1 hb2
  go_step
  refine wpList_load_row rfl 30 (.tmp 1) rfl b0 rfl 30 cs (0, 0) _ HQ.out.c0 Tryd.underlying30 rfl HSZ.out ?_
  go_wp2
  go_loopw [7] (fun s7 wx => ∃ i : Nat, i ≤ 32 ∧ s7 = .int .i64 i ∧ ∃ xs, Sq w wx b0 b1 b2 cs z m i xs) (fun s7 _ => 32 - (intOf s7).toNat)
  case atStart => exact ⟨0, by omega, rfl, z, HQ.out⟩
  case round =>
    obtain ⟨i, hi, rfl, xs, hQ⟩ := hrel
    have HX := Lib.hid hQ
    clear hQ HQ
    by_cases hlt : i < 32
    · have hix := fun wq : World => index_step cs i _ wq hlt (HS.out.at_ i hlt)
      have hb : Crc.Hn m (2 ^ i) < 4294967296 := Crc.Hn_lt m (Nat.pow_lt_pow_right (by decide) hlt)
      have HE := Lib.hid (show Crc.Hn m (Crc.Hn m (2 ^ i)) = Crc.Hn (m + m) (2 ^ i) from (Crc.Hn_add m m (2 ^ i)).symm)
      generalize hv : Crc.Hn m (2 ^ i) = v at hix hb HE
      clear hv
      go_upto_region 5 with (fail)
      go_step
      go_step
      go_step
      go_step
      clear hix
      refine wpList_load_row rfl 30 (.tmp 1) rfl b0 rfl 30 cs (0, 0) _ HX.out.c0 Tryd.underlying30 rfl HSZ.out ?_
      go_wp2_with fail
      refine (stepTake_any cs m v _ HS.out hb (HT.out.below HX.out.below)).mono ?_
      rintro e w' ⟨rfl, hbel⟩
      rw [HE.out]
      have HY := Lib.hid (HX.out.later hbel)
      have hsz := HX.out.size
      have hxl : i < xs.size := by omega
      have hcell : w'.cell? ⟨b2, i, none⟩ = some xs[i] := by
        rw [cell_of_row _ b2 i xs 30 (0, 0) HY.out.c2, Array.getElem?_eq_getElem hxl]
      have hfro : w'.frozen? ⟨b2, i, none⟩ = false := frozen_of_row _ b2 i xs 30 HY.out.c2
      clear hbel
      generalize xs[i] = ov at hcell
      clear hsz hxl
      go_wp2
      refine ⟨⟨i + 1, by omega, by go_num, _, HY.out.put (by have := H0.out; have := H2.out; omega) (by have := H1.out; have := H2.out; omega) (by have := H2.out; omega) hlt⟩, by simp [intOf]; omega⟩
    · obtain rfl : i = 32 := by omega
      go_upto_region 7 with (fail)
      go_step
      have HSX := Lib.hid (show (Tryd.prog.info? 30).map (·.size) = some xs.size by rw [HX.out.size]; exact size30)
      refine wpList_load_row rfl 30 (.tmp 3) rfl b2 rfl 30 xs (0, 0) _ HX.out.c2 Tryd.underlying30 rfl HSX.out ?_
      refine wpList_store_row rfl 30 (.tmp 2) (.tmp 17) rfl b1 xs rfl rfl 30 z HX.out.c1 HSX.out (by rw [HX.out.size, HZ.out]) HX.out.one ?_
      go_wp2
      refine bodyPost_ret (v := .agg xs) ?_ rfl ⟨xs, rfl, ⟨HX.out.size, fun j hj => HX.out.done_ j hj⟩, ?_⟩
      · exact results_cell_row rfl _ _ b1 30 xs (0, 0) _ rfl (setRow_heap _ _ _ _ _ _ HX.out.c1) Tryd.underlying30 rfl HSX.out
      · exact below_setRow HX.out.below (by have := H1.out; omega) _

/-- The first i bits' ways through a byte of 0. -/
structure Bst (cs : Array Value) (i : Nat) : Prop where
  size : cs.size = 32
  one : cs.all (·.oneCell') = true
  done_ : ∀ j, j < i → cs[j]? = some (.int .u32 (Crc.Hn 8 (2 ^ j) : Nat))

theorem Bst.put {cs : Array Value} {i : Nat} (h : Bst cs i) (n : Int) : Bst (cs.setIfInBounds i (.int .u32 n)) i := by
  refine ⟨by simpa using h.size, all_set h.one _ _ rfl, fun j hj => ?_⟩
  rw [Array.getElem?_setIfInBounds, if_neg (by omega)]
  exact h.done_ j hj
theorem Bst.next {cs : Array Value} {i : Nat} (h : Bst cs i) (hc : cs[i]? = some (.int .u32 (Crc.Hn 8 (2 ^ i) : Nat))) : Bst cs (i + 1) := by
  refine ⟨h.size, h.one, fun j hj => ?_⟩
  by_cases e : j = i
  · subst e; exact hc
  · exact h.done_ j (by omega)
theorem set_at {cs : Array Value} {i : Nat} (h : i < cs.size) (v : Value) : (cs.setIfInBounds i v)[i]? = some v := by
  rw [Array.getElem?_setIfInBounds, if_pos rfl, if_pos h]

set_option maxHeartbeats 800000 in
theorem byteStep_any (w : World) :
    Calls Tryd.prog 9 #[] w fun e w' => ∃ cs : Array Value, e = .returned (.agg cs) ∧ Stp cs 8 ∧ Below w.heap.size w w' := by
  go_enter Tryd.func9, Tryd.ntmps9
  go_upto_region 2 with (fail)
  generalize hz : (#[.int .u32 0, .int .u32 0, .int .u32 0, .int .u32 0, .int .u32 0, .int .u32 0, .int .u32 0, .int .u32 0, .int .u32 0, .int .u32 0, .int .u32 0, .int .u32 0, .int .u32 0, .int .u32 0, .int .u32 0, .int .u32 0, .int .u32 0, .int .u32 0, .int .u32 0, .int .u32 0, .int .u32 0, .int .u32 0, .int .u32 0, .int .u32 0, .int .u32 0, .int .u32 0, .int .u32 0, .int .u32 0, .int .u32 0, .int .u32 0, .int .u32 0, .int .u32 0] : Array Value) = z
  have hB : Bst z 0 := ⟨by rw [← hz]; rfl, by rw [← hz]; decide +kernel, fun j hj => absurd hj (by omega)⟩
  clear hz
  obtain ⟨w1, hw1⟩ : ∃ w1, w1 = w.alloc (.cells z 30) := ⟨_, rfl⟩
  rw [← hw1]
  have hs1 : w.heap.size + 1 = w1.heap.size := by rw [hw1]; simp
  rw [hs1]
  have HS1 := Lib.hid hs1
  have HW1 := Lib.hid hw1
  have HZ := Lib.hid hB.size
  clear hs1 hw1
  go_wp2
  go_loopg [3] 32 (fun gk s3 wx => ∃ (i : Nat) (cs : Array Value), i + gk = 32 ∧ s3 = .int .i64 i ∧ Bst cs i ∧ wx = w1.alloc (.cells cs 30))
  case atStart => exact ⟨0, z, by omega, rfl, hB, rfl⟩
  case round =>
    obtain ⟨i, cs, hig, rfl, hT, rfl⟩ := hrel
    have HT := Lib.hid hT
    have hsz := hT.size
    clear hT hB
    cases gk with
    | zero =>
      obtain rfl : i = 32 := by omega
      have hg0 : (w1.alloc (.cells cs 30)).heap[w.heap.size]? = some (.cells z 30 (0, 0)) := by
        rw [show (w1.alloc (.cells cs 30)).heap[w.heap.size]? = w1.heap[w.heap.size]? from Below.heap_alloc _ _ _ (by have := HS1.out; omega), HW1.out]
        exact heap_alloc_last _ _
      have HG0 := Lib.hid hg0
      have HSZ := Lib.hid (show (Tryd.prog.info? 30).map (·.size) = some cs.size by rw [hsz]; exact size30)
      clear hsz hg0
      go_upto_region 11 with (fail)
      go_step
      refine wpList_load_row rfl 30 (.tmp 1) rfl w1.heap.size rfl 30 cs (0, 0) _ (heap_alloc_last _ _) Tryd.underlying30 rfl HSZ.out ?_
      refine wpList_store_row rfl 30 (.tmp 0) (.tmp 20) rfl w.heap.size cs rfl rfl 30 z HG0.out HSZ.out (by rw [HT.out.size, HZ.out]) HT.out.one ?_
      go_wp2
      refine bodyPost_ret (v := .agg cs) ?_ rfl ⟨cs, rfl, ⟨HT.out.size, HT.out.done_⟩, ?_⟩
      · exact results_cell_row rfl _ _ w.heap.size 30 cs (0, 0) _ rfl (setRow_heap _ _ _ _ _ _ HG0.out) Tryd.underlying30 rfl HSZ.out
      · have hs := HS1.out
        have h0 : Below w.heap.size w w1 := by rw [HW1.out]; exact (Below.refl _ _).alloc (Nat.le_refl _) _
        exact below_setRow (h0.alloc (by omega) _) (Nat.le_refl _) _
    | succ g =>
      have hi : i < 32 := by omega
      have hlt : i < cs.size := by omega
      have hd : decide ((i : Int) < 32) = true := by simp; omega
      go_wp2
      have hpow : 2 ^ i < 4294967296 := Nat.pow_lt_pow_right (n := 32) (by decide) hi
      have he : ((2 : Int) ^ i % 4294967296) = ((2 ^ i : Nat) : Int) := by
        rw [show ((2 : Int) ^ i) = ((2 ^ i : Nat) : Int) by simp]
        exact Int.emod_eq_of_lt (Int.natCast_nonneg _) (Int.ofNat_lt.2 hpow)
      rw [he]
      have HP := Lib.hid hpow
      have HB2 := Lib.hid (HT.out.put ((2 ^ i : Nat) : Int))
      have HA2 := Lib.hid (set_at hlt (.int .u32 ((2 ^ i : Nat) : Int)))
      have HIG := Lib.hid hig
      clear he hpow hlt hsz hig
      generalize cs.setIfInBounds i (.int .u32 ((2 ^ i : Nat) : Int)) = cs1 at HB2 HA2 ⊢
      generalize ((2 ^ i : Nat) : Int) = q0
      go_loopg [10] 8 (fun gj s10 wx => ∃ (k : Nat) (cs' : Array Value), k + gj = 8 ∧ s10 = .int .i64 k ∧ Bst cs' i ∧ cs'[i]? = some (.int .u32 (Crc.Hn k (2 ^ i) : Nat)) ∧ wx = w1.alloc (.cells cs' 30))
      case atStart => exact ⟨0, cs1, by omega, rfl, HB2.out, HA2.out, rfl⟩
      case round =>
        obtain ⟨k, cs', hkg, rfl, hT', hat, rfl⟩ := hrel
        have HT' := Lib.hid hT'
        have HAT := Lib.hid hat
        have hsz := hT'.size
        clear hT'
        cases gk with
        | zero =>
          obtain rfl : k = 8 := by omega
          clear hat hsz
          go_wp2
          go_roundg g
          case measure => omega
          case rel => exact ⟨i + 1, cs', by have := HIG.out; omega, by go_num, HT'.out.next HAT.out, rfl⟩
        | succ gj =>
          have hk : k < 8 := by omega
          have hlt : i < cs'.size := by omega
          have hb : Crc.Hn k (2 ^ i) < 4294967296 := Crc.Hn_lt k HP.out
          have HS := Lib.hid (Crc.Hn_succ k (2 ^ i))
          have hcx : cs'[i] = .int .u32 (Crc.Hn k (2 ^ i) : Nat) := by
            rw [Array.getElem?_eq_getElem hlt] at hat
            exact Option.some.inj hat
          generalize Crc.Hn k (2 ^ i) = y at hb HS hcx
          have HKG := Lib.hid hkg
          clear hat hkg
          go_wp2_with (go_at_call 14; refine (half_any _ _ hb).mono ?_; rintro e w' ⟨rfl, rfl⟩)
          go_roundg gj
          case measure => omega
          case rel => exact ⟨k + 1, _, by have := HKG.out; omega, by go_num, HT'.out.put _, by rw [set_at hlt, HS.out], rfl⟩
end Go.Proofs.YtcklncnelpclpaaDoor
