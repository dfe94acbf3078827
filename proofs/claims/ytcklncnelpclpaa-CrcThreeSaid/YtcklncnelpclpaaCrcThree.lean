/- Of three texts of one length the sum of their exclusive or is that of their sums. Conditions: the slices' cells hold the bytes. -/
import Derived.Test.YtcklncnelpclpaaCrcLent
import Derived.StillTailTactics
import Derived.Deep.RegionHeld3
namespace Go.Proofs.Ytcklncnelpclpaa
open Go.RowKit

theorem min3 (x y z : Nat) : (if (z : Int) < (if y < x then (y : Int) else (x : Int)) then (z : Int) else (if y < x then (y : Int) else (x : Int))) = ((min (min x y) z : Nat) : Int) := by
  by_cases h : y < x
  · simp only [if_pos h]; split <;> omega
  · simp only [if_neg h]; split <;> omega

/-- The texts' exclusive or, as far as it is reckoned: behind place k noughts. -/
def xors (n k : Nat) (a b c : List Nat) : List Nat := (List.range n).map fun i => if i < k then a.getD i 0 ^^^ b.getD i 0 ^^^ c.getD i 0 else 0

theorem xors_zero (n : Nat) (a b c : List Nat) : bytesV (xors n 0 a b c) = (madeCells #[.int .u8 0] (n * 1)).toList := by
  apply List.ext_getElem
  · simp [bytesV, xors, madeCells]
  · intro i h1 h2
    simp [bytesV, xors, madeCells, Nat.mod_one]

theorem xors_succ (n k : Nat) (a b c : List Nat) : xors n (k + 1) a b c = (xors n k a b c).set k (a.getD k 0 ^^^ b.getD k 0 ^^^ c.getD k 0) := by
  apply List.ext_getElem
  · simp [xors]
  · intro i h1 h2
    rw [List.getElem_set]
    by_cases e : k = i
    · subst e; simp [xors]
    · rw [if_neg e]
      simp only [xors, List.getElem_map, List.getElem_range]
      by_cases hl : i < k
      · rw [if_pos hl, if_pos (by omega)]
      · rw [if_neg hl, if_neg (by omega)]

theorem bts_xors {w : World} {B n : Nat} {a b c : List Nat} (h : w.ownsRow B 5 1 (.slice (some ⟨B, 0, none⟩) n n) n (bytesV (xors n n a b c))) (hn : n ≤ 140737488355328)
    (hs : ∀ x ∈ xors n n a b c, x < 256) : Bts w (.slice (some ⟨B, 0, none⟩) n n) (xors n n a b c) := by
  obtain ⟨_, _, h3, h4, h5⟩ := owns_cells h
  refine ⟨⟨some ⟨B, 0, none⟩, n, by rw [h4], ⟨by omega, by unfold maxLen at h3; exact h3⟩, fun h => by simp at h, fun _ => ⟨B, 0, rfl, fun i hi => ?_⟩⟩, hs, by omega⟩
  rw [Nat.zero_add]
  exact h5 i hi

theorem xors_small {n : Nat} {a b c : List Nat} (ha : ∀ i, a.getD i 0 < 256) (hb : ∀ i, b.getD i 0 < 256) (hc : ∀ i, c.getD i 0 < 256) : ∀ x ∈ xors n n a b c, x < 256 := by
  intro x hx
  simp only [xors, List.mem_map, List.mem_range] at hx
  obtain ⟨i, hi, rfl⟩ := hx
  rw [if_pos hi]
  exact Nat.xor_lt_two_pow (n := 8) (Nat.xor_lt_two_pow (n := 8) (ha i) (hb i)) (hc i)

theorem xors_zip {n : Nat} {a b c : List Nat} (ha : n ≤ a.length) (hb : n ≤ b.length) (hc : n ≤ c.length) :
    xors n n a b c = List.zipWith (· ^^^ ·) (List.zipWith (· ^^^ ·) (a.take n) (b.take n)) (c.take n) := by
  apply List.ext_getElem
  · simp [xors]; omega
  · intro i h1 h2
    have hi : i < n := by simpa [xors] using h1
    simp [xors, hi, List.getElem?_eq_getElem (show i < a.length by omega), List.getElem?_eq_getElem (show i < b.length by omega), List.getElem?_eq_getElem (show i < c.length by omega)]

theorem sum_over (wr : World) (v : Value) (l : List Nat) (w : World) (hB : Bts wr v l) (hb : Below wr.heap.size wr w) :
    Calls Try.prog 7 #[v] w fun e w' => e = .returned (.int .u32 (Crc.more 0 l : Nat)) ∧ Below wr.heap.size wr w' :=
  (sum_any v l w (hB.below hb)).mono fun _ _ ⟨he, h⟩ => ⟨he, hb.trans (h.mono hb.size)⟩
theorem known_over (wr w : World) (hb : Below wr.heap.size wr w) :
    Calls Try.prog 12 #[] w fun e w' => e = .returned (.bool true) ∧ Below wr.heap.size wr w' :=
  (known_any w).mono fun _ _ ⟨he, h⟩ => ⟨he, hb.trans (h.mono hb.size)⟩

set_option maxHeartbeats 1600000 in
theorem three_any (v1 v2 v3 : Value) (a b c : List Nat) (w : World) (hA : Bts w v1 a) (hB : Bts w v2 b) (hC : Bts w v3 c) :
    Calls Try.prog 5 #[v1, v2, v3] w fun e w' => e = .returned (.bool true) ∧ Below w.heap.size w w' := by
  obtain ⟨i0, hi, hz0, hz1, hz2⟩ := info_parts info5
  have HA := Lib.hid hA
  have HB := Lib.hid hB
  have HC := Lib.hid hC
  obtain ⟨p1, cap1, rfl, hr1, -, -⟩ := hA.form
  obtain ⟨p2, cap2, rfl, hr2, -, -⟩ := hB.form
  obtain ⟨p3, cap3, rfl, hr3, -, -⟩ := hC.form
  have la := hA.len
  have lb := hB.len
  have lc := hC.len
  clear hA hB hC
  go_enter Try.func5, Try.ntmps5
  go_upto_region 2 with (fail)
  rw [min3]
  obtain ⟨n, hn⟩ : ∃ n, n = min (min a.length b.length) c.length := ⟨_, rfl⟩
  have hn1 : n ≤ a.length := by omega
  have hn2 : n ≤ b.length := by omega
  have hn3 : n ≤ c.length := by omega
  rw [← hn]
  clear hn
  go_step
  go_step
  go_step
  go_step
  refine wpList_make_full w rfl (.tmp 17) (.tmp 17) 22 rfl w.heap.size 5 i0 (.int .u8 0) 1 Try.underlying22 hi hz0 hz1 .i64 .i64 (n : Int) (n : Int) n rfl rfl rfl rfl (by rw [hz2]; omega) (by unfold maxLen; omega) (Nat.le_refl _) ?_
  intro w1 hown hgrow
  have hb1 : Below w.heap.size w w1 := (Below.refl _ _).grown hgrow (Nat.le_refl _) (fun k hk => by simp at hk)
  rw [show (Value.int .u8 0).cells = #[.int .u8 0] from rfl, ← xors_zero n a b c] at hown
  have HO := Lib.hid hown
  have HW := Lib.hid hb1
  clear hown hgrow hb1 hi hz0 hz1 hz2
  go_wp2
  go_loopw [9] (fun i wr => ∃ k : Nat, k ≤ n ∧ i = .int .i64 k ∧ wr.ownsRow w.heap.size 5 1 (.slice (some ⟨w.heap.size, 0, none⟩) n n) n (bytesV (xors n k a b c)) ∧ Below w.heap.size w wr) (fun i _ => n - (intOf i).toNat)
  case atStart => exact ⟨0, by omega, rfl, HO.out, HW.out⟩
  case round =>
    obtain ⟨k, hk, rfl, hown, hbel⟩ := hrel
    have HO2 := Lib.hid hown
    have HW2 := Lib.hid hbel
    by_cases hlt : k < n
    · obtain ⟨q1, e1, he1, -, -, hp1⟩ := (HA.out.below hbel).form
      obtain ⟨q2, e2, he2, -, -, hp2⟩ := (HB.out.below hbel).form
      obtain ⟨q3, e3, he3, -, -, hp3⟩ := (HC.out.below hbel).form
      simp only [Value.slice.injEq] at he1 he2 he3
      obtain ⟨rfl, -, rfl⟩ := he1
      obtain ⟨rfl, -, rfl⟩ := he2
      obtain ⟨rfl, -, rfl⟩ := he3
      obtain ⟨b1, o1, rfl, hc1⟩ := hp1 (by omega)
      obtain ⟨b2, o2, rfl, hc2⟩ := hp2 (by omega)
      obtain ⟨b3, o3, rfl, hc3⟩ := hp3 (by omega)
      have c1 := hc1 k (by omega)
      have c2 := hc2 k (by omega)
      have c3 := hc3 k (by omega)
      have hx := hown.cellAt k (by omega)
      have hf := hown.frozenAt k
      have hxl : k < (xors n k a b c).length := by simp [xors]; omega
      rw [bytesV, List.getElem?_map, List.getElem?_eq_getElem hxl] at hx
      simp only [Option.map_some] at hx
      clear hc1 hc2 hc3 hp1 hp2 hp3 hbel hown
      have y1 := HA.out.getD k
      have y2 := HB.out.getD k
      have y3 := HC.out.getD k
      have HX := Lib.hid (xors_succ n k a b c)
      generalize a.getD k 0 = ya at c1 y1 HX
      generalize b.getD k 0 = yb at c2 y2 HX
      generalize c.getD k 0 = yc at c3 y3 HX
      generalize (xors n k a b c)[k] = yx at hx
      have hk1 : (0 : Int) ≤ (k : Int) := by omega
      have hk2 : (k : Int) < (n : Int) := by omega
      have hk3 : (k : Int) < (a.length : Int) := by omega
      have hk4 : (k : Int) < (b.length : Int) := by omega
      have hk5 : (k : Int) < (c.length : Int) := by omega
      go_upto_region 6 with (fail)
      go_still_tail 17, (by kernel_rfl)
      go_wp2
      go_roundw
      case measure => simp [intOf]; omega
      case rel =>
        have e : bits .xor .u8 (bits .xor .u8 (ya : Int) (yb : Int)) (yc : Int) = ((ya ^^^ yb ^^^ yc : Nat) : Int) := by
          rw [u8_xor_nat _ _ y1 y2, u8_xor_nat _ _ (Nat.xor_lt_two_pow (n := 8) y1 y2) y3]
        have hst := (HO2.out.stored k (.int .u8 ((ya ^^^ yb ^^^ yc : Nat) : Int))).1
        refine ⟨k + 1, by omega, by go_num, ?_, (HW2.out.setCell (Nat.le_refl _) _).drew⟩
        rw [e, HX.out, show bytesV ((xors n k a b c).set k (ya ^^^ yb ^^^ yc)) = (bytesV (xors n k a b c)).set k (.int .u8 ((ya ^^^ yb ^^^ yc : Nat) : Int)) from List.map_set]
        exact hst.drew
    · obtain rfl : k = n := by omega
      have H0 : Bts wr (.slice (some ⟨w.heap.size, 0, none⟩) k k) (xors k k a b c) := bts_xors hown (by omega) (xors_small HA.out.getD HB.out.getD HC.out.getD)
      have A0 := (HA.out.below hbel).take k hn1
      have B0 := (HB.out.below hbel).take k hn2
      have C0 := (HC.out.below hbel).take k hn3
      have s0 : Crc.more 0 (xors k k a b c) < 4294967296 := Crc.more_lt (by decide) H0.small
      have s1 : Crc.more 0 (a.take k) < 4294967296 := Crc.more_lt (by decide) A0.small
      have s2 : Crc.more 0 (b.take k) < 4294967296 := Crc.more_lt (by decide) B0.small
      have s3 : Crc.more 0 (c.take k) < 4294967296 := Crc.more_lt (by decide) C0.small
      have heq : ((Crc.more 0 (xors k k a b c) : Int) == bits .xor .u32 (bits .xor .u32 (Crc.more 0 (a.take k) : Int) (Crc.more 0 (b.take k) : Int)) (Crc.more 0 (c.take k) : Int)) = true := by
        rw [xor_u32 _ _ s1 s2, xor_u32 _ _ (Nat.xor_lt_two_pow (n := 32) s1 s2) s3, xors_zip hn1 hn2 hn3, Crc.three _ _ _ (by simp; omega) (by simp; omega)]
        simp
      clear hown hbel HO HW HO2 s0 s1 s2 s3
      have hk1 : (k : Int) ≤ (cap1 : Int) := by omega
      have hk2 : (k : Int) ≤ (cap2 : Int) := by omega
      have hk3 : (k : Int) ≤ (cap3 : Int) := by omega
      have hk0 : (0 : Int) ≤ (k : Int) := by omega
      go_upto_region 7 with (fail)
      go_region_held3 (fun w' => Below wr.heap.size wr w') (first | assumption | exact Below.refl _ _ | (apply Below.drew; assumption) | (apply Below.drew; exact Below.refl _ _))
        (first | ((with_reducible refine (sum_over _ _ _ _ (by assumption) (by assumption)).mono ?_); rintro e w' ⟨rfl, hb⟩) | ((with_reducible refine (known_over _ _ (by assumption)).mono ?_); rintro e w' ⟨rfl, hb⟩))
      go_wp2
      go_ret
      exact ⟨rfl, HW2.out.trans (Below.mono (by assumption) HW2.out.size)⟩
end Go.Proofs.Ytcklncnelpclpaa
