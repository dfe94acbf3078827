/- A burst of turned bits, of at most 32 in a row, is told. Conditions: the slice's cells hold the bytes. -/
import Derived.Test.YtcklncnelpclpaaCrcLent
import Derived.Deep.DeepCutAuto
namespace Go.Proofs.Ytcklncnelpclpaa
open Go.RowKit

theorem from_nat (a m : Int) (h1 : 0 < m) (h2 : m ≤ 1125899906842624) : ∃ f : Nat, wrap64 ((IntKind.u64.wrap a).tmod m) = (f : Int) ∧ (f : Int) < m := by
  have hw : 0 ≤ IntKind.u64.wrap a := by rw [IntKind.wrap_u64]; exact Int.emod_nonneg _ (by decide)
  have e : (IntKind.u64.wrap a).tmod m = (IntKind.u64.wrap a) % m := Int.tmod_eq_emod_of_nonneg hw
  have l1 := Int.emod_nonneg (IntKind.u64.wrap a) (show m ≠ 0 by omega)
  have l2 := Int.emod_lt_of_pos (IntKind.u64.wrap a) h1
  rw [e]
  generalize IntKind.u64.wrap a % m = x at l1 l2 ⊢
  refine ⟨x.toNat, ?_, by omega⟩
  rw [IntWalk.wrap64_in x ⟨by omega, by omega⟩]
  omega

theorem bit_on (t i : Nat) (ht : t < 4294967296) (h : t / 2 ^ i % 2 = 1) : (bits .and .u32 ((t : Int) / 2 ^ i) 1 == 1) = true := by
  have e : ((t : Int) / 2 ^ i) = ((t / 2 ^ i : Nat) : Int) := by simp
  rw [e, and_one _ (Nat.lt_of_le_of_lt (Nat.div_le_self _ _) ht), h]; rfl
theorem bit_off (t i : Nat) (ht : t < 4294967296) (h : ¬ t / 2 ^ i % 2 = 1) : (bits .and .u32 ((t : Int) / 2 ^ i) 1 == 1) = false := by
  have e : ((t : Int) / 2 ^ i) = ((t / 2 ^ i : Nat) : Int) := by simp
  rw [e, and_one _ (Nat.lt_of_le_of_lt (Nat.div_le_self _ _) ht), show t / 2 ^ i % 2 = 0 by omega]; rfl

theorem turned_value (y n : Nat) (hy : y < 256) (hn : n < 8) : bits .xor .u8 (y : Int) (2 ^ n % 256) = ((y ^^^ 2 ^ n : Nat) : Int) := by
  have hp : 2 ^ n < 256 := Nat.pow_lt_pow_right (n := 8) (by decide) hn
  have e : ((2 : Int) ^ n % 256) = ((2 ^ n : Nat) : Int) := by
    have h1 : ((2 : Int) ^ n) = ((2 ^ n : Nat) : Int) := by simp
    rw [h1]
    exact Int.emod_eq_of_lt (Int.natCast_nonneg _) (Int.ofNat_lt.2 hp)
  rw [e]
  exact u8_xor_nat y (2 ^ n) hy hp

/-- What stands in the copy behind i bits of the burst. -/
structure Turned (w0 w : World) (B g cap : Nat) (b : List Nat) (f t i : Nat) (c : List Nat) : Prop where
  own : w.ownsRow B 5 1 (.slice (some ⟨g, 0, none⟩) b.length cap) b.length (bytesV c)
  len : c.length = b.length
  small : ∀ x ∈ c, x < 256
  sum : Crc.le c = Crc.le b ^^^ (2 ^ f * (t % 2 ^ i))
  below : Below B w0 w

set_option maxHeartbeats 1600000 in
theorem burst_any (v : Value) (b : List Nat) (at0 : Int) (t : Nat) (w : World) (hB : Bts w v b) (hl : b.length ≤ 140737488355328) (ht : t < 4294967296) :
    Calls Try.prog 4 #[v, .int .i64 at0, .int .u32 (t : Int)] w fun e w' => e = .returned (.bool true) ∧ Below w.heap.size w w' := by
  have HB := Lib.hid hB
  obtain ⟨p, cap, rfl, hr, -, -⟩ := hB.form
  clear hB
  by_cases h5 : b.length < 5
  · go_enter Try.func4, Try.ntmps4
    go_wp2_with fail
    refine (known_any _).mono ?_
    rintro e w' ⟨rfl, hb⟩
    go_wp2
    go_ret
    exact ⟨rfl, hb⟩
  · by_cases h0 : t = 0
    · subst h0
      go_enter Try.func4, Try.ntmps4
      go_wp2_with fail
      refine (known_any _).mono ?_
      rintro e w' ⟨rfl, hb⟩
      go_wp2
      go_ret
      exact ⟨rfl, hb⟩
    · have ht0 : ((t : Int) == 0) = false := by simp [h0]
      have H0 := Lib.hid h0
      clear h0
      have h5' : 5 ≤ b.length := by omega
      clear h5
      go_enter Try.func4, Try.ntmps4
      go_upto_region 5 with (fail)
      obtain ⟨f, hf, hfl⟩ := from_nat at0 (8 * (b.length : Int) - 32) (by omega) (by omega)
      rw [hf]
      have HO := Lib.hid (show (w.alloc (.cells #[] 5)).ownsRow w.heap.size 5 1 (.slice (some ⟨w.heap.size, 0, none⟩) 0 0) 0 [] from ⟨rfl, Or.inr ⟨w.heap.size, 0, #[], rfl, Nat.le_refl _, heap_alloc_last _ _, Nat.le_refl _, Nat.zero_le _, rfl, rfl⟩⟩)
      have HW0 := Lib.hid (show Below w.heap.size w (w.alloc (.cells #[] 5)) from (Below.refl _ _).alloc (Nat.le_refl _) _)
      clear hf
      generalize (IntKind.u64.wrap at0).tmod (8 * (b.length : Int) - 32) = z1
      generalize IntKind.u64.wrap at0 = z2
      have hfn : f + 32 < 8 * b.length := by omega
      clear hfl
      go_step
      go_step
      go_step
      go_step
      go_step
      go_step
      go_step
      refine wpList_append_bts rfl (.tmp 30) (.tmp 31) rfl w.heap.size _ 0 [] rfl HO.out _ b rfl (HB.out.below HW0.out) (by omega) HW0.out.size ?_
      intro v1 w1 hown1 hb1
      rw [List.nil_append, Nat.zero_add] at hown1
      obtain ⟨g, c2, rfl⟩ : ∃ g c2, v1 = .slice (some ⟨g, 0, none⟩) b.length c2 := by
        rcases hown1.2 with ⟨_, h0⟩ | ⟨g, c, cur, hv, _⟩
        · omega
        · exact ⟨g, c, hv⟩
      have HT : Turned w w1 w.heap.size g c2 b f t 0 b := ⟨hown1, rfl, HB.out.small, by rw [Nat.pow_zero, Nat.mod_one, Nat.mul_zero, Nat.xor_zero], HW0.out.trans hb1⟩
      have HT0 := Lib.hid HT
      obtain ⟨o1, o2, o3, -, -⟩ := owns_cells hown1
      unfold maxLen at o3
      clear HT hown1 hb1 HO HW0
      go_wp2
      go_loopw [10] (fun s10 wr => ∃ i : Nat, i ≤ 32 ∧ s10 = .int .i64 i ∧ ∃ c, Turned w wr w.heap.size g c2 b f t i c) (fun s10 _ => 32 - (intOf s10).toNat)
      case atStart => exact ⟨0, by omega, rfl, b, HT0.out⟩
      case round =>
        obtain ⟨i, hi, rfl, c, hT⟩ := hrel
        have HT := Lib.hid hT
        clear hT HT0
        by_cases hlt : i < 32
        · by_cases hbit : t / 2 ^ i % 2 = 1
          · have htest : (bits .and .u32 ((t : Int) / 2 ^ i) 1 == 1) = true := bit_on t i ht hbit
            have hlc := HT.out.len
            have hkl : (f + i) / 8 < b.length := by omega
            obtain ⟨-, -, -, -, hc⟩ := owns_cells HT.out.own
            have hcell := hc ((f + i) / 8) (by omega)
            have hfro := HT.out.own.frozenAt ((f + i) / 8)
            have hy : c.getD ((f + i) / 8) 0 < 256 := by
              rw [List.getD_eq_getElem?_getD, List.getElem?_eq_getElem (by omega)]
              exact HT.out.small _ (List.getElem_mem (by omega))
            have HB1 := Lib.hid hbit
            have HLC := Lib.hid hlc
            clear hbit hlc hc
            generalize hyy : c.getD ((f + i) / 8) 0 = y at hcell hy
            have HY := Lib.hid hyy
            clear hyy
            go_wp2
            refine ⟨⟨i + 1, by omega, by go_num, c.set ((f + i) / 8) (y ^^^ 2 ^ ((f + i) % 8)), ?_⟩, by simp [intOf]; omega⟩
            rw [turned_value y ((f + i) % 8) hy (Nat.mod_lt _ (by decide))]
            have h := HT.out
            have hst := (h.own.stored ((f + i) / 8) (.int .u8 ((y ^^^ 2 ^ ((f + i) % 8) : Nat) : Int))).1
            have hp : 2 ^ ((f + i) % 8) < 256 := Nat.pow_lt_pow_right (n := 8) (by decide) (Nat.mod_lt _ (by decide))
            refine ⟨?_, by rw [List.length_set]; exact h.len, fun x hx => ?_, ?_, h.below.setCell o1 _⟩
            · rw [show bytesV (c.set ((f + i) / 8) (y ^^^ 2 ^ ((f + i) % 8))) = (bytesV c).set ((f + i) / 8) (.int .u8 ((y ^^^ 2 ^ ((f + i) % 8) : Nat) : Int)) from List.map_set]
              exact hst
            · rcases List.mem_or_eq_of_mem_set hx with hx | rfl
              · exact h.small x hx
              · exact Nat.xor_lt_two_pow (n := 8) hy hp
            · rw [← HY.out]
              exact Crc.turn_bit b c t f i h.sum HB1.out (by rw [h.len]; exact hkl)
          · have htest : (bits .and .u32 ((t : Int) / 2 ^ i) 1 == 1) = false := bit_off t i ht hbit
            have HB1 := Lib.hid hbit
            clear hbit
            go_wp2
            refine ⟨⟨i + 1, by omega, by go_num, c, ?_⟩, by simp [intOf]; omega⟩
            have h := HT.out
            exact ⟨h.own, h.len, h.small, by rw [Crc.mod_step0 t i HB1.out]; exact h.sum, h.below⟩
        · obtain rfl : i = 32 := by omega
          have h := HT.out
          have hsum : Crc.le c = Crc.le b ^^^ (2 ^ f * t) := by
            have h2 := h.sum
            rwa [Nat.mod_eq_of_lt (show t < 2 ^ 32 from ht)] at h2
          have hne := Crc.burst b c t f h.len hsum ht H0.out (by omega)
          have hC : Bts wr (.slice (some ⟨g, 0, none⟩) b.length c2) c := by
            obtain ⟨_, _, _, _, hc⟩ := owns_cells h.own
            refine ⟨⟨some ⟨g, 0, none⟩, c2, by rw [h.len], ⟨by rw [h.len]; exact o2, by omega⟩, fun h => by simp at h, fun _ => ⟨g, 0, rfl, fun i hi => ?_⟩⟩, h.small, by rw [h.len]; exact hl⟩
            rw [Nat.zero_add]
            exact hc i hi
          have HC := Lib.hid hC
          have HB2 := Lib.hid (HB.out.below h.below)
          have HW := Lib.hid h.below
          have n1 : ((Crc.more 0 c : Int) == (Crc.more 0 b : Int)) = false := by simpa using fun e => hne (by omega)
          have n2 : ((Crc.more 0 c : Int) != (Crc.more 0 b : Int)) = true := by simp [bne, n1]
          clear h hsum hne hC HT
          go_wp2_with fail
          refine (sum_any _ c _ HC.out).mono ?_
          rintro e w2 ⟨rfl, h2⟩
          have H2 := Lib.hid h2
          clear h2
          go_wp2_with fail
          refine (sum_any _ b _ (HB2.out.below H2.out)).mono ?_
          rintro e w3 ⟨rfl, h3⟩
          have H3 := Lib.hid (H2.out.trans (h3.mono H2.out.size))
          clear h3
          go_wp2_with fail
          refine (known_any _).mono ?_
          rintro e w4 ⟨rfl, h4⟩
          have H4 := Lib.hid (H3.out.trans (h4.mono H3.out.size))
          clear h4
          go_wp2
          go_ret
          exact ⟨rfl, HW.out.trans (H4.out.mono HW.out.size)⟩
end Go.Proofs.Ytcklncnelpclpaa
