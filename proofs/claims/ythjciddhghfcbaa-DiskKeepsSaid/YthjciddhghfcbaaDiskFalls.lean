/- The power goes just at the operation that the device was armed for: the law DiskFalls. Conditions: none. -/
import Derived.Test.YthjciddhghfcbaaDiskOwn
namespace Go.Proofs.Ythjciddhghfcbaa
open Go.RowKit

namespace Dk
/-- A device of eight sectors that was armed with n, ahead of the k-th operation. -/
structure Fall (n k : Nat) (d : Dev) : Prop where
  size : size d = 8
  most : d.most = 8
  on : k ≤ n → d.off = false ∧ d.armed = n + 1 - k
  off : n < k → d.off = true
theorem goes_armed {d : Dev} {m : Nat} (h : d.armed = m + 1) : goes d = { d with armed := m, off := decide (m = 0) } := by
  unfold goes
  rw [if_pos (by omega)]
  have : d.armed - 1 = m := by omega
  rw [this]
theorem fall_sync {n k : Nat} {d : Dev} (h : Fall n k d) (ho : Own d) : Fall n (k + 1) (sync d).1 ∧ (sync d).2 = if n ≤ k then 6 else 0 := by
  by_cases hk : k ≤ n
  · obtain ⟨h1, h2⟩ := h.on hk
    have hg := goes_armed (d := d) (m := n - k) (by omega)
    by_cases he : n = k
    · have hgo : (goes d).off = true := by rw [hg]; show decide (n - k = 0) = true; exact decide_eq_true (by omega)
      have hs : sync d = (goes d, 6) := by unfold sync; rw [if_neg (by rw [h1]; decide), if_pos hgo]
      rw [hs, if_pos (by omega)]
      refine ⟨⟨?_, ?_, fun h => by omega, fun _ => hgo⟩, rfl⟩
      · show Dk.size (goes d) = 8; rw [hg]; exact h.size
      · show (goes d).most = 8; rw [hg]; exact h.most
    · have hgo : (goes d).off = false := by rw [hg]; show decide (n - k = 0) = false; exact decide_eq_false (by omega)
      have hs : sync d = (last (goes d), 0) := by unfold sync; rw [if_neg (by rw [h1]; decide), if_neg (by rw [hgo]; decide)]
      rw [hs, if_neg (by omega)]
      have hz : Dk.size (goes d) = 8 := by rw [hg]; exact h.size
      refine ⟨⟨?_, ?_, fun h => ⟨hgo, ?_⟩, fun h => by omega⟩, rfl⟩
      · show Dk.size (last (goes d)) = 8; rw [last_size2 (own_goes ho).ok]; exact hz
      · show (goes d).most = 8; rw [hg]; exact h.most
      · show (goes d).armed = _; rw [hg]; show n - k = _; omega
  · have h1 := h.off (by omega)
    have hs : sync d = (d, 6) := by unfold sync; rw [if_pos h1]
    rw [hs, if_pos (by omega)]
    exact ⟨⟨h.size, h.most, fun h => by omega, fun _ => h1⟩, rfl⟩
theorem used_lt {d : Dev} (h : Ok d) {i : Nat} (hi : i < size d) (hs : d.seen.getD i false = false) : used d < size d := by
  have h1 : used d ≤ d.seen.length := List.count_le_length
  rw [h.s] at h1
  rcases Nat.lt_or_ge (used d) (size d) with h2 | h2
  · exact h2
  · have h3 : d.seen.count true = d.seen.length := by rw [h.s]; show used d = _; omega
    have h4 := List.count_eq_length.1 h3
    have hl : i < d.seen.length := by rw [h.s]; exact hi
    have := h4 _ (List.getElem_mem hl)
    rw [List.getD_eq_getElem?_getD, List.getElem?_eq_getElem hl, Option.getD_some] at hs
    rw [hs] at this; cases this
theorem fall_write {n k : Nat} {d : Dev} (h : Fall n k d) (ho : Own d) {i : Nat} (hi : i < 8) {b : List Nat} (hb : b.length = 128) : Fall n (k + 1) (write d (i : Int) b).1 ∧ (write d (i : Int) b).2 = if n ≤ k then 6 else 0 := by
  by_cases hk : k ≤ n
  · obtain ⟨h1, h2⟩ := h.on hk
    have hw : write d (i : Int) b = (goes (put d i b), if (goes (put d i b)).off then 6 else 0) := by
      unfold write
      rw [if_neg (by rw [h1]; decide), if_neg (by unfold bad; rw [h.size]; omega), Int.toNat_natCast, if_neg]
      rintro ⟨h3, h4⟩
      have := used_lt ho.ok (i := i) (by rw [h.size]; exact hi) h3
      rw [h.size] at this
      rw [h.most] at h4
      omega
    have hg := goes_armed (d := put d i b) (m := n - k) (by show d.armed = _; omega)
    have hz : Dk.size (goes (put d i b)) = 8 := by rw [hg]; exact h.size
    have hm : (goes (put d i b)).most = 8 := by rw [hg]; exact h.most
    rw [hw]
    by_cases he : n = k
    · have hgo : (goes (put d i b)).off = true := by rw [hg]; show decide (n - k = 0) = true; exact decide_eq_true (by omega)
      rw [if_pos hgo, if_pos (by omega)]
      exact ⟨⟨hz, hm, fun h => by omega, fun _ => hgo⟩, rfl⟩
    · have hgo : (goes (put d i b)).off = false := by rw [hg]; show decide (n - k = 0) = false; exact decide_eq_false (by omega)
      rw [if_neg (by rw [hgo]; decide), if_neg (by omega)]
      exact ⟨⟨hz, hm, fun h => ⟨hgo, by rw [hg]; show n - k = _; omega⟩, fun h => by omega⟩, rfl⟩
  · have h1 := h.off (by omega)
    have hs : write d (i : Int) b = (d, 6) := by unfold write; rw [if_pos h1]
    rw [hs, if_pos (by omega)]
    exact ⟨⟨h.size, h.most, fun h => by omega, fun _ => h1⟩, rfl⟩
theorem fall_start {n : Nat} (h1 : 1 ≤ n) (h2 : n ≤ 100) : arm (fresh 8 8) (n : Int) = ({ fresh 8 8 with armed := n }, 0) ∧ Fall n 1 { fresh 8 8 with armed := n } := by
  refine ⟨?_, ⟨rfl, rfl, fun _ => ⟨rfl, by show n = _; omega⟩, fun h => by omega⟩⟩
  unfold arm
  rw [if_neg (by decide), if_neg (by omega), Int.toNat_natCast]
theorem fall_end {n k : Nat} {d : Dev} (h : Fall n k d) (hk : n < k) : read d 0 = ([], 6) ∧ (sync (crash d [])).2 = 0 := by
  refine ⟨if_pos (h.off hk), ?_⟩
  unfold sync
  rw [if_neg (by show ¬ (false = true); decide), goes_idle rfl, if_neg (by show ¬ (false = true); decide)]
end Dk

/-- One device of the law's own. -/
def Mine1 (w0 w : World) (B m1 m2 : Nat) (d : Dk.Dev) : Prop := PDev w B m1 m2 d ∧ (∀ i, DS B m1 m2 i → w0.heap.size ≤ i) ∧ Below w0.heap.size w0 w
theorem Mine1.below {w0 w w' : World} {B m1 m2 : Nat} {d : Dk.Dev} (h : Mine1 w0 w B m1 m2 d) (hb : Below w.heap.size w w') : Mine1 w0 w' B m1 m2 d :=
  ⟨h.1.below hb, h.2.1, h.2.2.trans (hb.mono h.2.2.size)⟩
theorem Mine1.turned {w0 w w' : World} {B m1 m2 : Nat} {d d' : Dk.Dev} (h : Mine1 w0 w B m1 m2 d) (hp : PDev w' B m1 m2 d') (ht : Touch (DS B m1 m2) w w') : Mine1 w0 w' B m1 m2 d' :=
  ⟨hp, h.2.1, h.2.2.trans (ht.below h.2.1 h.2.2.size)⟩
/-- A sector's bytes, just made, are none of the device's. -/
theorem write_sec {w0 w w2 : World} {B m1 m2 g : Nat} {d : Dk.Dev} {b : List Nat} (h : Mine1 w0 w B m1 m2 d) (hb : Below w.heap.size w w2) (hg : w.heap.size ≤ g) (hO : Bts w2 (.slice (some ⟨g, 0, none⟩) 128 128) b) (a : Int) :
    Calls Try.prog 19 #[.pointer (some ⟨B, 0, none⟩), .int .i64 a, .slice (some ⟨g, 0, none⟩) 128 128] w2 fun e w' => e = .returned (.int .i64 ((Dk.write d a b).2 : Nat)) ∧ Mine1 w0 w' B m1 m2 (Dk.write d a b).1 ∧ Touch (DS B m1 m2) w2 w' := by
  have h2 := h.below hb
  refine (write_any h2.1 a _ b hO (fun _ g' hg' hd => ?_)).mono fun e w' ⟨he, hp, ht⟩ => ⟨he, h2.turned hp ht, ht⟩
  simp only [Value.ownBlock, Option.some.injEq] at hg'
  have := h.1.lt _ hd
  omega

set_option maxHeartbeats 3200000 in
set_option maxRecDepth 20000 in
theorem diskFalls_any (n more : Int) (w : World) : Calls Try.prog 6 #[.int .i64 n, .int .i64 more] w fun e w' => e = .returned (.bool true) ∧ Below w.heap.size w w' := by
  go_enter Try.func6, Try.ntmps6
  go_wp2_with fail
  refine (new_good_any 8 8 w (by decide) (by decide) (by decide)).mono ?_
  rintro e w1 ⟨B, m1, m2, rfl, hP, hS, hb1⟩
  have HP := Lib.hid (show Mine1 w w1 B m1 m2 (Dk.fresh 8 8) from ⟨hP, hS, hb1⟩)
  clear hP hS hb1
  by_cases h1 : n < 1
  · go_wp2_with fail
    refine (known_any own_api w1).mono ?_
    rintro e w2 ⟨rfl, hb2⟩
    have HB2 := Lib.hid (HP.out.2.2.trans (hb2.mono HP.out.2.2.size))
    clear hb2
    go_wp2_with fail
    go_ret
    exact ⟨rfl, HB2.out⟩
  by_cases h2 : 100 < n
  · go_wp2_with fail
    refine (known_any own_api w1).mono ?_
    rintro e w2 ⟨rfl, hb2⟩
    have HB2 := Lib.hid (HP.out.2.2.trans (hb2.mono HP.out.2.2.size))
    clear hb2
    go_wp2_with fail
    go_ret
    exact ⟨rfl, HB2.out⟩
  obtain ⟨m, rfl⟩ : ∃ m : Nat, n = m := ⟨n.toNat, by omega⟩
  have hm1 : 1 ≤ m := by omega
  have hm2 : m ≤ 100 := by omega
  clear h1 h2
  obtain ⟨e1, hf⟩ := Dk.fall_start hm1 hm2
  have HF := Lib.hid hf
  have ha := arm_any HP.out.1 (m : Int)
  rw [e1] at ha
  clear hf e1
  have i1 : ¬ ((m : Int) < 1) := by omega
  have i2 : ¬ (100 < (m : Int)) := by omega
  go_wp2_with fail
  refine ha.mono ?_
  rintro e w2 ⟨rfl, hP, hT⟩
  have HP2 := Lib.hid (HP.out.turned hP hT)
  clear hP hT ha HP
  generalize ({ Dk.fresh 8 8 with armed := m } : Dk.Dev) = d0 at *
  go_wp2_with fail
  obtain ⟨q, hq, hq5⟩ : ∃ q : Nat, (IntKind.u64.wrap more).tmod 5 = (q : Int) ∧ q < 5 := by
    have h0 : IntKind.u64.wrap more = more % 18446744073709551616 := by simp [IntKind.wrap, IntKind.signed]; rfl
    rw [h0, Int.tmod_eq_emod_of_nonneg (by omega)]
    exact ⟨(more % 18446744073709551616 % 5).toNat, by omega, by omega⟩
  have hw1 : wrap64 (q : Int) = q := by unfold wrap64; omega
  have hw2 : wrap64 ((m : Int) + 2 + q) = m + 2 + q := by unfold wrap64; omega
  go_loopw [7] (fun i wr => ∃ (k : Nat) (d : Dk.Dev), 1 ≤ k ∧ k ≤ m + 2 + q ∧ i = .int .i64 k ∧ Dk.Fall m k d ∧ Mine1 w wr B m1 m2 d) (fun i _ => m + 7 - (intOf i).toNat)
  case atStart => exact ⟨1, d0, by omega, by omega, rfl, HF.out, HP2.out⟩
  case round =>
    obtain ⟨k, d, hk1, hk2, rfl, hF, hM⟩ := hrel
    have HF := Lib.hid hF
    have HM := Lib.hid hM
    have HK1 := Lib.hid hk1
    have HK2 := Lib.hid hk2
    have HM1 := Lib.hid hm1
    clear hF hM
    by_cases hlt : k < m + 2 + q
    · have hlti : (k : Int) < (m : Int) + 2 + q := by omega
      have HLT := Lib.hid hlt
      clear hlt
      by_cases h3n : k % 3 = 0
      · have h3 : ((k : Int) % 3 == 0) = true := by rw [beq_iff_eq]; omega
        clear h3n
        by_cases hmk : m ≤ k
        · have hmi : (m : Int) ≤ k := by omega
          have HMK := Lib.hid hmk
          go_wp2_with fail
          refine (sync_any HM.out.1).mono ?_
          rintro e w4 ⟨rfl, hp, ht⟩
          have HM4 := Lib.hid (HM.out.turned hp ht)
          have hfs := Dk.fall_sync HF.out HM.out.1.own
          rw [show (((Dk.sync d).2 : Nat) : Int) = 6 by rw [hfs.2, if_pos hmk]; rfl]
          have HF4 := Lib.hid hfs.1
          clear hp ht hfs
          go_wp2_with fail
          go_roundw
          case rel => exact ⟨k + 1, _, by omega, by have := HLT.out; omega, by go_num, HF4.out, HM4.out⟩
          case measure => have := HLT.out; simp [intOf]; omega
        · have hmi : (k : Int) < m := by omega
          have HMK := Lib.hid hmk
          go_wp2_with fail
          refine (sync_any HM.out.1).mono ?_
          rintro e w4 ⟨rfl, hp, ht⟩
          have HM4 := Lib.hid (HM.out.turned hp ht)
          have hfs := Dk.fall_sync HF.out HM.out.1.own
          rw [show (((Dk.sync d).2 : Nat) : Int) = 0 by rw [hfs.2, if_neg hmk]; rfl]
          have HF4 := Lib.hid hfs.1
          clear hp ht hfs
          go_wp2_with fail
          go_roundw
          case rel => exact ⟨k + 1, _, by omega, by have := HLT.out; omega, by go_num, HF4.out, HM4.out⟩
          case measure => have := HLT.out; simp [intOf]; omega
      · have h3 : ((k : Int) % 3 == 0) = false := by rw [beq_eq_false_iff_ne]; omega
        clear h3n
        by_cases hmk : m ≤ k
        · have hmi : (m : Int) ≤ k := by omega
          have HMK := Lib.hid hmk
          clear hmk
          go_wp2_with fail
          refine (sector_own (k : Int) wr).mono ?_
          rintro e w3 ⟨g, rfl, hg, hO, hb3⟩
          have hc := write_sec HM.out hb3 hg hO.bts ((k : Int) % 8)
          have hfs := Dk.fall_write HF.out HM.out.1.own (i := k % 8) (by omega) (secL_length (k : Int))
          rw [show ((k % 8 : Nat) : Int) = (k : Int) % 8 by omega] at hfs
          have HC := Lib.hid hc
          have HFS := Lib.hid hfs
          clear hg hO hb3 hc hfs
          go_wp2_with fail
          refine HC.out.mono ?_
          rintro e w4 ⟨rfl, hm4, -⟩
          have HM4 := Lib.hid hm4
          rw [show (((Dk.write d ((k : Int) % 8) (secL (k : Int))).2 : Nat) : Int) = 6 by rw [HFS.out.2, if_pos HMK.out]; rfl]
          have HF4 := Lib.hid HFS.out.1
          clear HC hm4
          go_wp2_with fail
          go_roundw
          case rel => exact ⟨k + 1, _, by omega, by have := HLT.out; omega, by go_num, HF4.out, HM4.out⟩
          case measure => have := HLT.out; simp [intOf]; omega
        · have hmi : (k : Int) < m := by omega
          have HMK := Lib.hid hmk
          clear hmk
          go_wp2_with fail
          refine (sector_own (k : Int) wr).mono ?_
          rintro e w3 ⟨g, rfl, hg, hO, hb3⟩
          have hc := write_sec HM.out hb3 hg hO.bts ((k : Int) % 8)
          have hfs := Dk.fall_write HF.out HM.out.1.own (i := k % 8) (by omega) (secL_length (k : Int))
          rw [show ((k % 8 : Nat) : Int) = (k : Int) % 8 by omega] at hfs
          have HC := Lib.hid hc
          have HFS := Lib.hid hfs
          clear hg hO hb3 hc hfs
          go_wp2_with fail
          refine HC.out.mono ?_
          rintro e w4 ⟨rfl, hm4, -⟩
          have HM4 := Lib.hid hm4
          rw [show (((Dk.write d ((k : Int) % 8) (secL (k : Int))).2 : Nat) : Int) = 0 by rw [HFS.out.2, if_neg HMK.out]; rfl]
          have HF4 := Lib.hid HFS.out.1
          clear HC hm4
          go_wp2_with fail
          go_roundw
          case rel => exact ⟨k + 1, _, by omega, by have := HLT.out; omega, by go_num, HF4.out, HM4.out⟩
          case measure => have := HLT.out; simp [intOf]; omega
    · obtain rfl : k = m + 2 + q := by omega
      have hge : ¬ (((m + 2 + q : Nat) : Int) < (m : Int) + 2 + q) := by omega
      have HE := Lib.hid (Dk.fall_end HF.out (by omega))
      clear hlt
      go_wp2_with fail
      refine (read_any HM.out.1 0).mono ?_
      rintro e w4 ⟨u, rfl, hO, hb4⟩
      rw [HE.out.1] at hO ⊢
      obtain ⟨p, cap, rfl, -, -, -⟩ := hO.bts.form
      have HM4 := Lib.hid (HM.out.below hb4)
      clear hO hb4
      go_wp2_with fail
      refine (crash_any HM4.out.1 (.slice none 0 0) [] (bts_none _) (fun h => absurd h (by decide))).mono ?_
      rintro e w5 ⟨rfl, hp, ht⟩
      have HM5 := Lib.hid (HM4.out.turned hp ht)
      clear hp ht
      go_wp2_with fail
      refine (sync_any HM5.out.1).mono ?_
      rintro e w6 ⟨rfl, hp, ht⟩
      have HM6 := Lib.hid (HM5.out.turned hp ht)
      rw [show (((Dk.sync (Dk.crash d [])).2 : Nat) : Int) = 0 by rw [HE.out.2]; rfl]
      clear hp ht
      go_wp2_with fail
      refine (known_any own_api w6).mono ?_
      rintro e w7 ⟨rfl, hb7⟩
      have HB7 := Lib.hid (HM6.out.2.2.trans (hb7.mono HM6.out.2.2.size))
      clear hb7
      go_wp2_with fail
      go_ret
      exact ⟨rfl, HB7.out⟩
end Go.Proofs.Ythjciddhghfcbaa
