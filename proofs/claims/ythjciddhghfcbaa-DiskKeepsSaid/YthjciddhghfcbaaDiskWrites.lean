/- The laws' writes: a device that is written by a list of calls, and synced now and then. Conditions: the device's blocks; the list lies below them. -/
import Derived.Test.YthjciddhghfcbaaDiskFalls
import Derived.Test.YthjciddhghfcbaaOpOpen
namespace Go.Proofs.Ythjciddhghfcbaa
open Go.RowKit

/-- A sector's number of any number. -/
def atN (n : Nat) (a : Int) : Nat := (a % 18446744073709551616 % (n : Int)).toNat
theorem atN_lt {n : Nat} (hn : 0 < n) (a : Int) : atN n a < n := by
  unfold atN
  have h1 := Int.emod_nonneg (a % 18446744073709551616) (show (n : Int) ≠ 0 by omega)
  have h2 := Int.emod_lt_of_pos (a % 18446744073709551616) (show (0 : Int) < n by omega)
  omega
theorem atN_eq {n : Nat} (hn : 0 < n) (a : Int) : (IntKind.u64.wrap a).tmod (n : Int) = (atN n a : Nat) := by
  have h0 : IntKind.u64.wrap a = a % 18446744073709551616 := by simp [IntKind.wrap, IntKind.signed]; rfl
  rw [h0, Int.tmod_eq_emod_of_nonneg (by omega)]
  have h1 := Int.emod_nonneg (a % 18446744073709551616) (show (n : Int) ≠ 0 by omega)
  unfold atN
  omega
theorem i64_small {q : Nat} (h : q < 65536) : IntKind.i64.wrap (q : Int) = q := by
  have hb : (2 ^ IntKind.i64.bits : Int) = 18446744073709551616 := by decide
  have hc : (2 ^ (IntKind.i64.bits - 1) : Int) = 9223372036854775808 := by decide
  unfold IntKind.wrap
  rw [hb, hc, Int.emod_eq_of_lt (by omega) (by omega), if_neg]
  simp only [IntKind.signed, Bool.true_and, decide_eq_true_eq]
  omega
namespace Dk
/-- One of the writes. -/
def stepW (d : Dev) (o : Opr) : Dev := if o.fill % 5 = 0 then (sync (write d (atN 12 o.at_ : Nat) (secL o.fill)).1).1 else (write d (atN 12 o.at_ : Nat) (secL o.fill)).1
def writesD (d : Dev) (l : List Opr) : Dev := l.foldl stepW d
theorem writesD_next (d : Dev) {l : List Opr} {k : Nat} (h : k < l.length) : writesD d (l.take (k + 1)) = stepW (writesD d (l.take k)) (l.getD k default) := by
  have e : l.getD k default = l[k] := by rw [List.getD_eq_getElem?_getD, List.getElem?_eq_getElem h]; rfl
  unfold writesD
  rw [List.take_succ_eq_append_getElem h, List.foldl_append, e]; rfl
end Dk

/-- Another slice of calls, below a mark. -/
theorem ops_cells {W : World} {v : Value} {l : List Opr} (h : OpsIn W v l) :
    ∃ p cap, v = .slice p l.length cap ∧ (l.length ≤ cap ∧ cap ≤ 9223372036854775807) ∧ (0 < l.length → ∃ b off, p = some ⟨b, off, none⟩ ∧ b < W.heap.size ∧ ∀ i, i < l.length → OpAt W b (off + i * 5) (l.getD i default)) := by
  obtain ⟨p, cap, hv, hr, _, hp⟩ := h.form
  refine ⟨p, cap, hv, hr, fun h0 => ?_⟩
  obtain ⟨b, off, he, hc⟩ := hp h0
  exact ⟨b, off, he, block_lt_of_cell (hc 0 h0).c0, hc⟩

/-- One write: what the operations leave. -/
def Wt (B n k b o : Nat) (v : Value) (a fill : Int) (q : Nat) (i : Nat) (x : Value) (w : World) : Prop :=
  match i with
  | 0 => x = .pointer (some ⟨B, 0, none⟩)
  | 1 => x = v
  | 2 => x = .int .i64 (k : Int)
  | 3 => x = .pointer (some ⟨b, o, none⟩)
  | 4 => x = .pointer (some ⟨b, o + 1, none⟩)
  | 5 => x = .int .i64 a
  | 6 => x = .int .u64 (IntKind.u64.wrap a)
  | 7 => x = .int .u64 (q : Int)
  | 8 => x = .int .i64 (q : Int)
  | 9 => x = v
  | 10 => x = .int .i64 (k : Int)
  | 11 => x = .pointer (some ⟨b, o, none⟩)
  | 12 => x = .pointer (some ⟨b, o + 2, none⟩)
  | 13 => x = .int .i64 fill
  | 14 => ∃ g, x = .slice (some ⟨g, 0, none⟩) 128 128 ∧ n ≤ g ∧ Bts w x (secL fill)
  | _ => True
theorem wt_later {B m1 m2 n k b o : Nat} {v : Value} {a fill : Int} {q : Nat} (hn : ∀ i, DS B m1 m2 i → i < n) (i : Nat) (x : Value) (w w' : World) (ht : Touch (DS B m1 m2) w w') (h : Wt B n k b o v a fill q i x w) : Wt B n k b o v a fill q i x w' := by
  unfold Wt at *
  split at h
  case _ => exact h
  all_goals first | exact h | skip
  obtain ⟨g, e, hg, hb⟩ := h
  refine ⟨g, e, hg, ht.bts hb fun _ g' hg' hd => ?_⟩
  rw [e] at hg'
  simp only [Value.ownBlock, Option.some.injEq] at hg'
  have := hn _ hd
  omega
def WtR (w1 : World) (B m1 m2 : Nat) (d' : Dk.Dev) (D : Nat → Bool) (_ : Nat → Value) (w : World) : Prop :=
  Touch (DS B m1 m2) w1 w ∧ (D 15 = false → Below w1.heap.size w1 w) ∧ (D 15 = true → PDev w B m1 m2 d')

set_option maxHeartbeats 3200000 in
set_option maxRecDepth 20000 in
theorem writes_any {W w0 : World} {B m1 m2 : Nat} {d0 : Dk.Dev} (h0 : Mine1 W w0 B m1 m2 d0) {v : Value} {l : List Opr} (hO : OpsIn W v l) (hl : l.length ≤ 17592186044416) :
    Calls Try.prog 25 #[.pointer (some ⟨B, 0, none⟩), v] w0 fun e w' => e = .returned (.tuple #[]) ∧ Mine1 W w' B m1 m2 (Dk.writesD d0 l) ∧ Touch (DS B m1 m2) w0 w' := by
  obtain ⟨p, cap, rfl, hcap, hops⟩ := ops_cells hO
  have HOPS := Lib.hid hops
  have H0 := Lib.hid h0
  clear hO hops h0
  go_enter Try.func25, Try.ntmps25
  go_wp2_with fail
  go_loopw [4] (fun i wr => ∃ k : Nat, k ≤ l.length ∧ i = .int .i64 k ∧ Mine1 W wr B m1 m2 (Dk.writesD d0 (l.take k)) ∧ Touch (DS B m1 m2) w0 wr) (fun i _ => l.length - (intOf i).toNat)
  case atStart => exact ⟨0, Nat.zero_le _, rfl, H0.out, .refl _ _⟩
  case round =>
    obtain ⟨k, hk, rfl, hM, hT⟩ := hrel
    have HM := Lib.hid hM
    have HT := Lib.hid hT
    clear hM hT
    by_cases hlt : k < l.length
    · obtain ⟨b, off, rfl, hbW, hop⟩ := HOPS.out (by omega)
      have ho := hop k hlt
      have HNX := Lib.hid (Dk.writesD_next d0 hlt)
      obtain ⟨o, hoo⟩ : ∃ o, l.getD k default = o := ⟨_, rfl⟩
      rw [hoo] at ho HNX
      have HB := Lib.hid HM.out.2.2
      have y1 := Lib.hid ((HB.out.cell (p := ⟨b, off + k * 5 + 1, none⟩) hbW).trans ho.c1)
      have y2 := Lib.hid ((HB.out.cell (p := ⟨b, off + k * 5 + 2, none⟩) hbW).trans ho.c2)
      have HBD := Lib.hid (show ¬ DS B m1 m2 b from fun hd => by have := HM.out.2.1 b hd; omega)
      have HLT := Lib.hid hlt
      have hki : (k : Int) < (l.length : Int) := by omega
      obtain ⟨q, hq⟩ : ∃ q, atN 12 o.at_ = q := ⟨_, rfl⟩
      have hq1 := atN_eq (n := 12) (by decide) o.at_
      rw [hq] at hq1
      have hq2 : q < 12 := by rw [← hq]; exact atN_lt (by decide) _
      have hq3 : IntKind.i64.wrap (q : Int) = q := i64_small (by omega)
      have HQ := Lib.hid (show (IntKind.u64.wrap o.at_).tmod 12 = (q : Int) from hq1)
      have HQE := Lib.hid hq
      generalize hd : Dk.writesD d0 (l.take k) = d at *
      have HDL := Lib.hid (show ∀ i, DS B m1 m2 i → i < wr.heap.size from HM.out.1.lt)
      have HSW := Lib.hid (show Dk.stepW d o = if o.fill % 5 = 0 then (Dk.sync (Dk.write d (q : Int) (secL o.fill)).1).1 else (Dk.write d (q : Int) (secL o.fill)).1 by unfold Dk.stepW; rw [hq])
      clear ho hop hoo hlt hq hq1 hd hbW
      go_upto_region 3 with (fail)
      refine Ord.walk (Wt B wr.heap.size k b (off + k * 5) (.slice (some ⟨b, off, none⟩) l.length cap) o.at_ o.fill q) (WtR wr B m1 m2 (Dk.write d (q : Int) (secL o.fill)).1) (fun a b => Touch (DS B m1 m2) a b)
        (by kernel_rfl) (by kernel_rfl) ?fr ?hfr (wt_later HDL.out) ?hs ?he ?hend
      case hs => exact fun _ => ⟨(Touch.refl _ _).drew, fun _ => new_drew wr, fun h => by cases h⟩
      case hfr =>
        intro xs
        simp only [Ord.fill, Act.put, List.setIfInBounds_toArray, List.set_cons_zero, List.set_cons_succ]
        rfl
      case he =>
        refine Ord.each_cons (fun D xs w2 hD hC hP hR hA K hK => ?_) ?_
        · -- 0
          clear hA
          go_simp
          exact hK _ _ ⟨_, rfl, .refl _ _, hR, rfl⟩
        refine Ord.each_cons (fun D xs w2 hD hC hP hR hA K hK => ?_) ?_
        · -- 1
          clear hA
          go_simp
          exact hK _ _ ⟨_, rfl, .refl _ _, hR, rfl⟩
        refine Ord.each_cons (fun D xs w2 hD hC hP hR hA K hK => ?_) ?_
        · -- 2
          clear hA
          go_simp
          exact hK _ _ ⟨_, rfl, .refl _ _, hR, rfl⟩
        refine Ord.each_cons (fun D xs w2 hD hC hP hR hA K hK => ?_) ?_
        · -- 3
          have q1 := Ord.ahead_get _ hA 1 (by decide)
          simp only [Wt] at q1
          have q2 := Ord.ahead_get _ hA 2 (by decide)
          simp only [Wt] at q2
          simp only [q1, q2] at hK
          clear hA
          go_simp
          exact hK _ _ ⟨_, rfl, .refl _ _, hR, rfl⟩
        refine Ord.each_cons (fun D xs w2 hD hC hP hR hA K hK => ?_) ?_
        · -- 4
          have q3 := Ord.ahead_get _ hA 3 (by decide)
          simp only [Wt] at q3
          simp only [q3] at hK
          clear hA
          go_simp
          exact hK _ _ ⟨_, rfl, .refl _ _, hR, rfl⟩
        refine Ord.each_cons (fun D xs w2 hD hC hP hR hA K hK => ?_) ?_
        · -- 5
          have q4 := Ord.ahead_get _ hA 4 (by decide)
          simp only [Wt] at q4
          simp only [q4] at hK
          clear hA
          have c1 := hR.1.cell y1.out HBD.out
          go_simp
          exact hK _ _ ⟨_, rfl, .refl _ _, hR, rfl⟩
        refine Ord.each_cons (fun D xs w2 hD hC hP hR hA K hK => ?_) ?_
        · -- 6
          have q5 := Ord.ahead_get _ hA 5 (by decide)
          simp only [Wt] at q5
          simp only [q5] at hK
          clear hA
          go_simp
          exact hK _ _ ⟨_, rfl, .refl _ _, hR, rfl⟩
        refine Ord.each_cons (fun D xs w2 hD hC hP hR hA K hK => ?_) ?_
        · -- 7
          have q6 := Ord.ahead_get _ hA 6 (by decide)
          simp only [Wt] at q6
          simp only [q6] at hK
          clear hA
          have hqq := HQ.out
          go_simp
          exact hK _ _ ⟨_, rfl, .refl _ _, hR, rfl⟩
        refine Ord.each_cons (fun D xs w2 hD hC hP hR hA K hK => ?_) ?_
        · -- 8
          have q7 := Ord.ahead_get _ hA 7 (by decide)
          simp only [Wt] at q7
          simp only [q7] at hK
          clear hA
          have hw := hq3
          go_simp
          exact hK _ _ ⟨_, rfl, .refl _ _, hR, rfl⟩
        refine Ord.each_cons (fun D xs w2 hD hC hP hR hA K hK => ?_) ?_
        · -- 9
          clear hA
          go_simp
          exact hK _ _ ⟨_, rfl, .refl _ _, hR, rfl⟩
        refine Ord.each_cons (fun D xs w2 hD hC hP hR hA K hK => ?_) ?_
        · -- 10
          clear hA
          go_simp
          exact hK _ _ ⟨_, rfl, .refl _ _, hR, rfl⟩
        refine Ord.each_cons (fun D xs w2 hD hC hP hR hA K hK => ?_) ?_
        · -- 11
          have q9 := Ord.ahead_get _ hA 9 (by decide)
          simp only [Wt] at q9
          have q10 := Ord.ahead_get _ hA 10 (by decide)
          simp only [Wt] at q10
          simp only [q9, q10] at hK
          clear hA
          go_simp
          exact hK _ _ ⟨_, rfl, .refl _ _, hR, rfl⟩
        refine Ord.each_cons (fun D xs w2 hD hC hP hR hA K hK => ?_) ?_
        · -- 12
          have q11 := Ord.ahead_get _ hA 11 (by decide)
          simp only [Wt] at q11
          simp only [q11] at hK
          clear hA
          go_simp
          exact hK _ _ ⟨_, rfl, .refl _ _, hR, rfl⟩
        refine Ord.each_cons (fun D xs w2 hD hC hP hR hA K hK => ?_) ?_
        · -- 13
          have q12 := Ord.ahead_get _ hA 12 (by decide)
          simp only [Wt] at q12
          simp only [q12] at hK
          clear hA
          have c1 := hR.1.cell y2.out HBD.out
          go_simp
          exact hK _ _ ⟨_, rfl, .refl _ _, hR, rfl⟩
        refine Ord.each_cons (fun D xs w2 hD hC hP hR hA K hK => ?_) ?_
        · -- 14
          have q13 := Ord.ahead_get _ hA 13 (by decide)
          simp only [Wt] at q13
          simp only [q13] at hK
          clear hA
          have n15 : D 15 = false := by
            cases h : D 15
            · rfl
            · have := Ord.closed_at hC 15 14 (by kernel_rfl) h
              rw [hD] at this; cases this
          go_simp
          refine (sector_own o.fill w2).mono ?_
          rintro e w3 ⟨g, rfl, hg, hO, hb⟩
          exact hK _ _ ⟨_, rfl, .of_new hb, ⟨hR.1.trans (.of_new hb), fun h => (hR.2.1 h).trans (hb.mono (hR.2.1 h).size), fun h => by rw [show Ord.wth D 14 15 = D 15 from rfl, n15] at h; cases h⟩, ⟨g, rfl, Nat.le_trans (hR.2.1 n15).size hg, hO.bts⟩⟩
        refine Ord.each_cons (fun D xs w2 hD hC hP hR hA K hK => ?_) ?_
        · -- 15
          have q0 := Ord.ahead_get _ hA 0 (by decide)
          simp only [Wt] at q0
          have q8 := Ord.ahead_get _ hA 8 (by decide)
          simp only [Wt] at q8
          have q14 := Ord.ahead_get _ hA 14 (by decide)
          simp only [Wt] at q14
          obtain ⟨g, e14, hg, hbt⟩ := q14
          simp only [q0, q8] at hK
          clear hA
          have hp := HM.out.1.below (hR.2.1 hD)
          rw [e14] at hbt
          simp only [e14] at hK
          go_simp
          refine (write_any hp (q : Int) _ (secL o.fill) hbt (fun _ g' hg' hd => by simp only [Value.ownBlock, Option.some.injEq] at hg'; have := HDL.out _ hd; omega)).mono ?_
          rintro e w3 ⟨rfl, hp3, ht3⟩
          exact hK _ _ ⟨_, rfl, ht3, ⟨hR.1.trans ht3, fun h => (by cases h), fun _ => hp3⟩, trivial⟩
        exact Ord.each_nil
      case hend =>
        intro D xs w3 hR hF
        have HP3 := Lib.hid (hR.2.2 (hF 15 (by decide)).1)
        have HT3 := Lib.hid (HT.out.trans hR.1)
        have HM3 := Lib.hid (HM.out.turned HP3.out hR.1)
        have c2 := hR.1.cell y2.out HBD.out
        clear hR hF
        generalize xs 0 = z0
        generalize xs 1 = z1
        generalize xs 2 = z2
        generalize xs 3 = z3
        generalize xs 4 = z4
        generalize xs 5 = z5
        generalize xs 6 = z6
        generalize xs 7 = z7
        generalize xs 8 = z8
        generalize xs 9 = z9
        generalize xs 10 = z10
        generalize xs 11 = z11
        generalize xs 12 = z12
        generalize xs 13 = z13
        generalize xs 14 = z14
        generalize xs 15 = z15
        by_cases h5 : o.fill % 5 = 0
        · have h5i : (o.fill.tmod 5 == 0) = true := by rw [beq_iff_eq]; exact Int.tmod_eq_zero_of_dvd (by omega)
          rw [if_pos h5] at HSW
          clear h5
          go_wp2_with fail
          refine (sync_any HP3.out).mono ?_
          rintro e w4 ⟨rfl, hp4, ht4⟩
          have HM4 := Lib.hid (HM3.out.turned hp4 ht4)
          have HT4 := Lib.hid (HT3.out.trans ht4)
          clear hp4 ht4
          go_wp2_with fail
          go_roundw
          case rel => exact ⟨k + 1, by have := HLT.out; omega, by go_num, by rw [HNX.out, HSW.out]; exact HM4.out, HT4.out⟩
          case measure => have := HLT.out; simp [intOf]; omega
        · have h5i : (o.fill.tmod 5 == 0) = false := by rw [beq_eq_false_iff_ne]; intro h; exact h5 (by have := Int.dvd_of_tmod_eq_zero h; omega)
          rw [if_neg h5] at HSW
          clear h5
          go_wp2_with fail
          go_roundw
          case rel => exact ⟨k + 1, by have := HLT.out; omega, by go_num, by rw [HNX.out, HSW.out]; exact HM3.out, HT3.out⟩
          case measure => have := HLT.out; simp [intOf]; omega
    · obtain rfl : k = l.length := by omega
      rw [List.take_length] at HM
      go_wp2_with fail
      go_end0
      exact ⟨rfl, HM.out, HT.out⟩
end Go.Proofs.Ythjciddhghfcbaa
