/- What the law ItemBytes answers, for every record. Conditions: the slices' cells hold what they tell. -/
import Derived.Test.YtpliogkcfhcfpaaItemForm
import Derived.Test.YtpliogkcfhcfpaaItemKnown
namespace Go.Proofs.Ytpliogkcfhcfpaa
open Go.RowKit

theorem Itm.large_no {n m : Nat} (h : Itm.large n m = false) : n ≤ 6000 ∧ m ≤ 4000 := by
  have := of_decide_eq_false h
  omega

/-- What the operations of the law's comparison leave. -/
def BlF (N k : Nat) (pu : Option Addr) (cu : Nat) (vv vm : Value) (f : List Nat) (S : ByteArray) (i : Nat) (x : Value) (w : World) : Prop :=
  match i with
  | 0 => x = .slice pu N cu
  | 1 => x = .string S
  | 2 => x = ItemV k vv vm
  | 3 => OwnS 0 w x f
  | 4 => x = .string S
  | 5 => x = .bool true
  | 6 => x = .bool true
  | 7 => x = .int .i64 (N : Int)
  | 8 => x = .slice pu N cu
  | 9 => x = .int .i64 (N : Int)
  | 10 => x = .bool true
  | 11 => x = .bool true
  | _ => x = .bool true

theorem blF_later {N k : Nat} {pu : Option Addr} {cu : Nat} {vv vm : Value} {f : List Nat} {S : ByteArray} (i : Nat) (x : Value) (w w' : World) (hb : Below w.heap.size w w') (h : BlF N k pu cu vv vm f S i x w) : BlF N k pu cu vv vm f S i x w' := by
  unfold BlF at *
  split at h <;> first | exact h | exact h.below hb

set_option maxHeartbeats 3200000 in
set_option maxRecDepth 20000 in
theorem itemBytes_any (k : Nat) (vv vm : Value) (v : List Int) (m : List Nat) (w : World) (hI : ItemAt w k vv vm v m) :
    Calls Try.prog 3 #[ItemV k vv vm] w fun e w' => e = .returned (.bool true) ∧ Below w.heap.size w w' := by
  have HI := Lib.hid hI
  obtain ⟨p1, c1, rfl, -, -, -⟩ := hI.vec.form
  obtain ⟨p2, c2, rfl, -, -, -⟩ := hI.bytes.form
  have l1 := hI.vec.len
  have l2 := hI.bytes.len
  clear hI
  obtain ⟨W, hW⟩ : ∃ W, W = w.alloc (.cells #[.int .u64 (k : Int), .slice p1 v.length c1, .slice p2 m.length c2] 26) := ⟨_, rfl⟩
  have hr : W.heap[w.heap.size]? = some (.cells #[.int .u64 (k : Int), .slice p1 v.length c1, .slice p2 m.length c2] 26 (0, 0)) := by rw [hW]; exact heap_alloc_last _ _
  have hb0 : Below w.heap.size w W := by rw [hW]; exact (Below.refl _ _).alloc (Nat.le_refl _) _
  have HR := Lib.hid hr
  have HB0 := Lib.hid hb0
  have HI0 := Lib.hid (HI.out.below hb0)
  have HWW := Lib.hid hW
  have HBL : Hid (w.heap.size < W.heap.size) := lt_of_block hr
  clear hr hb0 hW
  cases hlg : Itm.large v.length m.length
  · obtain ⟨n1, n2⟩ := Itm.large_no hlg
    have HLG := Lib.hid hlg
    clear hlg
    go_enter Try.func3, Try.ntmps3
    go_wp2_with fail
    rw [← HWW.out]
    refine (large_any _ _ _ _ _ _ _ _ l1 l2).mono ?_
    rintro e w1 ⟨rfl, hb1⟩
    rw [HLG.out]
    have HR1 := Lib.hid (row3_below HR.out hb1)
    have HI1 := Lib.hid (HI0.out.below hb1)
    have HW1 := Lib.hid hb1
    clear hb1
    have hc0 := cell3_0 HR1.out
    have hc1 := cell3_1 HR1.out
    have hc2 := cell3_2 HR1.out
    go_wp2_with fail
    refine (copy_any _ _ _ _ _ _ HI1.out (by omega) (by omega)).mono ?_
    rintro e w2 ⟨g1, d1, g2, d2, rfl, hC2, hb2⟩
    clear hc0 hc1 hc2
    have HC2 := Lib.hid hC2
    have HR2 := Lib.hid (row3_below HR1.out hb2)
    have HI2 := Lib.hid (HI1.out.below hb2)
    have HW2 := Lib.hid (HW1.out.trans (hb2.mono HW1.out.size))
    clear hC2 hb2
    go_upto_region 4 with (fail)
    obtain ⟨w3, hw3⟩ : ∃ w3, w3 = w2.alloc (.cells #[.int .u64 (k : Int), .slice (some ⟨g1, 0, none⟩) v.length d1, .slice (some ⟨g2, 0, none⟩) m.length d2] 26) := ⟨_, rfl⟩
    have hq : w3.heap[w2.heap.size]? = some (.cells #[.int .u64 (k : Int), .slice (some ⟨g1, 0, none⟩) v.length d1, .slice (some ⟨g2, 0, none⟩) m.length d2] 26 (0, 0)) := by rw [hw3]; exact heap_alloc_last _ _
    have hb3 : Below w2.heap.size w2 w3 := by rw [hw3]; exact (Below.refl _ _).alloc (Nat.le_refl _) _
    rw [← hw3]
    have HQ3 := Lib.hid hq
    have HR3 := Lib.hid (row3_below HR2.out hb3)
    have HI3 := Lib.hid (HI2.out.below hb3)
    have HC3 := Lib.hid (HC2.out.below hb3)
    have HW3 := Lib.hid (HW2.out.trans (hb3.mono HW2.out.size))
    clear hw3 hq hb3
    have hq0 := cell3_0 HQ3.out
    have hq1 := cell3_1 HQ3.out
    have hq2 := cell3_2 HQ3.out
    obtain ⟨e, he⟩ : ∃ e, Itm.mayE v.length m.length = e := ⟨_, rfl⟩
    have HE := Lib.hid he
    clear he
    go_wp2_with fail
    refine (may_any _ _ _ _ _ _ _ _ l1 l2).mono ?_
    rintro en w4 ⟨rfl, hb4⟩
    rw [HE.out]
    have HR4 := Lib.hid (row3_below HR3.out hb4)
    have HQ4 := Lib.hid (row3_below HQ3.out hb4)
    have HI4 := Lib.hid (HI3.out.below hb4)
    have HC4 := Lib.hid (HC3.out.below hb4)
    have HW4 := Lib.hid (HW3.out.trans (hb4.mono HW3.out.size))
    clear hb4 hq0 hq1 hq2
    have hq0 := cell3_0 HQ4.out
    have hq1 := cell3_1 HQ4.out
    have hq2 := cell3_2 HQ4.out
    go_wp2_with fail
    refine (bytes_any _ _ _ _ _ _ (HC4.out.item HI4.out.key)).mono ?_
    rintro en w5 ⟨u, rfl, hO5, hb5⟩
    rw [HE.out] at hO5 ⊢
    have HO5 := Lib.hid hO5
    have HB45 := Lib.hid hb5
    have HR5 := Lib.hid (row3_below HR4.out hb5)
    have HQ5 := Lib.hid (row3_below HQ4.out hb5)
    have HI5 := Lib.hid (HI4.out.below hb5)
    have HC5 := Lib.hid (HC4.out.below hb5)
    have HW5 := Lib.hid (HW4.out.trans (hb5.mono HW4.out.size))
    clear hb5 hO5 hq0 hq1 hq2
    have hq0 := cell3_0 HQ5.out
    have hq1 := cell3_1 HQ5.out
    have hq2 := cell3_2 HQ5.out
    go_wp2_with fail
    refine (size_any _ _ _ _ _ _ (HC5.out.item HI5.out.key)).mono ?_
    rintro en w6 ⟨rfl, hb6⟩
    have HB56 := Lib.hid hb6
    have HR6 := Lib.hid (row3_below HR5.out hb6)
    have HQ6 := Lib.hid (row3_below HQ5.out hb6)
    have HI6 := Lib.hid (HI5.out.below hb6)
    have HC6 := Lib.hid (HC5.out.below hb6)
    have HW6 := Lib.hid (HW5.out.trans (hb6.mono HW5.out.size))
    clear hb6 hq0 hq1 hq2
    obtain ⟨z, hz⟩ : ∃ z, Itm.size k v m = z := ⟨_, rfl⟩
    rw [hz]
    have HZ := Lib.hid hz
    clear hz
    have hc0 := cell3_0 HR6.out
    have hc1 := cell3_1 HR6.out
    have hc2 := cell3_2 HR6.out
    have hee : ((e : Int) == (e : Int)) = true := by simp
    have hee2 : ((e : Int) != (e : Int)) = false := by simp
    go_wp2_with fail
    refine (refMay_any _ _ _ _ _ _ _ _ l1 l2).mono ?_
    rintro en w7 ⟨rfl, hb7⟩
    rw [HE.out]
    have HB67 := Lib.hid hb7
    have HR7 := Lib.hid (row3_below HR6.out hb7)
    have HQ7 := Lib.hid (row3_below HQ6.out hb7)
    have HI7 := Lib.hid (HI6.out.below hb7)
    have HC7 := Lib.hid (HC6.out.below hb7)
    have HW7 := Lib.hid (HW6.out.trans (hb7.mono HW6.out.size))
    clear hb7 hc0 hc1 hc2
    have HB57 := Lib.hid (HB56.out.trans (HB67.out.mono HB56.out.size))
    by_cases hz : e = 0
    · subst hz
      rw [if_pos rfl] at HO5
      obtain ⟨N, hN⟩ : ∃ N, N = (Itm.form k v m).length := ⟨_, rfl⟩
      have hzz : z = N := by
        rw [← HZ.out, hN]; unfold Itm.size; rw [if_pos HE.out]
      subst hzz
      have HFL := Lib.hid hN.symm
      have HNP : Hid (0 < z) := by
        show _ < _
        rw [hN, Itm.form_length]
        omega
      have hNle : z ≤ 100000 := by
        have h1 := Cod.uv_ten (n := v.length) (by omega)
        have h2 := Cod.uv_ten (n := m.length) (by omega)
        rw [hN, Itm.form_length]
        omega
      obtain ⟨pu, cu, hu, hcu, -, -⟩ := HO5.out.bts.form
      rw [← hN] at hu hcu
      subst hu
      have hcu1 := hcu.1
      have hcu2 := hcu.2
      obtain ⟨S, hS⟩ : ∃ S, S = strOfNums ((Itm.form k v m).map fun x : Nat => (x : Int)) := ⟨_, rfl⟩
      have HS := Lib.hid hS
      clear hS hN hcu
      go_upto_region 11 with (fail)
      refine Ord.walk (BlF z k pu cu (.slice p1 v.length c1) (.slice p2 m.length c2) (Itm.form k v m) S) (fun _ _ w' => Below w7.heap.size w7 w') (fun a b => Below a.heap.size a b)
        (by kernel_rfl) (by kernel_rfl) ?fr ?hfr blF_later (fun xs => (Below.refl _ _).go1) ?he ?hend
      case hfr =>
        intro xs
        simp only [Ord.fill, Act.put, List.setIfInBounds_toArray, List.set_cons_zero, List.set_cons_succ]
        rfl
      case he =>
        refine Ord.each_cons (fun D xs w2 hD hC hP hR hA K hK => ?_) ?_
        · -- 0
          clear hA
          go_simp
          exact hK _ _ ⟨_, rfl, Below.refl _ _, hR, rfl⟩
        refine Ord.each_cons (fun D xs w2 hD hC hP hR hA K hK => ?_) ?_
        · -- 1
          have q0 := Ord.ahead_get _ hA 0 (by decide)
          simp only [BlF] at q0
          simp only [q0] at hK
          clear hA
          have c0 := strOf_conv (HO5.out.bts.below (HB57.out.trans (hR.mono HB57.out.size)))
          rw [← HS.out] at c0
          go_simp
          exact hK _ _ ⟨_, rfl, Below.refl _ _, hR, rfl⟩
        refine Ord.each_cons (fun D xs w2 hD hC hP hR hA K hK => ?_) ?_
        · -- 2
          clear hA
          have c0 := cell3_0 (row3_below HR7.out hR)
          have c1 := cell3_1 (row3_below HR7.out hR)
          have c2 := cell3_2 (row3_below HR7.out hR)
          go_simp
          exact hK _ _ ⟨_, rfl, Below.refl _ _, hR, rfl⟩
        refine Ord.each_cons (fun D xs w2 hD hC hP hR hA K hK => ?_) ?_
        · -- 3
          have q2 := Ord.ahead_get _ hA 2 (by decide)
          simp only [BlF] at q2
          simp only [q2] at hK
          clear hA
          go_simp
          refine (form_any _ _ _ v m w2 (HI7.out.below hR) (by omega) (by omega)).mono ?_
          rintro e w' ⟨u, rfl, hO, hb⟩
          exact hK _ _ ⟨_, rfl, hb, hR.trans (hb.mono hR.size), (hO.from (Nat.zero_le _)).sl⟩
        refine Ord.each_cons (fun D xs w2 hD hC hP hR hA K hK => ?_) ?_
        · -- 4
          have q3 := Ord.ahead_get _ hA 3 (by decide)
          simp only [BlF] at q3
          obtain ⟨⟨p3, n3, c3, e3⟩, o3⟩ := q3
          clear hA
          have c0 := strOf_conv o3.bts
          rw [← HS.out] at c0
          simp only [e3] at hK c0
          go_simp
          exact hK _ _ ⟨_, rfl, Below.refl _ _, hR, rfl⟩
        refine Ord.each_cons (fun D xs w2 hD hC hP hR hA K hK => ?_) ?_
        · -- 5
          have q1 := Ord.ahead_get _ hA 1 (by decide)
          simp only [BlF] at q1
          have q4 := Ord.ahead_get _ hA 4 (by decide)
          simp only [BlF] at q4
          simp only [q1, q4] at hK
          clear hA
          go_simp
          exact hK _ _ ⟨_, rfl, Below.refl _ _, hR, rfl⟩
        refine Ord.each_cons (fun D xs w2 hD hC hP hR hA K hK => ?_) ?_
        · -- 6
          have q5 := Ord.ahead_get _ hA 5 (by decide)
          simp only [BlF] at q5
          simp only [q5] at hK
          clear hA
          go_simp
          exact hK _ _ ⟨_, rfl, Below.refl _ _, hR, rfl⟩
        refine Ord.each_cons (fun D xs w2 hD hC hP hR hA K hK => ?_) ?_
        · -- 7
          have q6 := Ord.ahead_get _ hA 6 (by decide)
          simp only [BlF] at q6
          simp only [q6] at hK
          clear hA
          go_simp
          exact hK _ _ ⟨_, rfl, Below.refl _ _, hR, rfl⟩
        refine Ord.each_cons (fun D xs w2 hD hC hP hR hA K hK => ?_) ?_
        · -- 8
          have q6 := Ord.ahead_get _ hA 6 (by decide)
          simp only [BlF] at q6
          simp only [q6] at hK
          clear hA
          go_simp
          exact hK _ _ ⟨_, rfl, Below.refl _ _, hR, rfl⟩
        refine Ord.each_cons (fun D xs w2 hD hC hP hR hA K hK => ?_) ?_
        · -- 9
          have q8 := Ord.ahead_get _ hA 8 (by decide)
          simp only [BlF] at q8
          have q6 := Ord.ahead_get _ hA 6 (by decide)
          simp only [BlF] at q6
          simp only [q8, q6] at hK
          clear hA
          go_simp
          exact hK _ _ ⟨_, rfl, Below.refl _ _, hR, rfl⟩
        refine Ord.each_cons (fun D xs w2 hD hC hP hR hA K hK => ?_) ?_
        · -- 10
          have q7 := Ord.ahead_get _ hA 7 (by decide)
          simp only [BlF] at q7
          have q9 := Ord.ahead_get _ hA 9 (by decide)
          simp only [BlF] at q9
          have q6 := Ord.ahead_get _ hA 6 (by decide)
          simp only [BlF] at q6
          simp only [q7, q9, q6] at hK
          clear hA
          go_simp
          exact hK _ _ ⟨_, rfl, Below.refl _ _, hR, rfl⟩
        refine Ord.each_cons (fun D xs w2 hD hC hP hR hA K hK => ?_) ?_
        · -- 11
          have q6 := Ord.ahead_get _ hA 6 (by decide)
          simp only [BlF] at q6
          have q10 := Ord.ahead_get _ hA 10 (by decide)
          simp only [BlF] at q10
          simp only [q6, q10] at hK
          clear hA
          go_simp
          exact hK _ _ ⟨_, rfl, Below.refl _ _, hR, rfl⟩
        refine Ord.each_cons (fun D xs w2 hD hC hP hR hA K hK => ?_) ?_
        · -- 12
          have q11 := Ord.ahead_get _ hA 11 (by decide)
          simp only [BlF] at q11
          simp only [q11] at hK
          clear hA
          go_simp
          exact hK _ _ ⟨_, rfl, Below.refl _ _, hR, rfl⟩
        exact Ord.each_nil
      case hend =>
        intro D xs w8 hR hF
        have e12 := (hF 12 (by decide)).2
        simp only [BlF] at e12
        rw [e12]
        have HB8 := Lib.hid (HB57.out.trans (hR.mono HB57.out.size))
        clear hF hR e12
        obtain ⟨g, rfl, -⟩ : ∃ g, pu = some ⟨g, 0, none⟩ ∧ True := by
          obtain ⟨g, c, e, _⟩ := own_some HO5.out (by rw [HFL.out]; exact HNP.out)
          simp only [Value.slice.injEq] at e
          exact ⟨g, e.1, trivial⟩
        have hrow0 := row_owned (n := z) (by have := HO5.out.own; rw [HFL.out] at this; exact this) HO5.out.small
        have HRW8 := Lib.hid (hrow0.below HB8.out)
        have HGL : Hid (w4.heap.size ≤ g) := (HO5.out.own.lt g rfl).1
        have HX8 := Lib.hid (HB45.out.trans (HB8.out.mono HB45.out.size))
        clear hrow0
        go_wp2_with fail
        go_loopw [9] (fun i wr => ∃ kk : Nat, kk ≤ z ∧ i = .int .i64 kk ∧ Row wr g z ∧ Below w4.heap.size w4 wr) (fun i _ => z - (intOf i).toNat)
        case atStart => exact ⟨0, Nat.zero_le _, rfl, HRW8.out, HX8.out⟩
        case round =>
          obtain ⟨kk, hk, rfl, hrow, hbx⟩ := hrel
          have HRX := Lib.hid hrow
          have HBX := Lib.hid hbx
          clear hrow hbx
          by_cases hlt : kk < z
          · obtain ⟨b0, hb0, hcell⟩ := HRX.out.cell kk hlt
            have hfree := HRX.out.free kk
            have HRY := Lib.hid (HRX.out.set kk 9 (by decide))
            have HBY := Lib.hid (below_grown HBX.out (grownBy_setCell wr g kk (.int .u8 9)) HBX.out.size HGL.out)
            go_wp2_with fail
            go_roundw
            case rel => exact ⟨kk + 1, by omega, by go_num, HRY.out, HBY.out⟩
            case measure => simp [intOf]; omega
          · obtain rfl : kk = z := by omega
            have hb9 := HBX.out
            have HR9 := Lib.hid (row3_below HR4.out hb9)
            have HQ9 := Lib.hid (row3_below HQ4.out hb9)
            have HI9 := Lib.hid (HI4.out.below hb9)
            have HC9 := Lib.hid (HC4.out.below hb9)
            have HW9 := Lib.hid (HW4.out.trans (hb9.mono HW4.out.size))
            clear hb9
            have hc0 := cell3_0 HR9.out
            have hc1 := cell3_1 HR9.out
            have hc2 := cell3_2 HR9.out
            have hq0 := cell3_0 HQ9.out
            have hq1 := cell3_1 HQ9.out
            have hq2 := cell3_2 HQ9.out
            go_wp2_with fail
            refine (kept_any _ _ _ _ _ _ _ _ _ _ _ HC9.out HI9.out).mono ?_
            rintro e w10 ⟨rfl, hb10⟩
            have HW10 := Lib.hid (HW9.out.trans (hb10.mono HW9.out.size))
            clear hb10 hc0 hc1 hc2 hq0 hq1 hq2
            go_wp2_with fail
            refine (known_any _).mono ?_
            rintro e w11 ⟨rfl, hb11⟩
            have HW11 := Lib.hid (HW10.out.trans (hb11.mono HW10.out.size))
            clear hb11
            go_wp2_with fail
            go_ret
            exact ⟨rfl, HB0.out.trans (HW11.out.mono HB0.out.size)⟩
    · rw [if_neg hz] at HO5
      have hzz : z = 0 := by rw [← HZ.out]; unfold Itm.size; rw [HE.out, if_neg hz]
      subst hzz
      obtain ⟨pu, cu, hu, -, -, -⟩ := HO5.out.bts.form
      have hu : u = .slice pu 0 cu := hu
      subst hu
      have hne : ((e : Nat) : Int) ≠ 0 := by omega
      have hne2 : ((e : Int) != 0) = true := by simp; omega
      have hne3 : ((e : Int) == 0) = false := by simp; omega
      clear hz
      have hc0 := cell3_0 HR7.out
      have hc1 := cell3_1 HR7.out
      have hc2 := cell3_2 HR7.out
      have hq0 := cell3_0 HQ7.out
      have hq1 := cell3_1 HQ7.out
      have hq2 := cell3_2 HQ7.out
      go_wp2_with fail
      refine (kept_any _ _ _ _ _ _ _ _ _ _ _ HC7.out HI7.out).mono ?_
      rintro en w8 ⟨rfl, hb8⟩
      have HW8 := Lib.hid (HW7.out.trans (hb8.mono HW7.out.size))
      clear hb8 hc0 hc1 hc2 hq0 hq1 hq2
      go_wp2_with fail
      refine (known_any _).mono ?_
      rintro en w9 ⟨rfl, hb9⟩
      have HW9 := Lib.hid (HW8.out.trans (hb9.mono HW8.out.size))
      clear hb9
      go_wp2_with fail
      go_ret
      exact ⟨rfl, HB0.out.trans (HW9.out.mono HB0.out.size)⟩
  · have HLG := Lib.hid hlg
    clear hlg
    go_enter Try.func3, Try.ntmps3
    go_wp2_with fail
    rw [← HWW.out]
    refine (large_any _ _ _ _ _ _ _ _ l1 l2).mono ?_
    rintro e w1 ⟨rfl, hb1⟩
    rw [HLG.out]
    have HW1 := Lib.hid (HB0.out.trans (hb1.mono HB0.out.size))
    clear hb1
    go_wp2_with fail
    refine (known_any _).mono ?_
    rintro e w2 ⟨rfl, hb2⟩
    have HW2 := Lib.hid (HW1.out.trans (hb2.mono HW1.out.size))
    clear hb2
    go_wp2_with fail
    go_ret
    exact ⟨rfl, HW2.out⟩
end Go.Proofs.Ytpliogkcfhcfpaa
