/- What the law SlotsBytes answers, for every body. Conditions: the values read as a body. -/
import Derived.Test.YtbfpmpomcaijcaaSlLarge
import Derived.Test.YtbfpmpomcaijcaaSlForm
namespace Go.Proofs.Ytbfpmpomcaijcaa
open Go.RowKit

/-- Rows of a call's own lie apart from a block ahead of them. -/
theorem far_row {w : World} {base n sz g : Nat} {T : TypeId} {v : Value} {xs : List Value} (h : w.ownsRow base T sz v n xs) (hg : g < base) : v.ownBlock = none ∨ v.ownBlock ≠ some g := by
  cases hv : v.ownBlock with
  | none => exact Or.inl rfl
  | some k =>
    refine Or.inr fun e => ?_
    have := (h.lt k hv).1
    simp only [Option.some.injEq] at e
    omega
theorem SlOwn.far {base g : Nat} {w w' : World} {fv dv : Value} {vs : List Value} {s : Sl.S} (h : SlOwn base w fv dv vs s) (hg : g < base) (hw : w.grownBy w' (some g)) : SlOwn base w' fv dv vs s :=
  ⟨h.full.grown hw (far_row h.full.own hg), h.data.grown hw (far_row h.data.own.own hg) (fun i hi => far_row (h.data.each i hi).own hg), h.kind, h.next⟩
theorem ownsRow_lift {w : World} {base g n s : Nat} {T : TypeId} {v : Value} {xs : List Value} (h : w.ownsRow base T s v n xs) (hv : v.ownBlock = some g) : base ≤ g := (h.lt g hv).1

def B6F (y : Bool) (iv sv : Value) (i : Nat) (v : Value) (_ : World) : Prop :=
  match i with
  | 0 => v = iv
  | 1 => v = .bool y
  | 2 => v = sv
  | 3 => v = .bool y
  | 4 => v = .bool false
  | _ => True
def B16F (n : Nat) (S : ByteArray) (fo : List Nat) (bv sv tv : Value) (i : Nat) (v : Value) (w : World) : Prop :=
  match i with
  | 0 => v = .int .i64 0
  | 1 => v = .bool false
  | 2 => v = .bool false
  | 3 => v = .int .i64 0
  | 4 => v = .bool false
  | 5 => v = .bool false
  | 6 => v = .bool false
  | 7 => v = .int .i64 (n : Int)
  | 8 => v = .int .i64 (n : Int)
  | 9 => v = .bool false
  | 10 => v = .bool false
  | 11 => v = .bool false
  | 12 => v = bv
  | 13 => v = .string S
  | 14 => v = sv
  | 15 => Bts w v fo
  | 16 => v = .string S
  | 17 => v = .bool false
  | 18 => v = .bool false
  | 19 => v = .bool false
  | 20 => v = tv
  | 21 => v = sv
  | 22 => v = .bool true
  | 23 => v = .bool false
  | 24 => v = .bool false
  | _ => True
theorem b16_later {n : Nat} {S : ByteArray} {fo : List Nat} {bv sv tv : Value} (i : Nat) (v : Value) (w w' : World) (hb : Below w.heap.size w w') (h : B16F n S fo bv sv tv i v w) : B16F n S fo bv sv tv i v w' := by
  unfold B16F at h ⊢
  split at h
  all_goals first | exact h | exact Bts.below h hb | trivial

set_option maxHeartbeats 6400000 in
set_option maxRecDepth 20000 in
theorem slotsBytes_any (A : SlApi) (fv dv : Value) (s : Sl.S) (w : World) (h : SlAt w fv dv s) :
    Calls Try.prog 3 #[SlV s.kind s.next fv dv] w fun e w' => e = .returned (.bool true) ∧ Below w.heap.size w w' := by
  have HA := Lib.hid A
  have HKN : Hid (s.kind < 256 ∧ s.next < 4294967296) := ⟨h.kind, h.next⟩
  obtain ⟨p1, c1, p2, c2, rfl, rfl⟩ := slv_slices h
  obtain ⟨W, hW⟩ : ∃ W, W = w.alloc (sobj s.kind s.next (.slice p1 s.full.length c1) (.slice p2 s.data.length c2)) := ⟨_, rfl⟩
  have hb0 : Below w.heap.size w W := by rw [hW]; exact below_new _ _
  have hrow := sblk w s.kind s.next (.slice p1 s.full.length c1) (.slice p2 s.data.length c2)
  rw [← hW] at hrow
  obtain ⟨q0, q1, q2, q3⟩ := four_cell hrow
  unfold sobj at hW
  have HB0 := Lib.hid hb0
  have HROW := Lib.hid hrow
  have HS := Lib.hid (h.below hb0)
  have HLG := Lib.hid (large_any _ _ s W HS.out)
  clear hb0 hrow h
  go_enter Try.func3, Try.ntmps3
  go_upto_region 1 with (fail)
  rw [← hW]
  clear hW
  obtain ⟨P, hP⟩ : ∃ P, P = w.heap.size := ⟨_, rfl⟩
  rw [← hP] at q0 q1 q2 q3 HROW ⊢
  clear hP
  go_wp2_with fail
  refine HLG.out.mono ?_
  rintro e w2 ⟨r, rfl, hsm, hb2⟩
  have HB2 := Lib.hid hb2
  clear HLG hb2 q0 q1 q2 q3
  have HBW : Hid (Below w.heap.size w w2) := HB0.out.trans (HB2.out.mono HB0.out.size)
  cases r with
  | true =>
    clear hsm
    go_wp2_with fail
    refine (known_any HA.out _).mono ?_
    rintro e wk ⟨rfl, hbk⟩
    have HBK := Lib.hid ((HBW.out).trans (hbk.mono (HBW.out).size))
    clear hbk
    go_wp2_with fail
    go_ret
    exact ⟨rfl, HBK.out⟩
  | false =>
    have HSM := Lib.hid (hsm rfl)
    clear hsm
    have hx2 := HB2.out.block P (lt_of_block HROW.out)
    rw [HROW.out] at hx2
    have HX2 := Lib.hid hx2
    obtain ⟨q0, q1, q2, q3⟩ := four_cell hx2
    have HS2 := Lib.hid (HS.out.below HB2.out)
    clear hx2
    go_wp2_with fail
    refine (refCopy_any _ _ s w2 HS2.out HSM.out.took HSM.out.full).mono ?_
    rintro e w3 ⟨f3, d3, vs3, rfl, hs3, hb3⟩
    obtain ⟨p3, c3, rfl⟩ := bo_slice hs3.full
    obtain ⟨p4, n4, c4, rfl⟩ := sv_slice hs3.data.own
    obtain ⟨w4, hw4⟩ : ∃ w4, w4 = w3.alloc (.cells #[.int .u8 (s.kind : Int), .int .u32 (s.next : Int), .slice p3 (FB s.full).length c3, .slice p4 n4 c4] 26) := ⟨_, rfl⟩
    have hb4 : Below w3.heap.size w3 w4 := by rw [hw4]; exact below_new _ _
    have hx4 : w4.heap[w3.heap.size]? = some (.cells #[.int .u8 (s.kind : Int), .int .u32 (s.next : Int), .slice p3 (FB s.full).length c3, .slice p4 n4 c4] 26 (0, 0)) := by rw [hw4]; exact heap_alloc_last _ _
    have hb24 : Below w2.heap.size w2 w4 := hb3.trans (hb4.mono hb3.size)
    have hp4 := hb24.block P (lt_of_block HX2.out)
    rw [HX2.out] at hp4
    obtain ⟨X, hX⟩ : ∃ X, X = w3.heap.size := ⟨_, rfl⟩
    rw [← hX] at hx4
    have HX4 := Lib.hid hx4
    have HP4 := Lib.hid hp4
    have HIN4 := Lib.hid (hs3.at.below hb4)
    have HS4 := Lib.hid (HS2.out.below hb24)
    have HBW4 := Lib.hid (HBW.out.trans (hb24.mono HBW.out.size))
    have HXL : Hid (X < w4.heap.size) := lt_of_block hx4
    have HPL : Hid (P < w4.heap.size) := lt_of_block hp4
    clear hs3 hb3 hb4 hx4 hp4 hb24 q0 q1 q2 q3
    go_upto_region 4 with (fail)
    rw [← hw4, ← hX]
    clear hw4 hX
    obtain ⟨q0, q1, q2, q3⟩ := four_cell HX4.out
    have hby := HA.out.bytes HIN4.out HSM.out
    obtain ⟨er, her⟩ : ∃ er, er = Sl.ifP (Sl.May s) 0 2 := ⟨_, rfl⟩
    obtain ⟨fo, hfo⟩ : ∃ fo, fo = Sl.ifP (Sl.May s) (Sl.form s) [] := ⟨_, rfl⟩
    obtain ⟨ro, hro⟩ : ∃ ro, ro = Sl.ifP (Sl.May s) (500 - Sl.took s) 0 := ⟨_, rfl⟩
    rw [← her, ← hfo] at hby
    have HER := Lib.hid her
    have HFO := Lib.hid hfo
    have HRO := Lib.hid hro
    have HBY := Lib.hid hby
    clear hby her hfo hro
    go_wp2_with fail
    refine HBY.out.mono ?_
    rintro e w5 ⟨u5, rfl, hO5, hb5⟩
    have HO5 := Lib.hid hO5
    have HB5 := Lib.hid hb5
    have hx5 := hb5.block X HXL.out
    rw [HX4.out] at hx5
    clear hO5 hb5 HBY q0 q1 q2 q3
    obtain ⟨q0, q1, q2, q3⟩ := four_cell hx5
    clear hx5
    obtain ⟨p5, c5, e5⟩ := own_slv HO5.out
    subst e5
    have hrm := HA.out.room (HIN4.out.below HB5.out) HSM.out
    rw [← HRO.out] at hrm
    have HRM := Lib.hid hrm
    clear hrm
    go_wp2_with fail
    refine HRM.out.mono ?_
    rintro e w6 ⟨rfl, hb6⟩
    have HB6 := Lib.hid (HB5.out.trans (hb6.mono HB5.out.size))
    have HO6 := Lib.hid (HO5.out.below hb6)
    clear hb6 HRM HO5 HB5 q0 q1 q2 q3
    have HBG6 : Hid (w4.heap.size ≤ w6.heap.size) := HB6.out.size
    obtain ⟨y, hy⟩ : ∃ y, y = Sl.may s := ⟨_, rfl⟩
    have HY := Lib.hid hy
    clear hy
    go_upto_region 6 with (fail)
    refine Ord.walk (B6F y (SlV s.kind s.next (.slice p3 (FB s.full).length c3) (.slice p4 n4 c4)) (SlV s.kind s.next (.slice p1 s.full.length c1) (.slice p2 s.data.length c2))) (fun _ _ w' => Below w6.heap.size w6 w') (fun _ _ => True)
      (by kernel_rfl) (by kernel_rfl) ?fr6 ?hfr6 (fun _ _ _ _ _ h => h) (fun xs => (Below.refl _ _).go1) ?he6 ?hend6
    case hfr6 =>
      intro xs
      simp only [Ord.fill, Act.put, List.setIfInBounds_toArray, List.set_cons_zero, List.set_cons_succ]
      rfl
    case he6 =>
      refine Ord.each_cons (fun D xs wz hD hC hP hR hA K hK => ?_) ?_
      · -- 0
        clear hA
        have c0 := (HB6.out.trans (hR.mono HBG6.out)).cell (p := ⟨X, 0, none⟩) HXL.out
        rw [(four_cell HX4.out).1] at c0
        have c1 := (HB6.out.trans (hR.mono HBG6.out)).cell (p := ⟨X, 1, none⟩) HXL.out
        rw [(four_cell HX4.out).2.1] at c1
        have c2 := (HB6.out.trans (hR.mono HBG6.out)).cell (p := ⟨X, 2, none⟩) HXL.out
        rw [(four_cell HX4.out).2.2.1] at c2
        have c3 := (HB6.out.trans (hR.mono HBG6.out)).cell (p := ⟨X, 3, none⟩) HXL.out
        rw [(four_cell HX4.out).2.2.2] at c3
        go_simp
        exact hK _ _ ⟨_, rfl, trivial, hR, rfl⟩
      refine Ord.each_cons (fun D xs wz hD hC hP hR hA K hK => ?_) ?_
      · -- 1
        have q0 := Ord.ahead_get _ hA 0 (by decide)
        simp only [B6F] at q0
        simp only [q0] at hK
        clear hA
        go_simp
        refine (HA.out.may (HIN4.out.below (HB6.out.trans (hR.mono HBG6.out))) HSM.out).mono ?_
        rintro e w' ⟨rfl, hb⟩
        rw [← HY.out]
        exact hK _ _ ⟨_, rfl, trivial, hR.trans (hb.mono hR.size), rfl⟩
      refine Ord.each_cons (fun D xs wz hD hC hP hR hA K hK => ?_) ?_
      · -- 2
        clear hA
        have c0 := (HB6.out.trans (hR.mono HBG6.out)).cell (p := ⟨P, 0, none⟩) HPL.out
        rw [(four_cell HP4.out).1] at c0
        have c1 := (HB6.out.trans (hR.mono HBG6.out)).cell (p := ⟨P, 1, none⟩) HPL.out
        rw [(four_cell HP4.out).2.1] at c1
        have c2 := (HB6.out.trans (hR.mono HBG6.out)).cell (p := ⟨P, 2, none⟩) HPL.out
        rw [(four_cell HP4.out).2.2.1] at c2
        have c3 := (HB6.out.trans (hR.mono HBG6.out)).cell (p := ⟨P, 3, none⟩) HPL.out
        rw [(four_cell HP4.out).2.2.2] at c3
        go_simp
        exact hK _ _ ⟨_, rfl, trivial, hR, rfl⟩
      refine Ord.each_cons (fun D xs wz hD hC hP hR hA K hK => ?_) ?_
      · -- 3
        have q2 := Ord.ahead_get _ hA 2 (by decide)
        simp only [B6F] at q2
        simp only [q2] at hK
        clear hA
        go_simp
        refine (refMay_any _ _ s wz (HS4.out.below (HB6.out.trans (hR.mono HBG6.out))) HSM.out.took HSM.out.full).mono ?_
        rintro e w' ⟨rfl, hb⟩
        rw [← HY.out]
        exact hK _ _ ⟨_, rfl, trivial, hR.trans (hb.mono hR.size), rfl⟩
      refine Ord.each_cons (fun D xs wz hD hC hP hR hA K hK => ?_) ?_
      · -- 4
        have q1 := Ord.ahead_get _ hA 1 (by decide)
        simp only [B6F] at q1
        have q3 := Ord.ahead_get _ hA 3 (by decide)
        simp only [B6F] at q3
        simp only [q1, q3] at hK
        clear hA
        have hyy : (y != y) = false := by simp
        go_simp
        exact hK _ _ ⟨_, rfl, trivial, hR, rfl⟩
      exact Ord.each_nil
    case hend6 =>
      intro D6 xs6 w7 hR6 hF6
      have e4 := (hF6 4 (by decide)).2
      simp only [B6F] at e4
      rw [e4]
      have HB7 := Lib.hid (HB6.out.trans (hR6.mono HBG6.out))
      have HO7 := Lib.hid (HO6.out.below hR6)
      clear e4 hR6 hF6
      generalize xs6 0 = t0 at *
      generalize xs6 1 = t1 at *
      generalize xs6 2 = t2 at *
      generalize xs6 3 = t3 at *
      have hp7 := HB7.out.block P HPL.out
      rw [HP4.out] at hp7
      obtain ⟨q0, q1, q2, q3⟩ := four_cell hp7
      clear hp7
      go_wp2_with fail
      refine (refMay_any _ _ s w7 (HS4.out.below HB7.out) HSM.out.took HSM.out.full).mono ?_
      rintro e w8 ⟨rfl, hb8⟩
      have HB8 := Lib.hid (HB7.out.trans (hb8.mono HB7.out.size))
      have HO8 := Lib.hid (HO7.out.below hb8)
      have hp8 := HB8.out.block P HPL.out
      rw [HP4.out] at hp8
      have hx8 := HB8.out.block X HXL.out
      rw [HX4.out] at hx8
      have HP8 := Lib.hid hp8
      have HX8 := Lib.hid hx8
      clear hb8 q0 q1 q2 q3 hp8 hx8
      obtain ⟨q0, q1, q2, q3⟩ := four_cell HP8.out
      by_cases hmy : Sl.May s
      · have HMY := Lib.hid hmy
        rw [Sl.may_true hmy]
        have HE : er = 0 := by rw [HER.out]; exact Sl.ifP_pos hmy _ _
        have HF0 : Hid (fo = Sl.form s) := by show fo = _; rw [HFO.out]; exact Sl.ifP_pos hmy _ _
        have HR0 : Hid (ro = 500 - Sl.took s) := by show ro = _; rw [HRO.out]; exact Sl.ifP_pos hmy _ _
        subst HE
        have hfl : fo.length = 500 := by rw [HF0.out]; exact Sl.form_length hmy.fit
        have HFL := Lib.hid hfl
        have hdl : s.data.length ≤ 247 := by have h1 := hmy.len; have h2 := hmy.most; omega
        have hw1 := IntWalk.i64_in (2 * (s.data.length : Int)) (by omega)
        have hw2 := IntWalk.i64_in (494 - 2 * (s.data.length : Int)) (by omega)
        clear hmy hfl
        go_wp2_with fail
        clear hw1 hw2
        go_loopw [7, 8] (fun lv iv wr => ∃ k : Nat, k ≤ s.data.length ∧ iv = .int .i64 k ∧ lv = .int .i64 (494 - 2 * (s.data.length : Int) - (Sl.tot (s.data.take k) : Int)) ∧ w8 = wr) (fun _ iv _ => s.data.length - (intOf iv).toNat)
        case atStart => exact ⟨0, Nat.zero_le _, rfl, by simp [Sl.tot], rfl⟩
        case round =>
          obtain ⟨k, hk, rfl, rfl, rfl⟩ := hrel
          by_cases hlt : k < s.data.length
          · have HLT := Lib.hid hlt
            have hi : (k : Int) < (s.data.length : Int) := by omega
            obtain ⟨p, cap, hpc, -, -, hform⟩ := (HS4.out.below HB8.out).data.form2
            simp only [Value.slice.injEq] at hpc
            obtain ⟨rfl, -, rfl⟩ := hpc
            obtain ⟨bd, od, rfl, hc⟩ := hform (by omega)
            obtain ⟨q, c, hu, -⟩ := hc k hlt
            have hts := Sl.tot_take_succ hlt
            have htl := Sl.tot_take_le s.data (k + 1)
            have hft := HMY.out.fit
            unfold Sl.took at hft
            have hw5 := IntWalk.i64_in ((k : Int) + 1) (by omega)
            obtain ⟨d, hd⟩ : ∃ d, d = (s.data.getD k []).length := ⟨_, rfl⟩
            rw [← hd] at hu hts
            have HTS := Lib.hid hts
            have hw6 := IntWalk.i64_in (494 - 2 * (s.data.length : Int) - (Sl.tot (s.data.take k) : Int) - (d : Int)) (by omega)
            clear hform hc hts htl hft hd hlt
            go_wp2_with fail
            go_roundw
            case rel => exact ⟨k + 1, by have := HLT.out; omega, by go_num, by rw [HTS.out]; congr 1; omega, by first | rfl | trivial⟩
            case measure => have := HLT.out; simp [intOf]; omega
          · obtain rfl : k = s.data.length := by omega
            rw [List.take_length]
            have hrd := HA.out.read HO8.out.bts (by rw [HFL.out]; decide)
            rw [show Sl.readR fo = (s, 0) from Sl.readR_of ⟨HMY.out, HKN.out.1, HKN.out.2, HF0.out.symm⟩] at hrd
            have HRD := Lib.hid hrd
            have hnn : (494 - 2 * (s.data.length : Int) - (Sl.tot s.data : Int)) = (ro : Int) := by
              have h1 := HR0.out
              have h2 := HMY.out.fit
              unfold Sl.took at h1 h2
              omega
            rw [hnn]
            clear hrd hnn hlt hk
            go_wp2_with fail
            refine HRD.out.mono ?_
            rintro e w9' ⟨f9, d9, vs9, rfl, hs9, hb9⟩
            obtain ⟨p9, c9, rfl⟩ := bo_slice hs9.full
            obtain ⟨p8, n8, c8, rfl⟩ := sv_slice hs9.data.own
            obtain ⟨w9, hw9⟩ : ∃ w9, w9 = w9'.alloc (.cells #[.int .u8 (s.kind : Int), .int .u32 (s.next : Int), .slice p9 (FB s.full).length c9, .slice p8 n8 c8] 26) := ⟨_, rfl⟩
            have hba : Below w9'.heap.size w9' w9 := by rw [hw9]; exact below_new _ _
            have ht9 : w9.heap[w9'.heap.size]? = some (.cells #[.int .u8 (s.kind : Int), .int .u32 (s.next : Int), .slice p9 (FB s.full).length c9, .slice p8 n8 c8] 26 (0, 0)) := by rw [hw9]; exact heap_alloc_last _ _
            obtain ⟨T, hT⟩ : ∃ T, T = w9'.heap.size := ⟨_, rfl⟩
            rw [← hT] at ht9
            obtain ⟨bR, hbR⟩ : ∃ bR, bR = w8.heap.size := ⟨_, rfl⟩
            rw [← hbR] at hs9
            have hb89 : Below w8.heap.size w8 w9 := hb9.trans (hba.mono hb9.size)
            have HB9 := Lib.hid (HB8.out.trans (hb89.mono HB8.out.size))
            have HT8 := Lib.hid (hs9.below hba)
            have HT9 := Lib.hid ht9
            have hp9 := HB9.out.block P HPL.out
            rw [HP4.out] at hp9
            have HP9 := Lib.hid hp9
            have HS9 := Lib.hid (HS4.out.below HB9.out)
            have HO9 := Lib.hid (HO8.out.below hb89)
            have HB10 := Lib.hid HO9.out.bts
            have HPL9 : Hid (P < w9.heap.size) := lt_of_block hp9
            have HTL9 : Hid (T < w9.heap.size) := lt_of_block ht9
            have HGB : Hid (∀ g, Value.ownBlock (.slice p5 fo.length c5) = some g → w4.heap.size ≤ g ∧ g < bR ∧ g < w9.heap.size ∧ g ≠ T) := fun g e => by
              have h1 := HO8.out.own.lt g e
              have h2 := hb89.size
              have h3 := hb9.size
              exact ⟨h1.1, by omega, by omega, by omega⟩
            clear hs9 hb9 hba ht9 hb89 hp9 q0 q1 q2 q3 hbR HRD
            obtain ⟨S, hS⟩ : ∃ S, S = strOfNums (fo.map fun x : Nat => (x : Int)) := ⟨_, rfl⟩
            have HCS := Lib.hid hS
            clear hS
            obtain ⟨n, hn⟩ : ∃ n, n = ro := ⟨_, rfl⟩
            rw [← hn]
            clear hn
            go_upto_region 16 with (fail)
            rw [← hw9, ← hT]
            clear hw9 hT
            refine Ord.walk (B16F n S fo (.slice p5 fo.length c5) (SlV s.kind s.next (.slice p1 s.full.length c1) (.slice p2 s.data.length c2)) (SlV s.kind s.next (.slice p9 (FB s.full).length c9) (.slice p8 n8 c8))) (fun _ _ w' => Below w9.heap.size w9 w') (fun a b => Below a.heap.size a b)
              (by kernel_rfl) (by kernel_rfl) ?fr16 ?hfr16 b16_later (fun xs => (Below.refl _ _).go1) ?he16 ?hend16
            case hfr16 =>
              intro xs
              simp only [Ord.fill, Act.put, List.setIfInBounds_toArray, List.set_cons_zero, List.set_cons_succ]
              rfl
            case he16 =>
              refine Ord.each_cons (fun D xs wz hD hC hP hR hA K hK => ?_) ?_
              · -- 0
                clear hA
                go_simp
                exact hK _ _ ⟨_, rfl, Below.refl _ _, hR, rfl⟩
              refine Ord.each_cons (fun D xs wz hD hC hP hR hA K hK => ?_) ?_
              · -- 1
                have q0 := Ord.ahead_get _ hA 0 (by decide)
                simp only [B16F] at q0
                simp only [q0] at hK
                clear hA
                go_simp
                exact hK _ _ ⟨_, rfl, Below.refl _ _, hR, rfl⟩
              refine Ord.each_cons (fun D xs wz hD hC hP hR hA K hK => ?_) ?_
              · -- 2
                have q1 := Ord.ahead_get _ hA 1 (by decide)
                simp only [B16F] at q1
                simp only [q1] at hK
                clear hA
                go_simp
                exact hK _ _ ⟨_, rfl, Below.refl _ _, hR, rfl⟩
              refine Ord.each_cons (fun D xs wz hD hC hP hR hA K hK => ?_) ?_
              · -- 3
                have q2 := Ord.ahead_get _ hA 2 (by decide)
                simp only [B16F] at q2
                simp only [q2] at hK
                clear hA
                go_simp
                exact hK _ _ ⟨_, rfl, Below.refl _ _, hR, rfl⟩
              refine Ord.each_cons (fun D xs wz hD hC hP hR hA K hK => ?_) ?_
              · -- 4
                have q3 := Ord.ahead_get _ hA 3 (by decide)
                simp only [B16F] at q3
                have q2 := Ord.ahead_get _ hA 2 (by decide)
                simp only [B16F] at q2
                simp only [q3, q2] at hK
                clear hA
                go_simp
                exact hK _ _ ⟨_, rfl, Below.refl _ _, hR, rfl⟩
              refine Ord.each_cons (fun D xs wz hD hC hP hR hA K hK => ?_) ?_
              · -- 5
                have q2 := Ord.ahead_get _ hA 2 (by decide)
                simp only [B16F] at q2
                have q4 := Ord.ahead_get _ hA 4 (by decide)
                simp only [B16F] at q4
                simp only [q2, q4] at hK
                clear hA
                go_simp
                exact hK _ _ ⟨_, rfl, Below.refl _ _, hR, rfl⟩
              refine Ord.each_cons (fun D xs wz hD hC hP hR hA K hK => ?_) ?_
              · -- 6
                have q5 := Ord.ahead_get _ hA 5 (by decide)
                simp only [B16F] at q5
                simp only [q5] at hK
                clear hA
                go_simp
                exact hK _ _ ⟨_, rfl, Below.refl _ _, hR, rfl⟩
              refine Ord.each_cons (fun D xs wz hD hC hP hR hA K hK => ?_) ?_
              · -- 7
                have q6 := Ord.ahead_get _ hA 6 (by decide)
                simp only [B16F] at q6
                simp only [q6] at hK
                clear hA
                go_simp
                exact hK _ _ ⟨_, rfl, Below.refl _ _, hR, rfl⟩
              refine Ord.each_cons (fun D xs wz hD hC hP hR hA K hK => ?_) ?_
              · -- 8
                have q6 := Ord.ahead_get _ hA 6 (by decide)
                simp only [B16F] at q6
                simp only [q6] at hK
                clear hA
                go_simp
                exact hK _ _ ⟨_, rfl, Below.refl _ _, hR, rfl⟩
              refine Ord.each_cons (fun D xs wz hD hC hP hR hA K hK => ?_) ?_
              · -- 9
                have q7 := Ord.ahead_get _ hA 7 (by decide)
                simp only [B16F] at q7
                have q8 := Ord.ahead_get _ hA 8 (by decide)
                simp only [B16F] at q8
                have q6 := Ord.ahead_get _ hA 6 (by decide)
                simp only [B16F] at q6
                simp only [q7, q8, q6] at hK
                clear hA
                have hnn : ((n : Int) != (n : Int)) = false := by simp
                go_simp
                exact hK _ _ ⟨_, rfl, Below.refl _ _, hR, rfl⟩
              refine Ord.each_cons (fun D xs wz hD hC hP hR hA K hK => ?_) ?_
              · -- 10
                have q6 := Ord.ahead_get _ hA 6 (by decide)
                simp only [B16F] at q6
                have q9 := Ord.ahead_get _ hA 9 (by decide)
                simp only [B16F] at q9
                simp only [q6, q9] at hK
                clear hA
                go_simp
                exact hK _ _ ⟨_, rfl, Below.refl _ _, hR, rfl⟩
              refine Ord.each_cons (fun D xs wz hD hC hP hR hA K hK => ?_) ?_
              · -- 11
                have q10 := Ord.ahead_get _ hA 10 (by decide)
                simp only [B16F] at q10
                simp only [q10] at hK
                clear hA
                go_simp
                exact hK _ _ ⟨_, rfl, Below.refl _ _, hR, rfl⟩
              refine Ord.each_cons (fun D xs wz hD hC hP hR hA K hK => ?_) ?_
              · -- 12
                have q11 := Ord.ahead_get _ hA 11 (by decide)
                simp only [B16F] at q11
                simp only [q11] at hK
                clear hA
                go_simp
                exact hK _ _ ⟨_, rfl, Below.refl _ _, hR, rfl⟩
              refine Ord.each_cons (fun D xs wz hD hC hP hR hA K hK => ?_) ?_
              · -- 13
                have q12 := Ord.ahead_get _ hA 12 (by decide)
                simp only [B16F] at q12
                have q11 := Ord.ahead_get _ hA 11 (by decide)
                simp only [B16F] at q11
                simp only [q12, q11] at hK
                clear hA
                have hcv := strOf_conv (HB10.out.below hR)
                rw [← HCS.out] at hcv
                go_simp
                exact hK _ _ ⟨_, rfl, Below.refl _ _, hR, rfl⟩
              refine Ord.each_cons (fun D xs wz hD hC hP hR hA K hK => ?_) ?_
              · -- 14
                have q11 := Ord.ahead_get _ hA 11 (by decide)
                simp only [B16F] at q11
                simp only [q11] at hK
                clear hA
                have c0 := (hR).cell (p := ⟨P, 0, none⟩) HPL9.out
                rw [(four_cell HP9.out).1] at c0
                have c1 := (hR).cell (p := ⟨P, 1, none⟩) HPL9.out
                rw [(four_cell HP9.out).2.1] at c1
                have c2 := (hR).cell (p := ⟨P, 2, none⟩) HPL9.out
                rw [(four_cell HP9.out).2.2.1] at c2
                have c3 := (hR).cell (p := ⟨P, 3, none⟩) HPL9.out
                rw [(four_cell HP9.out).2.2.2] at c3
                go_simp
                exact hK _ _ ⟨_, rfl, Below.refl _ _, hR, rfl⟩
              refine Ord.each_cons (fun D xs wz hD hC hP hR hA K hK => ?_) ?_
              · -- 15
                have q14 := Ord.ahead_get _ hA 14 (by decide)
                simp only [B16F] at q14
                have q11 := Ord.ahead_get _ hA 11 (by decide)
                simp only [B16F] at q11
                simp only [q14, q11] at hK
                clear hA
                go_simp
                refine (refForm_any _ _ s wz (HS9.out.below hR) HMY.out).mono ?_
                rintro e w' ⟨u, rfl, hO, hb⟩
                rw [← HF0.out] at hO
                exact hK _ _ ⟨_, rfl, hb, hR.trans (hb.mono hR.size), hO.bts⟩
              refine Ord.each_cons (fun D xs wz hD hC hP hR hA K hK => ?_) ?_
              · -- 16
                have q11 := Ord.ahead_get _ hA 11 (by decide)
                simp only [B16F] at q11
                have q15 := Ord.ahead_get _ hA 15 (by decide)
                simp only [B16F] at q15
                simp only [q11] at hK
                clear hA
                have hcv := strOf_conv q15
                rw [← HCS.out] at hcv
                go_simp
                exact hK _ _ ⟨_, rfl, Below.refl _ _, hR, rfl⟩
              refine Ord.each_cons (fun D xs wz hD hC hP hR hA K hK => ?_) ?_
              · -- 17
                have q13 := Ord.ahead_get _ hA 13 (by decide)
                simp only [B16F] at q13
                have q16 := Ord.ahead_get _ hA 16 (by decide)
                simp only [B16F] at q16
                have q11 := Ord.ahead_get _ hA 11 (by decide)
                simp only [B16F] at q11
                simp only [q13, q16, q11] at hK
                clear hA
                have hSS : (!(S.toList == S.toList)) = false := by simp
                go_simp
                exact hK _ _ ⟨_, rfl, Below.refl _ _, hR, rfl⟩
              refine Ord.each_cons (fun D xs wz hD hC hP hR hA K hK => ?_) ?_
              · -- 18
                have q11 := Ord.ahead_get _ hA 11 (by decide)
                simp only [B16F] at q11
                have q17 := Ord.ahead_get _ hA 17 (by decide)
                simp only [B16F] at q17
                simp only [q11, q17] at hK
                clear hA
                go_simp
                exact hK _ _ ⟨_, rfl, Below.refl _ _, hR, rfl⟩
              refine Ord.each_cons (fun D xs wz hD hC hP hR hA K hK => ?_) ?_
              · -- 19
                have q18 := Ord.ahead_get _ hA 18 (by decide)
                simp only [B16F] at q18
                simp only [q18] at hK
                clear hA
                go_simp
                exact hK _ _ ⟨_, rfl, Below.refl _ _, hR, rfl⟩
              refine Ord.each_cons (fun D xs wz hD hC hP hR hA K hK => ?_) ?_
              · -- 20
                have q19 := Ord.ahead_get _ hA 19 (by decide)
                simp only [B16F] at q19
                simp only [q19] at hK
                clear hA
                have c0 := (hR).cell (p := ⟨T, 0, none⟩) HTL9.out
                rw [(four_cell HT9.out).1] at c0
                have c1 := (hR).cell (p := ⟨T, 1, none⟩) HTL9.out
                rw [(four_cell HT9.out).2.1] at c1
                have c2 := (hR).cell (p := ⟨T, 2, none⟩) HTL9.out
                rw [(four_cell HT9.out).2.2.1] at c2
                have c3 := (hR).cell (p := ⟨T, 3, none⟩) HTL9.out
                rw [(four_cell HT9.out).2.2.2] at c3
                go_simp
                exact hK _ _ ⟨_, rfl, Below.refl _ _, hR, rfl⟩
              refine Ord.each_cons (fun D xs wz hD hC hP hR hA K hK => ?_) ?_
              · -- 21
                have q19 := Ord.ahead_get _ hA 19 (by decide)
                simp only [B16F] at q19
                simp only [q19] at hK
                clear hA
                have c0 := (hR).cell (p := ⟨P, 0, none⟩) HPL9.out
                rw [(four_cell HP9.out).1] at c0
                have c1 := (hR).cell (p := ⟨P, 1, none⟩) HPL9.out
                rw [(four_cell HP9.out).2.1] at c1
                have c2 := (hR).cell (p := ⟨P, 2, none⟩) HPL9.out
                rw [(four_cell HP9.out).2.2.1] at c2
                have c3 := (hR).cell (p := ⟨P, 3, none⟩) HPL9.out
                rw [(four_cell HP9.out).2.2.2] at c3
                go_simp
                exact hK _ _ ⟨_, rfl, Below.refl _ _, hR, rfl⟩
              refine Ord.each_cons (fun D xs wz hD hC hP hR hA K hK => ?_) ?_
              · -- 22
                have q20 := Ord.ahead_get _ hA 20 (by decide)
                simp only [B16F] at q20
                have q21 := Ord.ahead_get _ hA 21 (by decide)
                simp only [B16F] at q21
                have q19 := Ord.ahead_get _ hA 19 (by decide)
                simp only [B16F] at q19
                simp only [q20, q21, q19] at hK
                clear hA
                go_simp
                refine (refSame_any _ _ _ _ s s wz (HT8.out.at.below hR) (HS9.out.below hR) ⟨HSM.out.full, HSM.out.data⟩).mono ?_
                rintro e w' ⟨rfl, hb⟩
                rw [Sl.same_true rfl]
                exact hK _ _ ⟨_, rfl, hb, hR.trans (hb.mono hR.size), rfl⟩
              refine Ord.each_cons (fun D xs wz hD hC hP hR hA K hK => ?_) ?_
              · -- 23
                have q22 := Ord.ahead_get _ hA 22 (by decide)
                simp only [B16F] at q22
                have q19 := Ord.ahead_get _ hA 19 (by decide)
                simp only [B16F] at q19
                simp only [q22, q19] at hK
                clear hA
                go_simp
                exact hK _ _ ⟨_, rfl, Below.refl _ _, hR, rfl⟩
              refine Ord.each_cons (fun D xs wz hD hC hP hR hA K hK => ?_) ?_
              · -- 24
                have q19 := Ord.ahead_get _ hA 19 (by decide)
                simp only [B16F] at q19
                have q23 := Ord.ahead_get _ hA 23 (by decide)
                simp only [B16F] at q23
                simp only [q19, q23] at hK
                clear hA
                go_simp
                exact hK _ _ ⟨_, rfl, Below.refl _ _, hR, rfl⟩
              exact Ord.each_nil
            case hend16 =>
              intro D xs wv hRv hF
              have e24 := (hF 24 (by decide)).2
              simp only [B16F] at e24
              rw [e24]
              have HBV := Lib.hid (HB9.out.trans (hRv.mono HB9.out.size))
              have HTV := Lib.hid (HT8.out.below hRv)
              have HOV := Lib.hid (HO9.out.below hRv)
              have htv := hRv.block T HTL9.out
              rw [HT9.out] at htv
              have HTB := Lib.hid htv
              clear e24 hF hRv htv
              generalize xs 0 = z0 at *
              generalize xs 1 = z1 at *
              generalize xs 2 = z2 at *
              generalize xs 3 = z3 at *
              generalize xs 4 = z4 at *
              generalize xs 5 = z5 at *
              generalize xs 6 = z6 at *
              generalize xs 7 = z7 at *
              generalize xs 8 = z8 at *
              generalize xs 9 = z9 at *
              generalize xs 10 = z10 at *
              generalize xs 11 = z11 at *
              generalize xs 12 = z12 at *
              generalize xs 13 = z13 at *
              generalize xs 14 = z14 at *
              generalize xs 15 = z15 at *
              generalize xs 16 = z16 at *
              generalize xs 17 = z17 at *
              generalize xs 18 = z18 at *
              generalize xs 19 = z19 at *
              generalize xs 20 = z20 at *
              generalize xs 21 = z21 at *
              generalize xs 22 = z22 at *
              generalize xs 23 = z23 at *
              obtain ⟨gb, capb, hgv, hgb1, hgb2, hgb3, hgb4, hrow⟩ := own_some HOV.out (by rw [HFL.out]; decide)
              simp only [Value.slice.injEq] at hgv
              obtain ⟨rfl, -, rfl⟩ := hgv
              obtain ⟨k1, k2, -, k4⟩ := HGB.out gb rfl
              have HK : Hid (w4.heap.size ≤ gb ∧ gb < bR ∧ gb ≠ T) := ⟨k1, k2, k4⟩
              rw [HFL.out] at hrow
              have HRW := Lib.hid hrow
              have HFLL := HFL.out
              rw [HFLL]
              clear hgb1 hgb2 hgb3 hgb4 hrow k1 k2 k4
              go_wp2_with fail
              go_loopw [11] (fun iv wr => ∃ i : Nat, i ≤ 500 ∧ iv = .int .i64 i ∧ Row wr gb 500 ∧ wv.grownBy wr (some gb)) (fun iv _ => 500 - (intOf iv).toNat)
              case atStart => exact ⟨0, by decide, rfl, HRW.out, grownBy_refl _ _⟩
              case round =>
                obtain ⟨i, hi, rfl, hrw, hgr⟩ := hrel
                by_cases hlt : i < 500
                · obtain ⟨ob, hob, hoc⟩ := hrw.cell i hlt
                  have hfr := hrw.free i
                  have hst := hrw.set i 1 (by decide)
                  have hsg := grownBy_trans hgr (grownBy_setCell wr gb i (.int .u8 1))
                  have HST := Lib.hid hst
                  have HSG := Lib.hid hsg
                  have hi2 : (i : Int) < 500 := by omega
                  have hw5 := IntWalk.i64_in ((i : Int) + 1) (by omega)
                  clear hrw hgr hst hsg
                  go_wp2_with fail
                  go_roundw
                  case rel => exact ⟨i + 1, by omega, by go_num, HST.out, HSG.out⟩
                  case measure => simp [intOf]; omega
                · obtain rfl : i = 500 := by omega
                  have hbw : Below w4.heap.size w4 wr := below_grown HBV.out hgr HBV.out.size HK.out.1
                  have hpw := hbw.block P HPL.out
                  rw [HP4.out] at hpw
                  have hxw := hbw.block X HXL.out
                  rw [HX4.out] at hxw
                  have htw := hgr.block T (lt_of_block HTB.out) (fun e => HK.out.2.2 (Option.some.inj e).symm)
                  rw [HTB.out] at htw
                  have HPW := Lib.hid hpw
                  have HXW := Lib.hid hxw
                  have HTW := Lib.hid (HTV.out.far HK.out.2.1 hgr)
                  have HBWR := Lib.hid hbw
                  have HSW := Lib.hid (HS4.out.below hbw)
                  have HIW := Lib.hid (HIN4.out.below hbw)
                  clear hrw hgr hbw hpw hxw hlt hi
                  obtain ⟨q0, q1, q2, q3⟩ := four_cell HPW.out
                  obtain ⟨t0', t1', t2', t3'⟩ := four_cell htw
                  clear htw
                  go_wp2_with fail
                  refine (refSame_any _ _ _ _ s s wr HTW.out.at HSW.out ⟨HSM.out.full, HSM.out.data⟩).mono ?_
                  rintro e wa ⟨rfl, hba⟩
                  rw [Sl.same_true rfl]
                  have hbwa := HBWR.out.trans (hba.mono HBWR.out.size)
                  have HBWA := Lib.hid hbwa
                  have hpa := hbwa.block P HPL.out
                  rw [HP4.out] at hpa
                  have hxa := hbwa.block X HXL.out
                  rw [HX4.out] at hxa
                  have HSA := Lib.hid (HS4.out.below hbwa)
                  have HIA := Lib.hid (HIN4.out.below hbwa)
                  clear hba hbwa q0 q1 q2 q3 t0' t1' t2' t3'
                  obtain ⟨q0, q1, q2, q3⟩ := four_cell hpa
                  obtain ⟨x0, x1, x2, x3⟩ := four_cell hxa
                  clear hpa hxa
                  go_wp2_with fail
                  refine (refSame_any _ _ _ _ s s wa HIA.out HSA.out ⟨HSM.out.full, HSM.out.data⟩).mono ?_
                  rintro e wb ⟨rfl, hbb⟩
                  rw [Sl.same_true rfl]
                  have HBWB := Lib.hid (HBW4.out.trans ((HBWA.out.trans (hbb.mono HBWA.out.size)).mono HBW4.out.size))
                  clear hbb q0 q1 q2 q3 x0 x1 x2 x3
                  go_wp2_with fail
                  refine (known_any HA.out _).mono ?_
                  rintro e wk ⟨rfl, hbk⟩
                  have HBK := Lib.hid ((HBWB.out).trans (hbk.mono (HBWB.out).size))
                  clear hbk
                  go_wp2_with fail
                  go_ret
                  exact ⟨rfl, HBK.out⟩
      · rw [Sl.may_false hmy]
        have HE : er = 2 := by rw [HER.out]; exact Sl.ifP_neg hmy _ _
        have HF0 : fo = [] := by rw [HFO.out]; exact Sl.ifP_neg hmy _ _
        have HR0 : ro = 0 := by rw [HRO.out]; exact Sl.ifP_neg hmy _ _
        subst HE HF0 HR0
        clear hmy
        obtain ⟨x0, x1, x2, x3⟩ := four_cell HX8.out
        go_wp2_with fail
        refine (refSame_any _ _ _ _ s s w8 (HIN4.out.below HB8.out) (HS4.out.below HB8.out) ⟨HSM.out.full, HSM.out.data⟩).mono ?_
        rintro e wb ⟨rfl, hbb⟩
        rw [Sl.same_true rfl]
        have HBWB := Lib.hid (HBW4.out.trans ((HB8.out.trans (hbb.mono HB8.out.size)).mono HBW4.out.size))
        clear hbb q0 q1 q2 q3 x0 x1 x2 x3
        go_wp2_with fail
        refine (known_any HA.out _).mono ?_
        rintro e wk ⟨rfl, hbk⟩
        have HBK := Lib.hid ((HBWB.out).trans (hbk.mono (HBWB.out).size))
        clear hbk
        go_wp2_with fail
        go_ret
        exact ⟨rfl, HBK.out⟩
end Go.Proofs.Ytbfpmpomcaijcaa
