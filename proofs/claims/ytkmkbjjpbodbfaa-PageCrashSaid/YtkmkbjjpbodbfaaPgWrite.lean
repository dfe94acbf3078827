/- The program's Write: a page's four sectors, one after the other. Conditions: the body's cells hold what they tell, in no block of the device's. -/
import Derived.Test.YtkmkbjjpbodbfaaPgApi
import Derived.Test.YtkmkbjjpbodbfaaPgPlace
import Derived.Test.YtkmkbjjpbodbfaaPageDev
import Derived.Test.YtkmkbjjpbodbfaaDkWrite
import Derived.Test.YtkmkbjjpbodbfaaOff
namespace Go.Proofs.Ytkmkbjjpbodbfaa
open Go.RowKit

/-- A sector of a page's bytes, by a reslice. -/
theorem Bts.sector {w : World} {g cap : Nat} {l : List Nat} (h : Bts w (.slice (some ⟨g, 0, none⟩) 512 cap) l) (hl : l.length = 512) (i : Nat) (hi : i < 4) : Bts w (.slice (some ⟨g, i * 128, none⟩) 128 (cap - i * 128)) ((l.drop (i * 128)).take 128) := by
  have h1 := h.congr_drop (i * 128) hl (by omega)
  rw [Nat.zero_add] at h1
  have hd : (l.drop (i * 128)).length = 512 - i * 128 := by simp; omega
  rw [← hd] at h1
  exact h1.take 128 (by rw [hd]; omega)
theorem Dk.secs_at (b : List Nat) {i : Nat} (hi : i < 4) : (Dk.secs b).drop i = (b.drop (i * 128)).take 128 :: (Dk.secs b).drop (i + 1) := by
  rcases i with _ | _ | _ | _ | i
  · rfl
  · rfl
  · rfl
  · rfl
  · omega
theorem Dk.wrs_go {d : Dk.Dev} {a : Nat} {x : List Nat} {r : List (List Nat)} (h : (Dk.write d (a : Int) x).2 = 0) : Dk.wrs d a (x :: r) = Dk.wrs (Dk.write d (a : Int) x).1 (a + 1) r := by
  show (if (Dk.write d (a : Int) x).2 ≠ 0 then _ else _) = _
  rw [if_neg (by omega)]
theorem Dk.wrs_stop {d : Dk.Dev} {a : Nat} {x : List Nat} {r : List (List Nat)} (h : (Dk.write d (a : Int) x).2 ≠ 0) : Dk.wrs d a (x :: r) = Dk.write d (a : Int) x := by
  show (if (Dk.write d (a : Int) x).2 ≠ 0 then _ else _) = _
  rw [if_pos h]

set_option maxHeartbeats 1600000 in
set_option maxRecDepth 20000 in
theorem pgWrite_any {B m1 m2 : Nat} {d : Dk.Dev} {w : World} (h : PDev w B m1 m2 d) (base n : Int) (k : Nat) (m : Value) (l : List Nat) (hn : n ≤ 9223372036854775807) (hk : k < 18446744073709551616) (hB : Bts w m l) :
    Calls Try.prog 18 #[.pointer (some ⟨B, 0, none⟩), .int .i64 base, .int .i64 n, PgV k m] w fun e w' => e = .returned (.int .i64 ((Pg.write d base n k l).2 : Nat)) ∧ PDev w' B m1 m2 (Pg.write d base n k l).1 ∧ Touch (DS B m1 m2) w w' := by
  obtain ⟨W, hW⟩ : ∃ W, W = w.alloc (.cells #[.int .u64 (k : Int), m] 25) := ⟨_, rfl⟩
  have hb0 : Below w.heap.size w W := by rw [hW]; exact (Below.refl _ _).alloc (Nat.le_refl _) _
  have HB0 := Lib.hid hb0
  have HH := Lib.hid (h.below hb0)
  have HLT := Lib.hid h.lt
  have hcb := pgApi.bytes k m l W hk (hB.below hb0)
  have hrow : W.heap[w.heap.size]? = some (.cells #[.int .u64 (k : Int), m] 25 (0, 0)) := by rw [hW]; exact heap_alloc_last _ _
  have q0 := cell2_0 hrow
  have q1 := cell2_1 hrow
  by_cases hl : l.length = 500
  · rw [if_pos hl, if_pos hl] at hcb
    have hfl : (Pg.form k l).length = 512 := by rw [Pg.form_length, hl]
    obtain ⟨pm, cm, rfl, -, -, -⟩ := hB.form
    have HCB := Lib.hid hcb
    have HFL := Lib.hid hfl
    have HL := Lib.hid hl
    have HPL : Hid (∀ w1, Below W.heap.size W w1 → _) := fun w1 hb => place_any (HH.out.below hb) base n hn
    have hsz := h.own.size
    clear hcb hfl h hB hrow hb0
    by_cases hlies : Pg.lies (Dk.size d) base n = true
    · have hpl := Pg.lies_place hlies
      have hpa : base + 4 * n = ((Pg.place base n : Nat) : Int) := by
        have := of_decide_eq_true hlies
        unfold Pg.place
        omega
      have hwr : Pg.write d base n k l = Dk.wrs d (Pg.place base n) (Dk.secs (Pg.form k l)) := by
        unfold Pg.write
        rw [if_neg (by rw [hl]; decide), if_neg (by rw [hlies]; decide)]
      rw [hwr]
      have HLS := Lib.hid hlies
      generalize Pg.place base n = a at *
      have HA : Hid (a + 4 ≤ 65536) := by show _ ≤ _; omega
      have HPA := Lib.hid hpa
      generalize Pg.form k l = f at *
      rw [hl] at hW q1 HCB ⊢
      clear hwr hlies hpl hpa hsz hl
      go_enter Try.func18, Try.ntmps18
      go_upto_region 1 with (fail)
      rw [← hW]
      clear hW
      go_wp2_with fail
      refine HCB.out.mono ?_
      rintro e w1 ⟨u, rfl, hO, hb1⟩
      obtain ⟨g, c, hu, hg0, glt, hc1, hc2, -⟩ := own_some hO (by rw [HFL.out]; decide)
      rw [HFL.out] at hu hc1
      subst hu
      have HP1 := Lib.hid (HH.out.below hb1)
      have HG : Hid (W.heap.size ≤ g ∧ g < w1.heap.size) := ⟨hg0, glt⟩
      have HO := Lib.hid hO.bts
      have HB1 := Lib.hid hb1
      clear hO hg0 glt hb1 HCB
      go_wp2_with fail
      refine (HPL.out w1 HB1.out).mono ?_
      rintro e w2 ⟨h1, -, rfl⟩
      have h1 := h1 HLS.out
      rw [HPA.out] at h1
      subst h1
      clear HPL
      go_wp2_with fail
      clear h1
      go_loopw [32] (fun i wr => ∃ (K : Nat) (d1 : Dk.Dev), K ≤ 4 ∧ i = .int .i64 K ∧ PDev wr B m1 m2 d1 ∧ Touch (DS B m1 m2) w2 wr ∧ Dk.wrs d a (Dk.secs f) = Dk.wrs d1 (a + K) ((Dk.secs f).drop K)) (fun i _ => 4 - (intOf i).toNat)
      case atStart => exact ⟨0, d, Nat.zero_le _, rfl, HP1.out, .refl _ _, rfl⟩
      case round =>
        obtain ⟨K, d1, hK, rfl, hP, hT, he⟩ := hrel
        have HP := Lib.hid hP
        have HT := Lib.hid hT
        have HE := Lib.hid he
        clear hP hT he
        by_cases hlt : K < 4
        · have HK := Lib.hid hlt
          have hi : (K : Int) < 4 := by omega
          have hm1 := IntWalk.i64_in ((K : Int) * 128) (by omega)
          have hm2 := IntWalk.i64_in ((K : Int) + 1) (by omega)
          have hm3 := IntWalk.i64_in (((K : Int) + 1) * 128) (by omega)
          have hm4 := IntWalk.i64_in ((a : Int) + (K : Int)) (by have := HA.out; omega)
          have hnd : ¬ DS B m1 m2 g := fun hd => by
            have h1 := HLT.out g hd
            have h2 := HG.out.1
            have h3 := HB0.out.size
            omega
          have hx := (HT.out.bts HO.out (fun _ g' e hd => by
            simp only [Value.ownBlock, Option.some.injEq] at e
            subst e
            exact hnd hd)).sector HFL.out K hlt
          have hwa := write_any HP.out ((a + K : Nat) : Int) _ _ hx (fun _ g' e hd => by
            simp only [Value.ownBlock, Option.some.injEq] at e
            subst e
            exact hnd hd)
          have HWA := Lib.hid hwa
          clear hx hwa hnd hK
          go_wp2_with fail
          rw [show (K + 1) * 128 - K * 128 = 128 by omega, show (a : Int) + (K : Int) = ((a + K : Nat) : Int) by omega]
          refine HWA.out.mono ?_
          have hsx := Dk.secs_at f HK.out
          have hon := Dk.wrs_go (d := d1) (a := a + K) (x := (f.drop (K * 128)).take 128) (r := (Dk.secs f).drop (K + 1))
          have hend := Dk.wrs_stop (d := d1) (a := a + K) (x := (f.drop (K * 128)).take 128) (r := (Dk.secs f).drop (K + 1))
          rw [← hsx, ← HE.out] at hon hend
          generalize Dk.write d1 ((a + K : Nat) : Int) ((f.drop (K * 128)).take 128) = dw at *
          obtain ⟨d2, e2⟩ := dw
          dsimp only at hon hend ⊢
          rintro e w3 ⟨rfl, hP3, hT3⟩
          have HP3 := Lib.hid hP3
          have HT3 := Lib.hid (HT.out.trans hT3)
          clear hP3 hT3 hsx hm1 hm2 hm3 hm4 HWA
          by_cases he : e2 = 0
          · subst he
            have HON := Lib.hid (hon rfl)
            have hm2 := IntWalk.i64_in ((K : Int) + 1) (by omega)
            clear hon hend
            go_wp2_with fail
            go_roundw
            case rel => exact ⟨K + 1, d2, by omega, by go_num, HP3.out, HT3.out, HON.out⟩
            case measure => simp [intOf]; omega
          · have HEN := Lib.hid (hend he)
            have h1 : ¬ (e2 : Int) = 0 := by omega
            have h2 : ((e2 : Int) != 0) = true := by simp; omega
            clear hon hend he
            go_wp2_with fail
            go_ret
            rw [HEN.out]
            exact ⟨rfl, HP3.out, (Touch.of_new (HB0.out.trans (HB1.out.mono HB0.out.size))).trans HT3.out⟩
        · obtain rfl : K = 4 := by omega
          go_wp2_with fail
          go_ret
          rw [HE.out]
          exact ⟨rfl, HP.out, (Touch.of_new (HB0.out.trans (HB1.out.mono HB0.out.size))).trans HT.out⟩
    · have hlf : Pg.lies (Dk.size d) base n = false := by cases h : Pg.lies (Dk.size d) base n <;> simp_all
      have HLS := Lib.hid hlf
      rw [Pg.write_not (Or.inr hlf)]
      rw [hl] at hW q1 HCB ⊢
      clear hlies hlf hsz hl
      go_enter Try.func18, Try.ntmps18
      go_upto_region 1 with (fail)
      rw [← hW]
      clear hW
      go_wp2_with fail
      refine HCB.out.mono ?_
      rintro e w1 ⟨u, rfl, hO, hb1⟩
      obtain ⟨pu, cu, rfl, -, -, -⟩ := hO.bts.form
      have HP1 := Lib.hid (HH.out.below hb1)
      have HB1 := Lib.hid hb1
      clear hO hb1 HCB
      go_wp2_with fail
      refine (HPL.out w1 HB1.out).mono ?_
      rintro e w2 ⟨-, h2, rfl⟩
      have h2 := h2 HLS.out
      subst h2
      clear HPL
      go_wp2_with fail
      go_ret
      exact ⟨rfl, HP1.out, .of_new (HB0.out.trans (HB1.out.mono HB0.out.size))⟩
  · rw [if_neg hl, if_neg hl] at hcb
    rw [Pg.write_not (Or.inl hl)]
    obtain ⟨pm, cm, rfl, -, -, -⟩ := hB.form
    have HCB := Lib.hid hcb
    clear hcb h hB hrow hb0 hl
    generalize (l.length : Int) = z at *
    go_enter Try.func18, Try.ntmps18
    go_upto_region 1 with (fail)
    rw [← hW]
    clear hW
    go_wp2_with fail
    refine HCB.out.mono ?_
    rintro e w1 ⟨u, rfl, hO, hb1⟩
    obtain ⟨pu, cu, rfl, -, -, -⟩ := hO.bts.form
    have HP1 := Lib.hid (HH.out.below hb1)
    have HB1 := Lib.hid hb1
    clear hO hb1 HCB
    go_wp2_with fail
    go_ret
    exact ⟨rfl, HP1.out, .of_new (HB0.out.trans (HB1.out.mono HB0.out.size))⟩

set_option maxHeartbeats 1600000 in
set_option maxRecDepth 20000 in
theorem pgWrite_nil (base n : Int) (k : Nat) (m : Value) (l : List Nat) (w : World) (hk : k < 18446744073709551616) (hB : Bts w m l) :
    Calls Try.prog 18 #[.pointer none, .int .i64 base, .int .i64 n, PgV k m] w fun e w' => e = .returned (.int .i64 ((if l.length = 500 then 1 else 2 : Nat) : Int)) ∧ Below w.heap.size w w' := by
  obtain ⟨W, hW⟩ : ∃ W, W = w.alloc (.cells #[.int .u64 (k : Int), m] 25) := ⟨_, rfl⟩
  have hb0 : Below w.heap.size w W := by rw [hW]; exact (Below.refl _ _).alloc (Nat.le_refl _) _
  have HB0 := Lib.hid hb0
  have hcb := pgApi.bytes k m l W hk (hB.below hb0)
  have hrow : W.heap[w.heap.size]? = some (.cells #[.int .u64 (k : Int), m] 25 (0, 0)) := by rw [hW]; exact heap_alloc_last _ _
  have q0 := cell2_0 hrow
  have q1 := cell2_1 hrow
  have HPL : Hid (∀ w1, _) := fun w1 => place_nil base n w1
  obtain ⟨pm, cm, rfl, -, -, -⟩ := hB.form
  by_cases hl : l.length = 500
  · rw [if_pos hl, if_pos hl] at hcb
    rw [if_pos hl]
    have HCB := Lib.hid hcb
    clear hcb hB hrow hb0
    rw [hl] at hW q1 HCB ⊢
    clear hl
    go_enter Try.func18, Try.ntmps18
    go_upto_region 1 with (fail)
    rw [← hW]
    clear hW
    go_wp2_with fail
    refine HCB.out.mono ?_
    rintro e w1 ⟨u, rfl, hO, hb1⟩
    obtain ⟨pu, cu, rfl, -, -, -⟩ := hO.bts.form
    have HB1 := Lib.hid hb1
    clear hO hb1 HCB
    go_wp2_with fail
    refine (HPL.out w1).mono ?_
    rintro e w2 ⟨rfl, rfl⟩
    clear HPL
    go_wp2_with fail
    go_ret
    exact ⟨rfl, HB0.out.trans (HB1.out.mono HB0.out.size)⟩
  · rw [if_neg hl, if_neg hl] at hcb
    rw [if_neg hl]
    have HCB := Lib.hid hcb
    clear hcb hB hrow hb0 hl
    generalize (l.length : Int) = z at *
    go_enter Try.func18, Try.ntmps18
    go_upto_region 1 with (fail)
    rw [← hW]
    clear hW
    go_wp2_with fail
    refine HCB.out.mono ?_
    rintro e w1 ⟨u, rfl, hO, hb1⟩
    obtain ⟨pu, cu, rfl, -, -, -⟩ := hO.bts.form
    have HB1 := Lib.hid hb1
    clear hO hb1 HCB
    go_wp2_with fail
    go_ret
    exact ⟨rfl, HB0.out.trans (HB1.out.mono HB0.out.size)⟩
end Go.Proofs.Ytkmkbjjpbodbfaa
