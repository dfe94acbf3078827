/- The program's Read: a page's four sectors put together, and opened. Conditions: none. -/
import Derived.Test.YtkmkbjjpbodbfaaPgApi
import Derived.Test.YtkmkbjjpbodbfaaPgPlace
import Derived.Test.YtkmkbjjpbodbfaaPageDev
import Derived.Test.YtkmkbjjpbodbfaaDkRead
import Derived.Test.YtkmkbjjpbodbfaaOff
namespace Go.Proofs.Ytkmkbjjpbodbfaa
open Go.RowKit

/-- What was read so far, and what is read yet. -/
def Dk.Rest (d : Dk.Dev) (a K : Nat) (acc : List Nat) : Prop :=
  Dk.rds d a 4 = if (Dk.rds d (a + K) (4 - K)).2 ≠ 0 then ([], (Dk.rds d (a + K) (4 - K)).2) else (acc ++ (Dk.rds d (a + K) (4 - K)).1, 0)
theorem Dk.rds_next {d : Dk.Dev} {a j : Nat} {x : List Nat} {e : Nat} (h : Dk.read d (a : Int) = (x, e)) :
    Dk.rds d a (j + 1) = if e ≠ 0 then ([], e) else if (Dk.rds d (a + 1) j).2 ≠ 0 then ([], (Dk.rds d (a + 1) j).2) else (x ++ (Dk.rds d (a + 1) j).1, 0) := by
  show (if (Dk.read d (a : Int)).2 ≠ 0 then _ else _) = _
  rw [h]
theorem Dk.rds_bad {d : Dk.Dev} {a : Nat} : ∀ k : Nat, (Dk.rds d a k).2 ≠ 0 → (Dk.rds d a k).1 = []
  | 0, h => absurd rfl h
  | k + 1, h => by
    obtain ⟨x, e, hx⟩ : ∃ x e, Dk.read d (a : Int) = (x, e) := ⟨_, _, rfl⟩
    rw [Dk.rds_next hx] at h ⊢
    by_cases he : e ≠ 0
    · rw [if_pos he]
    · rw [if_neg he] at h ⊢
      by_cases hr : (Dk.rds d (a + 1) k).2 ≠ 0
      · rw [if_pos hr]
      · rw [if_neg hr] at h; exact absurd rfl h
theorem Dk.rest_first (d : Dk.Dev) (a : Nat) : Dk.Rest d a 0 [] := by
  show Dk.rds d a 4 = if (Dk.rds d a 4).2 ≠ 0 then ([], (Dk.rds d a 4).2) else ([] ++ (Dk.rds d a 4).1, 0)
  split
  · next h => rw [← Dk.rds_bad 4 h]
  · next h =>
    have h : (Dk.rds d a 4).2 = 0 := by simpa using h
    rw [List.nil_append, ← h]
theorem Dk.Rest.next {d : Dk.Dev} {a K : Nat} {acc x : List Nat} (h : Dk.Rest d a K acc) (hK : K < 4) (hx : Dk.read d ((a + K : Nat) : Int) = (x, 0)) : Dk.Rest d a (K + 1) (acc ++ x) := by
  unfold Dk.Rest at h ⊢
  rw [show 4 - K = (4 - (K + 1)) + 1 by omega, Dk.rds_next hx, if_neg (show ¬ (0 : Nat) ≠ 0 by simp), show a + K + 1 = a + (K + 1) by omega] at h
  rw [h]
  generalize Dk.rds d (a + (K + 1)) (4 - (K + 1)) = r
  by_cases hr : r.2 ≠ 0
  · rw [if_pos hr, if_pos hr, if_pos hr]
  · rw [if_neg hr, if_neg hr, if_neg (by simp), List.append_assoc]
theorem Dk.Rest.stop {d : Dk.Dev} {a K : Nat} {acc x : List Nat} {e : Nat} (h : Dk.Rest d a K acc) (hK : K < 4) (he : e ≠ 0) (hx : Dk.read d ((a + K : Nat) : Int) = (x, e)) : Dk.rds d a 4 = ([], e) := by
  unfold Dk.Rest at h
  rw [show 4 - K = (4 - (K + 1)) + 1 by omega, Dk.rds_next hx, if_pos he, if_pos he] at h
  exact h
theorem Dk.Rest.last {d : Dk.Dev} {a : Nat} {acc : List Nat} (h : Dk.Rest d a 4 acc) : Dk.rds d a 4 = (acc, 0) := by
  have h : Dk.rds d a 4 = (acc ++ [], 0) := h
  rw [List.append_nil] at h
  exact h
theorem Dk.read_len {d : Dk.Dev} (h : Dk.Ok d) (a : Int) : (Dk.read d a).1.length ≤ 128 := by
  unfold Dk.read
  split
  · exact Nat.zero_le _
  · split
    · exact Nat.zero_le _
    · next hb =>
      have hi : a.toNat < Dk.size d := by unfold Dk.bad at hb; omega
      cases hw : d.waits.getD a.toNat none with
      | some b =>
        have hm : some b ∈ d.waits := by
          rw [List.getD_eq_getElem?_getD, List.getElem?_eq_getElem (by rw [h.w]; exact hi), Option.getD_some] at hw
          rw [← hw]
          exact List.getElem_mem _
        exact Nat.le_of_eq (h.w1 b hm).1
      | none =>
        have hm : d.lasts.getD a.toNat [] ∈ d.lasts := by
          rw [List.getD_eq_getElem?_getD, List.getElem?_eq_getElem hi, Option.getD_some]
          exact List.getElem_mem _
        exact Nat.le_of_eq (h.l1 _ hm).1

set_option maxHeartbeats 1600000 in
set_option maxRecDepth 20000 in
theorem pgRead_any {B m1 m2 : Nat} {d : Dk.Dev} {w : World} (h : PDev w B m1 m2 d) (base n : Int) (hn : n ≤ 9223372036854775807) :
    Calls Try.prog 20 #[.pointer (some ⟨B, 0, none⟩), .int .i64 base, .int .i64 n] w fun e w' => ∃ u, e = .returned (.tuple #[PgV (Pg.read d base n).1.1 u, .int .i64 ((Pg.read d base n).2 : Nat)]) ∧ Own w.heap.size w' u (Pg.read d base n).1.2 ∧ Below w.heap.size w w' := by
  obtain ⟨W, hW⟩ : ∃ W, W = w.alloc (.cells #[.int .u64 0, .slice none 0 0] 25) := ⟨_, rfl⟩
  obtain ⟨R, hR⟩ : ∃ R, R = w.heap.size := ⟨_, rfl⟩
  have hO : Opn w W R := ⟨by rw [hW, hR]; exact heap_alloc_last _ _, hR, by rw [hW]; exact (Below.refl _ _).alloc (Nat.le_refl _) _⟩
  have HP := Lib.hid (h.below hO.below)
  have HO := Lib.hid hO
  have HR := Lib.hid hR
  have HPL := Lib.hid (place_any HP.out base n hn)
  have hok := h.own.ok
  have hsz := h.own.size
  by_cases hlies : Pg.lies (Dk.size d) base n = true
  · have hpl := Pg.lies_place hlies
    have hpa : base + 4 * n = ((Pg.place base n : Nat) : Int) := by
      have := of_decide_eq_true hlies
      unfold Pg.place
      omega
    have hrd : Pg.read d base n = if (Dk.rds d (Pg.place base n) 4).2 ≠ 0 then ((0, []), (Dk.rds d (Pg.place base n) 4).2) else ((Pg.openN (Dk.rds d (Pg.place base n) 4).1, Pg.openL (Dk.rds d (Pg.place base n) 4).1), Pg.openE (Dk.rds d (Pg.place base n) 4).1) := by
      unfold Pg.read
      rw [if_neg (by rw [hlies]; decide)]
    rw [hrd]
    obtain ⟨rr, hrr⟩ : ∃ rr, rr = if (Dk.rds d (Pg.place base n) 4).2 ≠ 0 then (((0, []), (Dk.rds d (Pg.place base n) 4).2) : (Nat × List Nat) × Nat) else ((Pg.openN (Dk.rds d (Pg.place base n) 4).1, Pg.openL (Dk.rds d (Pg.place base n) 4).1), Pg.openE (Dk.rds d (Pg.place base n) 4).1) := ⟨_, rfl⟩
    rw [← hrr]
    have HRR := Lib.hid hrr
    have HLS := Lib.hid hlies
    have HOK := Lib.hid hok
    generalize Pg.place base n = a at *
    have HA : Hid (a + 4 ≤ 65536) := by show _ ≤ _; omega
    have HPA := Lib.hid hpa
    clear hrd hrr hlies hpl hpa hsz hok h hO
    go_enter Try.func20, Try.ntmps20
    go_upto_region 1 with (fail)
    rw [← hW, ← HR.out]
    clear hW hR
    go_wp2_with fail
    refine HPL.out.mono ?_
    rintro e w2 ⟨h1, -, rfl⟩
    have h1 := h1 HLS.out
    rw [HPA.out] at h1
    subst h1
    clear HPL
    go_wp2_with fail
    clear h1
    go_loopw [10, 25] (fun v i wr => ∃ (K : Nat) (acc : List Nat), K ≤ 4 ∧ i = .int .i64 K ∧ Own w2.heap.size wr v acc ∧ acc.length ≤ 128 * K ∧ Below w2.heap.size w2 wr ∧ Dk.Rest d a K acc) (fun _ i _ => 4 - (intOf i).toNat)
    case atStart => exact ⟨0, [], Nat.zero_le _, rfl, own_nil _ _, Nat.zero_le _, Below.refl _ _, Dk.rest_first d a⟩
    case round =>
      obtain ⟨K, acc, hK, rfl, hv, hal, hb, hrest⟩ := hrel
      have HV := Lib.hid hv
      have HAL := Lib.hid hal
      have HB := Lib.hid hb
      have HRS := Lib.hid hrest
      obtain ⟨pv, cv, rfl, -, -, -⟩ := hv.bts.form
      clear hv hal hb hrest
      by_cases hlt : K < 4
      · have HK := Lib.hid hlt
        have hi : (K : Int) < 4 := by omega
        have hm4 := IntWalk.i64_in ((a : Int) + (K : Int)) (by have := HA.out; omega)
        have hrd := read_any (HP.out.below HB.out) ((a + K : Nat) : Int)
        have hlen := Dk.read_len HOK.out ((a + K : Nat) : Int)
        have hnext := fun x (hx : Dk.read d ((a + K : Nat) : Int) = (x, 0)) => HRS.out.next HK.out hx
        have hstop := fun x e (he : e ≠ 0) (hx : Dk.read d ((a + K : Nat) : Int) = (x, e)) => HRS.out.stop HK.out he hx
        generalize Dk.read d ((a + K : Nat) : Int) = rr at *
        obtain ⟨x, e0⟩ := rr
        dsimp only at hrd hlen
        have HRD := Lib.hid hrd
        have HLEN := Lib.hid hlen
        have HNX := Lib.hid hnext
        have HST := Lib.hid hstop
        clear hrd hlen hnext hstop hK
        go_wp2_with fail
        rw [show (a : Int) + (K : Int) = ((a + K : Nat) : Int) by omega]
        refine HRD.out.mono ?_
        rintro e w3 ⟨u, rfl, hM, hb3⟩
        obtain ⟨pu, cu, rfl, -, -, -⟩ := hM.bts.form
        have HM := Lib.hid hM
        have HB3 := Lib.hid hb3
        clear hM hb3 HRD hm4
        by_cases he : e0 = 0
        · subst he
          have HR2 := Lib.hid (HNX.out x rfl)
          have hm2 := IntWalk.i64_in ((K : Int) + 1) (by omega)
          clear HNX HST
          go_upto_region 11 with (fail)
          iterate 7 go_step
          refine wpList_append_Own rfl (.tmp 40) (.tmp 41) rfl w2.heap.size _ acc rfl (HV.out.below HB3.out) _ x rfl HM.out.bts (by have h1 := HAL.out; have h2 := HLEN.out; have h3 := HK.out; omega) (Nat.le_trans HB.out.size HB3.out.size) ?_
          intro v' w4 hO4 hb4 _
          have HO4 := Lib.hid hO4
          have HB4 := Lib.hid ((HB.out.trans (HB3.out.mono HB.out.size)).trans hb4)
          have HL4 : Hid ((acc ++ x).length ≤ 128 * (K + 1)) := by show _ ≤ _; have h1 := HAL.out; have h2 := HLEN.out; rw [List.length_append]; omega
          clear hO4 hb4
          go_wp2_with fail
          go_roundw
          case rel => exact ⟨K + 1, acc ++ x, by omega, by go_num, HO4.out, HL4.out, HB4.out, HR2.out⟩
          case measure => simp [intOf]; omega
        · have HEN := Lib.hid (HST.out x e0 he rfl)
          have HE0 := Lib.hid he
          have h1 : ¬ (e0 : Int) = 0 := by omega
          have h2 : ((e0 : Int) != 0) = true := by simp; omega
          have HO3 := Lib.hid (HO.out.later (HB.out.trans (HB3.out.mono HB.out.size)))
          clear HNX HST he
          have c0 := cell2_0 HO3.out.blk
          have c1 := cell2_1 HO3.out.blk
          have f0 := free2 HO3.out.blk 0
          have f1 := free2 HO3.out.blk 1
          obtain ⟨d1, d2, d3⟩ := HO3.out.done (.int .u64 0) (.slice none 0 0)
          have q0 := cell2_0 d1
          have q1 := cell2_1 d1
          have D2 := Lib.hid d2
          have D3 := Lib.hid d3
          clear d1 d2 d3
          go_wp2_with fail
          refine bodyPost_ret (v := .tuple #[PgV 0 (.slice none 0 0), .int .i64 (e0 : Int)]) (by simp [results, Try.results20, go_sem, q0, q1]) rfl ⟨_, by rw [HRR.out, HEN.out, if_pos HE0.out], by rw [HRR.out, HEN.out, if_pos HE0.out]; exact own_nil _ _, D3.out⟩
      · obtain rfl : K = 4 := by omega
        have hrr := HRR.out
        rw [HRS.out.last, if_neg (by simp)] at hrr
        have HRE := Lib.hid hrr
        clear hrr
        have hop := pgApi.opens _ _ wr HV.out.bts
        have HOP := Lib.hid hop
        clear hop
        go_wp2_with fail
        refine HOP.out.mono ?_
        rintro e w3 ⟨u, rfl, hO3, hb3⟩
        obtain ⟨pu, cu, hu, -, -, -⟩ := hO3.bts.form
        have hne : ∀ g3, u.ownBlock = some g3 → R < g3 := by
          intro g3 hg3
          rcases hO3.form with ⟨h1, h2⟩ | ⟨g4, c4, h1, h2, -⟩
          · rw [h1] at hg3; cases hg3
          · rw [h1] at hg3
            simp only [Value.ownBlock, Option.some.injEq] at hg3
            have := HO.out.lt
            have := HB.out.size
            omega
        have HNE := Lib.hid hne
        have HV3 := Lib.hid hO3
        have HO3 := Lib.hid (HO.out.later (HB.out.trans (hb3.mono HB.out.size)))
        have HZ : Hid (w.heap.size ≤ wr.heap.size) := by show _ ≤ _; have h1 := HO.out.below.size; have h2 := HB.out.size; omega
        subst hu
        generalize (Pg.openL acc).length = z at *
        clear hO3 hb3 hne HOP
        have c0 := cell2_0 HO3.out.blk
        have c1 := cell2_1 HO3.out.blk
        have f0 := free2 HO3.out.blk 0
        have f1 := free2 HO3.out.blk 1
        obtain ⟨d1, d2, d3⟩ := HO3.out.done (.int .u64 (Pg.openN acc : Int)) (.slice pu z cu)
        have q0 := cell2_0 d1
        have q1 := cell2_1 d1
        have D2 := Lib.hid d2
        have D3 := Lib.hid d3
        clear d1 d2 d3
        go_wp2_with fail
        refine bodyPost_ret (v := .tuple #[PgV (Pg.openN acc) (.slice pu z cu), .int .i64 (Pg.openE acc : Nat)]) (by simp [results, Try.results20, go_sem, q0, q1]) rfl ⟨_, by rw [HRE.out], ?_, D3.out⟩
        rw [HRE.out]
        refine (HV3.out.from HZ.out).grown D2.out (Or.inr fun h => ?_)
        exact absurd (HNE.out _ h) (Nat.lt_irrefl _)
  · have hlf : Pg.lies (Dk.size d) base n = false := by cases h : Pg.lies (Dk.size d) base n <;> simp_all
    have HLS := Lib.hid hlf
    rw [Pg.read_not hlf]
    clear hlies hlf hsz hok h hO
    go_enter Try.func20, Try.ntmps20
    go_upto_region 1 with (fail)
    rw [← hW, ← HR.out]
    clear hW hR
    go_wp2_with fail
    refine HPL.out.mono ?_
    rintro e w2 ⟨-, h2, rfl⟩
    have h2 := h2 HLS.out
    subst h2
    clear HPL
    have c0 := cell2_0 HO.out.blk
    have c1 := cell2_1 HO.out.blk
    have f0 := free2 HO.out.blk 0
    have f1 := free2 HO.out.blk 1
    obtain ⟨d1, d2, d3⟩ := HO.out.done (.int .u64 0) (.slice none 0 0)
    have q0 := cell2_0 d1
    have q1 := cell2_1 d1
    have D2 := Lib.hid d2
    have D3 := Lib.hid d3
    clear d1 d2 d3
    go_wp2_with fail
    refine bodyPost_ret (v := .tuple #[PgV 0 (.slice none 0 0), .int .i64 2]) (by simp [results, Try.results20, go_sem, q0, q1]) rfl ⟨_, rfl, own_nil _ _, D3.out⟩
end Go.Proofs.Ytkmkbjjpbodbfaa
