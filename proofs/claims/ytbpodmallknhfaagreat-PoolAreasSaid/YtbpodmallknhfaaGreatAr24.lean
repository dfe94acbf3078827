/- Parts of a proof. Conditions: as each row says. -/
import Derived.Test.YtbpodmallknhfaaGreatAr08
import Derived.Test.YtbpodmallknhfaaGreatAr15
import Derived.Test.YtbpodmallknhfaaGreatAr23
import Derived.Test.YtbpodmallknhfaaGreatAr18
import Derived.Test.YtbpodmallknhfaaGreatAr22
import Derived.Test.YtbpodmallknhfaaGreatAr17
import Derived.Test.YtbpodmallknhfaaGreatAr13
import Derived.Test.YtbpodmallknhfaaGreatAr19
import Derived.BigQuiet
namespace Go.Proofs.YtbpodmallknhfaaGreat
open Go.RowKit
def RgV (B S b N : Nat) : Value := .agg #[.pointer (some ⟨B, 0, none⟩), .int .i64 (S : Int), .int .i64 (b : Int), .int .i64 (N : Int)]
def RgC (B S b N : Nat) : Array Value := #[.pointer (some ⟨B, 0, none⟩), .int .i64 (S : Int), .int .i64 (b : Int), .int .i64 (N : Int)]
def RgAt (W : World) (Q B S b N : Nat) : Prop := W.heap[Q]? = some (.cells (RgC B S b N) 95 (0, 0))
section
variable {W : World} {Q B S b N : Nat}
theorem RgAt.c0 (h : RgAt W Q B S b N) : W.cell? ⟨Q, 0, none⟩ = some (.pointer (some ⟨B, 0, none⟩)) := blk_cell h 0 rfl
theorem RgAt.c1 (h : RgAt W Q B S b N) : W.cell? ⟨Q, 1, none⟩ = some (.int .i64 (S : Int)) := blk_cell h 1 rfl
theorem RgAt.c2 (h : RgAt W Q B S b N) : W.cell? ⟨Q, 2, none⟩ = some (.int .i64 (b : Int)) := blk_cell h 2 rfl
theorem RgAt.c3 (h : RgAt W Q B S b N) : W.cell? ⟨Q, 3, none⟩ = some (.int .i64 (N : Int)) := blk_cell h 3 rfl
theorem RgAt.below {W' : World} (h : RgAt W Q B S b N) (hb : Below W.heap.size W W') : RgAt W' Q B S b N := (hb.block Q (lt_of_block h)).trans h
theorem RgAt.touch {W' : World} {T : Nat → Prop} (h : RgAt W Q B S b N) (ht : Touch T W W') (hs : ¬ T Q) : RgAt W' Q B S b N := ht.row h hs
end
theorem rg_box (w : World) (B S b N : Nat) : ∃ W, W = w.alloc (.cells #[.pointer (some ⟨B, 0, none⟩), .int .i64 (S : Int), .int .i64 (b : Int), .int .i64 (N : Int)] 95) ∧ RgAt W w.heap.size B S b N ∧ Below w.heap.size w W ∧ W.heap.size = w.heap.size + 1 :=
  ⟨_, rfl, heap_alloc_last _ _, (Below.refl _ _).alloc (Nat.le_refl _) _, by simp⟩
theorem has_rg (B S b N : Nat) (m : Int) (w : World) : Calls Tryz.prog 71 #[RgV B S b N, .int .i64 m] w fun e w' => e = .returned (.bool (decide (0 ≤ m ∧ m < (N : Int)))) ∧ Below w.heap.size w w' := by
  obtain ⟨W, hW, hr, hb, -⟩ := rg_box w B S b N
  obtain ⟨Q, hQ⟩ : ∃ Q, Q = w.heap.size := ⟨_, rfl⟩
  rw [← hQ] at hr
  have c3 := hr.c3
  have HB := Lib.hid hb
  clear hb hr
  unfold RgV
  go_enter Tryz.func71, Tryz.ntmps71
  go_upto_region 1 with (fail)
  rw [← hW, ← hQ]
  clear hW hQ
  by_cases h0 : 0 ≤ m
  · by_cases h1 : m < (N : Int)
    · have HD : Hid (decide (0 ≤ m ∧ m < (N : Int)) = true) := decide_eq_true ⟨h0, h1⟩
      go_wp2_with fail
      go_ret
      exact ⟨by first | rfl | (rw [HD.out]; rfl) | simp [h0, h1] | (simp [h0]; omega), HB.out⟩
    · have HD : Hid (decide (0 ≤ m ∧ m < (N : Int)) = false) := decide_eq_false fun h => h1 h.2
      have h1' : (N : Int) ≤ m := by omega
      go_wp2_with fail
      go_ret
      exact ⟨by first | rfl | (rw [HD.out]; rfl) | simp [h0, h1] | (simp [h0]; omega), HB.out⟩
  · have HD : Hid (decide (0 ≤ m ∧ m < (N : Int)) = false) := decide_eq_false fun h => h0 h.1
    have h0' : m < 0 := by omega
    go_wp2_with fail
    go_ret
    exact ⟨by first | rfl | (rw [HD.out]; rfl) | simp [h0, h1] | (simp [h0]; omega), HB.out⟩
def svs (d : Dk.Dev) (S : Nat) : Nat → List Nat
  | 0 => []
  | k + 1 => svs d S k ++ Dk.sv d (S + k)
theorem svs_five (d : Dk.Dev) (S : Nat) : svs d S 5 = Rg.spv d S := by
  simp only [svs, Rg.spv, Nat.add_zero, List.nil_append, List.append_assoc]
theorem sv_len {n : Nat} {d : Dk.Dev} (h : Wl.Near n d) {i : Nat} (hi : i < n) : (Dk.sv d i).length = 128 ∧ ∀ x ∈ Dk.sv d i, x < 256 := Wl.eff_sec h.ok (by rw [h.sz]; exact hi)
theorem svs_len {n S : Nat} {d : Dk.Dev} (h : Wl.Near n d) : ∀ k, S + k ≤ n → (svs d S k).length = 128 * k
  | 0, _ => rfl
  | k + 1, hk => by
    show (svs d S k ++ Dk.sv d (S + k)).length = _
    rw [List.length_append, svs_len h k (by omega), (sv_len h (show S + k < n by omega)).1]
    omega
def SpA (d : Dk.Dev) (S : Nat) (w : World) (e : Ending) (w' : World) : Prop := ∃ u, e = .returned (.tuple #[u, .int .i64 ((if d.off then 6 else 0 : Nat) : Int)]) ∧ Below w.heap.size w w' ∧ (d.off = false → Own w.heap.size w' u (Rg.spv d S))
set_option maxHeartbeats 3200000 in
set_option maxRecDepth 20000 in
theorem spare_rg {w : World} {B m1 m2 n S b N : Nat} {d : Dk.Dev} (hP : PDev w B m1 m2 d) (hN : Wl.Near n d) (hS : S + 5 ≤ n) (hn : n ≤ 65536) :
    Calls Tryz.prog 69 #[RgV B S b N] w fun e w' => SpA d S w e w' := by
  obtain ⟨W, hW, hr, hb, hsz⟩ := rg_box w B S b N
  obtain ⟨Q, hQ⟩ : ∃ Q, Q = w.heap.size := ⟨_, rfl⟩
  rw [← hQ] at hr
  have HR := Lib.hid hr
  have HB := Lib.hid hb
  have HP := Lib.hid (hP.below hb)
  have HN := Lib.hid hN
  have HS : Hid (S + 5 ≤ n ∧ n ≤ 65536) := ⟨hS, hn⟩
  have HQ := Lib.hid hQ
  have HW := Lib.hid hsz
  clear hP hb hN hS hn hr hsz
  unfold RgV
  go_enter Tryz.func69, Tryz.ntmps69
  go_upto_region 1 with (fail)
  rw [← hW, ← hQ]
  clear hW hQ
  go_wp2_with fail
  go_loopw [4, 8] (fun v i wr => ∃ K : Nat, K ≤ 5 ∧ i = .int .i64 K ∧ Own W.heap.size wr v (svs d S K) ∧ Below W.heap.size W wr ∧ (K = 0 ∨ d.off = false)) (fun _ i _ => 5 - (intOf i).toNat)
  case atStart => exact ⟨0, Nat.zero_le _, rfl, own_nil _ _, Below.refl _ _, Or.inl rfl⟩
  case round =>
    obtain ⟨K, hK, rfl, hv, hb, hoff⟩ := hrel
    have HV := Lib.hid hv
    have HB2 := Lib.hid hb
    have HO := Lib.hid hoff
    obtain ⟨pv, cv, rfl, -, -, -⟩ := hv.bts.form
    clear hv hb hoff
    have hrr := HR.out.below HB2.out
    have c0 := hrr.c0
    have c1 := hrr.c1
    clear hrr
    by_cases hlt : K < 5
    · have HK : Hid (K < 5) := hlt
      have hi : (K : Int) < 5 := by omega
      have hm4 := IntWalk.i64_in ((S : Int) + (K : Int)) (by have := HS.out; omega)
      have hrd := read_any (HP.out.below HB2.out) ((S + K : Nat) : Int)
      rw [Rg.read_near HN.out (i := S + K) (by have := HS.out; omega)] at hrd
      have HRD := Lib.hid hrd
      clear hrd hK hlt
      go_wp2_with fail
      rw [show (S : Int) + (K : Int) = ((S + K : Nat) : Int) by omega]
      refine HRD.out.mono ?_
      rintro e w3 ⟨u, rfl, hM, hb3⟩
      obtain ⟨pu, cu, rfl, -, -, -⟩ := hM.bts.form
      have HM := Lib.hid hM
      have HB3 := Lib.hid hb3
      clear hM hb3 HRD hm4
      rcases Bool.eq_false_or_eq_true d.off with ho | ho
      · have HO2 : Hid (d.off = true) := ho
        rw [ho, if_pos rfl]
        dsimp only
        clear ho
        go_wp2_with fail
        go_ret2
        refine ⟨_, by rw [HO2.out]; rfl, HB.out.trans ((HB2.out.trans (HB3.out.mono HB2.out.size)).mono (by have := HW.out; omega)), fun e => by rw [HO2.out] at e; cases e⟩
      · have HO2 : Hid (d.off = false) := ho
        have HM2 : Hid (Bts w3 (.slice pu (Dk.sv d (S + K)).length cu) (Dk.sv d (S + K))) := by
          have := HM.out.bts
          rw [ho, if_neg (by decide)] at this
          exact this
        rw [ho, if_neg (by decide)]
        have HL := Lib.hid (sv_len HN.out (show S + K < n by have := HS.out; have := HK.out; omega)).1
        have HLV := Lib.hid (svs_len (S := S) HN.out K (by have := HS.out; have := HK.out; omega))
        have hm2 := IntWalk.i64_in ((K : Int) + 1) (by have := HK.out; omega)
        clear ho
        dsimp only
        go_upto_region 8 with (fail)
        iterate 7 go_step
        refine wpList_append_Own rfl (.tmp 25) (.tmp 26) rfl W.heap.size _ (svs d S K) rfl (HV.out.below HB3.out) _ (Dk.sv d (S + K)) rfl HM2.out (by rw [HL.out, HLV.out]; have := HK.out; omega) (by have h2 := HB2.out.size; have h3 := HB3.out.size; omega) ?_
        intro v' w4 hO4 hb4 _
        have HO4 := Lib.hid hO4
        have HB4 := Lib.hid hb4
        obtain ⟨pv4, cv4, rfl, -, -, -⟩ := hO4.bts.form
        clear hO4 hb4
        go_wp2_with fail
        go_roundw
        case rel => refine ⟨K + 1, by have := HK.out; omega, by go_num, ?_, (HB2.out.trans (HB3.out.mono HB2.out.size)).trans HB4.out, Or.inr HO2.out⟩; have h := HO4.out; rw [List.length_append] at h; exact h
        case measure => have := HK.out; simp [intOf]; omega
    · obtain rfl : K = 5 := by omega
      have hO5 := HO.out.resolve_left (by decide)
      have HO5 : Hid (d.off = false) := hO5
      have hi : ¬ ((5 : Nat) : Int) < 5 := by decide
      clear hlt hK hO5
      go_wp2_with fail
      go_ret2
      refine ⟨_, by rw [HO5.out]; rfl, HB.out.trans (HB2.out.mono (by have := HW.out; omega)), fun _ => ?_⟩
      rw [← svs_five]
      exact HV.out.from (by have := HW.out; omega)
end Go.Proofs.YtbpodmallknhfaaGreat
namespace Go.Proofs.YtbpodmallknhfaaGreat
open Go.RowKit
theorem Rg.claim_read {n : Nat} {d : Dk.Dev} (h : Wl.Near n d) {p k : Nat} (hp : p < n) (ho : d.off = false) : Rg.claimR d p (k + 1) = if Dk.sv d p = Dk.blank then Rg.bnd (Dk.write d (p : Int) Dk.blank) (fun e => Rg.claimR e (p + 1) k) else Rg.claimR d (p + 1) k := by
  show (if (Dk.read d (p : Int)).2 ≠ 0 then _ else _) = _
  rw [Rg.read_on h ho hp]
  rfl
theorem Rg.claim_off {n : Nat} {d : Dk.Dev} (h : Wl.Near n d) {p k : Nat} (hp : p < n) (ho : d.off = true) : Rg.claimR d p (k + 1) = (d, 6) := by
  show (if (Dk.read d (p : Int)).2 ≠ 0 then _ else _) = _
  rw [Rg.read_near h hp, ho]
  rfl
def DevA (B m1 m2 : Nat) (r : Dk.Dev × Nat) (w : World) (e : Ending) (w' : World) : Prop := e = .returned (.int .i64 ((r.2 : Nat) : Int)) ∧ PDev w' B m1 m2 r.1 ∧ Touch (DS B m1 m2) w w'
set_option maxHeartbeats 3200000 in
set_option maxRecDepth 20000 in
theorem claim_rg {w : World} {B m1 m2 n S b N m : Nat} {d : Dk.Dev} (hP : PDev w B m1 m2 d) (hN : Wl.Near n d) (hb4 : b + 4 * N ≤ n) (hm : m < N) (hn : n ≤ 65536) :
    Calls Tryz.prog 108 #[RgV B S b N, .int .i64 (m : Int)] w fun e w' => DevA B m1 m2 (Rg.claimR d (b + 4 * m) 4) w e w' := by
  obtain ⟨W, hW, hr, hb, hsz⟩ := rg_box w B S b N
  obtain ⟨Q, hQ⟩ : ∃ Q, Q = w.heap.size := ⟨_, rfl⟩
  rw [← hQ] at hr
  obtain ⟨F, hF⟩ : ∃ F, F = b + 4 * m := ⟨_, rfl⟩
  rw [← hF]
  have hw1 := IntWalk.i64_in (4 * (m : Int)) (by omega)
  have hw2 : IntKind.i64.wrap ((b : Int) + 4 * (m : Int)) = (F : Int) := by rw [IntWalk.i64_in _ (by omega), hF]; omega
  have hmk : (Instr.makeSlice 57 (.int .i64 128) (.int .i64 128)).run Tryz.prog W = .ok (.slice (some ⟨W.heap.size, 0, none⟩) 128 128) (W.alloc (.cells ((Pg.zeros 128).map bv).toArray 5)) := made_bytes 128 (by decide) W
  have hmo := made_own 128 (by decide) W
  have hc2 := hr.c2
  have hbm : Below w.heap.size w (W.alloc (.cells ((Pg.zeros 128).map bv).toArray 5)) := hb.alloc (by omega) _
  obtain ⟨W1, hW1⟩ : ∃ W1, W1 = W.alloc (.cells ((Pg.zeros 128).map bv).toArray 5) := ⟨_, rfl⟩
  rw [← hW1] at hmk hmo hbm
  have HR := Lib.hid (hr.below (hW1 ▸ (Below.refl _ W).alloc (Nat.le_refl _) _ : Below W.heap.size W W1))
  have HB := Lib.hid hbm
  have HP := Lib.hid (hP.below hbm)
  have HN := Lib.hid hN
  have HS : Hid (F + 4 ≤ n ∧ n ≤ 65536) := by show _ ∧ _; omega
  have HO := Lib.hid hmo
  have HDL := Lib.hid hP.lt
  have HSZ : Hid (W.heap.size = w.heap.size + 1 ∧ Q = w.heap.size) := ⟨hsz, hQ⟩
  obtain ⟨G, hG⟩ : ∃ G, G = W.heap.size := ⟨_, rfl⟩
  have HG := Lib.hid hG
  rw [← hG] at hmk
  clear hP hb hN hb4 hm hn hr hsz hF hmo hbm
  unfold RgV
  go_enter Tryz.func108, Tryz.ntmps108
  go_upto_region 1 with (fail)
  rw [← hW, ← hQ]
  clear hW hQ hW1 hG
  go_wp2_with fail
  go_loopw [7] (fun i wr => ∃ (K : Nat) (dk : Dk.Dev), K ≤ 4 ∧ i = .int .i64 ((F + K : Nat) : Int) ∧ PDev wr B m1 m2 dk ∧ Wl.Near n dk ∧ Touch (DS B m1 m2) W1 wr ∧ Rg.claimR d F 4 = Rg.claimR dk (F + K) (4 - K)) (fun i _ => F + 4 - (intOf i).toNat)
  case atStart => exact ⟨0, d, Nat.zero_le _, rfl, HP.out, HN.out, Touch.refl _ _, rfl⟩
  case round =>
    obtain ⟨K, dk, hK, rfl, hp, hnk, ht, hcl⟩ := hrel
    have HPK := Lib.hid hp
    have HNK := Lib.hid hnk
    have HT := Lib.hid ht
    have HCL := Lib.hid hcl
    have hQd : ¬ DS B m1 m2 Q := fun h => by have := HDL.out Q h; have := HSZ.out; omega
    have hGd : ¬ DS B m1 m2 G := fun h => by have := HDL.out G h; have := HSZ.out; have := HG.out; omega
    have hrr := HR.out.touch ht hQd
    have HRR := Lib.hid hrr
    have hc0 := hrr.c0
    have hO0 : Bts wr (.slice (some ⟨G, 0, none⟩) 128 128) (Pg.zeros 128) := by
      rw [HG.out]
      exact ht.bts HO.out.bts fun _ g e => by
        simp only [Value.ownBlock, Option.some.injEq] at e
        rw [← e, ← HG.out]; exact hGd
    have HO0 := Lib.hid hO0
    have HGD := Lib.hid hGd
    have HQD := Lib.hid hQd
    have hm4 := IntWalk.i64_in ((F : Int) + 4) (by have := HS.out; omega)
    clear hp hnk ht hcl hrr hO0 hGd hQd
    by_cases hlt : K < 4
    · have HK : Hid (K < 4) := hlt
      obtain ⟨p, hp⟩ : ∃ p, p = F + K := ⟨_, rfl⟩
      rw [← hp]
      have HPP := Lib.hid hp
      have hi : (p : Int) < (F : Int) + 4 := by omega
      have hm2 := IntWalk.i64_in ((p : Int) + 1) (by have := HS.out; omega)
      have hpn : p < n := by have := HS.out; omega
      have hrd := read_any HPK.out (p : Int)
      rw [Rg.read_near HNK.out hpn] at hrd
      have HRD := Lib.hid hrd
      have HPN : Hid (p < n) := hpn
      clear hrd hK hlt hp hpn
      go_wp2_with fail
      refine HRD.out.mono ?_
      rintro e w3 ⟨u, rfl, hM, hb3⟩
      obtain ⟨pu, cu, rfl, -, -, -⟩ := hM.bts.form
      have HM := Lib.hid hM
      have HP3 := Lib.hid (HPK.out.below hb3)
      have HT3 := Lib.hid (HT.out.trans (Touch.of_new hb3))
      have HR3 := Lib.hid (HRR.out.below hb3)
      have HO3 := Lib.hid (HO0.out.below hb3)
      clear hM hb3 HRD hc0
      have hk4 : 4 - K = (4 - (K + 1)) + 1 := by have := HK.out; omega
      rcases Bool.eq_false_or_eq_true dk.off with ho | ho
      · have hres : Rg.claimR d F 4 = (dk, 6) := by rw [HCL.out, ← HPP.out, hk4, Rg.claim_off HNK.out HPN.out ho]
        have HRES := Lib.hid hres
        rw [ho, if_pos rfl]
        dsimp only
        clear ho hres hk4
        go_wp2_with fail
        go_ret
        refine ⟨by rw [HRES.out]; rfl, by rw [HRES.out]; exact HP3.out, (Touch.of_new HB.out).trans HT3.out⟩
      · have hcr := Rg.claim_read HNK.out (k := 4 - (K + 1)) HPN.out ho
        have HM2 : Hid (Bts w3 (.slice pu (Dk.sv dk p).length cu) (Dk.sv dk p)) := by
          have := HM.out.bts
          rw [ho, if_neg (by decide)] at this
          exact this
        have hEq := btEqual_any _ _ _ _ w3 HM2.out HO3.out
        rw [ho, if_neg (by decide)]
        dsimp only
        by_cases hz : Dk.sv dk p = Dk.blank
        · have hz2 : Dk.sv dk p = Pg.zeros 128 := hz
          rw [decide_eq_true hz2] at hEq
          have HEQ := Lib.hid hEq
          have hwr := write_any HP3.out (p : Int) (.slice (some ⟨G, 0, none⟩) 128 128) (Pg.zeros 128) HO3.out (fun _ g e => by
            simp only [Value.ownBlock, Option.some.injEq] at e
            rw [← e]; exact HGD.out)
          have HWR := Lib.hid hwr
          rw [if_pos hz] at hcr
          have hop : Rg.Op (fun _ => True) n dk (Dk.write dk (p : Int) Dk.blank) := Rg.op_write HNK.out trivial HPN.out Dk.sec_blank
          have HOP := Lib.hid hop
          have HC : Hid (Rg.claimR d F 4 = Rg.bnd (Dk.write dk (p : Int) Dk.blank) fun e => Rg.claimR e (p + 1) (4 - (K + 1))) := by show _ = _; rw [HCL.out, ← HPP.out, hk4, hcr]
          have hc0 := HR3.out.c0
          clear hEq hwr hz hz2 ho hcr hop hk4
          go_wp2_with fail
          refine HEQ.out.mono ?_
          rintro e w4 ⟨rfl, rfl⟩
          clear HEQ
          go_wp2_with fail
          refine HWR.out.mono ?_
          rintro e w5 ⟨rfl, hp5, ht5⟩
          rw [show Pg.zeros 128 = Dk.blank from rfl] at hp5 ⊢
          obtain ⟨r, hr⟩ : ∃ r, r = Dk.write dk (p : Int) Dk.blank := ⟨_, rfl⟩
          rw [← hr] at hp5 ⊢
          have HC2 := HC.out
          have HOP2 := HOP.out
          rw [← hr] at HC2 HOP2
          have HC3 := Lib.hid HC2
          have HOP3 := Lib.hid HOP2
          have HP5 := Lib.hid hp5
          have HT5 := Lib.hid (HT3.out.trans ht5)
          obtain ⟨dr, er⟩ := r
          clear hp5 ht5 HWR HC2 HOP2 hr hc0
          dsimp only
          by_cases he : er = 0
          · subst he
            have HC4 : Hid (Rg.claimR d F 4 = Rg.claimR dr (p + 1) (4 - (K + 1))) := by show _ = _; rw [HC3.out, Rg.bnd_go _ rfl]
            clear HC3
            go_wp2_with fail
            go_roundw
            case rel => exact ⟨K + 1, dr, by have := HK.out; omega, by rw [show F + (K + 1) = p + 1 by have := HPP.out; omega]; go_num, HP5.out, HOP3.out.ro.near HNK.out, HT5.out, by rw [show F + (K + 1) = p + 1 by have := HPP.out; omega]; exact HC4.out⟩
            case measure => have := HPP.out; have := HK.out; simp [intOf]; omega
          · have HC4 : Hid (Rg.claimR d F 4 = (dr, er)) := by show _ = _; rw [HC3.out, Rg.bnd_stop _ he]
            have h1 : ¬ (er : Int) = 0 := by omega
            have h2 : ((er : Int) != 0) = true := by simp; omega
            clear HC3 he
            go_wp2_with fail
            go_ret
            refine ⟨by rw [HC4.out]; rfl, by rw [HC4.out]; exact HP5.out, (Touch.of_new HB.out).trans HT5.out⟩
        · have hz2 : ¬ Dk.sv dk p = Pg.zeros 128 := hz
          rw [decide_eq_false hz2] at hEq
          have HEQ := Lib.hid hEq
          rw [if_neg hz] at hcr
          have HC : Hid (Rg.claimR d F 4 = Rg.claimR dk (p + 1) (4 - (K + 1))) := by show _ = _; rw [HCL.out, ← HPP.out, hk4, hcr]
          clear hEq hz hz2 ho hcr hk4
          go_wp2_with fail
          refine HEQ.out.mono ?_
          rintro e w4 ⟨rfl, rfl⟩
          clear HEQ
          go_wp2_with fail
          go_roundw
          case rel => exact ⟨K + 1, dk, by have := HK.out; omega, by rw [show F + (K + 1) = p + 1 by have := HPP.out; omega]; go_num, HP3.out, HNK.out, HT3.out, by rw [show F + (K + 1) = p + 1 by have := HPP.out; omega]; exact HC.out⟩
          case measure => have := HPP.out; have := HK.out; simp [intOf]; omega
    · obtain rfl : K = 4 := by omega
      have hres : Rg.claimR d F 4 = (dk, 0) := by rw [HCL.out]; rfl
      have HRES := Lib.hid hres
      clear hres hlt hK hc0
      go_wp2_with fail
      go_ret
      refine ⟨by rw [HRES.out]; rfl, by rw [HRES.out]; exact HPK.out, (Touch.of_new HB.out).trans HT.out⟩
end Go.Proofs.YtbpodmallknhfaaGreat
namespace Go.Proofs.YtbpodmallknhfaaGreat
open Go.RowKit
theorem Fl.map {P0 P1 : World → Prop} {i : Nat} {D : Nat → Bool} {w w' : World} (h : Fl P0 P1 i D w) (f0 : P0 w → P0 w') (f1 : P1 w → P1 w') : Fl P0 P1 i D w' := ⟨fun e => f0 (h.s0 e), fun e => f1 (h.s1 e)⟩
def SeF (B m1 m2 Q S e : Nat) (i : Nat) (u : Value) (w : World) : Prop :=
  match i with
  | 0 => u = .pointer (some ⟨Q, 0, none⟩)
  | 1 => u = .pointer (some ⟨B, 0, none⟩)
  | 2 => u = .pointer (some ⟨Q, 1, none⟩)
  | 3 => u = .pointer (some ⟨Q, 1, none⟩)
  | 4 => u = .int .i64 (S : Int)
  | 5 => ∃ G, u = .slice (some ⟨G, 0, none⟩) 128 128 ∧ ¬ DS B m1 m2 G ∧ Bts w u (Pg.zeros 128)
  | 6 => u = .int .i64 (e : Int)
  | 7 => u = .int .i64 (e : Int)
  | _ => True
theorem rg_boxes (w : World) (B S b N k : Nat) (u : Value) : ∃ W, W = (w.alloc (.cells #[.pointer (some ⟨B, 0, none⟩), .int .i64 (S : Int), .int .i64 (b : Int), .int .i64 (N : Int)] 95)).alloc (.cells #[.int .u64 (k : Int), u] 59) ∧ RgAt W w.heap.size B S b N ∧ W.heap[w.heap.size + 1]? = some (.cells #[.int .u64 (k : Int), u] 59 (0, 0)) ∧ Below w.heap.size w W ∧ W.heap.size = w.heap.size + 2 := by
  obtain ⟨W1, h1, h2, h3, h4⟩ := rg_box w B S b N
  have h5 := heap_alloc_last W1 (.cells #[.int .u64 (k : Int), u] 59)
  rw [h4] at h5
  refine ⟨_, rfl, ?_, ?_, ?_, ?_⟩
  · rw [← h1]; exact h2.below ((Below.refl _ W1).alloc (Nat.le_refl _) _)
  · rw [← h1]; exact h5
  · rw [← h1]; exact h3.alloc (by omega) _
  · rw [← h1]; simp; omega
theorem lies_at {n b N m : Nat} (hb : b + 4 * N ≤ n) (hm : m < N) : Pg.lies n (b : Int) (m : Int) = true ∧ Pg.place (b : Int) (m : Int) = b + 4 * m := by
  refine ⟨decide_eq_true ⟨by omega, by omega, by omega, ?_⟩, by unfold Pg.place; omega⟩
  rw [Int.tdiv_eq_ediv_of_nonneg (by omega)]
  omega
theorem pg_write {n b N m : Nat} {d : Dk.Dev} (hN : Wl.Near n d) (hb : b + 4 * N ≤ n) (hm : m < N) {x : Po.Pg} (hx : Po.PgOk x) : Pg.write d (b : Int) (m : Int) x.1 x.2 = Dk.wrs d (b + 4 * m) (Dk.secs (Pg.form x.1 x.2)) := by
  obtain ⟨h1, h2⟩ := lies_at hb hm
  unfold Pg.write
  rw [if_neg (by rw [hx.2.1]; decide), hN.sz, if_neg (by rw [h1]; decide), h2]
set_option maxHeartbeats 3200000 in
set_option maxRecDepth 20000 in
theorem settle_rg {w : World} {B m1 m2 n S b N m : Nat} {d : Dk.Dev} (hP : PDev w B m1 m2 d) (hN : Wl.Near n d) (ho : d.off = false) (hL : Rg.Lies n S b N) (hm : m < N) (hn : n ≤ 65536) (x : Po.Pg) (u : Value) (hx : Po.PgOk x) (hB : Bts w u x.2) (hBd : ∀ g, u.ownBlock = some g → ¬ DS B m1 m2 g) :
    Calls Tryz.prog 72 #[RgV B S b N, .int .i64 (m : Int), PgV x.1 u] w fun e w' => DevA B m1 m2 (Rg.settleR d S (b + 4 * m) (Pg.form x.1 x.2)) w e w' := by
  have hb4 := hL.base
  have hS := hL.spare
  have hop1 := Rg.op_wrs (A := fun _ => True) (Dk.secs (Pg.form x.1 x.2)) (p := b + 4 * m) hN ho (Dk.secs_sec (by rw [Pg.form_length, hx.2.1]) (Pg.form_lt hx.2.2)) (by rw [Dk.secs_length]; omega) (fun _ _ => trivial)
  obtain ⟨p, cap, hu, -, -, -⟩ := hB.form
  obtain ⟨W, hW, hr, hrp, hb, hsz⟩ := rg_boxes w B S b N x.1 u
  obtain ⟨Q, hQ⟩ : ∃ Q, Q = w.heap.size := ⟨_, rfl⟩
  rw [← hQ] at hr hrp
  have hc0 := hr.c0
  have hc2 := hr.c2
  have p0 := blk_cell hrp 0 (v := .int .u64 (x.1 : Int)) rfl
  have p1 := blk_cell hrp 1 (v := u) rfl
  have hQd : ¬ DS B m1 m2 Q := fun h => by have := hP.lt Q h; omega
  have hpw := pgWrite_any (hP.below hb) (b : Int) (m : Int) x.1 u x.2 (by omega) hx.1 (hB.below hb)
  rw [pg_write hN hb4 hm hx] at hpw
  have HPW := Lib.hid hpw
  have HR := Lib.hid hr
  have HB := Lib.hid hb
  have HQD := Lib.hid hQd
  have HOP := Lib.hid hop1
  have HN := Lib.hid hN
  have HS : Hid (S < n) := by show _ < _; omega
  have HRES : Hid (Rg.settleR d S (b + 4 * m) (Pg.form x.1 x.2) = Rg.bnd (Dk.wrs d (b + 4 * m) (Dk.secs (Pg.form x.1 x.2))) fun d => Rg.bnd (Dk.sync d) fun d => Rg.bnd (Dk.write d (S : Int) Dk.blank) Dk.sync) := rfl
  obtain ⟨RR, hRR⟩ : ∃ RR, RR = Rg.settleR d S (b + 4 * m) (Pg.form x.1 x.2) := ⟨_, rfl⟩
  rw [← hRR]
  have HRES2 := HRES.out
  rw [← hRR] at HRES2
  obtain ⟨r1, hr1⟩ : ∃ r1, r1 = Dk.wrs d (b + 4 * m) (Dk.secs (Pg.form x.1 x.2)) := ⟨_, rfl⟩
  rw [← hr1] at HRES2
  have HPW2 := HPW.out
  rw [← hr1] at HPW2
  have HOP2 := HOP.out
  rw [← hr1] at HOP2
  have HRES3 := Lib.hid HRES2
  have HPW3 := Lib.hid HPW2
  have HOP3 := Lib.hid HOP2
  clear HPW HRES HRES2 HPW2 HOP2 HOP hRR hr1 hpw hop1 hb hr hrp hN hb4 hS hL hm hn hx hB hBd hP hQd
  subst hu
  unfold RgV PgV
  go_enter Tryz.func72, Tryz.ntmps72
  go_upto_region 1 with (fail)
  rw [← hW, ← hQ]
  clear hW hQ
  obtain ⟨d1, e1⟩ := r1
  go_wp2_with fail
  refine HPW3.out.mono ?_
  rintro e w1 ⟨rfl, hp1, ht1⟩
  have HP1 := Lib.hid hp1
  have HT1 := Lib.hid ht1
  have HR1 := Lib.hid (HR.out.touch ht1 HQD.out)
  clear hp1 ht1 HPW3 hc0 hc2 p0 p1
  dsimp only
  by_cases he : e1 = 0
  case neg =>
    have HRS : Hid (RR = (d1, e1)) := by show _ = _; rw [HRES3.out, Rg.bnd_stop _ he]
    have h1 : ¬ (e1 : Int) = 0 := by omega
    have h2 : ((e1 : Int) != 0) = true := by simp; omega
    clear he
    go_wp2_with fail
    go_ret
    exact ⟨by rw [HRS.out]; rfl, by rw [HRS.out]; exact HP1.out, (Touch.of_new HB.out).trans HT1.out⟩
  subst he
  have HRES4 : Hid (RR = Rg.bnd (Dk.sync d1) fun d => Rg.bnd (Dk.write d (S : Int) Dk.blank) Dk.sync) := by show _ = _; rw [HRES3.out, Rg.bnd_go _ rfl]
  have hN1 := HOP3.out.ro.near HN.out
  have HN1 := Lib.hid hN1
  have hop2 := Rg.op_sync (A := fun _ => True) hN1
  have hsy := sync_any HP1.out
  obtain ⟨r2, hr2⟩ : ∃ r2, r2 = Dk.sync d1 := ⟨_, rfl⟩
  rw [← hr2] at hsy hop2
  have HRES5 := HRES4.out
  rw [← hr2] at HRES5
  have HRES6 := Lib.hid HRES5
  have HSY := Lib.hid hsy
  have HOP4 := Lib.hid hop2
  have hc0 := HR1.out.c0
  clear HRES3 HRES4 HRES5 hsy hop2 hr2 hN1
  obtain ⟨d2, e2⟩ := r2
  go_wp2_with fail
  refine HSY.out.mono ?_
  rintro e w2 ⟨rfl, hp2, ht2⟩
  have HP2 := Lib.hid hp2
  have HT2 := Lib.hid (HT1.out.trans ht2)
  have HR2 := Lib.hid (HR1.out.touch ht2 HQD.out)
  clear hp2 ht2 HSY hc0 HP1 HT1 HR1
  dsimp only
  by_cases he : e2 = 0
  case neg =>
    have HRS : Hid (RR = (d2, e2)) := by show _ = _; rw [HRES6.out, Rg.bnd_stop _ he]
    have h1 : ¬ (e2 : Int) = 0 := by omega
    have h2 : ((e2 : Int) != 0) = true := by simp; omega
    clear he
    go_wp2_with fail
    go_ret
    exact ⟨by rw [HRS.out]; rfl, by rw [HRS.out]; exact HP2.out, (Touch.of_new HB.out).trans HT2.out⟩
  subst he
  have HRES7 : Hid (RR = Rg.bnd (Dk.write d2 (S : Int) Dk.blank) Dk.sync) := by show _ = _; rw [HRES6.out, Rg.bnd_go _ rfl]
  have HN2 := Lib.hid (HOP4.out.ro.near HN1.out)
  have HOP5 := Lib.hid (Rg.op_write (A := fun _ => True) HN2.out (i := S) trivial HS.out Dk.sec_blank)
  obtain ⟨r3, hr3⟩ : ∃ r3, r3 = Dk.write d2 (S : Int) Dk.blank := ⟨_, rfl⟩
  have HRES8 := HRES7.out
  have HOP6 := HOP5.out
  rw [← hr3] at HRES8 HOP6
  have HRES9 := Lib.hid HRES8
  have HOP7 := Lib.hid HOP6
  have HR3 := Lib.hid hr3
  clear HRES6 HRES7 HRES8 HOP5 HOP6 hr3
  go_upto_region 7 with (fail)
  refine Ord.walk (SeF B m1 m2 Q S r3.2) (fun D _ w' => Fl (fun w => PDev w B m1 m2 d2 ∧ RgAt w Q B S b N ∧ Touch (DS B m1 m2) W w) (fun w => PDev w B m1 m2 r3.1 ∧ RgAt w Q B S b N ∧ Touch (DS B m1 m2) W w) 6 D w') (Touch (DS B m1 m2)) (by kernel_rfl) (by kernel_rfl) ?fr ?hfr ?hT (fun xs => Fl.first ⟨HP2.out.below (Below.refl _ _).go1, HR2.out.below (Below.refl _ _).go1, HT2.out.drew⟩) ?he ?hend
  case hfr =>
    intro xs
    simp only [Ord.fill, Act.put, List.setIfInBounds_toArray, List.set_cons_zero, List.set_cons_succ]
    rfl
  case hT =>
    intro k v wa wb ht hF
    rcases k with _ | _ | _ | _ | _ | _ | _ | _ | k
    · exact hF
    · exact hF
    · exact hF
    · exact hF
    · exact hF
    · obtain ⟨G, h1, h2, h3⟩ := hF
      exact ⟨G, h1, h2, ht.bts h3 fun _ g e => by
        rw [h1] at e
        simp only [Value.ownBlock, Option.some.injEq] at e
        rw [← e]; exact h2⟩
    · exact hF
    · exact hF
    · trivial
  case he =>
        refine Ord.each_cons (fun D xs w2 hD hC hP hR hA K' hK => ?_) ?_
        ·
          clear hA
          go_simp
          exact hK _ _ ⟨_, rfl, Touch.refl _ _, hR.skip 0 (by decide), rfl⟩
        refine Ord.each_cons (fun D xs w2 hD hC hP hR hA K' hK => ?_) ?_
        ·
          have q0 := Ord.ahead_get _ hA 0 (by decide)
          simp only [SeF] at q0
          simp only [q0] at hK ⊢
          clear hA
          have hrg := hR.any (R := fun w => RgAt w Q B S b N) (fun _ h => h.2.1) (fun _ h => h.2.1)
          have hc := hrg.c0
          go_simp
          exact hK _ _ ⟨_, rfl, Touch.refl _ _, hR.skip 1 (by decide), rfl⟩
        refine Ord.each_cons (fun D xs w2 hD hC hP hR hA K' hK => ?_) ?_
        ·
          clear hA
          go_simp
          exact hK _ _ ⟨_, rfl, Touch.refl _ _, hR.skip 2 (by decide), rfl⟩
        refine Ord.each_cons (fun D xs w2 hD hC hP hR hA K' hK => ?_) ?_
        ·
          have q2 := Ord.ahead_get _ hA 2 (by decide)
          simp only [SeF] at q2
          simp only [q2] at hK ⊢
          clear hA
          go_simp
          exact hK _ _ ⟨_, rfl, Touch.refl _ _, hR.skip 3 (by decide), rfl⟩
        refine Ord.each_cons (fun D xs w2 hD hC hP hR hA K' hK => ?_) ?_
        ·
          have q3 := Ord.ahead_get _ hA 3 (by decide)
          simp only [SeF] at q3
          simp only [q3] at hK ⊢
          clear hA
          have hrg := hR.any (R := fun w => RgAt w Q B S b N) (fun _ h => h.2.1) (fun _ h => h.2.1)
          have hc := hrg.c1
          go_simp
          exact hK _ _ ⟨_, rfl, Touch.refl _ _, hR.skip 4 (by decide), rfl⟩
        refine Ord.each_cons (fun D xs w2 hD hC hP hR hA K' hK => ?_) ?_
        ·
          clear hA
          have hlt := hR.any (R := fun w => ∀ i, DS B m1 m2 i → i < w.heap.size) (fun _ h => h.1.lt) (fun _ h => h.1.lt)
          have hmk : (Instr.makeSlice 57 (.int .i64 128) (.int .i64 128)).run Tryz.prog w2 = .ok (.slice (some ⟨w2.heap.size, 0, none⟩) 128 128) (w2.alloc (.cells ((Pg.zeros 128).map bv).toArray 5)) := made_bytes 128 (by decide) w2
          have hmo := made_own 128 (by decide) w2
          have hbn : Below w2.heap.size w2 (w2.alloc (.cells ((Pg.zeros 128).map bv).toArray 5)) := (Below.refl _ w2).alloc (Nat.le_refl _) _
          go_simp
          exact hK _ _ ⟨_, rfl, Touch.of_new hbn, (hR.map (w' := w2.alloc (.cells ((Pg.zeros 128).map bv).toArray 5)) (fun h => ⟨h.1.below hbn, h.2.1.below hbn, h.2.2.trans (Touch.of_new hbn)⟩) (fun h => ⟨h.1.below hbn, h.2.1.below hbn, h.2.2.trans (Touch.of_new hbn)⟩)).skip 5 (by decide), w2.heap.size, rfl, fun h => Nat.lt_irrefl _ (hlt _ h), hmo.bts⟩
        refine Ord.each_cons (fun D xs w2 hD hC hP hR hA K' hK => ?_) ?_
        ·
          have q1 := Ord.ahead_get _ hA 1 (by decide)
          simp only [SeF] at q1
          have q4 := Ord.ahead_get _ hA 4 (by decide)
          simp only [SeF] at q4
          simp only [q1, q4] at hK ⊢
          have q5 := Ord.ahead_get _ hA 5 (by decide)
          simp only [SeF] at q5
          obtain ⟨G, q5, hG, hGB⟩ := q5
          simp only [q5] at hK ⊢
          rw [q5] at hGB
          clear hA
          have h0 := hR.s0 hD
          have hwr := write_any h0.1 (S : Int) _ (Pg.zeros 128) hGB (fun _ g e => by
  simp only [Value.ownBlock, Option.some.injEq] at e
  subst e
  exact hG)
          go_simp
          refine hwr.mono ?_
          rintro e w3 ⟨rfl, hp', ht'⟩
          have e0 : Dk.write d2 (S : Int) (Pg.zeros 128) = r3 := HR3.out.symm
          rw [e0] at hp' ⊢
          exact hK _ _ ⟨_, rfl, ht', hR.flip ⟨hp', h0.2.1.touch ht' HQD.out, h0.2.2.trans ht'⟩, rfl⟩
        refine Ord.each_cons (fun D xs w2 hD hC hP hR hA K' hK => ?_) ?_
        ·
          have q6 := Ord.ahead_get _ hA 6 (by decide)
          simp only [SeF] at q6
          simp only [q6] at hK ⊢
          clear hA
          go_simp
          exact hK _ _ ⟨_, rfl, Touch.refl _ _, hR.skip 7 (by decide), rfl⟩
        exact Ord.each_nil
  case hend =>
    intro D xs w9 hR hF
    have h9 := hR.s1 (hF 6 (by decide)).1
    have e7 := (hF 7 (by decide)).2
    simp only [SeF] at e7
    rw [e7]
    generalize xs 0 = y0
    generalize xs 1 = y1
    generalize xs 2 = y2
    generalize xs 3 = y3
    generalize xs 4 = y4
    generalize xs 5 = y5
    generalize xs 6 = y6
    have HP9 := Lib.hid h9.1
    have HR9 := Lib.hid h9.2.1
    have HT9 := Lib.hid h9.2.2
    clear hF hR h9 e7 HR3
    obtain ⟨d3, e3⟩ := r3
    dsimp only
    by_cases he : e3 = 0
    case neg =>
      have HRS : Hid (RR = (d3, e3)) := by show _ = _; rw [HRES9.out, Rg.bnd_stop _ he]
      have h1 : ¬ (e3 : Int) = 0 := by omega
      have h2 : ((e3 : Int) != 0) = true := by simp; omega
      clear he
      go_wp2_with fail
      go_ret
      exact ⟨by rw [HRS.out]; rfl, by rw [HRS.out]; exact HP9.out, (Touch.of_new HB.out).trans HT9.out⟩
    subst he
    have HRS : Hid (RR = Dk.sync d3) := by show _ = _; rw [HRES9.out, Rg.bnd_go _ rfl]
    have hsy := sync_any HP9.out
    have HSY := Lib.hid hsy
    have hc0 := HR9.out.c0
    clear hsy
    go_wp2_with fail
    refine HSY.out.mono ?_
    rintro e w8 ⟨rfl, hp8, ht8⟩
    have HP8 := Lib.hid hp8
    have HT8 := Lib.hid (HT9.out.trans ht8)
    clear hp8 ht8 HSY hc0
    go_wp2_with fail
    go_ret
    exact ⟨by rw [HRS.out]; rfl, by rw [HRS.out]; exact HP8.out, (Touch.of_new HB.out).trans HT8.out⟩
end Go.Proofs.YtbpodmallknhfaaGreat
namespace Go.Proofs.YtbpodmallknhfaaGreat
open Go.RowKit
theorem Bts.sec5 {w : World} {g cap : Nat} {l : List Nat} (h : Bts w (.slice (some ⟨g, 0, none⟩) 640 cap) l) (hl : l.length = 640) (i : Nat) (hi : i < 5) : Bts w (.slice (some ⟨g, i * 128, none⟩) 128 (cap - i * 128)) (Rg.part 128 l i) := by
  have h1 := h.congr_drop (i * 128) hl (by omega)
  rw [Nat.zero_add] at h1
  have hd : (l.drop (i * 128)).length = 640 - i * 128 := by simp; omega
  rw [← hd] at h1
  have h2 := h1.take 128 (by rw [hd]; omega)
  rw [Nat.mul_comm i 128] at h2 ⊢
  exact h2
theorem Rg.secs5_drop (b : List Nat) {i : Nat} (hi : i < 5) : (Rg.secs5 b).drop i = Rg.part 128 b i :: (Rg.secs5 b).drop (i + 1) := by
  rcases i with _ | _ | _ | _ | _ | i
  · rfl
  · rfl
  · rfl
  · rfl
  · rfl
  · omega
theorem Dk.wrs_go5 {d : Dk.Dev} {a : Nat} {x : List Nat} {r : List (List Nat)} (h : (Dk.write d (a : Int) x).2 = 0) : Dk.wrs d a (x :: r) = Dk.wrs (Dk.write d (a : Int) x).1 (a + 1) r := by
  show (if (Dk.write d (a : Int) x).2 ≠ 0 then _ else _) = _
  rw [if_neg (by omega)]
theorem Dk.wrs_stop5 {d : Dk.Dev} {a : Nat} {x : List Nat} {r : List (List Nat)} (h : (Dk.write d (a : Int) x).2 ≠ 0) : Dk.wrs d a (x :: r) = Dk.write d (a : Int) x := by
  show (if (Dk.write d (a : Int) x).2 ≠ 0 then _ else _) = _
  rw [if_pos h]
def LayA (B m1 m2 : Nat) (d : Dk.Dev) (S m : Nat) (fm : List Nat) (w : World) (e : Ending) (w' : World) : Prop := ∃ t : Nat, t < 256 ∧ t ∉ Rg.had (Rg.spv d S) 10 ∧ DevA B m1 m2 (Rg.layR d S (Rg.laid fm (Rg.tag m t))) w e w'
def LyF (B Q S g c K e : Nat) (i : Nat) (u : Value) (_ : World) : Prop :=
  match i with
  | 0 => u = .pointer (some ⟨Q, 0, none⟩)
  | 1 => u = .pointer (some ⟨B, 0, none⟩)
  | 2 => u = .pointer (some ⟨Q, 1, none⟩)
  | 3 => u = .pointer (some ⟨Q, 1, none⟩)
  | 4 => u = .int .i64 (S : Int)
  | 5 => u = .int .i64 (K : Int)
  | 6 => u = .int .i64 ((S + K : Nat) : Int)
  | 7 => u = .slice (some ⟨g, 0, none⟩) 640 c
  | 8 => u = .int .i64 (K : Int)
  | 9 => u = .int .i64 ((K * 128 : Nat) : Int)
  | 10 => u = .int .i64 (K : Int)
  | 11 => u = .int .i64 ((K + 1 : Nat) : Int)
  | 12 => u = .int .i64 (((K + 1) * 128 : Nat) : Int)
  | 13 => u = .slice (some ⟨g, K * 128, none⟩) 128 (c - K * 128)
  | 14 => u = .int .i64 (e : Int)
  | 15 => u = .int .i64 (e : Int)
  | _ => True
set_option maxHeartbeats 3200000 in
set_option maxRecDepth 20000 in
theorem lay_rg {w : World} {B m1 m2 n S b N m : Nat} {d : Dk.Dev} (hP : PDev w B m1 m2 d) (hN : Wl.Near n d) (ho : d.off = false) (hL : Rg.Lies n S b N) (hm : m < N) (hn : n ≤ 65536) (x : Po.Pg) (u : Value) (hx : Po.PgOk x) (hB : Bts w u x.2) :
    Calls Tryz.prog 109 #[RgV B S b N, .int .i64 (m : Int), PgV x.1 u] w fun e w' => LayA B m1 m2 d S m (Pg.form x.1 x.2) w e w' := by
  have hb4 := hL.base
  have hS := hL.spare
  have hm6 : m < 65536 := by omega
  obtain ⟨p, cap, hu, -, -, -⟩ := hB.form
  obtain ⟨W, hW, hr, hrp, hb, hsz⟩ := rg_boxes w B S b N x.1 u
  obtain ⟨Q, hQ⟩ : ∃ Q, Q = w.heap.size := ⟨_, rfl⟩
  rw [← hQ] at hr hrp
  have hQd : ¬ DS B m1 m2 Q := fun h => by have := hP.lt Q h; omega
  have HSP := Lib.hid (spare_rg (hP.below hb) hN hS hn (b := b) (N := N))
  have HBB := Lib.hid (hB.below hb)
  have HX := Lib.hid hx
  have HR := Lib.hid hr
  have HRP := Lib.hid hrp
  have HB := Lib.hid hb
  have HQD := Lib.hid hQd
  have HP := Lib.hid (hP.below hb)
  have HN := Lib.hid hN
  have HO := Lib.hid ho
  have HS : Hid (S + 5 ≤ n ∧ n ≤ 65536 ∧ m < 65536) := by show _ ∧ _ ∧ _; omega
  have HDL := Lib.hid (hP.below hb).lt
  have HSV : Hid ((Rg.spv d S).length = 640) := by show _ = _; rw [← svs_five, svs_len hN 5 hS]
  have HFL : Hid ((Pg.form x.1 x.2).length = 512) := by show _ = _; rw [Pg.form_length, hx.2.1]
  have hc0 := hr.c0
  clear hP hN ho hL hb4 hS hm6 hm hn hx hB hb hr hrp hQd hsz
  subst hu
  unfold RgV PgV
  go_enter Tryz.func109, Tryz.ntmps109
  go_upto_region 1 with (fail)
  rw [← hW, ← hQ]
  clear hW hQ hc0
  have hgr : W.cell? ⟨Q, 0, none⟩ = some (.pointer (some ⟨B, 0, none⟩)) := HR.out.c0
  have h1c := HR.out.c1
  have h2c := HR.out.c2
  have h3c := HR.out.c3
  go_wp2_with fail
  refine HSP.out.mono ?_
  rintro e w1 ⟨us, rfl, hb1, hO⟩
  have hO := hO HO.out
  obtain ⟨g, c, hus, hg0, glt, hc1, hc2, -⟩ := own_some hO (by rw [HSV.out]; decide)
  rw [HSV.out] at hus hc1
  subst hus
  rw [HO.out, if_neg (by decide)]
  have HO1 := Lib.hid hO
  have HB1 := Lib.hid hb1
  have hrp1 := HRP.out
  have hrp1 : w1.heap[Q + 1]? = some (.cells #[.int .u64 (x.1 : Int), .slice p x.2.length cap] 59 (0, 0)) := (hb1.block (Q + 1) (lt_of_block hrp1)).trans hrp1
  have p0 := blk_cell hrp1 0 (v := .int .u64 (x.1 : Int)) rfl
  have p1 := blk_cell hrp1 1 (v := .slice p x.2.length cap) rfl
  have hby := pgApi.bytes x.1 (.slice p x.2.length cap) x.2 w1 HX.out.1 (HBB.out.below hb1)
  rw [if_pos HX.out.2.1, if_pos HX.out.2.1] at hby
  have HBY := Lib.hid hby
  clear hby hO hb1 hrp1 HSP hg0 glt hc1 hc2 hgr h1c h2c h3c
  go_wp2_with fail
  refine HBY.out.mono ?_
  rintro e w2 ⟨ub, rfl, hOb, hb2⟩
  obtain ⟨g2, c2, hub, hg0, glt, hc1, hc2, -⟩ := own_some hOb (by rw [HFL.out]; decide)
  rw [HFL.out] at hub hc1
  subst hub
  have HO2 := Lib.hid hOb
  have HB2 := Lib.hid hb2
  have hfr := fresh_any g 0 c (Rg.spv d S) w2 (HO1.out.bts.below hb2) HSV.out
  have HFR := Lib.hid hfr
  clear hfr hOb hb2 HBY p0 p1 hg0 glt hc1 hc2
  go_wp2_with fail
  refine HFR.out.mono ?_
  rintro e w3 ⟨t, ht, hth, rfl, hb3⟩
  have HT := Lib.hid ht
  have HTH := Lib.hid hth
  have HB3 := Lib.hid hb3
  have HTG := Lib.hid (tag_any m t HS.out.2.2 ht w3)
  clear ht hth hb3 HFR
  go_wp2_with fail
  refine HTG.out.mono ?_
  rintro e w4 ⟨ut, rfl, hOt, hb4⟩
  obtain ⟨pt, ct, hut, -, -, -⟩ := hOt.bts.form
  rw [Rg.tag_length] at hut
  subst hut
  have HLO := Lib.hid (laidOut_any g2 0 c2 pt ct (Pg.form x.1 x.2) (Rg.tag m t) w4 ((HO2.out.bts.below HB3.out).below hb4) HFL.out hOt.bts (Rg.tag_length m t))
  have HB4 := Lib.hid hb4
  clear hOt hb4 HTG
  go_wp2_with fail
  refine HLO.out.mono ?_
  rintro e w5 ⟨ul, rfl, hOl, hb5⟩
  have HLL : Hid ((Rg.laid (Pg.form x.1 x.2) (Rg.tag m t)).length = 640) := Rg.laid_length (Rg.tag_length m t) HFL.out
  have HLB : Hid (∀ y ∈ Rg.laid (Pg.form x.1 x.2) (Rg.tag m t), y < 256) := Rg.laid_lt (Rg.tag_lt HT.out) (Pg.form_lt HX.out.2.2)
  obtain ⟨s, hs⟩ : ∃ s, s = Rg.laid (Pg.form x.1 x.2) (Rg.tag m t) := ⟨_, rfl⟩
  rw [← hs] at hOl HLL HLB
  obtain ⟨g5, c5, hul, hg0, glt, hc1, hc2, -⟩ := own_some hOl (by rw [HLL.out]; decide)
  rw [HLL.out] at hul hc1
  subst hul
  have HBA : Hid (Below W.heap.size W w5) := (((HB1.out.trans (HB2.out.mono HB1.out.size)).trans (HB3.out.mono (Nat.le_trans HB1.out.size HB2.out.size))).trans (HB4.out.mono (Nat.le_trans (Nat.le_trans HB1.out.size HB2.out.size) HB3.out.size))).trans (hb5.mono (Nat.le_trans (Nat.le_trans (Nat.le_trans HB1.out.size HB2.out.size) HB3.out.size) HB4.out.size))
  have HC5 : Hid (640 ≤ c5) := hc1
  have HG5 : Hid (¬ DS B m1 m2 g5) := fun h => by
    have h1 := HDL.out g5 h
    have h2 := HB1.out.size
    have h3 := HB2.out.size
    have h4 := HB3.out.size
    have h5 := HB4.out.size
    omega
  have HOL := Lib.hid hOl.bts
  have HP5 := Lib.hid (HP.out.below HBA.out)
  have HR5 := Lib.hid (HR.out.below HBA.out)
  have HSS := Lib.hid hs
  have HBW : Hid (Touch (DS B m1 m2) w w5) := (Touch.of_new HB.out).trans (Touch.of_new HBA.out)
  clear hOl hb5 hs hg0 glt hc1 hc2 HB1 HB2 HB3 HB4 HLO HO1 HO2 HBB HRP HR HP HBA HB HDL HSV HFL
  have HRES : Hid (∀ e' w', DevA B m1 m2 (Rg.layR d S s) w e' w' → LayA B m1 m2 d S m (Pg.form x.1 x.2) w e' w') := fun e' w' h => ⟨t, HT.out, HTH.out, by rw [← HSS.out]; exact h⟩
  clear HT HTH HSS
  go_wp2_with fail
  go_loopw [35] (fun i wr => ∃ (K : Nat) (dk : Dk.Dev), K ≤ 5 ∧ i = .int .i64 K ∧ PDev wr B m1 m2 dk ∧ Touch (DS B m1 m2) w5 wr ∧ Dk.wrs d S (Rg.secs5 s) = Dk.wrs dk (S + K) ((Rg.secs5 s).drop K)) (fun i _ => 5 - (intOf i).toNat)
  case atStart => exact ⟨0, d, Nat.zero_le _, rfl, HP5.out, .refl _ _, rfl⟩
  case round =>
    obtain ⟨K, dk, hK, rfl, hP, hT, he⟩ := hrel
    have HP := Lib.hid hP
    have HTT := Lib.hid hT
    have HE := Lib.hid he
    have HR := Lib.hid (HR5.out.touch hT HQD.out)
    clear hP hT he
    by_cases hlt : K < 5
    · have HK := Lib.hid hlt
      have hi : (K : Int) < 5 := by omega
      have hm1 := IntWalk.i64_in ((K : Int) * 128) (by omega)
      have hm2 := IntWalk.i64_in ((K : Int) + 1) (by omega)
      have hm3 := IntWalk.i64_in (((K : Int) + 1) * 128) (by omega)
      have hm4 := IntWalk.i64_in ((S : Int) + (K : Int)) (by have := HS.out; omega)
      have hsl : 0 ≤ (K : Int) * 128 ∧ (K : Int) * 128 ≤ ((K : Int) + 1) * 128 := by omega
      have HBT := Lib.hid ((HTT.out.bts HOL.out (fun _ g' e hd => by
        simp only [Value.ownBlock, Option.some.injEq] at e
        subst e
        exact HG5.out hd)).sec5 HLL.out K hlt)
      have hsx := Rg.secs5_drop s HK.out
      have hon := Dk.wrs_go5 (d := dk) (a := S + K) (x := Rg.part 128 s K) (r := (Rg.secs5 s).drop (K + 1))
      have hend := Dk.wrs_stop5 (d := dk) (a := S + K) (x := Rg.part 128 s K) (r := (Rg.secs5 s).drop (K + 1))
      rw [← hsx, ← HE.out] at hon hend
      obtain ⟨r, hr⟩ : ∃ r, r = Dk.write dk ((S + K : Nat) : Int) (Rg.part 128 s K) := ⟨_, rfl⟩
      rw [← hr] at hon hend
      have HRW := Lib.hid hr
      have HON := Lib.hid hon
      have HEN := Lib.hid hend
      have HC6 := Lib.hid (show (K + 1) * 128 ≤ c5 by have := HC5.out; omega)
      clear hon hend hr hsx hK hlt HE
      go_upto_region 11 with (fail)
      refine Ord.walk (LyF B Q S g5 c5 K r.2) (fun D _ w' => Fl (fun w => PDev w B m1 m2 dk ∧ RgAt w Q B S b N ∧ Touch (DS B m1 m2) w5 w ∧ Bts w (.slice (some ⟨g5, K * 128, none⟩) 128 (c5 - K * 128)) (Rg.part 128 s K)) (fun w => PDev w B m1 m2 r.1 ∧ RgAt w Q B S b N ∧ Touch (DS B m1 m2) w5 w) 14 D w') (Touch (DS B m1 m2)) (by kernel_rfl) (by kernel_rfl) ?fr ?hfr ?hT (fun xs => Fl.first ⟨HP.out.below (Below.refl _ _).go1, HR.out.below (Below.refl _ _).go1, HTT.out.drew, HBT.out.below (Below.refl _ _).go1⟩) ?he ?hend
      case hfr =>
        intro xs
        simp only [Ord.fill, Act.put, List.setIfInBounds_toArray, List.set_cons_zero, List.set_cons_succ]
        rfl
      case hT =>
        intro k v wa wb ht hF
        exact hF
      case he =>
        refine Ord.each_cons (fun D xs w2 hD hC hP hR hA K' hK => ?_) ?_
        ·
          clear hA
          go_simp
          exact hK _ _ ⟨_, rfl, Touch.refl _ _, hR.skip 0 (by decide), rfl⟩
        refine Ord.each_cons (fun D xs w2 hD hC hP hR hA K' hK => ?_) ?_
        ·
          have q0 := Ord.ahead_get _ hA 0 (by decide)
          simp only [LyF] at q0
          simp only [q0] at hK ⊢
          clear hA
          have hrg := hR.any (R := fun w => RgAt w Q B S b N) (fun _ h => h.2.1) (fun _ h => h.2.1)
          have hc := hrg.c0
          go_simp
          exact hK _ _ ⟨_, rfl, Touch.refl _ _, hR.skip 1 (by decide), rfl⟩
        refine Ord.each_cons (fun D xs w2 hD hC hP hR hA K' hK => ?_) ?_
        ·
          clear hA
          go_simp
          exact hK _ _ ⟨_, rfl, Touch.refl _ _, hR.skip 2 (by decide), rfl⟩
        refine Ord.each_cons (fun D xs w2 hD hC hP hR hA K' hK => ?_) ?_
        ·
          have q2 := Ord.ahead_get _ hA 2 (by decide)
          simp only [LyF] at q2
          simp only [q2] at hK ⊢
          clear hA
          go_simp
          exact hK _ _ ⟨_, rfl, Touch.refl _ _, hR.skip 3 (by decide), rfl⟩
        refine Ord.each_cons (fun D xs w2 hD hC hP hR hA K' hK => ?_) ?_
        ·
          have q3 := Ord.ahead_get _ hA 3 (by decide)
          simp only [LyF] at q3
          simp only [q3] at hK ⊢
          clear hA
          have hrg := hR.any (R := fun w => RgAt w Q B S b N) (fun _ h => h.2.1) (fun _ h => h.2.1)
          have hc := hrg.c1
          go_simp
          exact hK _ _ ⟨_, rfl, Touch.refl _ _, hR.skip 4 (by decide), rfl⟩
        refine Ord.each_cons (fun D xs w2 hD hC hP hR hA K' hK => ?_) ?_
        ·
          clear hA
          go_simp
          exact hK _ _ ⟨_, rfl, Touch.refl _ _, hR.skip 5 (by decide), rfl⟩
        refine Ord.each_cons (fun D xs w2 hD hC hP hR hA K' hK => ?_) ?_
        ·
          have q4 := Ord.ahead_get _ hA 4 (by decide)
          simp only [LyF] at q4
          have q5 := Ord.ahead_get _ hA 5 (by decide)
          simp only [LyF] at q5
          simp only [q4, q5] at hK ⊢
          clear hA
          go_simp
          exact hK _ _ ⟨_, rfl, Touch.refl _ _, hR.skip 6 (by decide), rfl⟩
        refine Ord.each_cons (fun D xs w2 hD hC hP hR hA K' hK => ?_) ?_
        ·
          clear hA
          go_simp
          exact hK _ _ ⟨_, rfl, Touch.refl _ _, hR.skip 7 (by decide), rfl⟩
        refine Ord.each_cons (fun D xs w2 hD hC hP hR hA K' hK => ?_) ?_
        ·
          clear hA
          go_simp
          exact hK _ _ ⟨_, rfl, Touch.refl _ _, hR.skip 8 (by decide), rfl⟩
        refine Ord.each_cons (fun D xs w2 hD hC hP hR hA K' hK => ?_) ?_
        ·
          have q8 := Ord.ahead_get _ hA 8 (by decide)
          simp only [LyF] at q8
          simp only [q8] at hK ⊢
          clear hA
          go_simp
          exact hK _ _ ⟨_, rfl, Touch.refl _ _, hR.skip 9 (by decide), rfl⟩
        refine Ord.each_cons (fun D xs w2 hD hC hP hR hA K' hK => ?_) ?_
        ·
          clear hA
          go_simp
          exact hK _ _ ⟨_, rfl, Touch.refl _ _, hR.skip 10 (by decide), rfl⟩
        refine Ord.each_cons (fun D xs w2 hD hC hP hR hA K' hK => ?_) ?_
        ·
          have q10 := Ord.ahead_get _ hA 10 (by decide)
          simp only [LyF] at q10
          simp only [q10] at hK ⊢
          clear hA
          go_simp
          exact hK _ _ ⟨_, rfl, Touch.refl _ _, hR.skip 11 (by decide), rfl⟩
        refine Ord.each_cons (fun D xs w2 hD hC hP hR hA K' hK => ?_) ?_
        ·
          have q11 := Ord.ahead_get _ hA 11 (by decide)
          simp only [LyF] at q11
          simp only [q11] at hK ⊢
          clear hA
          go_simp
          exact hK _ _ ⟨_, rfl, Touch.refl _ _, hR.skip 12 (by decide), rfl⟩
        refine Ord.each_cons (fun D xs w2 hD hC hP hR hA K' hK => ?_) ?_
        ·
          have q7 := Ord.ahead_get _ hA 7 (by decide)
          simp only [LyF] at q7
          have q9 := Ord.ahead_get _ hA 9 (by decide)
          simp only [LyF] at q9
          have q12 := Ord.ahead_get _ hA 12 (by decide)
          simp only [LyF] at q12
          simp only [q7, q9, q12] at hK ⊢
          clear hA
          have hc6 := HC6.out
          go_simp
          rw [if_pos (by omega), if_pos (by omega), if_neg (by omega), show (((K : Int) + 1) * 128).toNat - ((K : Int) * 128).toNat = 128 by omega, show ((K : Int) * 128).toNat = K * 128 by omega]
          exact hK _ _ ⟨_, rfl, Touch.refl _ _, hR.skip 13 (by decide), rfl⟩
        refine Ord.each_cons (fun D xs w2 hD hC hP hR hA K' hK => ?_) ?_
        ·
          have q1 := Ord.ahead_get _ hA 1 (by decide)
          simp only [LyF] at q1
          have q6 := Ord.ahead_get _ hA 6 (by decide)
          simp only [LyF] at q6
          have q13 := Ord.ahead_get _ hA 13 (by decide)
          simp only [LyF] at q13
          simp only [q1, q6, q13] at hK ⊢
          clear hA
          have h0 := hR.s0 hD
          have hwr := write_any h0.1 ((S + K : Nat) : Int) _ (Rg.part 128 s K) h0.2.2.2 (fun _ g e => by
  simp only [Value.ownBlock, Option.some.injEq] at e
  subst e
  exact HG5.out)
          rw [← HRW.out] at hwr
          go_simp
          refine hwr.mono ?_
          rintro e w3 ⟨rfl, hp', ht'⟩
          exact hK _ _ ⟨_, rfl, ht', hR.flip ⟨hp', h0.2.1.touch ht' HQD.out, h0.2.2.1.trans ht'⟩, rfl⟩
        refine Ord.each_cons (fun D xs w2 hD hC hP hR hA K' hK => ?_) ?_
        ·
          have q14 := Ord.ahead_get _ hA 14 (by decide)
          simp only [LyF] at q14
          simp only [q14] at hK ⊢
          clear hA
          go_simp
          exact hK _ _ ⟨_, rfl, Touch.refl _ _, hR.skip 15 (by decide), rfl⟩
        exact Ord.each_nil
      case hend =>
        intro D xs w9 hR hF
        have h9 := hR.s1 (hF 14 (by decide)).1
        have e7 := (hF 15 (by decide)).2
        simp only [LyF] at e7
        rw [e7]
        generalize xs 0 = y0
        generalize xs 1 = y1
        generalize xs 2 = y2
        generalize xs 3 = y3
        generalize xs 4 = y4
        generalize xs 5 = y5
        generalize xs 6 = y6
        generalize xs 7 = y7
        generalize xs 8 = y8
        generalize xs 9 = y9
        generalize xs 10 = y10
        generalize xs 11 = y11
        generalize xs 12 = y12
        generalize xs 13 = y13
        generalize xs 14 = y14
        have HP9 := Lib.hid h9.1
        have HT9 := Lib.hid h9.2.2
        clear hF hR h9 e7 HRW hm1 hm3 hm4 hsl
        obtain ⟨d3, e3⟩ := r
        dsimp only
        by_cases he : e3 = 0
        case neg =>
          have HRS : Hid (Rg.layR d S s = (d3, e3)) := by show Rg.bnd _ _ = _; rw [HEN.out he, Rg.bnd_stop _ he]
          have h1 : ¬ (e3 : Int) = 0 := by omega
          have h2 : ((e3 : Int) != 0) = true := by simp; omega
          clear he
          go_wp2_with fail
          go_ret
          exact HRES.out _ _ ⟨by rw [HRS.out]; rfl, by rw [HRS.out]; exact HP9.out, HBW.out.trans HT9.out⟩
        subst he
        have HONN := Lib.hid (HON.out rfl)
        clear HON HEN
        go_wp2_with fail
        go_roundw
        case rel => exact ⟨K + 1, d3, HK.out, by go_num, HP9.out, HT9.out, HONN.out⟩
        case measure => have := HK.out; simp [intOf]; omega
    · obtain rfl : K = 5 := by omega
      have HRS : Hid (Rg.layR d S s = Dk.sync dk) := by show Rg.bnd _ _ = _; rw [HE.out]; exact Rg.bnd_go _ rfl
      have HSY := Lib.hid (sync_any HP.out)
      have hc0 := HR.out.c0
      clear hlt hK HE
      go_wp2_with fail
      refine HSY.out.mono ?_
      rintro e w8 ⟨rfl, hp8, ht8⟩
      have HP8 := Lib.hid hp8
      have HT8 := Lib.hid (HTT.out.trans ht8)
      clear hp8 ht8 HSY hc0
      go_wp2_with fail
      go_ret
      exact HRES.out _ _ ⟨by rw [HRS.out]; rfl, by rw [HRS.out]; exact HP8.out, HBW.out.trans HT8.out⟩
end Go.Proofs.YtbpodmallknhfaaGreat
namespace Go.Proofs.YtbpodmallknhfaaGreat
open Go.RowKit
theorem Rg.had_length (s : List Nat) (m : Nat) : (Rg.had s m).length = m := by unfold Rg.had; rw [List.length_map, List.length_range]
theorem Rg.some_turn (s : List Nat) : ∃ t : Nat, t < 256 ∧ t ∉ Rg.had s 10 := by
  refine Classical.byContradiction fun h => ?_
  have := Rg.all_le 256 (Rg.had s 10) fun j hj => Classical.byContradiction fun hn => h ⟨j, hj, hn⟩
  rw [Rg.had_length] at this
  omega
theorem Rg.claim_spv {n S b N m : Nat} {d : Dk.Dev} {f : Nat → Po.Pg} (hN : Wl.Near n d) (hL : Rg.Lies n S b N) (h : Rg.HwN S b N d f) (hm : m < N) : Rg.spv (Rg.claimR d (b + 4 * m) 4).1 S = Rg.sp d S := by
  have hB := hL.base
  obtain ⟨c1, c2⟩ := Rg.claim_eff 4 hN (p := b + 4 * m) (by omega) fun j hj => h.quiet (Rg.home_has (S := S) hm hj)
  rw [Rg.spv_quiet fun j hj x hx => ?_]
  · exact Rg.sp_eq fun j _ => c1 _
  · rcases c2 (S + j) with e | ⟨-, -, e⟩
    · rw [e, h.idle _ (Rg.spare_has hj)] at hx; cases hx
    · rw [e] at hx
      cases hx
      exact (c1 _).symm
def RwA (B m1 m2 : Nat) (d : Dk.Dev) (S b m : Nat) (fm : List Nat) (w : World) (e : Ending) (w' : World) : Prop := ∃ t : Nat, t < 256 ∧ t ∉ Rg.had (Rg.sp d S) 10 ∧ DevA B m1 m2 (Rg.writeR d S (b + 4 * m) fm (Rg.laid fm (Rg.tag m t))) w e w'
set_option maxHeartbeats 3200000 in
set_option maxRecDepth 20000 in
theorem write_rg {w : World} {B m1 m2 n S b N m : Nat} {d : Dk.Dev} {f : Nat → Po.Pg} (hP : PDev w B m1 m2 d) (hN : Wl.Near n d) (hW : Rg.HwN S b N d f) (hL : Rg.Lies n S b N) (hm : m < N) (hn : n ≤ 65536) (x : Po.Pg) (u : Value) (hx : Po.PgOk x) (hB : Bts w u x.2) (hBd : ∀ g, u.ownBlock = some g → ¬ DS B m1 m2 g) :
    Calls Tryz.prog 79 #[RgV B S b N, .int .i64 (m : Int), PgV x.1 u] w fun e w' => RwA B m1 m2 d S b m (Pg.form x.1 x.2) w e w' := by
  have hb4 := hL.base
  have hspv := Rg.claim_spv hN hL hW hm
  have hop : Rg.Op (Rg.Has S b N) n d (Rg.claimR d (b + 4 * m) 4) := Rg.op_claim 4 hN (by decide) (by omega) fun j hj => Rg.home_has hm hj
  obtain ⟨p, cap, hu, -, -, -⟩ := hB.form
  obtain ⟨W, hWW, hr, hrp, hb, hsz⟩ := rg_boxes w B S b N x.1 u
  obtain ⟨Q, hQ⟩ : ∃ Q, Q = w.heap.size := ⟨_, rfl⟩
  rw [← hQ] at hr hrp
  have hQd : ¬ DS B m1 m2 Q := fun h => by have := hP.lt Q h; omega
  have hQ1 : ¬ DS B m1 m2 (Q + 1) := fun h => by have := hP.lt (Q + 1) h; omega
  obtain ⟨r1, hr1⟩ : ∃ r1, r1 = Rg.claimR d (b + 4 * m) 4 := ⟨_, rfl⟩
  have HCL := claim_rg (hP.below hb) hN hb4 hm hn (S := S)
  rw [← hr1] at hspv hop HCL
  have HCL := Lib.hid HCL
  have HSPV := Lib.hid hspv
  have HOP := Lib.hid hop
  have HX := Lib.hid hx
  have HR := Lib.hid hr
  have HRP := Lib.hid hrp
  have HB := Lib.hid hb
  have HBB := Lib.hid (hB.below hb)
  have HBD := Lib.hid hBd
  have HQD := Lib.hid hQd
  have HQ1 := Lib.hid hQ1
  have HN := Lib.hid hN
  have HL := Lib.hid hL
  have HMM : Hid (m < N ∧ n ≤ 65536) := ⟨hm, hn⟩
  have HW1 : Hid (∀ fm nb, r1.2 ≠ 0 → Rg.writeR d S (b + 4 * m) fm nb = r1) := fun fm nb h => by unfold Rg.writeR; rw [← hr1]; exact Rg.bnd_stop _ h
  have HW2 : Hid (∀ fm nb, r1.2 = 0 → Rg.writeR d S (b + 4 * m) fm nb = Rg.bnd (Rg.layR r1.1 S nb) fun d => Rg.settleR d S (b + 4 * m) fm) := fun fm nb h => by unfold Rg.writeR; rw [← hr1]; exact Rg.bnd_go _ h
  have hc0 := hr.c0
  have h1c := hr.c1
  have h2c := hr.c2
  have h3c := hr.c3
  clear hP hN hW hL hb4 hm hn hx hB hBd hb hr hrp hQd hQ1 hsz hspv hop hr1
  subst hu
  unfold RgV PgV
  go_enter Tryz.func79, Tryz.ntmps79
  go_upto_region 1 with (fail)
  rw [← hWW, ← hQ]
  clear hWW hQ
  go_wp2_with fail
  refine HCL.out.mono ?_
  rintro e w1 ⟨rfl, hp1, ht1⟩
  have HP1 := Lib.hid hp1
  have HT1 := Lib.hid ht1
  have HR1 := Lib.hid (HR.out.touch ht1 HQD.out)
  have hrp1 : w1.heap[Q + 1]? = some (.cells #[.int .u64 (x.1 : Int), .slice p x.2.length cap] 59 (0, 0)) := ht1.row HRP.out HQ1.out
  have HRP1 := Lib.hid hrp1
  have HB1 := Lib.hid (ht1.bts HBB.out (fun _ => HBD.out))
  obtain ⟨d1, e1⟩ := r1
  dsimp only
  clear hp1 ht1 hrp1 HCL hc0 h1c h2c h3c HR HRP HBB
  by_cases he : e1 = 0
  case neg =>
    obtain ⟨t, ht, hth⟩ := Rg.some_turn (Rg.sp d S)
    have HT := Lib.hid (And.intro ht hth)
    have HRS := Lib.hid (HW1.out (Pg.form x.1 x.2) (Rg.laid (Pg.form x.1 x.2) (Rg.tag m t)) he)
    have h1 : ¬ (e1 : Int) = 0 := by omega
    have h2 : ((e1 : Int) != 0) = true := by simp; omega
    clear he ht hth HW1 HW2
    go_wp2_with fail
    go_ret
    exact ⟨t, HT.out.1, HT.out.2, by rw [HRS.out]; rfl, by rw [HRS.out]; exact HP1.out, (Touch.of_new HB.out).trans HT1.out⟩
  subst he
  have hN1 := HOP.out.ro.near HN.out
  have ho1 := HOP.out.on rfl
  have HLY := Lib.hid (lay_rg HP1.out hN1 ho1 HL.out HMM.out.1 HMM.out.2 x _ HX.out HB1.out)
  have HN1 := Lib.hid hN1
  have HO1 := Lib.hid ho1
  have hc0 := HR1.out.c0
  have h1c := HR1.out.c1
  have h2c := HR1.out.c2
  have h3c := HR1.out.c3
  have p0 := blk_cell HRP1.out 0 (v := .int .u64 (x.1 : Int)) rfl
  have p1 := blk_cell HRP1.out 1 (v := .slice p x.2.length cap) rfl
  clear hN1 ho1 HW1
  go_wp2_with fail
  refine HLY.out.mono ?_
  rintro e w2 ⟨t, ht, hth, rfl, hp2, ht2⟩
  have hth : t ∉ Rg.had (Rg.sp d S) 10 := by rw [← HSPV.out]; exact hth
  have hop2 := Rg.op_lay (S := S) HN1.out HO1.out HL.out (nb := Rg.laid (Pg.form x.1 x.2) (Rg.tag m t)) (Rg.laid_length (Rg.tag_length m t) (by rw [Pg.form_length, HX.out.2.1])) (Rg.laid_lt (Rg.tag_lt ht) (Pg.form_lt HX.out.2.2))
  have hw2 := HW2.out (Pg.form x.1 x.2) (Rg.laid (Pg.form x.1 x.2) (Rg.tag m t)) trivial
  generalize Rg.layR d1 S (Rg.laid (Pg.form x.1 x.2) (Rg.tag m t)) = r2 at hp2 hop2 hw2 ⊢
  have HT := Lib.hid (And.intro ht hth)
  have HP2 := Lib.hid hp2
  have HT2 := Lib.hid (HT1.out.trans ht2)
  have HR2 := Lib.hid (HR1.out.touch ht2 HQD.out)
  have hrp2 : w2.heap[Q + 1]? = some (.cells #[.int .u64 (x.1 : Int), .slice p x.2.length cap] 59 (0, 0)) := ht2.row HRP1.out HQ1.out
  have HRP2 := Lib.hid hrp2
  have HB2 := Lib.hid (ht2.bts HB1.out (fun _ => HBD.out))
  have HW3 := Lib.hid hw2
  have HOP2 := Lib.hid hop2
  obtain ⟨d2, e2⟩ := r2
  dsimp only
  clear hp2 ht2 hrp2 hw2 hop2 HLY hc0 h1c h2c h3c p0 p1 ht hth HW2 HR1 HRP1 HB1 HP1 HT1
  by_cases he : e2 = 0
  case neg =>
    have HRS : Hid (Rg.writeR d S (b + 4 * m) (Pg.form x.1 x.2) (Rg.laid (Pg.form x.1 x.2) (Rg.tag m t)) = (d2, e2)) := by show _ = _; rw [HW3.out, Rg.bnd_stop _ he]
    have h1 : ¬ (e2 : Int) = 0 := by omega
    have h2 : ((e2 : Int) != 0) = true := by simp; omega
    clear he
    go_wp2_with fail
    go_ret
    exact ⟨t, HT.out.1, HT.out.2, by rw [HRS.out]; rfl, by rw [HRS.out]; exact HP2.out, (Touch.of_new HB.out).trans HT2.out⟩
  subst he
  have HRS : Hid (Rg.writeR d S (b + 4 * m) (Pg.form x.1 x.2) (Rg.laid (Pg.form x.1 x.2) (Rg.tag m t)) = Rg.settleR d2 S (b + 4 * m) (Pg.form x.1 x.2)) := by show _ = _; rw [HW3.out, Rg.bnd_go _ rfl]
  have HST := Lib.hid (settle_rg HP2.out (HOP2.out.ro.near HN1.out) (HOP2.out.on rfl) HL.out HMM.out.1 HMM.out.2 x _ HX.out HB2.out HBD.out)
  have hc0 := HR2.out.c0
  have h1c := HR2.out.c1
  have h2c := HR2.out.c2
  have h3c := HR2.out.c3
  have p0 := blk_cell HRP2.out 0 (v := .int .u64 (x.1 : Int)) rfl
  have p1 := blk_cell HRP2.out 1 (v := .slice p x.2.length cap) rfl
  clear HW3
  go_wp2_with fail
  refine HST.out.mono ?_
  rintro e w3 ⟨rfl, hp3, ht3⟩
  have HP3 := Lib.hid hp3
  have HT3 := Lib.hid (HT2.out.trans ht3)
  clear hp3 ht3 HST hc0 h1c h2c h3c p0 p1
  go_wp2_with fail
  go_ret
  exact ⟨t, HT.out.1, HT.out.2, by rw [HRS.out]; rfl, by rw [HRS.out]; exact HP3.out, (Touch.of_new HB.out).trans HT3.out⟩
theorem Rg.cut_ok {n S : Nat} {d : Dk.Dev} (hN : Wl.Near n d) (hS : S + 5 ≤ n) (h : Pg.openE (Rg.cut (Rg.spv d S)) = 0) : Po.PgOk (Pg.openN (Rg.cut (Rg.spv d S)), Pg.openL (Rg.cut (Rg.spv d S))) := by
  have hs : ∀ x ∈ Rg.spv d S, x < 256 := by
    intro x hx
    unfold Rg.spv at hx
    rcases List.mem_append.1 hx with hx | hx
    · exact (sv_len hN (by omega)).2 x hx
    rcases List.mem_append.1 hx with hx | hx
    · exact (sv_len hN (by omega)).2 x hx
    rcases List.mem_append.1 hx with hx | hx
    · exact (sv_len hN (by omega)).2 x hx
    rcases List.mem_append.1 hx with hx | hx
    · exact (sv_len hN (by omega)).2 x hx
    · exact (sv_len hN (by omega)).2 x hx
  have hc : ∀ x ∈ Rg.cut (Rg.spv d S), x < 256 := fun x hx => by
    have hx := List.mem_of_mem_take hx
    obtain ⟨i, -, hi⟩ := List.mem_flatMap.1 hx
    exact Rg.part_lt hs i x (List.mem_of_mem_drop hi)
  refine ⟨?_, Rg.openL_len h, Pg.openL_lt hc⟩
  show Pg.openN _ < _
  unfold Pg.openN
  rw [if_pos h]
  have hx := Cod.num_lt ((List.drop 4 (Rg.cut (Rg.spv d S))).take 8) fun z hz => hc z (List.mem_of_mem_drop (List.mem_of_mem_take hz))
  have hl : ((List.drop 4 (Rg.cut (Rg.spv d S))).take 8).length ≤ 8 := List.length_take_le _ _
  have : (256 : Nat) ^ ((List.drop 4 (Rg.cut (Rg.spv d S))).take 8).length ≤ 256 ^ 8 := Nat.pow_le_pow_right (by decide) hl
  have e8 : (256 : Nat) ^ 8 = 18446744073709551616 := by decide
  omega
set_option maxHeartbeats 3200000 in
set_option maxRecDepth 20000 in
theorem mend_rg {w : World} {B m1 m2 n S b N : Nat} {d : Dk.Dev} (hP : PDev w B m1 m2 d) (hN : Wl.Near n d) (hL : Rg.Lies n S b N) (hn : n ≤ 65536) :
    Calls Tryz.prog 46 #[RgV B S b N] w fun e w' => DevA B m1 m2 (Rg.mendR d S b N) w e w' := by
  have hS := hL.spare
  obtain ⟨W, hW, hr, hb, hsz⟩ := rg_box w B S b N
  obtain ⟨Q, hQ⟩ : ∃ Q, Q = w.heap.size := ⟨_, rfl⟩
  rw [← hQ] at hr
  have HSP := Lib.hid (spare_rg (hP.below hb) hN hS hn (b := b) (N := N))
  have HR := Lib.hid hr
  have HB := Lib.hid hb
  have HP := Lib.hid (hP.below hb)
  have HN := Lib.hid hN
  have HL := Lib.hid hL
  have HNN : Hid (n ≤ 65536) := hn
  have HDL := Lib.hid (hP.below hb).lt
  have HSV : Hid ((Rg.spv d S).length = 640) := by show _ = _; rw [← svs_five, svs_len hN 5 hS]
  have hc0 := hr.c0
  have h1c := hr.c1
  have h2c := hr.c2
  have h3c := hr.c3
  clear hP hN hL hn hS hb hr hsz
  unfold RgV
  go_enter Tryz.func46, Tryz.ntmps46
  go_upto_region 1 with (fail)
  rw [← hW, ← hQ]
  clear hW hQ
  go_wp2_with fail
  refine HSP.out.mono ?_
  rintro e w1 ⟨us, rfl, hb1, hO⟩
  have HB1 := Lib.hid hb1
  have HR1 := Lib.hid (HR.out.below hb1)
  have HP1 := Lib.hid (HP.out.below hb1)
  rcases Bool.eq_false_or_eq_true d.off with ho | ho
  · have HRS : Hid (Rg.mendR d S b N = (d, 6)) := Rg.mend_off ho
    rw [ho, if_pos rfl]
    clear ho hO hb1 HSP hc0 h1c h2c h3c
    go_wp2_with fail
    go_ret
    exact ⟨by rw [HRS.out]; rfl, by rw [HRS.out]; exact HP1.out, (Touch.of_new HB.out).trans (Touch.of_new HB1.out)⟩
  have hO := hO ho
  obtain ⟨g, c, hus, hg0, glt, hc1, hc2, -⟩ := own_some hO (by rw [HSV.out]; decide)
  rw [HSV.out] at hus hc1
  subst hus
  rw [ho, if_neg (by decide)]
  have HO := Lib.hid ho
  have HWH := Lib.hid (whole_any g 0 c (Rg.spv d S) w1 hO.bts HSV.out)
  clear ho hO hb1 HSP hc0 h1c h2c h3c hg0 glt hc1 hc2
  go_wp2_with fail
  refine HWH.out.mono ?_
  rintro e w2 ⟨k, v, u, ok, rfl, ⟨pu, lu, cu, rfl⟩, hb2, hy, hno⟩
  obtain ⟨W3, hW3⟩ : ∃ W3, W3 = w2.alloc (.cells #[.int .u64 (v : Int), .slice pu lu cu] 59) := ⟨_, rfl⟩
  obtain ⟨R, hR⟩ : ∃ R, R = w2.heap.size := ⟨_, rfl⟩
  have hb3 : Below w2.heap.size w2 W3 := by rw [hW3]; exact (Below.refl _ _).alloc (Nat.le_refl _) _
  have hb23 : Below w1.heap.size w1 W3 := hb2.trans (hb3.mono hb2.size)
  have hrow : W3.heap[R]? = some (.cells #[.int .u64 (v : Int), .slice pu lu cu] 59 (0, 0)) := by rw [hW3, hR]; exact heap_alloc_last _ _
  have hy3 : ok = true → Rg.Told (Rg.spv d S) ∧ Pg.openE (Rg.cut (Rg.spv d S)) = 0 ∧ k = Rg.pageOf (Rg.spv d S) ∧ v = Pg.openN (Rg.cut (Rg.spv d S)) ∧ Own w1.heap.size W3 (.slice pu lu cu) (Pg.openL (Rg.cut (Rg.spv d S))) := fun e => by
    obtain ⟨h1, h2, h3, h4, h5⟩ := hy e
    exact ⟨h1, h2, h3, h4, h5.below hb3⟩
  have HB2 := Lib.hid hb23
  have HY := Lib.hid hy3
  have HNO := Lib.hid hno
  have HR3 := Lib.hid (HR1.out.below hb23)
  have HP3 := Lib.hid (HP1.out.below hb23)
  have HROW := Lib.hid hrow
  have HHAS := Lib.hid (has_rg B S b N (k : Int) W3)
  clear hb2 hy hy3 hno HWH hb3 hb23 hrow
  unfold PgV
  rcases Bool.eq_false_or_eq_true ok with hok | hok
  case inr =>
    have HRS : Hid (Rg.mendR d S b N = (d, 0)) := Rg.mend_no HO.out fun h => HNO.out hok ⟨h.1, h.2.1⟩
    subst hok
    clear HY HNO
    go_wp2_with fail
    go_ret
    rw [← hW3]
    exact ⟨by rw [HRS.out]; rfl, by rw [HRS.out]; exact HP3.out, (Touch.of_new HB.out).trans ((Touch.of_new HB1.out).trans (Touch.of_new HB2.out))⟩
  obtain ⟨h1, h2, h3, h4, h5⟩ := HY.out hok
  subst hok
  have HT1 := Lib.hid (And.intro h1 h2)
  have HK := Lib.hid h3
  have HV := Lib.hid h4
  have HU := Lib.hid h5
  clear h1 h2 h3 h4 h5 HY HNO
  have hc0 := HR3.out.c0
  have h1c := HR3.out.c1
  have h2c := HR3.out.c2
  have h3c := HR3.out.c3
  go_upto_region 5 with (fail)
  rw [← hW3, ← hR]
  clear hW3 hR
  go_wp2_with fail
  refine HHAS.out.mono ?_
  rintro e w4 ⟨rfl, hb4⟩
  have HB4 := Lib.hid hb4
  have HR4 := Lib.hid (HR3.out.below hb4)
  have HP4 := Lib.hid (HP3.out.below hb4)
  have HU4 := Lib.hid (HU.out.below hb4)
  have hrow4 : w4.heap[R]? = some (.cells #[.int .u64 (v : Int), .slice pu lu cu] 59 (0, 0)) := (hb4.block R (lt_of_block HROW.out)).trans HROW.out
  have HROW4 := Lib.hid hrow4
  have HTT : Hid (Touch (DS B m1 m2) w w4) := (Touch.of_new HB.out).trans ((Touch.of_new HB1.out).trans ((Touch.of_new HB2.out).trans (Touch.of_new hb4)))
  clear hb4 hrow4 HHAS hc0 h1c h2c h3c
  by_cases hkn : k < N
  case neg =>
    have HRS : Hid (Rg.mendR d S b N = (d, 0)) := Rg.mend_no HO.out fun h => hkn (by rw [HK.out]; exact h.2.2)
    rw [decide_eq_false (show ¬ (0 ≤ (k : Int) ∧ (k : Int) < (N : Int)) by omega)]
    clear hkn
    go_wp2_with fail
    go_ret
    exact ⟨by rw [HRS.out]; rfl, by rw [HRS.out]; exact HP4.out, HTT.out⟩
  have hmy : Rg.mendR d S b N = Rg.settleR d S (b + 4 * k) (Pg.form v (Pg.openL (Rg.cut (Rg.spv d S)))) := by
    rw [Rg.mend_yes HO.out ⟨HT1.out.1, HT1.out.2, by rw [← HK.out]; exact hkn⟩, ← HK.out, ← HV.out]
  have hst := settle_rg HP4.out HN.out HO.out HL.out hkn HNN.out (Pg.openN (Rg.cut (Rg.spv d S)), Pg.openL (Rg.cut (Rg.spv d S))) _ (Rg.cut_ok HN.out HL.out.spare HT1.out.2) HU4.out.bts fun g' e hd => own_nota HU4.out e (by have := HDL.out g' hd; have := HB1.out.size; omega)
  dsimp only at hst
  rw [← HV.out, ← hmy] at hst
  have HST := Lib.hid hst
  rw [decide_eq_true (show 0 ≤ (k : Int) ∧ (k : Int) < (N : Int) by omega)]
  have hc0 := HR4.out.c0
  have h1c := HR4.out.c1
  have h2c := HR4.out.c2
  have h3c := HR4.out.c3
  have p0 := blk_cell HROW4.out 0 (v := .int .u64 (v : Int)) rfl
  have p1 := blk_cell HROW4.out 1 (v := .slice pu lu cu) rfl
  clear hst hmy hkn
  go_wp2_with fail
  refine HST.out.mono ?_
  rintro e w5 ⟨rfl, hp5, ht5⟩
  have HP5 := Lib.hid hp5
  have HT5 := Lib.hid (HTT.out.trans ht5)
  clear hp5 ht5 HST hc0 h1c h2c h3c p0 p1
  go_wp2_with fail
  go_ret
  exact ⟨rfl, HP5.out, HT5.out⟩
end Go.Proofs.YtbpodmallknhfaaGreat
namespace Go.Proofs.YtbpodmallknhfaaGreat
open Go.RowKit
def RgZ : Value := .agg #[.pointer none, .int .i64 0, .int .i64 0, .int .i64 0]
def RgI (B : Nat) (a : Po.Ar) : Value := .agg #[.pointer (some ⟨B, 0, none⟩), .int .i64 a.spare, .int .i64 a.base, .int .i64 a.pages]
theorem ld_results (tmps : Array Value) (w : World) (g : Nat) (x0 x1 x2 x3 e : Value) (h0 : tmps.getD 4 undef = .pointer (some ⟨g, 0, none⟩)) (h1 : tmps.getD 5 undef = e)
    (r0 : w.heap[g]? = some (.cells #[x0, x1, x2, x3] 95 (0, 0))) :
    (results Tryz.f45 tmps).run Tryz.prog w = .ok (.tuple #[.agg #[x0, x1, x2, x3], e]) w := by
  have hr : Tryz.f45.results = #[.cell 4 95, .tmp 5] := rfl
  have h0' : tmps[4]?.getD undef = .pointer (some ⟨g, 0, none⟩) := by simpa using h0
  have h1' : tmps[5]?.getD undef = e := by simpa using h1
  have l0 := run_loadVar_row (P := Tryz.prog) w g 95 _ _ _ _ r0 Tryz.underlying95 rfl (by kernel_rfl)
  simp [results, hr, h0', h1', asAddr, l0]
theorem ld_boxes (a : Po.Ar) (w : World) : ∃ W, W = (w.alloc (.cells #[.int .i64 a.spare, .int .i64 a.base, .int .i64 a.pages] 46)).alloc (.cells #[.pointer none, .int .i64 0, .int .i64 0, .int .i64 0] 95) ∧
    W.heap[w.heap.size]? = some (.cells #[.int .i64 a.spare, .int .i64 a.base, .int .i64 a.pages] 46 (0, 0)) ∧ W.heap[w.heap.size + 1]? = some (.cells #[.pointer none, .int .i64 0, .int .i64 0, .int .i64 0] 95 (0, 0)) ∧ Below w.heap.size w W := by
  have h1 := heap_alloc_last w (.cells #[.int .i64 a.spare, .int .i64 a.base, .int .i64 a.pages] 46)
  have h2 : Below w.heap.size w (w.alloc (.cells #[.int .i64 a.spare, .int .i64 a.base, .int .i64 a.pages] 46)) := (Below.refl _ _).alloc (Nat.le_refl _) _
  have hs : (w.alloc (.cells #[.int .i64 a.spare, .int .i64 a.base, .int .i64 a.pages] 46)).heap.size = w.heap.size + 1 := by simp
  generalize w.alloc (.cells #[.int .i64 a.spare, .int .i64 a.base, .int .i64 a.pages] 46) = W1 at *
  have h3 := heap_alloc_last W1 (.cells #[.pointer none, .int .i64 0, .int .i64 0, .int .i64 0] 95)
  rw [hs] at h3
  have h4 : Below W1.heap.size W1 (W1.alloc (.cells #[.pointer none, .int .i64 0, .int .i64 0, .int .i64 0] 95)) := (Below.refl _ _).alloc (Nat.le_refl _) _
  exact ⟨_, rfl, (h4.block _ (by omega)).trans h1, h3, h2.trans (h4.mono (by omega))⟩
theorem ld_store (w : World) (G : Nat) (x0 x1 x2 x3 y0 y1 y2 y3 : Value) (h : w.heap[G]? = some (.cells #[x0, x1, x2, x3] 95 (0, 0))) :
    ((((w.setCell ⟨G, 0, none⟩ y0).setCell ⟨G, 1, none⟩ y1).setCell ⟨G, 2, none⟩ y2).setCell ⟨G, 3, none⟩ y3).heap[G]? = some (.cells #[y0, y1, y2, y3] 95 (0, 0)) ∧
    Touch (fun k => k = G) w ((((w.setCell ⟨G, 0, none⟩ y0).setCell ⟨G, 1, none⟩ y1).setCell ⟨G, 2, none⟩ y2).setCell ⟨G, 3, none⟩ y3) := by
  refine ⟨?_, (((Touch.set (S := fun k => k = G) G 0 _ rfl).trans (Touch.set G 1 _ rfl)).trans (Touch.set G 2 _ rfl)).trans (Touch.set G 3 _ rfl)⟩
  have h0 := blk_set (i := 0) h y0
  have h1 := blk_set (i := 1) h0 y1
  have h2 := blk_set (i := 2) h1 y2
  exact blk_set (i := 3) h2 y3
theorem tdiv4_lt (x p : Int) (hp : 1 ≤ p) : x.tdiv 4 < p ↔ x < 4 * p := by
  rcases Int.le_total 0 x with h | h
  · rw [Int.tdiv_eq_ediv_of_nonneg h]; omega
  · have e : x.tdiv 4 = -((-x).tdiv 4) := by rw [Int.neg_tdiv, Int.neg_neg]
    rw [e, Int.tdiv_eq_ediv_of_nonneg (by omega)]; omega
theorem tdiv4_in (x : Int) (hx : -9223372036854775808 ≤ x ∧ x ≤ 9223372036854775807) : -9223372036854775808 ≤ x.tdiv 4 ∧ x.tdiv 4 ≤ 9223372036854775807 := by
  rcases Int.le_total 0 x with h | h
  · rw [Int.tdiv_eq_ediv_of_nonneg h]; omega
  · have e : x.tdiv 4 = -((-x).tdiv 4) := by rw [Int.neg_tdiv, Int.neg_neg]
    rw [e, Int.tdiv_eq_ediv_of_nonneg (by omega)]; omega
theorem Touch.one {G n : Nat} {w w' : World} (h : Touch (fun k => k = G) w w') (hn : n ≤ G) (hw : G < w.heap.size) : Below n w w' := h.below (fun k hk => by omega) (by omega)
set_option maxHeartbeats 3200000 in
set_option maxRecDepth 20000 in
theorem laid_nil_any (a : Po.Ar) (w : World) : Calls Tryz.prog 45 #[.pointer none, ArV a] w fun e w' => e = .returned (.tuple #[RgZ, .int .i64 1]) ∧ Below w.heap.size w w' := by
  obtain ⟨W, hW, hAr, hR, hb⟩ := ld_boxes a w
  have HS := Lib.hid (sectors_nil W)
  have c0 := blk_cell hR 0 (v := .pointer none) rfl
  have c1 := blk_cell hR 1 (v := .int .i64 0) rfl
  have c2 := blk_cell hR 2 (v := .int .i64 0) rfl
  have c3 := blk_cell hR 3 (v := .int .i64 0) rfl
  have f0 := blk_free hR 0
  have f1 := blk_free hR 1
  have f2 := blk_free hR 2
  have f3 := blk_free hR 3
  have HR := Lib.hid hR
  have HB := Lib.hid hb
  obtain ⟨G, hG⟩ : ∃ G, G = w.heap.size + 1 := ⟨_, rfl⟩
  have HG := Lib.hid hG
  rw [← hG] at HR c0 c1 c2 c3 f0 f1 f2 f3
  clear hAr hR hb
  unfold ArV
  go_enter Tryz.func45, Tryz.ntmps45
  go_upto_region 1 with (fail)
  rw [← hW, ← hG]
  clear hW hG
  go_wp2_with fail
  refine HS.out.mono ?_
  rintro e w1 ⟨rfl, rfl⟩
  clear HS
  go_wp2_with fail
  obtain ⟨hz, tz⟩ := ld_store w1 G _ _ _ _ (.pointer none) (.int .i64 0) (.int .i64 0) (.int .i64 0) HR.out
  refine bodyPost_ret (ld_results _ _ G _ _ _ _ _ rfl rfl hz) rfl ?_
  exact ⟨rfl, HB.out.trans (tz.one (by have := HG.out; have := HB.out.size; omega) (lt_of_block HR.out))⟩
def LdA (B n : Nat) (a : Po.Ar) (w : World) (e : Ending) (w' : World) : Prop := Below w.heap.size w w' ∧ (a.Fits n → e = .returned (.tuple #[RgI B a, .int .i64 0])) ∧ (¬ a.Fits n → e = .returned (.tuple #[RgZ, .int .i64 2]))
set_option maxHeartbeats 12800000 in
set_option maxRecDepth 20000 in
theorem laid_any_ {w : World} {B m1 m2 n : Nat} {d : Dk.Dev} (hP : PDev w B m1 m2 d) (hs : Dk.size d = n) (hn1 : 1 ≤ n) (hn : n ≤ 65536) (a : Po.Ar) (ha : ArOk a) : Calls Tryz.prog 45 #[.pointer (some ⟨B, 0, none⟩), ArV a] w fun e w' => LdA B n a w e w' := by
  obtain ⟨W, hW, hAr, hR, hb⟩ := ld_boxes a w
  have hS := sectors_any (hP.below hb)
  rw [hs] at hS
  have HS := Lib.hid hS
  have a0 := blk_cell hAr 0 (v := .int .i64 a.spare) rfl
  have a1 := blk_cell hAr 1 (v := .int .i64 a.base) rfl
  have a2 := blk_cell hAr 2 (v := .int .i64 a.pages) rfl
  have c0 := blk_cell hR 0 (v := .pointer none) rfl
  have c1 := blk_cell hR 1 (v := .int .i64 0) rfl
  have c2 := blk_cell hR 2 (v := .int .i64 0) rfl
  have c3 := blk_cell hR 3 (v := .int .i64 0) rfl
  have f0 := blk_free hR 0
  have f1 := blk_free hR 1
  have f2 := blk_free hR 2
  have f3 := blk_free hR 3
  have HR := Lib.hid hR
  have HB := Lib.hid hb
  obtain ⟨G, hG⟩ : ∃ G, G = w.heap.size + 1 := ⟨_, rfl⟩
  obtain ⟨A, hA⟩ : ∃ A, A = w.heap.size := ⟨_, rfl⟩
  have HG := Lib.hid hG
  have HAA := Lib.hid hA
  rw [← hG] at HR c0 c1 c2 c3 f0 f1 f2 f3
  rw [← hA] at a0 a1 a2
  have HO := Lib.hid ha
  have HN1 : Hid (1 ≤ n ∧ n ≤ 65536) := ⟨hn1, hn⟩
  have hn0 : ((n : Int) == 0) = false := by simp; omega
  have hw5 := IntWalk.i64_in ((n : Int) - 5) (by omega)
  clear hAr hR hb hP hs ha hS
  obtain ⟨sp, ba, pg⟩ := a
  have HLD : Hid (∀ e w', Below w.heap.size w w' → (Po.Ar.Fits n ⟨sp, ba, pg⟩ → e = .returned (.tuple #[RgI B ⟨sp, ba, pg⟩, .int .i64 0])) → (¬ Po.Ar.Fits n ⟨sp, ba, pg⟩ → e = .returned (.tuple #[RgZ, .int .i64 2])) → LdA B n ⟨sp, ba, pg⟩ w e w') := fun e w' h1 h2 h3 => ⟨h1, h2, h3⟩
  unfold ArV
  dsimp only at *
  go_enter Tryz.func45, Tryz.ntmps45
  go_upto_region 1 with (fail)
  rw [← hW, ← hG, ← hA]
  clear hW hG hA
  go_wp2_with fail
  refine HS.out.mono ?_
  rintro e w1 ⟨rfl, rfl⟩
  clear HS
  have hn00 : ¬ (n : Int) = 0 := by omega
  by_cases h0 : sp < 0
  case pos =>
    go_wp2_with fail
    obtain ⟨hz, tz⟩ := ld_store w1 G _ _ _ _ (.pointer none) (.int .i64 0) (.int .i64 0) (.int .i64 0) HR.out
    refine bodyPost_ret (ld_results _ _ G _ _ _ _ _ rfl rfl hz) rfl ?_
    refine HLD.out _ _ (HB.out.trans (tz.one (by have := HG.out; have := HB.out.size; omega) (lt_of_block HR.out))) (fun hf => ?_) fun _ => rfl
    exact absurd hf (by unfold Po.Ar.Fits; dsimp only; omega)
  have k0 : ¬ (sp < 0) := h0
  by_cases h1 : (n : Int) - 5 < sp
  case pos =>
    go_wp2_with fail
    obtain ⟨hz, tz⟩ := ld_store w1 G _ _ _ _ (.pointer none) (.int .i64 0) (.int .i64 0) (.int .i64 0) HR.out
    refine bodyPost_ret (ld_results _ _ G _ _ _ _ _ rfl rfl hz) rfl ?_
    refine HLD.out _ _ (HB.out.trans (tz.one (by have := HG.out; have := HB.out.size; omega) (lt_of_block HR.out))) (fun hf => ?_) fun _ => rfl
    exact absurd hf (by unfold Po.Ar.Fits; dsimp only; omega)
  have k1 : ¬ ((n : Int) - 5 < sp) := h1
  by_cases h2 : ba < 0
  case pos =>
    go_wp2_with fail
    obtain ⟨hz, tz⟩ := ld_store w1 G _ _ _ _ (.pointer none) (.int .i64 0) (.int .i64 0) (.int .i64 0) HR.out
    refine bodyPost_ret (ld_results _ _ G _ _ _ _ _ rfl rfl hz) rfl ?_
    refine HLD.out _ _ (HB.out.trans (tz.one (by have := HG.out; have := HB.out.size; omega) (lt_of_block HR.out))) (fun hf => ?_) fun _ => rfl
    exact absurd hf (by unfold Po.Ar.Fits; dsimp only; omega)
  have k2 : ¬ (ba < 0) := h2
  by_cases h3 : pg < 1
  case pos =>
    go_wp2_with fail
    obtain ⟨hz, tz⟩ := ld_store w1 G _ _ _ _ (.pointer none) (.int .i64 0) (.int .i64 0) (.int .i64 0) HR.out
    refine bodyPost_ret (ld_results _ _ G _ _ _ _ _ rfl rfl hz) rfl ?_
    refine HLD.out _ _ (HB.out.trans (tz.one (by have := HG.out; have := HB.out.size; omega) (lt_of_block HR.out))) (fun hf => ?_) fun _ => rfl
    exact absurd hf (by unfold Po.Ar.Fits; dsimp only; omega)
  have k3 : ¬ (pg < 1) := h3
  have hwd := IntWalk.i64_in ((n : Int) - ba) (by have := HN1.out; have := HO.out.2.1; unfold I64' at this; dsimp only at this; omega)
  have hwq : IntKind.i64.wrap (((n : Int) - ba).tdiv 4) = ((n : Int) - ba).tdiv 4 := IntWalk.i64_in _ (tdiv4_in _ (by have h1 := HN1.out; have h2 := HO.out.2.1; unfold I64' at h2; dsimp only at h2; omega))
  have hq4 := tdiv4_lt ((n : Int) - ba) pg (by omega)
  have hnp : (n : Int) - ba < 4 * pg → ((n : Int) - ba).tdiv 4 < pg := hq4.2
  have hpn : ((n : Int) - ba).tdiv 4 < pg → (n : Int) - ba < 4 * pg := hq4.1
  have HPN := Lib.hid hpn
  clear hq4
  by_cases h4 : ((n : Int) - ba).tdiv 4 < pg
  case pos =>
    go_wp2_with fail
    obtain ⟨hz, tz⟩ := ld_store w1 G _ _ _ _ (.pointer none) (.int .i64 0) (.int .i64 0) (.int .i64 0) HR.out
    refine bodyPost_ret (ld_results _ _ G _ _ _ _ _ rfl rfl hz) rfl ?_
    refine HLD.out _ _ (HB.out.trans (tz.one (by have := HG.out; have := HB.out.size; omega) (lt_of_block HR.out))) (fun hf => ?_) fun _ => rfl
    exact absurd hf (by unfold Po.Ar.Fits; dsimp only; have := HPN.out h4; omega)
  have k4 : ¬ (((n : Int) - ba).tdiv 4 < pg) := h4
  have k5 : 4 * pg ≤ (n : Int) - ba := by have := fun h => k4 (hnp h); omega
  have hw6 := IntWalk.i64_in (4 * pg) (by have := HN1.out; omega)
  have hw7 := IntWalk.i64_in (ba + 4 * pg) (by have := HN1.out; omega)
  have hw8 := IntWalk.i64_in (sp + 5) (by have := HN1.out; omega)
  by_cases h6 : sp < ba + 4 * pg
  · by_cases h7 : ba < sp + 5
    ·
      go_wp2_with fail
      obtain ⟨hz, tz⟩ := ld_store w1 G _ _ _ _ (.pointer none) (.int .i64 0) (.int .i64 0) (.int .i64 0) HR.out
      refine bodyPost_ret (ld_results _ _ G _ _ _ _ _ rfl rfl hz) rfl ?_
      refine HLD.out _ _ (HB.out.trans (tz.one (by have := HG.out; have := HB.out.size; omega) (lt_of_block HR.out))) (fun hf => ?_) fun _ => rfl
      exact absurd hf (by unfold Po.Ar.Fits; dsimp only; omega)
    · have k7 : ¬ (ba < sp + 5) := h7
      go_wp2_with fail
      obtain ⟨hz, tz⟩ := ld_store w1 G _ _ _ _ (.pointer (some ⟨B, 0, none⟩)) (.int .i64 sp) (.int .i64 ba) (.int .i64 pg) HR.out
      refine bodyPost_ret (ld_results _ _ G _ _ _ _ _ rfl rfl hz) rfl ?_
      refine HLD.out _ _ (HB.out.trans (tz.one (by have := HG.out; have := HB.out.size; omega) (lt_of_block HR.out))) (fun _ => rfl) fun hf => ?_
      exact absurd (by unfold Po.Ar.Fits; dsimp only; omega) hf
  · have k6 : ¬ (sp < ba + 4 * pg) := h6
    go_wp2_with fail
    obtain ⟨hz, tz⟩ := ld_store w1 G _ _ _ _ (.pointer (some ⟨B, 0, none⟩)) (.int .i64 sp) (.int .i64 ba) (.int .i64 pg) HR.out
    refine bodyPost_ret (ld_results _ _ G _ _ _ _ _ rfl rfl hz) rfl ?_
    refine HLD.out _ _ (HB.out.trans (tz.one (by have := HG.out; have := HB.out.size; omega) (lt_of_block HR.out))) (fun _ => rfl) fun hf => ?_
    exact absurd (by unfold Po.Ar.Fits; dsimp only; omega) hf
end Go.Proofs.YtbpodmallknhfaaGreat
namespace Go.Proofs.YtbpodmallknhfaaGreat
open Go.RowKit
def arN (S b N : Nat) : Po.Ar := ⟨S, b, N⟩
theorem fits_lies {n S b N : Nat} : (arN S b N).Fits n ↔ Rg.Lies n S b N := by
  unfold arN Po.Ar.Fits
  dsimp only
  constructor
  · rintro ⟨h1, h2, h3, h4, h5, h6⟩
    exact ⟨by omega, by omega, by omega, by omega⟩
  · intro h
    have := h.one
    have := h.spare
    have := h.base
    have := h.apart
    omega
theorem ar_nat {n : Nat} {a : Po.Ar} (h : a.Fits n) : ∃ S b N, a = arN S b N := by
  obtain ⟨x, y, z⟩ := a
  obtain ⟨h1, h2, h3, h4, h5, h6⟩ := h
  dsimp only at *
  obtain ⟨S, rfl⟩ := Int.eq_ofNat_of_zero_le h2
  obtain ⟨b, rfl⟩ := Int.eq_ofNat_of_zero_le h3
  obtain ⟨N, rfl⟩ := Int.eq_ofNat_of_zero_le (show (0 : Int) ≤ z by omega)
  exact ⟨S, b, N, rfl⟩
theorem md_boxes (a : Po.Ar) (w : World) : ∃ W, W = w.alloc (.cells #[.int .i64 a.spare, .int .i64 a.base, .int .i64 a.pages] 46) ∧
    W.heap[w.heap.size]? = some (.cells #[.int .i64 a.spare, .int .i64 a.base, .int .i64 a.pages] 46 (0, 0)) ∧ Below w.heap.size w W := ⟨_, rfl, heap_alloc_last _ _, (Below.refl _ _).alloc (Nat.le_refl _) _⟩
set_option maxHeartbeats 3200000 in
set_option maxRecDepth 20000 in
theorem Mend_any {w : World} {B m1 m2 n S b N : Nat} {d : Dk.Dev} (hP : PDev w B m1 m2 d) (hN : Wl.Near n d) (hf : (arN S b N).Fits n) (hn : n ≤ 65536) : Calls Tryz.prog 19 #[.pointer (some ⟨B, 0, none⟩), ArV (arN S b N)] w fun e w' => DevA B m1 m2 (Rg.mendR d S b N) w e w' := by
  have hL := fits_lies.1 hf
  obtain ⟨W, hW, hA, hb⟩ := md_boxes (arN S b N) w
  have hs := hL.spare
  have hLD := laid_any_ (hP.below hb) hN.sz (by omega) hn (arN S b N) ⟨⟨by unfold arN; dsimp only; omega, by unfold arN; dsimp only; omega⟩, ⟨by unfold arN; dsimp only; have := hL.base; omega, by unfold arN; dsimp only; have := hL.base; omega⟩, ⟨by unfold arN; dsimp only; have := hL.base; omega, by unfold arN; dsimp only; have := hL.base; omega⟩⟩
  have a0 := blk_cell hA 0 (v := .int .i64 (S : Int)) rfl
  have a1 := blk_cell hA 1 (v := .int .i64 (b : Int)) rfl
  have a2 := blk_cell hA 2 (v := .int .i64 (N : Int)) rfl
  have HLD := Lib.hid hLD
  have HF := Lib.hid hf
  have HL := Lib.hid hL
  have HN := Lib.hid hN
  have HNN : Hid (n ≤ 65536) := hn
  have HP := Lib.hid (hP.below hb)
  have HB := Lib.hid hb
  clear hP hN hf hn hL hA hb hs hLD
  unfold ArV
  go_enter Tryz.func19, Tryz.ntmps19
  go_upto_region 1 with (fail)
  rw [← hW]
  clear hW
  go_wp2_with fail
  refine HLD.out.mono ?_
  rintro e w1 ⟨hb1, he, -⟩
  have he := he HF.out
  subst he
  have HB1 := Lib.hid hb1
  obtain ⟨W2, hW2⟩ : ∃ W2, W2 = w1.alloc (.cells #[.pointer (some ⟨B, 0, none⟩), .int .i64 (S : Int), .int .i64 (b : Int), .int .i64 (N : Int)] 95) := ⟨_, rfl⟩
  have hb2 : Below w1.heap.size w1 W2 := by rw [hW2]; exact (Below.refl _ _).alloc (Nat.le_refl _) _
  have hr2 : RgAt W2 w1.heap.size B S b N := by rw [hW2]; exact heap_alloc_last _ _
  have HM := Lib.hid (mend_rg ((HP.out.below hb1).below hb2) HN.out HL.out HNN.out)
  have HBB : Hid (Below w.heap.size w W2) := (HB.out.trans (hb1.mono HB.out.size)).trans (hb2.mono (Nat.le_trans HB.out.size hb1.size))
  have hc0 := hr2.c0
  have h1c := hr2.c1
  have h2c := hr2.c2
  have h3c := hr2.c3
  obtain ⟨Q, hQ⟩ : ∃ Q, Q = w1.heap.size := ⟨_, rfl⟩
  rw [← hQ] at hc0 h1c h2c h3c
  clear hb1 hb2 hr2 HLD a0 a1 a2
  unfold RgI arN
  dsimp only
  go_upto_region 2 with (fail)
  rw [← hW2, ← hQ]
  clear hW2 hQ
  go_wp2_with fail
  refine HM.out.mono ?_
  rintro e w3 ⟨rfl, hp, ht⟩
  have HP3 := Lib.hid hp
  have HT3 := Lib.hid ht
  clear hp ht HM hc0 h1c h2c h3c
  go_wp2_with fail
  go_ret
  exact ⟨rfl, HP3.out, (Touch.of_new HBB.out).trans HT3.out⟩
set_option maxHeartbeats 3200000 in
set_option maxRecDepth 20000 in
theorem Mend_not {w : World} (p : Option Addr) (a : Po.Ar) (k : Nat) (hk : 1 ≤ k ∧ k ≤ 2) (hLD : ∀ W, Below w.heap.size w W → Calls Tryz.prog 45 #[.pointer p, ArV a] W fun e w' => e = .returned (.tuple #[RgZ, .int .i64 (k : Int)]) ∧ Below W.heap.size W w') : Calls Tryz.prog 19 #[.pointer p, ArV a] w fun e w' => e = .returned (.int .i64 (k : Int)) ∧ Below w.heap.size w w' := by
  obtain ⟨W, hW, hA, hb⟩ := md_boxes a w
  have HLD := Lib.hid (hLD W hb)
  have a0 := blk_cell hA 0 (v := .int .i64 a.spare) rfl
  have a1 := blk_cell hA 1 (v := .int .i64 a.base) rfl
  have a2 := blk_cell hA 2 (v := .int .i64 a.pages) rfl
  have HB := Lib.hid hb
  have h1 : ¬ (k : Int) = 0 := by omega
  have h2 : ((k : Int) != 0) = true := by simp; omega
  clear hA hb hLD hk
  unfold ArV at *
  go_enter Tryz.func19, Tryz.ntmps19
  go_upto_region 1 with (fail)
  rw [← hW]
  clear hW
  go_wp2_with fail
  refine HLD.out.mono ?_
  rintro e w1 ⟨rfl, hb1⟩
  have HB1 := Lib.hid hb1
  unfold RgZ
  clear hb1 HLD a0 a1 a2
  go_wp2_with fail
  go_ret
  exact ⟨rfl, (HB.out.trans (HB1.out.mono HB.out.size)).trans ((Below.refl _ _).alloc (by have := HB.out.size; have := HB1.out.size; omega) _)⟩
end Go.Proofs.YtbpodmallknhfaaGreat
namespace Go.Proofs.YtbpodmallknhfaaGreat
open Go.RowKit
structure Fr where
  page : Nat
  lsn : Nat
  u : Value
  pins : Nat
  dirty : Bool
  first : Nat
  used : Bool
def Fr.zero : Fr := ⟨0, 0, .slice none 0 0, 0, false, 0, false⟩
def frC (f : Fr) : List Value := [.int .i64 (f.page : Int), .int .u64 (f.lsn : Int), f.u, .int .i64 (f.pins : Int), .bool f.dirty, .int .u64 (f.first : Int), .bool f.used]
def frsC (F : List Fr) : List Value := F.flatMap frC
def fa (F : List Fr) (i : Nat) : Fr := F.getD i Fr.zero
theorem fa_set (F : List Fr) {i : Nat} (hi : i < F.length) (f : Fr) (j : Nat) : fa (F.set i f) j = if j = i then f else fa F j := by
  unfold fa
  by_cases h : j = i
  · subst h
    rw [if_pos rfl, List.getD_eq_getElem?_getD, List.getElem?_set_self hi]; rfl
  · rw [if_neg h, List.getD_eq_getElem?_getD, List.getElem?_set_ne (Ne.symm h), ← List.getD_eq_getElem?_getD]
theorem frsC_length : ∀ F : List Fr, (frsC F).length = F.length * 7
  | [] => rfl
  | h :: l => by
    have := frsC_length l
    simp only [frsC, List.flatMap_cons, List.length_append, List.length_cons] at *
    simp only [frC, List.length_cons, List.length_nil]
    omega
theorem frsC_at : ∀ (F : List Fr) (i j : Nat), i < F.length → j < 7 → (frsC F)[i * 7 + j]? = (frC (fa F i))[j]?
  | [], i, j, h, _ => by simp at h
  | x :: l, 0, j, _, hj => by
    show (frC x ++ frsC l)[0 * 7 + j]? = (frC x)[j]?
    rw [List.getElem?_append_left (by show 0 * 7 + j < 7; omega), Nat.zero_mul, Nat.zero_add]
  | x :: l, i + 1, j, h, hj => by
    have ih := frsC_at l i j (by simpa using h) hj
    show (frC x ++ frsC l)[(i + 1) * 7 + j]? = (frC (fa l i))[j]?
    rw [List.getElem?_append_right (by show 7 ≤ (i + 1) * 7 + j; omega), show (i + 1) * 7 + j - (frC x).length = i * 7 + j by show (i + 1) * 7 + j - 7 = _; omega]
    exact ih
theorem frsC_set : ∀ (F : List Fr) (i j : Nat) (v : Value) (f : Fr), i < F.length → j < 7 → frC f = (frC (fa F i)).set j v → (frsC F).set (i * 7 + j) v = frsC (F.set i f)
  | [], i, j, v, f, h, _, _ => by simp at h
  | x :: l, 0, j, v, f, _, hj, e => by
    show (frC x ++ frsC l).set (0 * 7 + j) v = frC f ++ frsC l
    rw [Nat.zero_mul, Nat.zero_add, List.set_append_left _ _ (show j < (frC x).length from hj)]
    have e : frC f = (frC x).set j v := e
    rw [e]
  | x :: l, i + 1, j, v, f, h, hj, e => by
    have ih := frsC_set l i j v f (by simpa using h) hj e
    show (frC x ++ frsC l).set ((i + 1) * 7 + j) v = frC x ++ frsC (l.set i f)
    rw [List.set_append_right _ _ (by show 7 ≤ (i + 1) * 7 + j; omega), show (i + 1) * 7 + j - (frC x).length = i * 7 + j by show (i + 1) * 7 + j - 7 = _; omega, ih]
def pmC (B S b N L cnt hand mp : Nat) (F : List Fr) : List Value :=
  [.pointer (some ⟨B, 0, none⟩), .int .i64 (S : Int), .int .i64 (b : Int), .int .i64 (N : Int), .pointer (some ⟨L, 0, none⟩)] ++ (frsC F ++ [.int .i64 (cnt : Int), .int .i64 (hand : Int), .map (some mp)])
structure PmRow (w : World) (P B S b N L cnt hand mp : Nat) (F : List Fr) : Prop where
  len : F.length = 64
  row : w.heap[P]? = some (.cells (pmC B S b N L cnt hand mp F).toArray 100 (0, 0))
section
variable {w w' : World} {P B S b N L cnt hand mp : Nat} {F : List Fr}
theorem PmRow.lt (h : PmRow w P B S b N L cnt hand mp F) : P < w.heap.size := lt_of_block h.row
theorem PmRow.touch {T : Nat → Prop} (h : PmRow w P B S b N L cnt hand mp F) (ht : Touch T w w') (hs : ¬ T P) : PmRow w' P B S b N L cnt hand mp F := ⟨h.len, ht.row h.row hs⟩
theorem PmRow.below (h : PmRow w P B S b N L cnt hand mp F) (hb : Below w.heap.size w w') : PmRow w' P B S b N L cnt hand mp F := ⟨h.len, (hb.block P h.lt).trans h.row⟩
theorem PmRow.cell (h : PmRow w P B S b N L cnt hand mp F) (i : Nat) {v : Value} (hv : (pmC B S b N L cnt hand mp F)[i]? = some v) : w.cell? ⟨P, i, none⟩ = some v := blk_cell h.row i (by rw [List.getElem?_toArray]; exact hv)
theorem PmRow.free (h : PmRow w P B S b N L cnt hand mp F) (i : Nat) : w.frozen? ⟨P, i, none⟩ = false := blk_free h.row i
theorem PmRow.c0 (h : PmRow w P B S b N L cnt hand mp F) : w.cell? ⟨P, 0, none⟩ = some (.pointer (some ⟨B, 0, none⟩)) := h.cell 0 rfl
theorem PmRow.c1 (h : PmRow w P B S b N L cnt hand mp F) : w.cell? ⟨P, 1, none⟩ = some (.int .i64 (S : Int)) := h.cell 1 rfl
theorem PmRow.c2 (h : PmRow w P B S b N L cnt hand mp F) : w.cell? ⟨P, 2, none⟩ = some (.int .i64 (b : Int)) := h.cell 2 rfl
theorem PmRow.c3 (h : PmRow w P B S b N L cnt hand mp F) : w.cell? ⟨P, 3, none⟩ = some (.int .i64 (N : Int)) := h.cell 3 rfl
theorem PmRow.c4 (h : PmRow w P B S b N L cnt hand mp F) : w.cell? ⟨P, 4, none⟩ = some (.pointer (some ⟨L, 0, none⟩)) := h.cell 4 rfl
theorem pm_tail (h : F.length = 64) (j : Nat) : (pmC B S b N L cnt hand mp F)[453 + j]? = [.int .i64 (cnt : Int), .int .i64 (hand : Int), Value.map (some mp)][j]? := by
  have hl := frsC_length F
  unfold pmC
  rw [List.getElem?_append_right (by show 5 ≤ 453 + j; omega), List.getElem?_append_right (by rw [hl]; show _ ≤ 453 + j - 5; omega), show 453 + j - [Value.pointer (some ⟨B, 0, none⟩), .int .i64 (S : Int), .int .i64 (b : Int), .int .i64 (N : Int), .pointer (some ⟨L, 0, none⟩)].length - (frsC F).length = j by rw [hl]; show 453 + j - 5 - _ = j; omega]
theorem PmRow.cCnt (h : PmRow w P B S b N L cnt hand mp F) : w.cell? ⟨P, 453, none⟩ = some (.int .i64 (cnt : Int)) := h.cell 453 (pm_tail h.len 0)
theorem PmRow.cHand (h : PmRow w P B S b N L cnt hand mp F) : w.cell? ⟨P, 454, none⟩ = some (.int .i64 (hand : Int)) := h.cell 454 (pm_tail h.len 1)
theorem PmRow.cMap (h : PmRow w P B S b N L cnt hand mp F) : w.cell? ⟨P, 455, none⟩ = some (.map (some mp)) := h.cell 455 (pm_tail h.len 2)
theorem PmRow.fr (h : PmRow w P B S b N L cnt hand mp F) {i : Nat} (hi : i < 64) (j : Nat) (hj : j < 7) {v : Value} (hv : (frC (fa F i))[j]? = some v) : w.cell? ⟨P, 5 + i * 7 + j, none⟩ = some v := by
  refine h.cell _ ?_
  have hl := frsC_length F
  unfold pmC
  rw [List.getElem?_append_right (by show 5 ≤ 5 + i * 7 + j; omega), show 5 + i * 7 + j - [Value.pointer (some ⟨B, 0, none⟩), .int .i64 (S : Int), .int .i64 (b : Int), .int .i64 (N : Int), .pointer (some ⟨L, 0, none⟩)].length = i * 7 + j by show 5 + i * 7 + j - 5 = _; omega, List.getElem?_append_left (by rw [hl, h.len]; omega), frsC_at F i j (by rw [h.len]; exact hi) hj]
  exact hv
theorem PmRow.set (h : PmRow w P B S b N L cnt hand mp F) {i : Nat} (hi : i < 64) (j : Nat) (hj : j < 7) (v : Value) (f : Fr) (e : frC f = (frC (fa F i)).set j v) : PmRow (w.setCell ⟨P, 5 + i * 7 + j, none⟩ v) P B S b N L cnt hand mp (F.set i f) := by
  refine ⟨by rw [List.length_set]; exact h.len, ?_⟩
  rw [blk_set h.row]
  have hl := frsC_length F
  have e2 : (pmC B S b N L cnt hand mp F).set (5 + i * 7 + j) v = pmC B S b N L cnt hand mp (F.set i f) := by
    unfold pmC
    rw [List.set_append_right _ _ (by show 5 ≤ 5 + i * 7 + j; omega), show 5 + i * 7 + j - [Value.pointer (some ⟨B, 0, none⟩), .int .i64 (S : Int), .int .i64 (b : Int), .int .i64 (N : Int), .pointer (some ⟨L, 0, none⟩)].length = i * 7 + j by show 5 + i * 7 + j - 5 = _; omega, List.set_append_left _ _ (by rw [hl, h.len]; omega), frsC_set F i j v f (by rw [h.len]; exact hi) hj e]
  rw [← e2]
  simp
theorem PmRow.setHand (h : PmRow w P B S b N L cnt hand mp F) (k : Nat) : PmRow (w.setCell ⟨P, 454, none⟩ (.int .i64 (k : Int))) P B S b N L cnt k mp F := by
  refine ⟨h.len, ?_⟩
  rw [blk_set h.row]
  have hl := frsC_length F
  have e2 : (pmC B S b N L cnt hand mp F).set 454 (.int .i64 (k : Int)) = pmC B S b N L cnt k mp F := by
    unfold pmC
    rw [List.set_append_right _ _ (by show 5 ≤ 454; omega), show 454 - [Value.pointer (some ⟨B, 0, none⟩), .int .i64 (S : Int), .int .i64 (b : Int), .int .i64 (N : Int), .pointer (some ⟨L, 0, none⟩)].length = 449 from rfl, List.set_append_right _ _ (by rw [hl, h.len]; decide), show 449 - (frsC F).length = 1 by rw [hl, h.len]]
    rfl
  rw [← e2]
  simp
end
theorem heldL_length (H : List (Option Nat)) : (heldL H).length = H.countP Option.isSome := by
  have h1 : ∀ (L : List (Option (List Nat))) (i : Nat), (Dk.listL i L).length = L.countP Option.isSome := fun L => by
    induction L with
    | nil => intro i; rfl
    | cons x r ih =>
      intro i
      cases x with
      | none => simp [Dk.listL, ih]
      | some b => simp [Dk.listL, ih]
  unfold heldL
  rw [h1, lst_count]
theorem heldL_mem (H : List (Option Nat)) (k : Nat) : k ∈ heldL H ↔ H.getD k none ≠ none := by
  have h1 : ∀ (L : List (Option (List Nat))) (i : Nat), (k ∈ Dk.listL i L ↔ i ≤ k ∧ L.getD (k - i) none ≠ none) := fun L => by
    induction L with
    | nil => intro i; simp [Dk.listL]
    | cons x r ih =>
      intro i
      have h2 : ∀ y : Option (List Nat), i < k → (y :: r).getD (k - i) none = r.getD (k - (i + 1)) none := fun y h => by rw [show k - i = (k - (i + 1)) + 1 by omega]; rfl
      cases x with
      | none =>
        simp only [Dk.listL, ih]
        constructor
        · rintro ⟨h3, h4⟩; exact ⟨by omega, by rw [h2 _ (by omega)]; exact h4⟩
        · rintro ⟨h3, h4⟩
          rcases Nat.lt_or_ge i k with h5 | h5
          · rw [h2 _ h5] at h4; exact ⟨h5, h4⟩
          · rw [show k - i = 0 by omega] at h4
            exact absurd rfl h4
      | some b =>
        simp only [Dk.listL, List.mem_cons, ih]
        constructor
        · rintro (rfl | ⟨h3, h4⟩)
          · exact ⟨Nat.le_refl _, by rw [Nat.sub_self]; intro c; cases c⟩
          · exact ⟨by omega, by rw [h2 _ (by omega)]; exact h4⟩
        · rintro ⟨h3, h4⟩
          rcases Nat.lt_or_ge i k with h5 | h5
          · rw [h2 _ h5] at h4; exact Or.inr ⟨h5, h4⟩
          · exact Or.inl (by omega)
  unfold heldL
  rw [h1, Nat.sub_zero]
  unfold lst
  constructor
  · rintro ⟨-, h⟩ e
    rw [List.getD_eq_getElem?_getD, List.getElem?_map] at h
    rw [List.getD_eq_getElem?_getD] at e
    cases hx : H[k]? with
    | none => rw [hx] at h; exact h rfl
    | some x =>
      rw [hx] at h e
      cases x with
      | none => exact h rfl
      | some y => cases e
  · intro h
    refine ⟨Nat.zero_le _, fun e => h ?_⟩
    rw [List.getD_eq_getElem?_getD, List.getElem?_map] at e
    rw [List.getD_eq_getElem?_getD]
    cases hx : H[k]? with
    | none => rfl
    | some x =>
      rw [hx] at e
      cases x with
      | none => rfl
      | some y => cases e
end Go.Proofs.YtbpodmallknhfaaGreat
namespace Go.Proofs.YtbpodmallknhfaaGreat
open Go.RowKit
theorem pmNone_any {w : World} {P B S b N L cnt hand mp : Nat} {F : List Fr} (h : PmRow w P B S b N L cnt hand mp F) : Calls Tryz.prog 38 #[.pointer (some ⟨P, 0, none⟩)] w fun e w' => e = .returned (.bool false) ∧ w' = w := by
  have c0 := h.c0
  clear h
  go_enter Tryz.func38, Tryz.ntmps38
  go_wp2_with fail
  go_ret
  exact ⟨rfl, rfl⟩
theorem pmNone_nil (w : World) : Calls Tryz.prog 38 #[.pointer none] w fun e w' => e = .returned (.bool true) ∧ w' = w := by
  go_enter Tryz.func38, Tryz.ntmps38
  go_wp2_with fail
  go_ret
  exact ⟨rfl, rfl⟩
def askE (N : Nat) (n : Int) : Nat := if 0 ≤ n ∧ n < (N : Int) then 0 else 2
theorem pmAsked_any {w : World} {P B S b N L cnt hand mp : Nat} {F : List Fr} (h : PmRow w P B S b N L cnt hand mp F) (n : Int) : Calls Tryz.prog 47 #[.pointer (some ⟨P, 0, none⟩), .int .i64 n] w fun e w' => e = .returned (.int .i64 (askE N n : Int)) ∧ Below w.heap.size w w' := by
  have hn := pmNone_any h
  have hh := has_rg B S b N n w
  unfold RgV at hh
  have c0 := h.c0
  have c1 := h.c1
  have c2 := h.c2
  have c3 := h.c3
  have HN := Lib.hid hn
  have HH := Lib.hid hh
  clear h hn hh
  go_enter Tryz.func47, Tryz.ntmps47
  go_wp2_with fail
  refine HN.out.mono ?_
  rintro e w1 ⟨rfl, rfl⟩
  clear HN
  go_wp2_with fail
  refine HH.out.mono ?_
  rintro e w2 ⟨rfl, hb⟩
  have HB := Lib.hid hb
  clear hb HH c0 c1 c2 c3
  by_cases hc : 0 ≤ n ∧ n < (N : Int)
  · rw [decide_eq_true hc]
    have HA : Hid (askE N n = 0) := if_pos hc
    clear hc
    go_wp2_with fail
    go_ret
    exact ⟨by rw [HA.out]; rfl, HB.out⟩
  · rw [decide_eq_false hc]
    have HA : Hid (askE N n = 2) := if_neg hc
    clear hc
    go_wp2_with fail
    go_ret
    exact ⟨by rw [HA.out]; rfl, HB.out⟩
theorem pmAsked_nil (n : Int) (w : World) : Calls Tryz.prog 47 #[.pointer none, .int .i64 n] w fun e w' => e = .returned (.int .i64 1) ∧ w' = w := by
  have HN := Lib.hid (pmNone_nil w)
  go_enter Tryz.func47, Tryz.ntmps47
  go_wp2_with fail
  refine HN.out.mono ?_
  rintro e w1 ⟨rfl, rfl⟩
  clear HN
  go_wp2_with fail
  go_ret
  exact ⟨rfl, rfl⟩
def frP (P : Nat) : Option Nat → Value
  | some i => .pointer (some ⟨P, 5 + i * 7, none⟩)
  | none => .pointer none
set_option maxHeartbeats 1600000 in
theorem pmFrame_any {w : World} {P B S b N L cnt hand mp : Nat} {F : List Fr} {H : List (Option Nat)} (h : PmRow w P B S b N L cnt hand mp F) (hm : HmAt w mp H) (n : Int) (hn : -9223372036854775808 ≤ n ∧ n ≤ 9223372036854775807) :
    Calls Tryz.prog 41 #[.pointer (some ⟨P, 0, none⟩), .int .i64 n] w fun e w' => e = .returned (frP P (hz H n)) ∧ w' = w := by
  have c5 := h.cMap
  have hl := hm.look_ok hn.1 hn.2
  have hs : ∀ i, hz H n = some i → i < 64 := fun i hi => hm.small hn.1 hn.2 hi
  clear h hm hn
  generalize hz H n = x at *
  cases x with
  | none =>
    clear hs
    go_enter Tryz.func41, Tryz.ntmps41
    go_wp2_with fail
    go_ret
    exact ⟨rfl, rfl⟩
  | some i =>
    have hi := hs i rfl
    have hi2 : (i : Int) < 64 := by omega
    clear hs
    go_enter Tryz.func41, Tryz.ntmps41
    go_wp2_with fail
    go_ret
    exact ⟨rfl, rfl⟩
end Go.Proofs.YtbpodmallknhfaaGreat
namespace Go.Proofs.YtbpodmallknhfaaGreat
open Go.RowKit
theorem mod_next {a c : Nat} (h : 0 < c) : (a % c + 1) % c = (a + 1) % c := by rw [Nat.add_mod (a % c), Nat.mod_mod, ← Nat.add_mod]
theorem mod_back {hand j c : Nat} : (hand + (c + j)) % c = (hand + j) % c := by rw [show hand + (c + j) = (hand + j) + c by omega, Nat.add_mod_right]
theorem mod_all {hand c j0 : Nat} (h1 : hand < c) (h2 : j0 < c) : ∃ j, c ≤ j ∧ j < 2 * c ∧ (hand + j) % c = j0 := by
  rcases Nat.lt_or_ge j0 hand with h | h
  · refine ⟨c + (j0 + c - hand), by omega, by omega, ?_⟩
    rw [mod_back, show hand + (j0 + c - hand) = j0 + c by omega, Nat.add_mod_right, Nat.mod_eq_of_lt h2]
  · refine ⟨c + (j0 - hand), by omega, by omega, ?_⟩
    rw [mod_back, show hand + (j0 - hand) = j0 by omega, Nat.mod_eq_of_lt h2]
def FSame (F F' : List Fr) : Prop := ∀ j, ∃ x, fa F' j = { fa F j with used := x }
theorem FSame.refl (F : List Fr) : FSame F F := fun j => ⟨_, rfl⟩
theorem FSame.set {F F' : List Fr} (h : FSame F F') {i : Nat} (hi : i < F'.length) (x : Bool) : FSame F (F'.set i { fa F' i with used := x }) := fun j => by
  rw [fa_set F' hi]
  by_cases e : j = i
  · subst e
    obtain ⟨y, hy⟩ := h j
    exact ⟨x, by rw [if_pos rfl, hy]⟩
  · rw [if_neg e]; exact h j
theorem FSame.pins {F F' : List Fr} (h : FSame F F') (j : Nat) : (fa F' j).pins = (fa F j).pins := by obtain ⟨x, e⟩ := h j; rw [e]
def RmA (P B S b N L cnt mp : Nat) (F : List Fr) (h : Nat) (w : World) (e : Ending) (w' : World) : Prop :=
  ∃ (i hand' : Nat) (ok : Bool) (F' : List Fr), e = .returned (.tuple #[.int .i64 (i : Int), .bool ok]) ∧ PmRow w' P B S b N L cnt hand' mp F' ∧ hand' < cnt ∧ FSame F F' ∧ (∀ j, cnt ≤ j → fa F' j = fa F j) ∧ Touch (· = P) w w' ∧
    (h < cnt → i = h ∧ ok = true ∧ F' = F) ∧ (¬ h < cnt → (ok = true → i < cnt ∧ (fa F i).pins = 0) ∧ (ok = false → ∀ j, j < cnt → (fa F j).pins ≠ 0))
def RmR (P B S b N L cnt mp : Nat) (F : List Fr) (hand : Nat) (w0 : World) (i : Value) (wr : World) : Prop :=
  ∃ (t : Nat) (F1 : List Fr), t ≤ 2 * cnt ∧ i = .int .i64 (t : Int) ∧ PmRow wr P B S b N L cnt ((hand + t) % cnt) mp F1 ∧ FSame F F1 ∧ (∀ j, cnt ≤ j → fa F1 j = fa F j) ∧ Touch (· = P) w0 wr ∧ (∀ j, j < t → j < cnt → (fa F1 ((hand + j) % cnt)).used = false) ∧ (∀ j, cnt ≤ j → j < t → (fa F ((hand + j) % cnt)).pins ≠ 0)
set_option maxHeartbeats 3200000 in
set_option maxRecDepth 20000 in
theorem pmRoom_any {w : World} {P B S b N L cnt hand mp : Nat} {F : List Fr} {H : List (Option Nat)} (h : PmRow w P B S b N L cnt hand mp F) (hm : HmAt w mp H) (hc1 : 1 ≤ cnt) (hc : cnt ≤ 64) (hh : hand < cnt) (hcn : H.countP Option.isSome ≤ cnt) :
    Calls Tryz.prog 73 #[.pointer (some ⟨P, 0, none⟩)] w fun e w' => RmA P B S b N L cnt mp F (H.countP Option.isSome) w e w' := by
  have c3 := h.cCnt
  have c5 := h.cMap
  have hln := fun n => (show HmAt (w.drewN n) mp H from hm.touch ((Touch.refl (fun _ => False) w).drewN n) id).len_run
  have hl0 := hm.len_run
  have HR := Lib.hid h
  have HC : Hid (1 ≤ cnt ∧ cnt ≤ 64 ∧ hand < cnt) := ⟨hc1, hc, hh⟩
  obtain ⟨k, hk⟩ : ∃ k, k = H.countP Option.isSome := ⟨_, rfl⟩
  rw [← hk] at hl0 hln hcn ⊢
  clear hm hk h hc1 hc hh
  by_cases hlt : k < cnt
  case pos =>
    have hi : (k : Int) < (cnt : Int) := by omega
    have HLT := Lib.hid hlt
    clear hlt hcn
    go_enter Tryz.func73, Tryz.ntmps73
    go_upto_region 1 with (fail)
    go_quiet (fail)
    have hlq := hln nq
    have HRQ : Hid (PmRow (w.drewN nq) P B S b N L cnt hand mp F) := HR.out.touch ((Touch.refl (fun _ => False) w).drewN nq) id
    have HTQ : Hid (Touch (· = P) w (w.drewN nq)) := (Touch.refl _ w).drewN nq
    clear hln hl0 c3 c5
    generalize w.drewN nq = wq at *
    have c5 := HRQ.out.cMap
    go_wp2_with fail
    go_ret2
    exact ⟨k, hand, true, F, rfl, HRQ.out, HC.out.2.2, FSame.refl F, (fun _ _ => rfl), HTQ.out, fun _ => ⟨rfl, rfl, rfl⟩, fun h => absurd HLT.out h⟩
  have hi : ¬ (k : Int) < (cnt : Int) := by omega
  have HLT : Hid (¬ k < cnt) := hlt
  have hm2 := IntWalk.i64_in (2 * (cnt : Int)) (by have := HC.out; omega)
  clear hlt hcn
  go_enter Tryz.func73, Tryz.ntmps73
  go_upto_region 1 with (fail)
  go_quiet (fail)
  have hlq := hln nq
  have HRQ : Hid (PmRow (w.drewN nq) P B S b N L cnt hand mp F) := HR.out.touch ((Touch.refl (fun _ => False) w).drewN nq) id
  have HTQ : Hid (Touch (· = P) w (w.drewN nq)) := (Touch.refl _ w).drewN nq
  clear hln hl0 c3 c5 hlq
  generalize w.drewN nq = wq at *
  have c3 := HRQ.out.cCnt
  go_wp2_with fail
  clear c3
  go_loopw [26] (fun i wr => RmR P B S b N L cnt mp F hand w i wr) (fun i _ => 2 * cnt - (intOf i).toNat)
  case atStart => exact ⟨0, F, Nat.zero_le _, rfl, by rw [Nat.add_zero, Nat.mod_eq_of_lt HC.out.2.2]; exact HRQ.out, FSame.refl F, (fun _ _ => rfl), HTQ.out, fun j hj => absurd hj (Nat.not_lt_zero j), fun j _ hj => absurd hj (Nat.not_lt_zero j)⟩
  case round =>
    obtain ⟨t, F1, ht, rfl, hrow, hsm, hfar, htt, hu, hp⟩ := hrel
    have HFAR := Lib.hid hfar
    clear hfar
    have HROW := Lib.hid hrow
    have HSM := Lib.hid hsm
    have HTT := Lib.hid htt
    have HU := Lib.hid hu
    have HPP := Lib.hid hp
    by_cases hlt : t < 2 * cnt
    case neg =>
      obtain rfl : t = 2 * cnt := by omega
      have hm3 : ¬ ((2 * cnt : Nat) : Int) < 2 * (cnt : Int) := by omega
      clear hrow hsm htt hu hp hlt ht
      go_wp2_with fail
      go_ret2
      refine ⟨0, _, false, F1, rfl, HROW.out, Nat.mod_lt _ (by have := HC.out; omega), HSM.out, HFAR.out, HTT.out, fun h => absurd h HLT.out, fun _ => ⟨(fun e => by cases e), fun _ j hj => ?_⟩⟩
      obtain ⟨j', h1, h2, h3⟩ := mod_all HC.out.2.2 hj
      rw [← h3]
      exact HPP.out j' h1 h2
    have HT := Lib.hid hlt
    have hm3 : (t : Int) < 2 * (cnt : Int) := by omega
    obtain ⟨hd, hhd⟩ : ∃ hd, hd = (hand + t) % cnt := ⟨_, rfl⟩
    have hdl : hd < cnt := by rw [hhd]; exact Nat.mod_lt _ (by have := HC.out; omega)
    rw [← hhd] at hrow HROW
    have HHD := Lib.hid hhd
    have hd6 : hd < 64 := by have := HC.out; omega
    have hd7 : (hd : Int) < 64 := by omega
    have HD6 := Lib.hid hd6
    have HDL := Lib.hid hdl
    have c3 := hrow.cCnt
    have c4 := hrow.cHand
    have f4 := hrow.free 454
    have hm4 := IntWalk.i64_in ((hd : Int) + 1) (by omega)
    obtain ⟨h2, hh2⟩ : ∃ h2, h2 = (hd + 1) % cnt := ⟨_, rfl⟩
    have hm5 : ((hd : Int) + 1) % (cnt : Int) = (h2 : Int) := by rw [hh2]; norm_cast
    have hm6 : ¬ (cnt : Int) = 0 := by have := HC.out; omega
    have HH2 : Hid (h2 = (hand + (t + 1)) % cnt) := by show _ = _; rw [hh2, hhd, mod_next (by have := HC.out; omega), Nat.add_assoc]
    have hrow2 := hrow.setHand h2
    have HT2 : Hid (Touch (· = P) w (wr.setCell ⟨P, 454, none⟩ (.int .i64 (h2 : Int)))) := htt.trans (Touch.set P 454 _ rfl)
    obtain ⟨W2, hW2⟩ : ∃ W2, W2 = wr.setCell ⟨P, 454, none⟩ (.int .i64 (h2 : Int)) := ⟨_, rfl⟩
    rw [← hW2] at hrow2 HT2
    have HROW2 := Lib.hid hrow2
    have g3 := hrow2.fr hd6 3 (by decide) (v := .int .i64 ((fa F1 hd).pins : Int)) rfl
    have g6 := hrow2.fr hd6 6 (by decide) (v := .bool (fa F1 hd).used) rfl
    have k6 := hrow2.free (5 + hd * 7 + 6)
    have hpn := hsm.pins hd
    have HPN := Lib.hid hpn
    clear hrow hsm htt hu hp hlt ht hhd hh2 hrow2 hpn hdl hd6
    go_upto_region 7 with (fail)
    rw [← hW2]
    clear c3 c4 f4 hW2 hm4 hm5 hm6 hm2
    have hrow3 := HROW2.out.set HD6.out 6 (by decide) (.bool false) { fa F1 hd with used := false } rfl
    have hnext : (cnt ≤ t → (fa F hd).pins ≠ 0) → RmR P B S b N L cnt mp F hand w (.int .i64 ((t + 1 : Nat) : Int)) (W2.setCell ⟨P, 5 + hd * 7 + 6, none⟩ (.bool false)) := fun hpp => by
      refine ⟨t + 1, _, HT.out, rfl, by rw [← HH2.out]; exact hrow3, HSM.out.set (by rw [HROW2.out.len]; exact HD6.out) false, (fun j hj => by rw [fa_set F1 (by rw [HROW2.out.len]; exact HD6.out), if_neg (by have := HDL.out; omega)]; exact HFAR.out j hj), HT2.out.trans (Touch.set P _ _ rfl), fun j h1 h2 => ?_, fun j h1 h2 => ?_⟩
      · rw [fa_set F1 (by rw [HROW2.out.len]; exact HD6.out)]
        by_cases e : (hand + j) % cnt = hd
        · rw [if_pos e]
        · rw [if_neg e]
          refine HU.out j ?_ h2
          rcases Nat.lt_or_ge j t with h3 | h3
          · exact h3
          · exact absurd (by rw [HHD.out, show j = t by omega]) e
      · rcases Nat.lt_or_ge j t with h3 | h3
        · exact HPP.out j h1 h3
        · have e : j = t := by omega
          rw [e, ← HHD.out]
          exact hpp (by omega)
    have HNEXT := Lib.hid hnext
    have hm8 := IntWalk.i64_in ((t : Int) + 1) (by have := HC.out; have := HT.out; omega)
    clear hnext hrow3
    by_cases hpz : (fa F1 hd).pins = 0
    · rw [hpz] at g3
      cases hus : (fa F1 hd).used with
      | false =>
        rw [hus] at g6
        have HPZ : Hid ((fa F hd).pins = 0) := by show _ = _; rw [← HPN.out]; exact hpz
        clear hpz hus
        go_wp2_with fail
        go_ret2
        exact ⟨hd, h2, true, F1, rfl, HROW2.out, by rw [HH2.out]; exact Nat.mod_lt _ (by have := HC.out; omega), HSM.out, HFAR.out, HT2.out, fun h => absurd h HLT.out, fun _ => ⟨fun _ => ⟨HDL.out, HPZ.out⟩, fun e => by cases e⟩⟩
      | true =>
        have HUS := Lib.hid hus
        rw [hus] at g6
        clear hpz hus
        go_wp2_with fail
        go_roundw
        case rel =>
          refine HNEXT.out fun h => ?_
          have h1 := HU.out (t - cnt) (by have := HC.out; omega) (by have := HT.out; omega)
          rw [← mod_back, show cnt + (t - cnt) = t by omega, ← HHD.out, HUS.out] at h1
          cases h1
        case measure => have := HT.out; simp [intOf]; omega
    · have HPZ : Hid ((fa F hd).pins ≠ 0) := by show _ ≠ _; rw [← HPN.out]; exact hpz
      have hp0 : ¬ ((fa F1 hd).pins : Int) = 0 := by omega
      have hp1 : (((fa F1 hd).pins : Int) == 0) = false := by simp; omega
      clear hpz
      go_wp2_with fail
      go_roundw
      case rel => exact HNEXT.out fun _ => HPZ.out
      case measure => have := HT.out; simp [intOf]; omega
end Go.Proofs.YtbpodmallknhfaaGreat
namespace Go.Proofs.YtbpodmallknhfaaGreat
open Go.RowKit
structure FrIs (w : World) (s : Po.S) (f : Fr) : Prop where
  lsn : f.lsn = (s.now f.page).1
  body : Bts w f.u (s.now f.page).2
  pins : s.pins f.page = f.pins
  first : s.first f.page = if f.dirty then some f.first else none
  fl : f.first < 18446744073709551616
structure PmIs (w : World) (B L P S b N hand mp : Nat) (F : List Fr) (H : List (Option Nat)) (s : Po.S) : Prop where
  row : PmRow w P B S b N L s.frames hand mp F
  map : HmAt w mp H
  hlen : H.length = N
  ar : s.ar = arN S b N
  cnt : 1 ≤ s.frames ∧ s.frames ≤ 64
  hand : hand < s.frames
  held : s.held = heldL H
  into : ∀ k i, H.getD k none = some i → i < s.held.length ∧ (fa F i).page = k
  onto : ∀ i, i < s.held.length → H.getD (fa F i).page none = some i
  fr : ∀ i, i < s.held.length → FrIs w s (fa F i)
  rest : ∀ i, s.held.length ≤ i → fa F i = Fr.zero
  good : Po.Good s
  n16 : N ≤ 16384
  ne : P ≠ mp
  bod : ∀ i g, (fa F i).u.ownBlock = some g → g ≠ P ∧ g ≠ mp
def PmX (P mp : Nat) (F : List Fr) (i : Nat) : Prop := i = P ∨ i = mp ∨ ∃ j, (fa F j).u.ownBlock = some i
def PmPO (X : Nat → Prop) (w : World) (B L P : Nat) (s : Po.S) : Prop := ∃ S b N hand mp F H, PmIs w B L P S b N hand mp F H s ∧ X = PmX P mp F
section
variable {w w' : World} {B L P S b N hand mp : Nat} {F : List Fr} {H : List (Option Nat)} {s : Po.S}
theorem FrIs.touch {T : Nat → Prop} {f : Fr} (h : FrIs w s f) (ht : Touch T w w') (hs : ∀ g, f.u.ownBlock = some g → ¬ T g) : FrIs w' s f := ⟨h.lsn, ht.bts h.body (fun _ => hs), h.pins, h.first, h.fl⟩
theorem PmIs.keep {T : Nat → Prop} (h : PmIs w B L P S b N hand mp F H s) (ht : Touch T w w') (hs : ∀ i, PmX P mp F i → ¬ T i) : PmIs w' B L P S b N hand mp F H s :=
  ⟨h.row.touch ht (hs P (Or.inl rfl)), h.map.touch ht (hs mp (Or.inr (Or.inl rfl))), h.hlen, h.ar, h.cnt, h.hand, h.held, h.into, h.onto, fun i hi => (h.fr i hi).touch ht fun g hg => hs g (Or.inr (Or.inr ⟨i, hg⟩)), h.rest, h.good, h.n16, h.ne, h.bod⟩
theorem Bts.own_lt {v : Value} {l : List Nat} (h : Bts w v l) (h0 : 0 < l.length) : ∀ g, v.ownBlock = some g → g < w.heap.size := fun g hg => by
  obtain ⟨p, cap, hv, -, -, hp⟩ := h.form
  obtain ⟨bk, off, rfl, hc⟩ := hp h0
  rw [hv] at hg
  simp only [Value.ownBlock, Option.some.injEq] at hg
  rw [← hg]
  exact lt_cell (hc 0 h0)
theorem PmIs.lt (h : PmIs w B L P S b N hand mp F H s) : ∀ i, PmX P mp F i → i < w.heap.size := by
  rintro i (rfl | rfl | ⟨j, hj⟩)
  · exact h.row.lt
  · exact h.map.lt
  · rcases Nat.lt_or_ge j s.held.length with hl | hl
    · have h1 := (h.fr j hl).body
      exact h1.own_lt (by rw [(h.good.ok _).2.1]; decide) i hj
    · rw [h.rest j hl] at hj; cases hj
theorem PmIs.bounds (h : PmIs w B L P S b N hand mp F H s) : s.held.length ≤ s.frames ∧ H.countP Option.isSome = s.held.length := ⟨h.good.few, by rw [h.held, heldL_length]⟩
structure PmIn (U V : Nat → Prop) (w : World) (B L P S b N hand mp : Nat) (F : List Fr) (H : List (Option Nat)) (n : Nat) (d : Dk.Dev) (lg : Wl.S) (s : Po.S) : Prop where
  log : WlPL U V w B L d lg
  pm : PmIs w B L P S b N hand mp F H s
  lies : Rg.Lies n S b N
  hw : Rg.HwN S b N d s.disk
  off : ∀ i, Both U V i → ¬ PmX P mp F i
  rule : Po.Rule lg s
  away : ∀ i, Rg.Has S b N i → i < lg.at_ ∨ lg.at_ + lg.count + 2 ≤ i
  near : Wl.Near n d
  n16 : n ≤ 65536
theorem PmIn.keep {T : Nat → Prop} {U V : Nat → Prop} {n : Nat} {d : Dk.Dev} {lg : Wl.S} (h : PmIn U V w B L P S b N hand mp F H n d lg s) (ht : Touch T w w') (hs : ∀ i, Both U V i → ¬ T i) (hp : ∀ i, PmX P mp F i → ¬ T i) : PmIn U V w' B L P S b N hand mp F H n d lg s :=
  ⟨wl_pkeep h.log ht hs, h.pm.keep ht hp, h.lies, h.hw, h.off, h.rule, h.away, h.near, h.n16⟩
theorem PmIn.below {U V : Nat → Prop} {n : Nat} {d : Dk.Dev} {lg : Wl.S} (h : PmIn U V w B L P S b N hand mp F H n d lg s) (hb : Below w.heap.size w w') : PmIn U V w' B L P S b N hand mp F H n d lg s :=
  h.keep (T := fun i => w.heap.size ≤ i) (.of_below hb fun _ _ h => h) (fun i hi => by have := wl_plt h.log i hi; omega) fun i hi => by have := h.pm.lt i hi; omega
theorem HwN_oth {S b N : Nat} {d d' : Dk.Dev} {f : Nat → Po.Pg} {at_ c : Nat} (h : Rg.HwN S b N d f) (ho : Wl.Oth at_ c d d') (ha : ∀ i, Rg.Has S b N i → i < at_ ∨ at_ + c + 2 ≤ i) : Rg.HwN S b N d' f :=
  h.same (fun i hi => (ho i (ha i hi) (h.idle i hi)).1) fun i hi => (ho i (ha i hi) (h.idle i hi)).2
end
end Go.Proofs.YtbpodmallknhfaaGreat
