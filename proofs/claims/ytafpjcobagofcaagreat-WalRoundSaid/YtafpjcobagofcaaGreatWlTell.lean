/- Both sectors ahead of the ring are told anew, by the program. Conditions: the device is on and not armed. -/
import Derived.Test.YtafpjcobagofcaaGreatWlHead
import Derived.Test.YtafpjcobagofcaaGreatWlRd
import Derived.Test.YtafpjcobagofcaaGreatDkM
import Derived.StillTailTactics
namespace Go.Proofs.YtafpjcobagofcaaGreat
open Go.RowKit

/-- Ahead of operation i one thing is so, behind it another. -/
structure Fl (P0 P1 : World → Prop) (i : Nat) (D : Nat → Bool) (w : World) : Prop where
  s0 : D i = false → P0 w
  s1 : D i = true → P1 w
section
variable {P0 P1 : World → Prop} {i : Nat} {D : Nat → Bool} {w w' : World}
theorem Fl.first (h : P0 w) : Fl P0 P1 i (fun _ => false) w := ⟨fun _ => h, fun h => Bool.noConfusion h⟩
theorem Fl.skip (h : Fl P0 P1 i D w) (k : Nat) (hk : i ≠ k) : Fl P0 P1 i (Ord.wth D k) w :=
  ⟨fun e => h.s0 (by rw [← e]; exact (if_neg hk).symm), fun e => h.s1 (by rw [← e]; exact (if_neg hk).symm)⟩
theorem Fl.keep (_ : Fl P0 P1 i D w) (k : Nat) (hk : i ≠ k) (hd : D i = true) (hp : P1 w') : Fl P0 P1 i (Ord.wth D k) w' :=
  ⟨(fun e => by rw [show Ord.wth D k i = D i from if_neg hk, hd] at e; cases e), fun _ => hp⟩
theorem Fl.flip (_ : Fl P0 P1 i D w) (hp : P1 w') : Fl P0 P1 i (Ord.wth D i) w' :=
  ⟨(fun e => by rw [show Ord.wth D i i = true from if_pos rfl] at e; cases e), fun _ => hp⟩
theorem Fl.any {R : World → Prop} (h : Fl P0 P1 i D w) (f0 : ∀ w, P0 w → R w) (f1 : ∀ w, P1 w → R w) : R w := by
  cases hd : D i with
  | false => exact f0 w (h.s0 hd)
  | true => exact f1 w (h.s1 hd)
end
namespace Wl
theorem calm_write {n : Nat} {d : Dk.Dev} (h : Calm n d) (ok : Dk.Ok d) {i : Nat} (hi : i < n) {b : List Nat} (hb : Dk.Sec b) : Dk.write d (i : Int) b = (Dk.put d i b, 0) ∧ Calm n (Dk.put d i b) ∧ Dk.Ok (Dk.put d i b) := by
  have hu : Dk.used d < d.most ∨ d.seen.getD i false = true := by
    cases hs : d.seen.getD i false with
    | true => exact Or.inr rfl
    | false =>
      refine Or.inl ?_
      have hsz := h.sz
      have hl : i < d.seen.length := by rw [ok.s]; omega
      have h5 := Dk.count_set_new hl hs
      have h6 : (d.seen.set i true).count true ≤ (d.seen.set i true).length := List.count_le_length
      rw [List.length_set, ok.s] at h6
      have := h.most
      unfold Dk.used
      omega
  exact ⟨Dk.write_fine h.off h.armed (by rw [h.sz]; exact hi) hb.1 hu, ⟨h.off, h.armed, h.sz, h.most⟩, Dk.ok_put ok i hb⟩
/-- The device when K of both sectors are written. -/
def tellD (d : Dk.Dev) (a : Nat) (b : List Nat) : Nat → Dk.Dev
  | 0 => d
  | 1 => Dk.put d a b
  | _ => Dk.put (Dk.put d a b) (a + 1) b
theorem tellD_next {n K : Nat} {d : Dk.Dev} {a : Nat} {b : List Nat} (hK : K < 2) (h : Calm n (tellD d a b K)) (ok : Dk.Ok (tellD d a b K)) (ha : a + 1 < n) (hb : Dk.Sec b) :
    Dk.write (tellD d a b K) ((a + K : Nat) : Int) b = (tellD d a b (K + 1), 0) ∧ Calm n (tellD d a b (K + 1)) ∧ Dk.Ok (tellD d a b (K + 1)) := by
  obtain rfl | rfl : K = 0 ∨ K = 1 := by omega
  · exact calm_write h ok (by omega) hb
  · exact calm_write h ok (by omega) hb
end Wl
/-- What stands when the sector of number K is written. -/
def TlF (L B a K aK gu nu cu : Nat) (i : Nat) (v : Value) (_ : World) : Prop :=
  match i with
  | 0 => v = .pointer (some ⟨L, 0, none⟩)
  | 1 => v = .pointer (some ⟨L, 0, none⟩)
  | 2 => v = .pointer (some ⟨L, 0, none⟩)
  | 3 => v = .pointer (some ⟨L, 4, none⟩)
  | 4 => v = .pointer (some ⟨B, 0, none⟩)
  | 5 => v = .pointer (some ⟨L, 0, none⟩)
  | 6 => v = .pointer (some ⟨L, 0, none⟩)
  | 7 => v = .pointer (some ⟨L, 5, none⟩)
  | 8 => v = .int .i64 (a : Int)
  | 9 => v = .int .i64 (K : Int)
  | 10 => v = .int .i64 (aK : Int)
  | 11 => v = .slice (some ⟨gu, 0, none⟩) nu cu
  | 12 => v = .int .i64 0
  | 13 => v = .int .i64 0
  | 14 => v = .int .i64 0
  | _ => True
def TlP (B m1 m2 L a c : Nat) (k0 : Wl.Kn) (pl wa : Value) (w1 : World) (d : Dk.Dev) (w : World) : Prop := PDev w B m1 m2 d ∧ LogAt w L k0 B a c pl wa false ∧ Touch (PutS B m1 m2 L) w1 w
set_option maxHeartbeats 6400000 in
set_option maxRecDepth 20000 in
theorem wlTell_any {w : World} {L B a c m1 m2 n : Nat} {k0 : Wl.Kn} {pl wa : Value} {d : Dk.Dev} (h : LogAt w L k0 B a c pl wa false) (hP : PDev w B m1 m2 d) (hC : Wl.Calm n d) (k : Wl.Kn) (hfit : a + c + 2 ≤ n) (hc : c ≤ 8192) (hLd : ¬ DS B m1 m2 L) :
    Calls Tryz.prog 33 #[.pointer (some ⟨L, 0, none⟩), KnV k] w fun e w' => e = .returned (.int .i64 0) ∧ LogAt w' L k B a c pl wa false ∧ PDev w' B m1 m2 (Wl.told d a (Wl.head a c k)) ∧ Touch (PutS B m1 m2 L) w w' := by
  obtain ⟨W, hW⟩ : ∃ W, W = w.alloc (.cells (KnC k) 62) := ⟨_, rfl⟩
  have hb0 : Below w.heap.size w W := by rw [hW]; exact below_new1 _ _
  have hrow : W.heap[w.heap.size]? = some (.cells (KnC k) 62 (0, 0)) := by rw [hW]; exact heap_alloc_last _ _
  obtain ⟨Q, hQ⟩ : ∃ Q, Q = w.heap.size := ⟨_, rfl⟩
  rw [← hQ] at hrow
  have hlt := h.lt
  have hsz := hP.own.size
  have hn := hC.sz
  have HLG := Lib.hid (h.below hb0)
  have HPD := Lib.hid (hP.below hb0)
  have HLT : Hid (L < w.heap.size) := hlt
  have HDL := Lib.hid hP.lt
  have HROW := Lib.hid hrow
  have HB0 := Lib.hid hb0
  have HQ := Lib.hid hQ
  have HC := Lib.hid hC
  have HOK := Lib.hid hP.own.ok
  have HA : Hid (a + 1 < n ∧ a ≤ 65536) := by show _ ∧ _; omega
  have HSEC := Lib.hid (Wl.head_sec a c k)
  have HLD := Lib.hid hLd
  have q0 := blk_cell hrow 0 (v := .int .u64 (k.start : Int)) rfl
  have q1 := blk_cell hrow 1 (v := .int .u64 (k.flushed : Int)) rfl
  have q2 := blk_cell hrow 2 (v := .int .u64 (k.point : Int)) rfl
  have q3 := blk_cell hrow 3 (v := .int .u32 (k.epoch : Int)) rfl
  have hform := wlForm_any HLG.out k (by omega) hc
  have HFORM := Lib.hid hform
  clear hb0 hrow hlt hsz hn h hP hC hfit hc hLd hform
  go_enter Tryz.func33, Tryz.ntmps33
  go_upto_region 1 with (fail)
  rw [← hW, ← hQ]
  clear hW hQ
  go_wp2_with fail
  refine HFORM.out.mono ?_
  rintro e w1 ⟨u, rfl, hO, hb1⟩
  generalize hhb : Wl.head a c k = hb at *
  have HHB := Lib.hid hhb
  obtain ⟨gu, cu, hu, hgu, -⟩ := own_some hO (by rw [HSEC.out.1]; decide)
  subst hu
  have HLG1 := Lib.hid (HLG.out.below hb1)
  have HPD1 := Lib.hid (HPD.out.below hb1)
  have HO := Lib.hid hO.bts
  have HB1 := Lib.hid (HB0.out.trans (hb1.mono HB0.out.size))
  have HGU : Hid (W.heap.size ≤ gu) := hgu
  have HR1 := Lib.hid ((hb1.block Q (lt_of_block HROW.out)).trans HROW.out)
  have HWS := Lib.hid HB0.out.size
  have HQ1 : Hid (Q < W.heap.size) := lt_of_block HROW.out
  clear hO hb1 hgu HFORM q0 q1 q2 q3 hhb
  go_wp2_with fail
  go_loopw [12] (fun i wr => ∃ K : Nat, K ≤ 2 ∧ i = .int .i64 (K : Int) ∧ Wl.Calm n (Wl.tellD d a hb K) ∧ PDev wr B m1 m2 (Wl.tellD d a hb K) ∧ LogAt wr L k0 B a c pl wa false ∧ Touch (PutS B m1 m2 L) w1 wr) (fun i _ => 2 - (intOf i).toNat)
  case atStart => exact ⟨0, Nat.zero_le _, rfl, HC.out, HPD1.out, HLG1.out, .refl _ _⟩
  case round =>
    obtain ⟨K, hK, rfl, hc1, hp1, hl1, ht1⟩ := hrel
    have HC1 := Lib.hid hc1
    have HP1 := Lib.hid hp1
    have HL1 := Lib.hid hl1
    have HT1 := Lib.hid ht1
    clear hc1 hp1 hl1 ht1
    have hgn : ¬ PutS B m1 m2 L gu := by
      rintro (h | h)
      · have h1 := HDL.out gu h; have h2 := HGU.out; have h3 := HWS.out; omega
      · have h1 := HLT.out; have h2 := HGU.out; have h3 := HWS.out; omega
    by_cases hlt : K < 2
    · have hi : (K : Int) < 2 := by omega
      have hm1 := IntWalk.i64_in ((a : Int) + (K : Int)) (by have := HA.out; omega)
      have hm2 := IntWalk.i64_in ((K : Int) + 1) (by omega)
      obtain ⟨aK, haK⟩ : ∃ n, n = a + K := ⟨_, rfl⟩
      have HM3 : Hid (IntKind.i64.wrap ((a : Int) + (K : Int)) = (aK : Int)) := by show _ = _; rw [hm1]; omega
      obtain ⟨hw1, hw2, hw3⟩ := Wl.tellD_next hlt HC1.out HP1.out.own.ok HA.out.1 HSEC.out
      rw [← haK] at hw1
      have hbt := HT1.out.bts HO.out (fun _ g' e => by
        simp only [Value.ownBlock, Option.some.injEq] at e
        subst e
        exact hgn)
      have HBT := Lib.hid hbt
      have HW1 := Lib.hid hw1
      have HW2 := Lib.hid hw2
      have HGN := Lib.hid hgn
      clear hbt hw1 hw2 hw3 hK hgn haK hm1
      go_upto_region 5 with (fail)
      refine Ord.walk (TlF L B a K aK gu hb.length cu) (fun D _ w' => Fl (TlP B m1 m2 L a c k0 pl wa w1 (Wl.tellD d a hb K)) (TlP B m1 m2 L a c k0 pl wa w1 (Wl.tellD d a hb (K + 1))) 12 D w') (fun _ _ => True)
        (by kernel_rfl) (by kernel_rfl) ?fr ?hfr (fun _ _ _ _ _ h => h) (fun xs => Fl.first ⟨HP1.out.below ((Below.refl _ _).go1), HL1.out.below ((Below.refl _ _).go1), HT1.out.drew⟩) ?he ?hend
      case hfr =>
        intro xs
        simp only [Ord.fill, Act.put, List.setIfInBounds_toArray, List.set_cons_zero, List.set_cons_succ]
        rfl
      case he =>
        refine Ord.each_cons (fun D xs w2 hD hC hP hR hA K' hK => ?_) ?_
        · -- 0
          clear hA
          go_simp
          exact hK _ _ ⟨_, rfl, trivial, hR.skip 0 (by decide), rfl⟩
        refine Ord.each_cons (fun D xs w2 hD hC hP hR hA K' hK => ?_) ?_
        · -- 1
          clear hA
          go_simp
          exact hK _ _ ⟨_, rfl, trivial, hR.skip 1 (by decide), rfl⟩
        refine Ord.each_cons (fun D xs w2 hD hC hP hR hA K' hK => ?_) ?_
        · -- 2
          have q1 := Ord.ahead_get _ hA 1 (by decide)
          simp only [TlF] at q1
          simp only [q1] at hK
          clear hA
          go_simp
          exact hK _ _ ⟨_, rfl, trivial, hR.skip 2 (by decide), rfl⟩
        refine Ord.each_cons (fun D xs w2 hD hC hP hR hA K' hK => ?_) ?_
        · -- 3
          have q2 := Ord.ahead_get _ hA 2 (by decide)
          simp only [TlF] at q2
          simp only [q2] at hK
          clear hA
          go_simp
          exact hK _ _ ⟨_, rfl, trivial, hR.skip 3 (by decide), rfl⟩
        refine Ord.each_cons (fun D xs w2 hD hC hP hR hA K' hK => ?_) ?_
        · -- 4
          have q3 := Ord.ahead_get _ hA 3 (by decide)
          simp only [TlF] at q3
          simp only [q3] at hK
          clear hA
          have cc := hR.any (R := fun w => w.cell? ⟨L, 4, none⟩ = some (.pointer (some ⟨B, 0, none⟩))) (fun w h => h.2.1.cell 4 rfl) (fun w h => h.2.1.cell 4 rfl)
          go_simp
          exact hK _ _ ⟨_, rfl, trivial, hR.skip 4 (by decide), rfl⟩
        refine Ord.each_cons (fun D xs w2 hD hC hP hR hA K' hK => ?_) ?_
        · -- 5
          clear hA
          go_simp
          exact hK _ _ ⟨_, rfl, trivial, hR.skip 5 (by decide), rfl⟩
        refine Ord.each_cons (fun D xs w2 hD hC hP hR hA K' hK => ?_) ?_
        · -- 6
          have q5 := Ord.ahead_get _ hA 5 (by decide)
          simp only [TlF] at q5
          simp only [q5] at hK
          clear hA
          go_simp
          exact hK _ _ ⟨_, rfl, trivial, hR.skip 6 (by decide), rfl⟩
        refine Ord.each_cons (fun D xs w2 hD hC hP hR hA K' hK => ?_) ?_
        · -- 7
          have q6 := Ord.ahead_get _ hA 6 (by decide)
          simp only [TlF] at q6
          simp only [q6] at hK
          clear hA
          go_simp
          exact hK _ _ ⟨_, rfl, trivial, hR.skip 7 (by decide), rfl⟩
        refine Ord.each_cons (fun D xs w2 hD hC hP hR hA K' hK => ?_) ?_
        · -- 8
          have q7 := Ord.ahead_get _ hA 7 (by decide)
          simp only [TlF] at q7
          simp only [q7] at hK
          clear hA
          have cc := hR.any (R := fun w => w.cell? ⟨L, 5, none⟩ = some (.int .i64 (a : Int))) (fun w h => h.2.1.cell 5 rfl) (fun w h => h.2.1.cell 5 rfl)
          go_simp
          exact hK _ _ ⟨_, rfl, trivial, hR.skip 8 (by decide), rfl⟩
        refine Ord.each_cons (fun D xs w2 hD hC hP hR hA K' hK => ?_) ?_
        · -- 9
          clear hA
          go_simp
          exact hK _ _ ⟨_, rfl, trivial, hR.skip 9 (by decide), rfl⟩
        refine Ord.each_cons (fun D xs w2 hD hC hP hR hA K' hK => ?_) ?_
        · -- 10
          have q8 := Ord.ahead_get _ hA 8 (by decide)
          simp only [TlF] at q8
          have q9 := Ord.ahead_get _ hA 9 (by decide)
          simp only [TlF] at q9
          simp only [q8, q9] at hK
          clear hA
          go_simp
          rw [HM3.out]
          exact hK _ _ ⟨_, rfl, trivial, hR.skip 10 (by decide), rfl⟩
        refine Ord.each_cons (fun D xs w2 hD hC hP hR hA K' hK => ?_) ?_
        · -- 11
          clear hA
          go_simp
          exact hK _ _ ⟨_, rfl, trivial, hR.skip 11 (by decide), rfl⟩
        refine Ord.each_cons (fun D xs w2 hD hC hP hR hA K' hK => ?_) ?_
        · -- 12
          have q4 := Ord.ahead_get _ hA 4 (by decide)
          simp only [TlF] at q4
          have q10 := Ord.ahead_get _ hA 10 (by decide)
          simp only [TlF] at q10
          have q11 := Ord.ahead_get _ hA 11 (by decide)
          simp only [TlF] at q11
          simp only [q4, q10, q11] at hK
          clear hA
          have h0 := hR.s0 hD
          have hwr := write_any h0.1 (aK : Int) (.slice (some ⟨gu, 0, none⟩) hb.length cu) hb (h0.2.2.bts HO.out (fun _ g' e => by
            simp only [Value.ownBlock, Option.some.injEq] at e
            subst e
            exact HGN.out)) (fun _ g' e hd => by
            simp only [Value.ownBlock, Option.some.injEq] at e
            subst e
            exact HGN.out (Or.inl hd))
          rw [HW1.out] at hwr
          go_simp
          refine hwr.mono ?_
          rintro e w' ⟨rfl, hP', ht'⟩
          exact hK _ _ ⟨_, rfl, trivial, hR.flip ⟨hP', h0.2.1.touch ht' HLD.out, h0.2.2.trans (ht'.mono fun i _ hi => Or.inl hi)⟩, rfl⟩
        refine Ord.each_cons (fun D xs w2 hD hC hP hR hA K' hK => ?_) ?_
        · -- 13
          have q0 := Ord.ahead_get _ hA 0 (by decide)
          simp only [TlF] at q0
          have q12 := Ord.ahead_get _ hA 12 (by decide)
          simp only [TlF] at q12
          simp only [q0, q12] at hK
          clear hA
          have h1 := hR.s1 (hP { on := 12, ground := .data } (by simp) rfl)
          go_simp
          refine (wlTold_ok h1.2.1).mono ?_
          rintro e w' ⟨rfl, hL', ht'⟩
          exact hK _ _ ⟨_, rfl, trivial, hR.keep 13 (by decide) (hP { on := 12, ground := .data } (by simp) rfl) ⟨h1.1.keep ht' (fun i hi e => HLD.out (e ▸ hi)), hL', h1.2.2.trans (ht'.mono fun i _ hi => Or.inr hi)⟩, rfl⟩
        refine Ord.each_cons (fun D xs w2 hD hC hP hR hA K' hK => ?_) ?_
        · -- 14
          have q13 := Ord.ahead_get _ hA 13 (by decide)
          simp only [TlF] at q13
          simp only [q13] at hK
          clear hA
          go_simp
          exact hK _ _ ⟨_, rfl, trivial, hR.skip 14 (by decide), rfl⟩
        exact Ord.each_nil
      case hend =>
        intro D xs w9 hR hF
        have h9 := hR.s1 (hF 12 (by decide)).1
        have e0 := (hF 0 (by decide)).2
        have e1 := (hF 1 (by decide)).2
        have e2 := (hF 2 (by decide)).2
        have e3 := (hF 3 (by decide)).2
        have e4 := (hF 4 (by decide)).2
        have e5 := (hF 5 (by decide)).2
        have e6 := (hF 6 (by decide)).2
        have e7 := (hF 7 (by decide)).2
        have e8 := (hF 8 (by decide)).2
        have e9 := (hF 9 (by decide)).2
        have e10 := (hF 10 (by decide)).2
        have e11 := (hF 11 (by decide)).2
        have e12 := (hF 12 (by decide)).2
        have e13 := (hF 13 (by decide)).2
        have e14 := (hF 14 (by decide)).2
        simp only [TlF] at e0 e1 e2 e3 e4 e5 e6 e7 e8 e9 e10 e11 e12 e13 e14
        rw [e0, e1, e2, e3, e4, e5, e6, e7, e8, e9, e10, e11, e12, e13, e14]
        clear hF hR  e0 e1 e2 e3 e4 e5 e6 e7 e8 e9 e10 e11 e12 e13 e14
        have HP9 := Lib.hid h9.1
        have HL9 := Lib.hid h9.2.1
        have HT9 := Lib.hid h9.2.2
        clear h9
        go_wp2_with fail
        go_roundw
        case rel => exact ⟨K + 1, by omega, by go_num, HW2.out, HP9.out, HL9.out, HT9.out⟩
        case measure => simp [intOf]; omega
    · obtain rfl : K = 2 := by omega
      have hi : ¬ ((2 : Nat) : Int) < 2 := by decide
      have c4 := HL1.out.cell 4 (v := .pointer (some ⟨B, 0, none⟩)) rfl
      have hsy := sync_any HP1.out
      rw [Dk.sync_fine HC1.out.off HC1.out.armed] at hsy
      have HSY := Lib.hid hsy
      have HRQ := Lib.hid (HT1.out.row HR1.out (by
        rintro (h | h)
        · have h1 := HDL.out _ h; have h2 := HQ.out; omega
        · have h1 := HLT.out; have h2 := HQ.out; omega))
      clear hsy hlt hgn
      go_wp2_with fail
      refine HSY.out.mono ?_
      rintro e w2 ⟨rfl, hP2, ht2⟩
      have HP2 := Lib.hid hP2
      have HL2 := Lib.hid (HL1.out.touch ht2 HLD.out)
      have HT2 := Lib.hid (HT1.out.trans (ht2.mono fun i _ hi => Or.inl hi))
      have HRQ2 := Lib.hid (ht2.row HRQ.out (fun h => by have h1 := HDL.out _ h; have h2 := HQ.out; omega))
      clear hP2 ht2 HSY c4
      go_wp2_with fail
      refine (wlTold_ok HL2.out).mono ?_
      rintro e w3 ⟨rfl, hL3, ht3⟩
      have HP3 := Lib.hid (HP2.out.keep ht3 (fun i hi e => HLD.out (e ▸ hi)))
      have HT3 := Lib.hid (HT2.out.trans (ht3.mono fun i _ hi => Or.inr hi))
      have hrq3 := ht3.row HRQ2.out (fun h => by have h1 := HLT.out; have h2 := HQ.out; omega)
      have q0 := blk_cell hrq3 0 (v := .int .u64 (k.start : Int)) rfl
      have q1 := blk_cell hrq3 1 (v := .int .u64 (k.flushed : Int)) rfl
      have q2 := blk_cell hrq3 2 (v := .int .u64 (k.point : Int)) rfl
      have q3 := blk_cell hrq3 3 (v := .int .u32 (k.epoch : Int)) rfl
      have f0 := blk_free hL3 0
      have s0 : LogAt (w3.setCell ⟨L, 0, none⟩ (.int .u64 (k.start : Int))) L { k0 with start := k.start } B a c pl wa false := blk_set (i := 0) hL3 _
      have f1 := blk_free s0 1
      have s1 : LogAt ((w3.setCell ⟨L, 0, none⟩ (.int .u64 (k.start : Int))).setCell ⟨L, 1, none⟩ (.int .u64 (k.flushed : Int))) L { k0 with start := k.start, flushed := k.flushed } B a c pl wa false := blk_set (i := 1) s0 _
      have f2 := blk_free s1 2
      have s2 : LogAt (((w3.setCell ⟨L, 0, none⟩ (.int .u64 (k.start : Int))).setCell ⟨L, 1, none⟩ (.int .u64 (k.flushed : Int))).setCell ⟨L, 2, none⟩ (.int .u64 (k.point : Int))) L { k0 with start := k.start, flushed := k.flushed, point := k.point } B a c pl wa false := blk_set (i := 2) s1 _
      have f3 := blk_free s2 3
      have s3 : LogAt ((((w3.setCell ⟨L, 0, none⟩ (.int .u64 (k.start : Int))).setCell ⟨L, 1, none⟩ (.int .u64 (k.flushed : Int))).setCell ⟨L, 2, none⟩ (.int .u64 (k.point : Int))).setCell ⟨L, 3, none⟩ (.int .u32 (k.epoch : Int))) L k B a c pl wa false := blk_set (i := 3) s2 _
      have g0 := LogAt.cell hL3 0 (v := .int .u64 (k0.start : Int)) rfl
      have g1 := LogAt.cell s0 1 (v := .int .u64 (k0.flushed : Int)) rfl
      have g2 := LogAt.cell s1 2 (v := .int .u64 (k0.point : Int)) rfl
      have g3 := LogAt.cell s2 3 (v := .int .u32 (k0.epoch : Int)) rfl
      have S3 := Lib.hid s3
      have htl : Touch (· = L) w3 ((((w3.setCell ⟨L, 0, none⟩ (.int .u64 (k.start : Int))).setCell ⟨L, 1, none⟩ (.int .u64 (k.flushed : Int))).setCell ⟨L, 2, none⟩ (.int .u64 (k.point : Int))).setCell ⟨L, 3, none⟩ (.int .u32 (k.epoch : Int))) := (((Touch.set (S := (· = L)) L 0 _ rfl).trans (.set L 1 _ rfl)).trans (.set L 2 _ rfl)).trans (.set L 3 _ rfl)
      have HTL := Lib.hid htl
      clear hrq3 s0 s1 s2 s3 hL3 ht3 htl
      go_wp2_with fail
      go_ret
      refine ⟨rfl, S3.out, ?_, ((Touch.of_new HB1.out).trans HT3.out).trans (HTL.out.mono fun i _ hi => Or.inr hi)⟩
      rw [HHB.out]
      exact HP3.out.keep HTL.out (fun i hi e => HLD.out (e ▸ hi))
end Go.Proofs.YtafpjcobagofcaaGreat
