/- What the law VectFirst answers, for every list of hits, every number and every two hits. Conditions: the slice's cells hold the hits. -/
import Derived.Test.YtljichhmfbefaaaVectMerge
namespace Go.Proofs.Ytljichhmfbefaaa
open Go.RowKit Go.Sort

def h77 : Hit := (77, 0)
theorem h77_key : (h77.1.toNat : Int) = 77 := rfl
theorem h77_dist : h77.2.toInt = 0 := rfl

theorem hbts_77 (w : World) : HBts (w.alloc (.cells #[.int .u64 77, .int .i64 0] 35)) (.slice (some ⟨w.heap.size, 0, none⟩) 1 1) [h77] := by
  have h := hbts_one w h77
  rw [h77_key, h77_dist] at h
  exact h

theorem cellsH_setKey (l : List Hit) (i : Nat) (k : UInt64) (hi : i < l.length) : cellsH (l.set i (k, (l.getD i default).2)) = (cellsH l).set (i * 2) (.int .u64 (k.toNat : Int)) := by
  induction l generalizing i with
  | nil => simp at hi
  | cons x l ih =>
    cases i with
    | zero => simp [cellsH, encH]
    | succ i =>
      have := ih i (by simpa using hi)
      rw [show (i + 1) * 2 = i * 2 + 1 + 1 by omega]
      simp only [cellsH, List.set_cons_succ, List.flatMap_cons, encH, List.getD_cons_succ] at *
      simpa using this

theorem wrap_key (k : UInt64) : IntKind.u64.wrap ((k.toNat : Int) + 1) = ((k + 1).toNat : Int) := by
  have h1 : (k + 1).toNat = (k.toNat + 1) % 18446744073709551616 := by simp [UInt64.toNat_add]
  have h2 : IntKind.u64.wrap ((k.toNat : Int) + 1) = ((k.toNat : Int) + 1) % 18446744073709551616 := by simp [IntKind.wrap, IntKind.bits, IntKind.signed]
  rw [h1, h2]
  omega

/-- One key written into a row of the call's own. -/
theorem HOwn.storedKey {base g cap : Nat} {w : World} {l : List Hit} (h : HOwn base w (.slice (some ⟨g, 0, none⟩) l.length cap) l) (i : Nat) (hi : i < l.length) (k : UInt64) :
    HOwn base (w.setCell ⟨g, i * 2, none⟩ (.int .u64 (k.toNat : Int))) (.slice (some ⟨g, 0, none⟩) l.length cap) (l.set i (k, (l.getD i default).2)) ∧ w.grownBy (w.setCell ⟨g, i * 2, none⟩ (.int .u64 (k.toNat : Int))) (some g) := by
  obtain ⟨h1, h2⟩ := World.ownsRow.stored h (i * 2) (.int .u64 (k.toNat : Int))
  rw [← cellsH_setKey l i k hi] at h1
  exact ⟨by unfold HOwn; rw [List.length_set]; exact h1, h2⟩

/-- What is so at the head of the law's loop. -/
structure FstInv (w5 : World) (n : Nat) (ps : Option Addr) (cs : Nat) (A : List Hit) (wr : World) : Prop where
  len : A.length = n
  own : HOwn w5.heap.size wr (.slice ps n cs) A
  below : Below w5.heap.size w5 wr

/-- The order of two hits, and whether each stands ahead, case by case. -/
theorem ord_cases (a b : Hit) : (Hp.ord a b = -1 ∧ decide (Hp.rk a < Hp.rk b) = true ∧ decide (Hp.rk b < Hp.rk a) = false) ∨ (Hp.ord a b = 0 ∧ decide (Hp.rk a < Hp.rk b) = false ∧ decide (Hp.rk b < Hp.rk a) = false) ∨ (Hp.ord a b = 1 ∧ decide (Hp.rk a < Hp.rk b) = false ∧ decide (Hp.rk b < Hp.rk a) = true) := by
  have h1 := @Hp.ord_lt a b
  have h2 := @Hp.ord_gt a b
  have h3 := Hp.ord_range a b
  simp only [decide_eq_true_eq, decide_eq_false_iff_not]
  omega

set_option maxHeartbeats 4000000 in
set_option maxRecDepth 20000 in
theorem vectFirst_any (v : Value) (l : List Hit) (k : Int) (a b : Hit) (w : World) (hB : HBts w v l) :
    Calls Try.prog 5 #[v, .int .i64 k, .agg #[.int .u64 (a.1.toNat : Int), .int .i64 a.2.toInt], .agg #[.int .u64 (b.1.toNat : Int), .int .i64 b.2.toInt]] w fun e w' => e = .returned (.bool true) ∧ Below w.heap.size w w' := by
  have HB := Lib.hid hB
  obtain ⟨p, cap, rfl, hrl, -, -⟩ := hB.form
  have h1 := fun W => order_any a b W
  have h2 := fun W => ahead_any a b W
  have h3 := fun W => ahead_any b a W
  have hcs := ord_cases a b
  generalize Hp.ord a b = o at *
  generalize decide (Hp.rk a < Hp.rk b) = r1 at *
  generalize decide (Hp.rk b < Hp.rk a) = r2 at *
  generalize (a.1.toNat : Int) = ka at *
  generalize a.2.toInt = da at *
  generalize (b.1.toNat : Int) = kb at *
  generalize b.2.toInt = db at *
  have H1 := Lib.hid h1
  have H2 := Lib.hid h2
  have H3 := Lib.hid h3
  clear h1 h2 h3 hB
  go_enter Try.func5, Try.ntmps5
  go_wp2_with fail
  obtain ⟨w1, hw1⟩ : ∃ w1, w1 = (w.alloc (Obj.cells #[Value.int IntKind.u64 ka, Value.int IntKind.i64 da] 35)).alloc (Obj.cells #[Value.int IntKind.u64 kb, Value.int IntKind.i64 db] 35) := ⟨_, rfl⟩
  have hG : Went w w1 := by rw [hw1]; exact ((Went.refl w).alloc _).alloc _
  have d1 : w1.cell? ⟨w.heap.size, 0, none⟩ = some (Value.int IntKind.u64 ka) := by rw [hw1]; simp
  have d2 : w1.cell? ⟨w.heap.size, 1, none⟩ = some (Value.int IntKind.i64 da) := by rw [hw1]; simp
  have d3 : w1.cell? ⟨w.heap.size + 1, 0, none⟩ = some (Value.int IntKind.u64 kb) := by rw [hw1]; simp
  have d4 : w1.cell? ⟨w.heap.size + 1, 1, none⟩ = some (Value.int IntKind.i64 db) := by rw [hw1]; simp
  rw [← hw1]
  clear hw1
  have HG := Lib.hid hG
  have D1 := Lib.hid d1
  have D2 := Lib.hid d2
  have D3 := Lib.hid d3
  have D4 := Lib.hid d4
  clear hG d1 d2 d3 d4
  obtain ⟨Bx, hBx⟩ : ∃ Bx, Bx = w.heap.size := ⟨_, rfl⟩
  rw [← hBx] at D1 D2 D3 D4 ⊢
  clear hBx
  rcases hcs with ⟨rfl, rfl, rfl⟩ | ⟨rfl, rfl, rfl⟩ | ⟨rfl, rfl, rfl⟩
  all_goals
    refine (H1.out _).mono ?_
    rintro e w2 ⟨rfl, hg2⟩
    have c1 := hg2.cell D1.out
    have c2 := hg2.cell D2.out
    have c3 := hg2.cell D3.out
    have c4 := hg2.cell D4.out
    have HG2 := Lib.hid (HG.out.trans hg2)
    have HC1 := Lib.hid c1
    have HC2 := Lib.hid c2
    have HC3 := Lib.hid c3
    have HC4 := Lib.hid c4
    clear hg2 D1 D2 D3 D4 HG H1
    go_wp2_with fail
    refine (H2.out _).mono ?_
    rintro e w3 ⟨rfl, hg3⟩
    have c1 := hg3.cell HC1.out
    have c2 := hg3.cell HC2.out
    have c3 := hg3.cell HC3.out
    have c4 := hg3.cell HC4.out
    have HG3 := Lib.hid (HG2.out.trans hg3)
    clear hg3 HC1 HC2 HC3 HC4 HG2 H2
    go_wp2_with fail
    refine (H3.out _).mono ?_
    rintro e w4 ⟨rfl, hg4⟩
    have HG4 := Lib.hid (HG3.out.trans hg4)
    clear hg4 HG3 H3
    have HB4 := Lib.hid (HB.out.below HG4.out.below)
    clear HB c1 c2 c3 c4
    by_cases hlen : 1500 < l.length
    · go_wp2_with fail
      refine (known_any _).mono ?_
      rintro e w' ⟨rfl, hb⟩
      have HK := Lib.hid (HG4.out.below.trans (hb.mono HG4.out.below.size))
      clear hb
      go_wp2_with fail
      go_ret
      exact ⟨rfl, HK.out⟩
    · have hll : l.length ≤ 1500 := by omega
      have HO := Lib.hid (hown_empty w4 w4.heap.size (Nat.le_refl _))
      have hb0 : Below w4.heap.size w4 (w4.alloc (.cells #[] 35)) := (Below.refl _ _).alloc (Nat.le_refl _) _
      have HW0 := Lib.hid hb0
      clear hb0
      go_upto_region 6 with (fail)
      go_step
      go_step
      go_step
      go_step
      go_step
      go_step
      go_step
      refine wpList_append_HOwn rfl (.tmp 42) (.tmp 43) rfl w4.heap.size _ [] rfl HO.out _ l rfl (HB4.out.below HW0.out) (by simp; omega) HW0.out.size ?_
      intro v5 w5 hown5 hb5 _
      rw [List.nil_append] at hown5
      have hal : Below w5.heap.size w5 (w5.alloc (.cells #[.int .u64 77, .int .i64 0] 35)) := (Below.refl _ _).alloc (Nat.le_refl _) _
      have H5 := Lib.hid (hown5.below hal)
      have HN5 := Lib.hid (hbts_77 w5)
      have hw5 := HW0.out.trans hb5
      have HW5 := Lib.hid (hw5.trans (hal.mono hw5.size))
      clear hown5 hb5 hw5 hal HO HW0
      go_step
      go_step
      go_step
      go_step
      go_step
      go_step
      refine wpList_append_HOwn rfl (.tmp 44) (.tmp 46) rfl w4.heap.size _ l rfl H5.out _ [h77] rfl HN5.out (by simp; omega) HW5.out.size ?_
      intro v6 w6 hown6 hb6 _
      have hw6 := HW5.out.trans hb6
      obtain ⟨gx, cx, rfl, hgx0, hgx, hcx, hcm⟩ : ∃ g c, v6 = .slice (some ⟨g, 0, none⟩) (l.length + 1) c ∧ w4.heap.size ≤ g ∧ g < w6.heap.size ∧ l.length + 1 ≤ c ∧ c ≤ 9223372036854775807 := by
        rcases hown6.form with ⟨_, h⟩ | ⟨g, c, rfl, h1, h2, h3, h4⟩
        · simp at h
        · exact ⟨g, c, by simp, h1, h2, by simpa using h3, h4⟩
      have HX6 := Lib.hid (show HOwn w4.heap.size w6 (.slice (some ⟨gx, 0, none⟩) (l ++ [h77]).length cx) (l ++ [h77]) from by simpa using hown6)
      have HB6 := Lib.hid (HB4.out.below hw6)
      have HG6 := Lib.hid (HG4.out.below.trans (hw6.mono HG4.out.below.size))
      clear hown6 hb6 hw6 H5 HN5 HW5 HB4 HG4
      have hxb : ∀ W, Below w6.heap.size w6 W → HBts W (.slice (some ⟨gx, 0, none⟩) l.length cx) l := fun W hW => by
        have h1 := (HX6.out.below hW).take l.length (by simp)
        rw [List.take_left] at h1
        exact h1.bts
      have HXB := Lib.hid hxb
      have h2 := first_any _ l k w6 (hxb w6 (Below.refl _ _)) (by omega)
      have HF := Lib.hid h2
      clear hxb h2
      have hlc : l.length ≤ cx := by omega
      go_wp2_with fail
      refine HF.out.mono ?_
      rintro e w7 hn
      obtain ⟨S, ps, cs, eS, rfl, h7, hb7⟩ := hn.split
      have HS7 := Lib.hid h7
      have HB7 := Lib.hid hb7
      have HR7 := Lib.hid (refFirst_any _ l k w7 (HB6.out.below hb7) (by omega))
      clear h7 hb7 hn HF
      go_wp2_with fail
      refine HR7.out.mono ?_
      rintro e w8 hn
      obtain ⟨D, pd, cd, eD, rfl, h8, hb8⟩ := hn.split
      have lS : S.length ≤ 1000000 := by
        have := take_most (Hp.srt l) k.toNat
        rw [Hp.srt_length] at this
        rw [eS.out]
        omega
      have HS8 := Lib.hid (HS7.out.below hb8)
      have HB8 := Lib.hid (HB7.out.trans (hb8.mono HB7.out.size))
      have HQ := Lib.hid (hsame_self _ _ _ _ w8 (HS7.out.below hb8).bts h8.bts lS (eS.out.trans eD.out.symm))
      clear h8 hb8 hn HR7 HS7 HB7
      go_wp2_with fail
      refine HQ.out.mono ?_
      rintro e w' ⟨rfl, n1, rfl⟩
      have HI := Lib.hid (show FstInv w6 S.length ps cs S (w8.drewN n1) from ⟨rfl, HS8.out.below (below_drewN (Below.refl _ _) n1), below_drewN HB8.out n1⟩)
      clear HQ HS8 HB8 eS eD
      go_wp2_with fail
      go_loopw [12] (fun i wr => ∃ (j : Nat) (A : List Hit), j ≤ S.length ∧ i = .int .i64 (j : Int) ∧ FstInv w6 S.length ps cs A wr) (fun i _ => S.length - (intOf i).toNat)
      case atStart => exact ⟨0, S, Nat.zero_le _, rfl, HI.out⟩
      case round =>
        obtain ⟨j, A, hj, rfl, hI⟩ := hrel
        have HJ := Lib.hid hI
        clear hI HI
        by_cases hlt : j < S.length
        · have hown := HJ.out.own
          rw [← HJ.out.len] at hown
          obtain ⟨gs, rfl, hgs⟩ : ∃ g, ps = some ⟨g, 0, none⟩ ∧ w6.heap.size ≤ g := by
            rcases hown.form with ⟨_, h⟩ | ⟨g, c, h, h1, _⟩
            · have := HJ.out.len; rw [h] at this; simp at this; omega
            · simp only [Value.slice.injEq] at h
              exact ⟨g, h.1, h1⟩
          obtain ⟨hc1, -⟩ := hown.at j (by rw [HJ.out.len]; exact hlt)
          have hf1 := hown.free (j * 2)
          obtain ⟨s1, s2⟩ := hown.storedKey j (by rw [HJ.out.len]; exact hlt) ((A.getD j default).1 + 1)
          rw [HJ.out.len] at s1
          rw [← wrap_key] at s1 s2
          have HST := Lib.hid (show FstInv w6 S.length (some ⟨gs, 0, none⟩) cs _ _ from ⟨by rw [List.length_set]; exact HJ.out.len, s1, HJ.out.below.grown s2 HJ.out.below.size (fun i hi => by cases hi; exact hgs)⟩)
          have hj0 : (0 : Int) ≤ (j : Int) := by omega
          clear hown s1 s2
          generalize ((A.getD j default).1.toNat : Int) = z at *
          go_wp2_with fail
          exact ⟨⟨j + 1, _, by omega, by go_num, HST.out⟩, by simp [intOf]; omega⟩
        · have HQ := Lib.hid (hsame_self _ _ _ _ wr (HXB.out wr HJ.out.below) (HB6.out.below HJ.out.below) (by omega) rfl)
          obtain ⟨hm1, hm2⟩ := (HX6.out.below HJ.out.below).at l.length (by simp)
          rw [show (l ++ [h77]).getD l.length default = h77 by simp] at hm1 hm2
          rw [h77_key] at hm1
          rw [h77_dist] at hm2
          have HBW := Lib.hid HJ.out.below
          have hwl : IntKind.i64.wrap ((l.length : Int) + 1) = ((l.length + 1 : Nat) : Int) := by rw [IntWalk.i64_in _ (by omega)]; omega
          have hx1 : l.length + 1 ≤ cx := hcx
          have hx2 : l.length < l.length + 1 := by omega
          clear HXB HB6 HX6 HJ
          go_wp2_with fail
          refine HQ.out.mono ?_
          rintro e w' ⟨rfl, n2, rfl⟩
          go_wp2_with fail
          refine (known_any _).mono ?_
          rintro e w' ⟨rfl, hb⟩
          have hbw := HG6.out.trans (HBW.out.mono HG6.out.size)
          have HK := Lib.hid ((below_drewN hbw n2).trans (hb.mono (by have := hbw.size; simp; omega)))
          clear hb hbw
          go_wp2_with fail
          go_ret
          exact ⟨rfl, HK.out⟩
end Go.Proofs.Ytljichhmfbefaaa
