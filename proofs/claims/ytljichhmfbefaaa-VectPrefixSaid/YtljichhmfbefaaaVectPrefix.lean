/- What the law VectPrefix answers, for every list of hits and every two numbers. Conditions: the slice's cells hold the hits. -/
import Derived.Test.YtljichhmfbefaaaVectMerge
namespace Go.Proofs.Ytljichhmfbefaaa
open Go.RowKit Go.Sort

theorem drop_rev (l : List Hit) (m : Nat) (hm : m < l.length) : (l.drop m).reverse = (l.drop (m + 1)).reverse ++ [l.getD m default] := by
  rw [List.drop_eq_getElem_cons hm, List.reverse_cons, List.getD_eq_getElem?_getD, List.getElem?_eq_getElem hm]; rfl

set_option maxHeartbeats 1600000 in
set_option maxRecDepth 20000 in
theorem vectPrefix_any (v : Value) (l : List Hit) (k more : Int) (w : World) (hB : HBts w v l) :
    Calls Try.prog 9 #[v, .int .i64 k, .int .i64 more] w fun e w' => e = .returned (.bool true) ∧ Below w.heap.size w w' := by
  have HB := Lib.hid hB
  obtain ⟨p, cap, rfl, hrl, -, hpl⟩ := hB.form
  have HPL := Lib.hid hpl
  clear hB hpl
  by_cases hg : l.length ≤ 1500 ∧ 0 ≤ k ∧ 0 ≤ more ∧ k ≤ 2000 ∧ more ≤ 2000
  · obtain ⟨g1, g2, g3, g4, g5⟩ := hg
    obtain ⟨kk, rfl⟩ : ∃ kk : Nat, k = (kk : Int) := ⟨k.toNat, by omega⟩
    obtain ⟨mm, rfl⟩ : ∃ mm : Nat, more = (mm : Int) := ⟨more.toNat, by omega⟩
    have hwk : IntKind.i64.wrap ((kk : Int) + mm) = (kk : Int) + mm := IntWalk.i64_in _ (by omega)
    have h1 := first_any _ l (kk : Int) w HB.out (by omega)
    rw [Int.toNat_natCast] at h1
    have HF1 := Lib.hid h1
    clear h1
    go_enter Try.func9, Try.ntmps9
    go_wp2_with fail
    refine HF1.out.mono ?_
    rintro e w1 hn
    obtain ⟨A, pa, ca, eA, rfl, hA1, hb1⟩ := hn.split
    have h2 := first_any _ l ((kk : Int) + mm) w1 (HB.out.below hb1) (by omega)
    rw [show ((kk : Int) + mm).toNat = kk + mm by omega] at h2
    have HF2 := Lib.hid h2
    have HA1 := Lib.hid hA1
    have HB1 := Lib.hid hb1
    clear h2 hA1 hb1 hn HF1
    go_wp2_with fail
    refine HF2.out.mono ?_
    rintro e w2 hn
    obtain ⟨B, pb, cb, eB, rfl, hBB, hb2⟩ := hn.split
    have HA2 := Lib.hid (HA1.out.below hb2)
    have HBB2 := Lib.hid hBB
    have HB2 := Lib.hid (HB1.out.trans (hb2.mono HB1.out.size))
    clear hBB hb2 hn HF2 HA1 HB1
    go_wp2_with fail
    go_loopw [9, 10] (fun bk i wr => ∃ m : Nat, m ≤ l.length ∧ i = .int .i64 ((m : Int) - 1) ∧ HOwn w2.heap.size wr bk (l.drop m).reverse ∧ Below w2.heap.size w2 wr) (fun _ i _ => (intOf i + 1).toNat)
    case atStart => exact ⟨l.length, Nat.le_refl _, by go_num, by rw [List.drop_length]; exact hown_nil _ _, Below.refl _ _⟩
    case round =>
      obtain ⟨m, hm, rfl, hbk, hbw⟩ := hrel
      have HBK := Lib.hid hbk
      have HBW := Lib.hid hbw
      clear hbk hbw
      rcases Nat.eq_zero_or_pos m with rfl | h0
      · rw [List.drop_zero] at HBK
        rw [show ((0 : Nat) : Int) - 1 = -1 from rfl]
        obtain ⟨q, cq, hv9, -, -, -⟩ := HBK.out.bts.form
        subst hv9
        have hbw := HB2.out.trans (HBW.out.mono HB2.out.size)
        have HBr := Lib.hid hbw
        have hAr := HA2.out.below HBW.out
        have hBr := HBB2.out.below HBW.out
        have la : A.length = min kk l.length := by rw [eA.out, List.length_take, Hp.srt_length]
        have lb : B.length = min (kk + mm) l.length := by rw [eB.out, List.length_take, Hp.srt_length]
        have hmin1 : min (kk : Int) (l.length : Int) = (A.length : Int) := by omega
        have hmin2 : min ((kk : Int) + mm) (l.length : Int) = (B.length : Int) := by omega
        have hAB : A = B.take A.length := by
          rw [la, eA.out, eB.out, List.take_take]
          by_cases h : kk ≤ l.length
          · congr 1; omega
          · rw [List.take_of_length_le (by rw [Hp.srt_length]; omega), List.take_of_length_le (by rw [Hp.srt_length]; omega)]
        have hBt := hBr.bts.take A.length (by omega)
        have hcb : A.length ≤ cb := by
          obtain ⟨_, _, e1, h1, -, -⟩ := hBr.bts.form
          simp only [Value.slice.injEq] at e1
          obtain ⟨-, -, rfl⟩ := e1
          omega
        have HS1 := Lib.hid (hsame_self _ _ _ _ wr hAr.bts hBt (by omega) hAB)
        have h3 := fun n => first_any _ l.reverse ((kk : Int) + mm) (wr.drewN n) ((HBK.out.below (below_drewN (Below.refl _ _) n)).bts) (by simp; omega)
        rw [show ((kk : Int) + mm).toNat = kk + mm by omega, Hp.srt_of_perm (List.reverse_perm l), List.length_reverse] at h3
        have HF3 := Lib.hid h3
        have HBv := Lib.hid hBr
        clear hbw hAr hBr hBt hAB la lb h3 HPL HB HA2 HBB2 HB2 eA
        go_wp2_with fail
        refine HS1.out.mono ?_
        rintro e w' ⟨rfl, n1, rfl⟩
        go_wp2_with fail
        refine (HF3.out n1).mono ?_
        rintro e w4 hn
        obtain ⟨D, pd, cd, eD, rfl, hD, hb4⟩ := hn.split
        have hb5 : Below wr.heap.size wr w4 := (below_drewN (Below.refl _ wr) n1).trans hb4
        have HS2 := Lib.hid (hsame_self _ _ _ _ w4 (HBv.out.below hb5).bts hD.bts (by omega) (eB.out.trans eD.out.symm))
        have HB5 := Lib.hid (HBr.out.trans (hb5.mono HBr.out.size))
        clear hD hb4 hb5 hn
        go_wp2_with fail
        refine HS2.out.mono ?_
        rintro e w' ⟨rfl, n2, rfl⟩
        go_wp2_with fail
        refine (known_any _).mono ?_
        rintro e w' ⟨rfl, hb⟩
        have HK := Lib.hid ((below_drewN HB5.out n2).trans (hb.mono (by have := HB5.out.size; simp; omega)))
        clear hb
        go_wp2_with fail
        go_ret
        exact ⟨rfl, HK.out⟩
      · obtain ⟨n, rfl⟩ : ∃ n, m = n + 1 := ⟨m - 1, by omega⟩
        have hi0 : ((n + 1 : Nat) : Int) - 1 = (n : Int) := by omega
        rw [hi0]
        obtain ⟨b, off, rfl, -⟩ := HPL.out (by omega)
        have hlr := (HB.out.below HB2.out).below HBW.out
        obtain ⟨hc1, hc2⟩ := hlr.at n (by omega)
        have hdr := drop_rev l n (by omega)
        obtain ⟨y, hy⟩ : ∃ y, l.getD n default = y := ⟨_, rfl⟩
        rw [hy] at hc1 hc2 hdr
        have HDR := Lib.hid hdr
        have hal : Below wr.heap.size wr (wr.alloc (.cells #[.int .u64 (y.1.toNat : Int), .int .i64 y.2.toInt] 35)) := (Below.refl _ _).alloc (Nat.le_refl _) _
        have HBK2 := Lib.hid (HBK.out.below hal)
        have HBW2 := Lib.hid (HBW.out.trans (hal.mono HBW.out.size))
        have HON := Lib.hid (hbts_one wr y)
        have hwn : IntKind.i64.wrap ((n : Int) - 1) = (n : Int) - 1 := IntWalk.i64_in _ (by omega)
        have hln : (l.drop (n + 1)).reverse.length ≤ 1500 := by simp; omega
        have hnl : n < l.length := by omega
        have HLN := Lib.hid hln
        clear hlr hy hdr hal hln hi0
        go_upto_region 8 with (fail)
        go_step
        go_step
        go_step
        go_step
        go_step
        go_step
        go_step
        go_step
        go_step
        go_step
        go_step
        go_step
        go_step
        go_step
        go_step
        go_step
        go_step
        go_step
        go_step
        refine wpList_append_HOwn rfl (.tmp 46) (.tmp 51) rfl w2.heap.size _ _ rfl HBK2.out _ [y] rfl HON.out (by have := HLN.out; simp only [List.length_cons, List.length_nil]; omega) HBW2.out.size ?_
        intro v5 w5 hown5 hb5 _
        rw [← HDR.out] at hown5
        have H5 := Lib.hid hown5
        have H6 := Lib.hid (HBW2.out.trans hb5)
        clear hown5 hb5 hc1 hc2
        go_wp2_with fail
        go_roundw
        case rel => exact ⟨n, by omega, by go_num, H5.out, H6.out⟩
        case measure => simp [intOf]
  · have hcase : 1500 < l.length ∨ l.length ≤ 1500 ∧ k < 0 ∨ l.length ≤ 1500 ∧ 0 ≤ k ∧ more < 0 ∨ l.length ≤ 1500 ∧ 0 ≤ k ∧ 0 ≤ more ∧ 2000 < k ∨ l.length ≤ 1500 ∧ 0 ≤ k ∧ 0 ≤ more ∧ k ≤ 2000 ∧ 2000 < more := by omega
    clear hg
    rcases hcase with h1 | ⟨h1, h2⟩ | ⟨h1, h2, h3⟩ | ⟨h1, h2, h3, h4⟩ | ⟨h1, h2, h3, h4, h5⟩
    all_goals
      go_enter Try.func9, Try.ntmps9
      go_wp2_with fail
      refine (known_any _).mono ?_
      rintro e w' ⟨rfl, hb⟩
      have HK := Lib.hid hb
      clear hb
      go_wp2_with fail
      go_ret
      exact ⟨rfl, HK.out⟩
end Go.Proofs.Ytljichhmfbefaaa
