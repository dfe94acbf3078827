/- What the document's All answers, over lists of floats. Conditions: the slice's cells hold the numbers; at most a million. -/
import Derived.Test.YtemamkbcagnigaaQuantAll
namespace Go.Proofs.Ytemamkbcagnigaa
open Go.RowKit

set_option maxHeartbeats 1600000 in
set_option maxRecDepth 20000 in
theorem refAll_any (v : Value) (l : List Int) (n : Int) (w : World) (hB : U64.Bts w v l) (hl : l.length ≤ 1000000) :
    Calls Try.prog 18 #[v, .int .i64 n] w (AllAns l n w) := by
  have HB := Lib.hid hB
  obtain ⟨p, cap, rfl, hr, hn, hp⟩ := hB.form
  have HP := Lib.hid hp
  clear hp hB hr hn
  cases hs : Qf.okS n
  · have hf : Qf.allF l n = (0, 0, 2, []) := by unfold Qf.allF; rw [hs]; rfl
    have HF := Lib.hid hf
    have ho := Qf.okS_false hs
    clear hf hs
    rcases ho with ho | ⟨ho1, ho2⟩
    all_goals
     go_enter Try.func18, Try.ntmps18
     go_wp2_with fail
     exact bodyPost_ret (v := .tuple #[.slice none 0 0, .int .i64 0, .int .i64 0, .int .i64 2]) (by simp [results, Try.results18, go_sem]) rfl ⟨_, by rw [HF.out], by rw [HF.out]; exact I32.own_nil _ _, Below.refl _ _⟩
  · obtain ⟨ho1, ho2⟩ := Qf.okS_true hs
    have d3 : decide (n < -64) = false := by simp; omega
    have d4 : decide (64 < n) = false := by simp; omega
    by_cases hlen : l.length < 1 ∨ 4096 < l.length
    · have hf : Qf.allF l n = (0, 0, 9, []) := by unfold Qf.allF; rw [hs, if_pos rfl, if_pos hlen]
      have HF := Lib.hid hf
      clear hf hs
      rcases hlen with h1 | h1
      all_goals
        have h2 : l.length < 1 ∨ 1 ≤ l.length := by omega
        clear h2
        go_enter Try.func18, Try.ntmps18
        go_wp2_with fail
        exact bodyPost_ret (v := .tuple #[.slice none 0 0, .int .i64 0, .int .i64 0, .int .i64 9]) (by simp [results, Try.results18, go_sem]) rfl ⟨_, by rw [HF.out], by rw [HF.out]; exact I32.own_nil _ _, Below.refl _ _⟩
    · have hf : Qf.allF l n = Qf.scan n l 0 0 [] := by unfold Qf.allF; rw [hs, if_pos rfl, if_neg hlen]
      have HF := Lib.hid hf
      have h1 : 1 ≤ l.length := by omega
      have h2 : l.length ≤ 4096 := by omega
      have d1 : decide ((l.length : Int) < 1) = false := by simp; omega
      have d2 : decide (4096 < (l.length : Int)) = false := by simp; omega
      clear hf hs hlen
      go_enter Try.func18, Try.ntmps18
      go_wp2
      go_loopw [8, 9, 10] (fun sl s t wr => ∃ (k : Nat) (m : Int) (acc : List Int) (sv : Value), sv = sl ∧ k ≤ l.length ∧ t = .int .i64 k ∧ s = .int .i64 m ∧ acc.length = k ∧ I32.Own w.heap.size wr sl acc ∧ Qf.scan n (l.drop k) k m acc = Qf.scan n l 0 0 [] ∧ Below w.heap.size w wr) (fun _ _ t _ => l.length - (intOf t).toNat)
      case atStart => exact ⟨0, 0, [], _, rfl, by omega, rfl, rfl, rfl, I32.own_nil _ _, by simp, Below.refl _ _⟩
      case round =>
        obtain ⟨k, m, acc, sv, hsv, hk, rfl, rfl, hacc, hown, hsc, hbel⟩ := hrel
        subst hsv
        have HO := Lib.hid hown
        have HC := Lib.hid hsc
        have HW := Lib.hid hbel
        have HA := Lib.hid hacc
        clear hown hsc hbel hacc
        by_cases hlt : k < l.length
        · have hst := Qf.scan_step n l k m acc hlt
          rw [HC.out] at hst
          have HST := Lib.hid hst
          clear hst
          have hBk := HB.out.below HW.out
          have hok := hBk.getD k
          obtain ⟨b, off, hpe, hc⟩ := HP.out (by omega)
          subst hpe
          have hck : ‹World›.cell? ⟨b, off + k, none⟩ = some (.int .u64 (l.getD k 0)) := by
            rw [HW.out.cell (p := ⟨b, off + k, none⟩) (block_lt_of_cell (hc k hlt))]
            exact hc k hlt
          clear hc hBk
          generalize l.getD k 0 = x at *
          have HOK := Lib.hid hok
          clear hok
          by_cases he : Qf.qe x.toNat n = 0
          · have hst := HST.out
            rw [if_pos he] at hst
            have HN := Lib.hid hst.symm
            clear hst HST
            go_wp2_with fail
            refine (refQuant_int _ _ _ HOK.out).mono ?_
            rintro e w' ⟨rfl, rfl⟩
            rw [he]
            clear he
            go_upto_region 13 with (fail)
            iterate 10 go_step
            refine I32.wpList_append_byte rfl (.tmp 48) (.tmp 50) rfl w.heap.size _ acc rfl HO.out rfl _ (Qf.qv_ok _ _) (by rw [HA.out]; omega) HW.out.size ?_
            intro v2 w2 hown2 hb2
            have HO2 := Lib.hid hown2
            have HW2 := Lib.hid (HW.out.trans hb2)
            clear hown2 hb2
            go_wp2_with fail
            go_roundw
            case rel => exact ⟨k + 1, _, acc ++ [Qf.qv x.toNat n], _, rfl, by omega, by go_num, rfl, by rw [List.length_append, HA.out]; rfl, HO2.out, HN.out, HW2.out⟩
            case measure => simp [intOf]; omega
          · have hst := HST.out
            rw [if_neg he] at hst
            have HN := Lib.hid hst
            clear hst HST
            go_wp2_with fail
            refine (refQuant_int _ _ _ HOK.out).mono ?_
            rintro e w' ⟨rfl, rfl⟩
            go_wp2_with fail
            exact bodyPost_ret (v := .tuple #[.slice none 0 0, .int .i64 0, .int .i64 k, .int .i64 (Qf.qe x.toNat n)]) (by simp [results, Try.results18, go_sem]) rfl ⟨_, by rw [HF.out, HN.out], by rw [HF.out, HN.out]; exact I32.own_nil _ _, HW.out⟩
        · have hd := Qf.scan_done n l k m acc hlt
          rw [HC.out] at hd
          have HD := Lib.hid hd
          clear hd
          go_wp2_with fail
          exact bodyPost_ret (v := .tuple #[sv, .int .i64 m, .int .i64 0, .int .i64 0]) (by simp [results, Try.results18, go_sem]) rfl ⟨_, by rw [HF.out, HD.out], by rw [HF.out, HD.out]; exact HO.out, HW.out⟩
end Go.Proofs.Ytemamkbcagnigaa
