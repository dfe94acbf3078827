/- Flush, by the program. Conditions: the log stands on its device. -/
import Derived.Test.YtafpjcobagofcaaGreatWlPL
import Derived.Test.YtafpjcobagofcaaGreatWlFl
namespace Go.Proofs.YtafpjcobagofcaaGreat
open Go.RowKit

theorem wl_waits_flush (s : Wl.S) (h : Wl.Good s) : Wl.waits (Wl.flush s) = [] := by
  have h1 := Wl.bytes_length h
  show (Wl.bytes s).drop (s.stop - s.start) = []
  exact List.drop_eq_nil_of_le (by omega)
theorem wl_flush_same : ∀ s : Wl.S, s.flushed = s.stop → Wl.flush s = s
  | ⟨_, _, _, _, _, _, _, _⟩, h => by
    cases (show _ = _ from h)
    rfl
/-- What Flush answers. -/
def FlA (U V : Nat → Prop) (n B L : Nat) (d : Dk.Dev) (s : Wl.S) (w : World) (e : Ending) (w' : World) : Prop :=
    (∃ U' V' d', e = .returned (.int .i64 0) ∧ WlPL U' V' w' B L d' (Wl.flush s) ∧ Wl.Near n d' ∧ (Wl.Calm n d → Wl.Calm n d') ∧ Touch (Both U V) w w' ∧ Grew U U' w ∧ Grew V V' w) ∨
    (¬ Wl.Calm n d ∧ ∃ k : Nat, ∃ U' d', e = .returned (.int .i64 (k : Int)) ∧ k ≠ 0 ∧ WlPD U' w' B d' ∧ Wl.Near n d' ∧ (∀ ps, Wl.Hd (Dk.crash d' ps) s) ∧ Touch (Both U V) w w' ∧ Grew U U' w)
set_option maxHeartbeats 3200000 in
set_option maxRecDepth 20000 in
theorem wl_flush {U V : Nat → Prop} {w : World} {B L : Nat} {d : Dk.Dev} {n : Nat} {s : Wl.S} (h : WlPL U V w B L d s) (hN : Wl.Near n d) (hs : s.stop ≤ 1000000000000) :
    Calls Tryz.prog 15 #[.pointer (some ⟨L, 0, none⟩)] w fun e w' => FlA U V n B L d s w e w' := by
  have HPL := Lib.hid h
  obtain ⟨m1, m2, pl, wa, hm, rfl, hp, rfl, haw, said, hsd, hd⟩ := h
  have HSD := Lib.hid hsd
  have hrd := wlReady_any hm.log
  obtain ⟨p, cap, rfl⟩ := wa_slice hm.owa
  have c8 := hm.log.cell 8 (v := .slice p (Wl.waits s).length cap) rfl
  have hwl := Wl.waits_length hm.ex.good
  have HM := Lib.hid hm
  have HN := Lib.hid hN
  have HS := Lib.hid hs
  by_cases h0 : (Wl.waits s).length = 0
  · have hfl : Wl.flush s = s := by
      have h2 := hm.ex.good.high
      have : s.flushed = s.stop := by omega
      exact wl_flush_same s this
    have HFL := Lib.hid hfl
    rw [h0] at c8
    clear hm hp haw hd hwl hN hs hfl
    go_enter Tryz.func15, Tryz.ntmps15
    go_wp2_with (go_at_call 26; refine hrd.mono ?_; rintro e w' ⟨rfl, rfl⟩)
    go_ret
    exact Or.inl ⟨_, _, d, rfl, by rw [HFL.out]; exact HPL.out, HN.out, id, .refl _ _, fun i hi => Or.inl hi, fun i hi => Or.inl hi⟩
  · have h0i : ¬ ((Wl.waits s).length : Int) = 0 := by omega
    have h0b : (((Wl.waits s).length : Int) == 0) = false := by rw [beq_eq_false_iff_ne]; exact h0i
    rcases hm.owa.form with ⟨-, e0⟩ | ⟨gw, cw, hv, -, hc1, hc2, -⟩
    · rw [e0] at h0; exact absurd rfl h0
    simp only [Value.slice.injEq, true_and] at hv
    obtain ⟨rfl, rfl⟩ := hv
    have hLd : ¬ DS B m1 m2 L := fun h => haw L h (Or.inl rfl)
    have hWd : ¬ PutS B m1 m2 L gw := fun h => by
      rcases h with h | h
      · exact haw gw h (Or.inr (Or.inr rfl))
      · exact hm.nwa (by rw [← h]; rfl)
    have hwr := wlWrite_any hm.log hp hm.owa.bts hm.ex hd hN (by have := hm.ex.good.high; omega) hs hLd hWd
    have HWR := Lib.hid hwr
    have HLD := Lib.hid hLd
    have HAW := Lib.hid haw
    clear hm hp haw hd hwl hN hs hwr hLd hWd
    go_enter Tryz.func15, Tryz.ntmps15
    go_upto_region 6 with (go_at_call 26; refine hrd.mono ?_; rintro e w' ⟨rfl, rfl⟩)
    clear c8 hrd
    go_wp2_with fail
    refine HWR.out.mono ?_
    rintro e w1 (⟨d', rfl, hP1, hD1, hN1, hC1, hL1, ht1⟩ | ⟨hnc, k, d', rfl, hk, hP1, hN1, hD1, ht1⟩)
    · have hend := wlEnd_any hL1 (by show s.flushed + _ < _; rw [HM.out.end_]; have := HS.out; omega)
      rw [show (Wl.kn s).flushed + (Wl.waits s).length = s.stop from HM.out.end_] at hend
      have HEND := Lib.hid hend
      have HL1 := Lib.hid hL1
      have HP1 := Lib.hid hP1
      have HD1 := Lib.hid hD1
      have HN1 := Lib.hid hN1
      have HC1 := Lib.hid hC1
      have HT1 := Lib.hid ht1
      clear hend hL1 hP1 hD1 hN1 hC1 ht1 HWR
      go_wp2_with fail
      refine HEND.out.mono ?_
      rintro e w2 ⟨rfl, q, rfl⟩
      have HL2 : Hid (LogAt (w1.drewN q) L (Wl.kn s) B s.at_ s.count pl (.slice (some ⟨gw, 0, none⟩) (Wl.waits s).length cap) false) := HL1.out
      have HP2 := Lib.hid (HP1.out.below (below_drewN _ _ q))
      have HT2 : Hid (Touch (PutS B m1 m2 L) w (w1.drewN q)) := HT1.out.drewN q
      clear HEND
      generalize w1.drewN q = w2 at *
      have f1 := blk_free HL2.out 1
      have s1 : LogAt (w2.setCell ⟨L, 1, none⟩ (.int .u64 (s.stop : Int))) L (Wl.kn (Wl.flush s)) B s.at_ s.count pl (.slice (some ⟨gw, 0, none⟩) (Wl.waits s).length cap) false := blk_set (i := 1) HL2.out _
      have f8 := blk_free s1 8
      have s8 : LogAt ((w2.setCell ⟨L, 1, none⟩ (.int .u64 (s.stop : Int))).setCell ⟨L, 8, none⟩ (.slice none 0 0)) L (Wl.kn (Wl.flush s)) B s.at_ s.count pl (.slice none 0 0) false := blk_set (i := 8) s1 _
      have g1 := HL2.out.cell 1 (v := .int .u64 (s.flushed : Int)) rfl
      have g8 := LogAt.cell s1 8 (v := .slice (some ⟨gw, 0, none⟩) (Wl.waits s).length cap) rfl
      have S8 := Lib.hid s8
      have HT8 : Hid (Touch (PutS B m1 m2 L) w ((w2.setCell ⟨L, 1, none⟩ (.int .u64 (s.stop : Int))).setCell ⟨L, 8, none⟩ (.slice none 0 0))) := (HT2.out.trans (.set L 1 _ (Or.inr rfl))).trans (.set L 8 _ (Or.inr rfl))
      have HP8 := Lib.hid ((HP2.out.keep (Touch.set (S := (· = L)) L 1 (.int .u64 (s.stop : Int)) rfl) (fun i hi e => HLD.out (e ▸ hi))).keep (Touch.set (S := (· = L)) L 8 (.slice none 0 0) rfl) (fun i hi e => HLD.out (e ▸ hi)))
      clear s1 s8
      go_wp2_with fail
      go_ret
      refine Or.inl ⟨DS B m1 m2, LogV L pl (.slice none 0 0), d', rfl, ⟨m1, m2, pl, .slice none 0 0, ⟨Wl.ex_flush HM.out.ex, S8.out, ?_, ?_, HM.out.npl, (fun h => by cases h), fun i hi h => by cases h⟩, rfl, HP8.out, rfl, fun i hi hv => ?_, said, HSD.out, HD1.out⟩, HN1.out, HC1.out, HT8.out.mono fun i _ hi => ?_, fun i hi => Or.inl hi, fun i hi => Or.inl ?_⟩
      · exact HM.out.qpl.touch HT8.out (fun g hg hp => by
          rcases hp with hp | hp
          · exact HAW.out g hp (Or.inr (Or.inl hg))
          · exact HM.out.npl (by rw [hg, hp]))
      · rw [wl_waits_flush s HM.out.ex.good]; exact own_nil _ _
      · rcases hv with hv | hv | hv
        · exact HAW.out i hi (Or.inl hv)
        · exact HAW.out i hi (Or.inr (Or.inl hv))
        · cases hv
      · rcases hi with hi | hi
        · exact Or.inl hi
        · exact Or.inr (Or.inl hi)
      · rcases hi with hi | hi | hi
        · exact Or.inl hi
        · exact Or.inr (Or.inl hi)
        · cases hi
    · have h1 : ¬ (k : Int) = 0 := by omega
      have h2 : ((k : Int) != 0) = true := by simp; omega
      have HP1 := Lib.hid hP1
      have HD1 := Lib.hid hD1
      have HN1 := Lib.hid hN1
      have HT1 := Lib.hid ht1
      have HK := Lib.hid hk
      have HNC := Lib.hid hnc
      clear hP1 hD1 hN1 ht1 hk hnc HWR
      go_wp2_with fail
      go_ret
      refine Or.inr ⟨HNC.out, k, DS B m1 m2, d', rfl, HK.out, ⟨m1, m2, HP1.out, rfl⟩, HN1.out, fun ps => Wl.Hd.crash ⟨HM.out.ex, said, HSD.out, HD1.out⟩ ps, HT1.out.mono fun i _ hi => ?_, fun i hi => Or.inl hi⟩
      rcases hi with hi | hi
      · exact Or.inl hi
      · exact Or.inr (Or.inl hi)
end Go.Proofs.YtafpjcobagofcaaGreat
