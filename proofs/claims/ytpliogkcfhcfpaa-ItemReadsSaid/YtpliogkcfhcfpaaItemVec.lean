/- What readVec answers: so many components as the count tells, read one by one; none, if they are too many. Conditions: the reader's state. -/
import Derived.Test.YtpliogkcfhcfpaaItemMay
import Derived.Test.YtpliogkcfhcfpaaI32Row
import Derived.Test.YtpliogkcfhcfpaaCodeText
namespace Go.Proofs.Ytpliogkcfhcfpaa
open Go.RowKit

/-- The vector that is read. -/
def Itm.vecF (l : List Nat) (e : Nat) : List Int × List Nat × Nat :=
  if 4096 < (Cod.rdUv l e).1 then ([], (Cod.rdUv l e).2) else Itm.rdVec (Cod.rdUv l e).1 (Cod.rdUv l e).2.1 (Cod.rdUv l e).2.2

theorem i32_wrap {m : Nat} (h : m < 4294967296) : IntKind.i32.wrap (m : Int) = Itm.i32 m := by
  simp only [IntKind.wrap, IntKind.bits, IntKind.signed]
  unfold Itm.i32
  simp
  split <;> split <;> omega

theorem grown_new {w a b : World} {B g : Nat} (h : w.grownBy a (some B)) (k : a.grownBy b (some g)) (hg : w.heap.size ≤ g) : w.grownBy b (some B) :=
  ⟨k.os.trans h.os, k.tape.trans h.tape, k.output.trans h.output, Nat.le_trans h.size k.size, fun i hi hr => (k.block i (Nat.lt_of_lt_of_le hi h.size) (by intro e; have := Option.some.inj e; omega)).trans (h.block i hi hr)⟩

theorem Rd.small {T : TypeId} {lo : Nat → Prop} {w : World} {B : Nat} {l : List Nat} {e : Nat} (h : Rd T lo w B l e) : ∀ x ∈ l, x < 256 := by
  obtain ⟨s, hs⟩ := h; exact hs.2.1.small

set_option maxHeartbeats 1600000 in
set_option maxRecDepth 20000 in
theorem readVec_any (lo : Nat → Prop) (B e : Nat) (l : List Nat) (w : World) (hR : Rd 67 lo w B l e) (hlo : ∀ b, lo b → b < w.heap.size) :
    Calls Try.prog 32 #[.pointer (some ⟨B, 0, none⟩)] w fun en w' => ∃ v, en = .returned v ∧ I32.Own w.heap.size w' v (Itm.vecF l e).1 ∧ Rd 67 lo w' B (Itm.vecF l e).2.1 (Itm.vecF l e).2.2 ∧ w.grownBy w' (some B) := by
  have HR := Lib.hid hR
  have HLO := Lib.hid hlo
  have HBW := Lib.hid hR.lt
  clear hR hlo
  by_cases hn : 4096 < (Cod.rdUv l e).1
  · have hF : Itm.vecF l e = ([], (Cod.rdUv l e).2) := if_pos hn
    rw [hF]
    clear hF
    obtain ⟨n, hnn⟩ : ∃ n, n = (Cod.rdUv l e).1 := ⟨_, rfl⟩
    have HN := Lib.hid hnn
    rw [← hnn] at hn
    clear hnn
    go_enter Try.func32, Try.ntmps32
    go_wp2_with fail
    refine (Uv_any lo B e l _ HR.out).mono ?_
    rintro en w1 ⟨rfl, hR1, hg1⟩
    have HR1 := Lib.hid hR1
    have HG1 := Lib.hid hg1
    clear hR1 hg1
    rw [← HN.out]
    go_wp2_with fail
    go_ret
    exact ⟨_, rfl, I32.own_nil _ _, HR1.out, HG1.out⟩
  · have hF : Itm.vecF l e = Itm.rdVec (Cod.rdUv l e).1 (Cod.rdUv l e).2.1 (Cod.rdUv l e).2.2 := if_neg hn
    rw [hF]
    clear hF
    have hsm := Itm.rdUv_small (l := l) (e := e) HR.out.small
    generalize hq : Cod.rdUv l e = q at *
    obtain ⟨n, l1, e1⟩ := q
    simp only [] at hn hsm ⊢
    have HQ := Lib.hid hq
    have HSM := Lib.hid hsm
    clear hq hsm
    have hn2 : n ≤ 4096 := by omega
    have hdn : decide (4096 < (n : Int)) = false := by simp; omega
    go_enter Try.func32, Try.ntmps32
    go_wp2_with fail
    refine (Uv_any lo B e l _ HR.out).mono ?_
    rintro en w1 ⟨rfl, hR1, hg1⟩
    rw [HQ.out] at hR1 ⊢
    have HR1 := Lib.hid hR1
    have HG1 := Lib.hid hg1
    clear hR1 hg1
    go_upto_region 4 with (fail)
    iterate 4 go_step
    refine I32.wpList_make_len rfl (.tmp 10) (.tmp 10) rfl w1.heap.size .u64 .u64 n rfl rfl (by omega) (Nat.le_refl _) ?_
    intro g w2 hO2 hgb hb2
    have HO2 := Lib.hid hO2
    have HGB := Lib.hid hgb
    have HR2 := Lib.hid (HR1.out.below hb2)
    have HG2 := Lib.hid (grownBy_trans HG1.out (grownBy_below hb2 _))
    clear hO2 hgb hb2
    go_wp2_with fail
    obtain ⟨b0, hb0⟩ : ∃ b0, b0 = w1.heap.size := ⟨_, rfl⟩
    have HGE : Hid (w.heap.size ≤ g) := Nat.le_trans HG1.out.size HGB.out
    have HO3 : Hid (I32.Own w.heap.size w2 (.slice (some ⟨g, 0, none⟩) n n) (List.replicate n 0)) := HO2.out.from HG1.out.size
    clear hb0 HO2 HGB HG1 HR1
    go_loopw [14] (fun i wr => ∃ kk : Nat, kk ≤ n ∧ i = .int .i64 kk ∧ I32.Own w.heap.size wr (.slice (some ⟨g, 0, none⟩) n n) ((Itm.rdVec kk l1 e1).1 ++ List.replicate (n - kk) 0) ∧ Rd 67 lo wr B (Itm.rdVec kk l1 e1).2.1 (Itm.rdVec kk l1 e1).2.2 ∧ w.grownBy wr (some B)) (fun i _ => n - (intOf i).toNat)
    case atStart => exact ⟨0, by omega, rfl, by simpa [Itm.rdVec] using HO3.out, by simpa [Itm.rdVec] using HR2.out, HG2.out⟩
    case round =>
      obtain ⟨kk, hk, rfl, hO, hRr, hG⟩ := hrel
      have HO := Lib.hid hO
      have HRr := Lib.hid hRr
      have HG := Lib.hid hG
      have HVL := Lib.hid (Itm.rdVec_length kk l1 e1)
      clear hO hRr hG
      by_cases hlt : kk < n
      · have HSTEP : Hid (Itm.rdVec (kk + 1) l1 e1 = ((Itm.rdVec kk l1 e1).1 ++ [Itm.i32 (Cod.rdNum 4 (Itm.rdVec kk l1 e1).2.1 (Itm.rdVec kk l1 e1).2.2).1], (Cod.rdNum 4 (Itm.rdVec kk l1 e1).2.1 (Itm.rdVec kk l1 e1).2.2).2)) := rfl
        have HLT := Lib.hid (Itm.rdNum_lt (k := 4) (e := (Itm.rdVec kk l1 e1).2.2) (Itm.rdVec_small kk (e := e1) HSM.out))
        generalize hacc : (Itm.rdVec kk l1 e1).1 = acc at *
        generalize hl2 : (Itm.rdVec kk l1 e1).2.1 = l2 at *
        generalize he2 : (Itm.rdVec kk l1 e1).2.2 = e2 at *
        clear hacc hl2 he2
        go_wp2_with fail
        refine (U32_any lo B e2 l2 _ HRr.out).mono ?_
        rintro en w3 ⟨rfl, hR3, hg3⟩
        generalize hq2 : Cod.rdNum 4 l2 e2 = q2 at *
        obtain ⟨m, l3, e3⟩ := q2
        simp only [] at hR3 HSTEP HLT ⊢
        have hgB : (some g) ≠ some B := by intro e; have := Option.some.inj e; have := HGE.out; have := HBW.out; omega
        have hO3 := HO.out.grown hg3 (Or.inr hgB)
        have hL : (acc ++ List.replicate (n - kk) (0 : Int)).length = n := by
          rw [List.length_append, List.length_replicate, HVL.out]; omega
        rw [show Value.slice (some ⟨g, 0, none⟩) n n = Value.slice (some ⟨g, 0, none⟩) (acc ++ List.replicate (n - kk) (0 : Int)).length n by rw [hL]] at hO3
        obtain ⟨hcg, hfg⟩ := hO3.cellAt kk (by omega)
        obtain ⟨hst1, hst2⟩ := hO3.stored kk (Itm.i32 m) (okk_of (Itm.comp_i32 HLT.out))
        rw [hL] at hst1
        have hset := set_next acc (Itm.i32 m) (n - kk) (by omega)
        rw [HVL.out] at hset
        rw [hset] at hst1
        have HS1 := Lib.hid hst1
        have HG3 := Lib.hid (grown_new (grownBy_trans HG.out hg3) hst2 HGE.out)
        have HR4 := Lib.hid (hR3.grown hst2 (fun g' hg' => by
          have := Option.some.inj hg'
          subst this
          have h1 := HGE.out
          have h2 := HBW.out
          exact ⟨fun hh => by have := HLO.out _ hh; omega, by omega⟩))
        have hwrp := i32_wrap HLT.out
        clear hO3 hst1 hst2 hset hL hgB hR3 hg3 hq2
        generalize Itm.i32 m = z at *
        go_wp2_with fail
        go_roundw
        case rel => exact ⟨kk + 1, by omega, by go_num, by rw [HSTEP.out, show n - (kk + 1) = n - kk - 1 by omega]; exact HS1.out, by rw [HSTEP.out]; exact HR4.out, HG3.out⟩
        case measure => simp [intOf]; omega
      · obtain rfl : kk = n := by omega
        have hO2 := HO.out
        rw [Nat.sub_self, List.replicate_zero, List.append_nil] at hO2
        have HO2 := Lib.hid hO2
        clear hO2
        go_wp2_with fail
        go_ret
        exact ⟨_, rfl, HO2.out, HRr.out, HG.out⟩
end Go.Proofs.Ytpliogkcfhcfpaa
