/- What the document's device does at Sync. Conditions: the device's blocks. -/
import Derived.Test.YthjciddhghfcbaaDiskWrite
namespace Go.Proofs.Ythjciddhghfcbaa
open Go.RowKit

namespace Dk
/-- A device whose first k sectors last as L says and wait no more. -/
def mix (d : Dev) (L : List (List Nat)) (k : Nat) : Dev := { d with lasts := L.take k ++ d.lasts.drop k, waits := List.replicate k none ++ d.waits.drop k }
theorem mix_zero (d : Dev) (L : List (List Nat)) : mix d L 0 = d := rfl
theorem mix_lasts (d : Dev) (L : List (List Nat)) (k : Nat) (hk : k < size d) (hL : L.length = size d) : (mix d L k).lasts.getD k [] = d.lasts.getD k [] := by
  have h1 : (L.take k).length = k := by rw [List.length_take]; omega
  show (L.take k ++ d.lasts.drop k).getD k [] = _
  rw [List.getD_eq_getElem?_getD, List.getElem?_append_right (by omega), h1, Nat.sub_self, List.getElem?_drop, Nat.add_zero, List.getD_eq_getElem?_getD]
theorem mix_waits (d : Dev) (L : List (List Nat)) (k : Nat) : (mix d L k).waits.getD k none = d.waits.getD k none := by
  show (List.replicate k none ++ d.waits.drop k).getD k none = _
  rw [List.getD_eq_getElem?_getD, List.getElem?_append_right (by simp), List.length_replicate, Nat.sub_self, List.getElem?_drop, Nat.add_zero, List.getD_eq_getElem?_getD]
theorem mix_size (d : Dev) (L : List (List Nat)) (k : Nat) (hk : k ≤ size d) (hL : L.length = size d) : size (mix d L k) = size d := by
  show (L.take k ++ d.lasts.drop k).length = _
  rw [List.length_append, List.length_take, List.length_drop]
  unfold size at *
  omega
theorem set_mid {α : Type} (A l : List α) (k : Nat) (x : α) (hA : k < A.length) (hl : k < l.length) (hx : A[k]? = some x) : (A.take k ++ l.drop k).set k x = A.take (k + 1) ++ l.drop (k + 1) := by
  have h1 : (A.take k).length = k := by rw [List.length_take]; omega
  rw [List.set_append_right _ _ (by omega), h1, Nat.sub_self, List.drop_eq_getElem_cons hl, List.set_cons_zero, List.take_succ_eq_append_getElem hA, List.append_assoc]
  rw [List.getElem?_eq_getElem hA] at hx
  cases hx
  rfl
theorem set_own {α : Type} (l : List α) (k : Nat) (x : α) (hx : l[k]? = some x) : l.set k x = l := by
  apply List.ext_getElem?
  intro i
  by_cases h : k = i
  · subst h
    rw [List.getElem?_set]
    have hk : k < l.length := by
      rcases Nat.lt_or_ge k l.length with h | h
      · exact h
      · rw [List.getElem?_eq_none h] at hx; cases hx
    rw [List.getElem?_eq_getElem hk] at hx ⊢
    simp at hx ⊢
    exact ⟨hk, hx.symm⟩
  · rw [List.getElem?_set_ne h]
theorem mix_next (d : Dev) (L : List (List Nat)) (k : Nat) (hk : k < size d) (hL : L.length = size d) (hw : d.waits.length = size d) :
    mix d L (k + 1) = { mix d L k with lasts := (mix d L k).lasts.set k (L.getD k []), waits := (mix d L k).waits.set k none } := by
  have e1 : (mix d L k).lasts.set k (L.getD k []) = L.take (k + 1) ++ d.lasts.drop (k + 1) :=
    set_mid L d.lasts k _ (by omega) hk (by rw [List.getD_eq_getElem?_getD, List.getElem?_eq_getElem (show k < L.length by omega)]; rfl)
  have e2 : (mix d L k).waits.set k none = List.replicate (k + 1) none ++ d.waits.drop (k + 1) := by
    have h := set_mid (List.replicate (size d) none) d.waits k none (by simp; omega) (by omega) (by rw [List.getElem?_replicate]; simp; omega)
    rw [List.take_replicate, List.take_replicate, Nat.min_eq_left (by omega), Nat.min_eq_left (by omega)] at h
    exact h
  rw [e1, e2]
  rfl
/-- Where nothing waits, nothing is to be done. -/
theorem mix_still (d : Dev) (L : List (List Nat)) (k : Nat) (hk : k < size d) (hL : L.length = size d) (hw : d.waits.length = size d) (hn : d.waits.getD k none = none) (hl : L.getD k [] = d.lasts.getD k []) :
    mix d L (k + 1) = mix d L k := by
  rw [mix_next d L k hk hL hw]
  have hs := mix_size d L k (by omega) hL
  have hs2 : (mix d L k).waits.length = size d := by
    show (List.replicate k none ++ d.waits.drop k).length = _
    rw [List.length_append, List.length_replicate, List.length_drop]; omega
  have e1 : (mix d L k).lasts.set k (L.getD k []) = (mix d L k).lasts := set_own _ _ _ (by
    have h1 : k < (mix d L k).lasts.length := by
      have h0 : (mix d L k).lasts.length = size d := hs
      omega
    rw [hl, ← mix_lasts d L k hk hL, List.getD_eq_getElem?_getD, List.getElem?_eq_getElem h1]; rfl)
  have e2 : (mix d L k).waits.set k none = (mix d L k).waits := set_own _ _ _ (by
    have h2 := mix_waits d L k
    rw [hn, List.getD_eq_getElem?_getD, List.getElem?_eq_getElem (show k < (mix d L k).waits.length by omega), Option.getD_some] at h2
    rw [List.getElem?_eq_getElem (show k < (mix d L k).waits.length by omega), h2])
  rw [e1, e2]
theorem mix_full (d : Dev) (L : List (List Nat)) (hL : L.length = size d) (hw : d.waits.length = size d) : mix d L (size d) = { d with lasts := L, waits := none_ d } := by
  unfold mix none_
  rw [List.take_of_length_le (by omega), List.drop_of_length_le (by unfold size; omega), List.drop_of_length_le (by omega), List.append_nil, List.append_nil]
theorem last_size (d : Dev) (hw : d.waits.length = size d) : (last d).lasts.length = size d := by
  show (List.zipWith _ d.waits d.lasts).length = _
  rw [List.length_zipWith]
  unfold size at *
  omega
theorem last_getD (d : Dev) (k : Nat) (hk : k < size d) (hw : d.waits.length = size d) : (last d).lasts.getD k [] = (d.waits.getD k none).getD (d.lasts.getD k []) := by
  show (List.zipWith (fun (w : Option (List Nat)) l => w.getD l) d.waits d.lasts).getD k [] = _
  have h1 : k < d.waits.length := by omega
  have h2 : k < d.lasts.length := hk
  rw [List.getD_eq_getElem?_getD, List.getElem?_zipWith, List.getElem?_eq_getElem h1, List.getElem?_eq_getElem h2]
  simp [h1, h2]
theorem goes_size (d : Dev) : size (goes d) = size d := by unfold size; rw [(goes_same d).1]
end Dk

/-- One sector's bytes last, and wait no more. -/
theorem RDev.done {w : World} {B g1 g2 g3 : Nat} {d : Dk.Dev} (h : RDev w B g1 g2 g3 d) (m : Nat) (b : List Nat) (hb : Dk.Sec b) :
    RDev ((w.setCell ⟨g1, m, none⟩ (sv b)).setCell ⟨g2, m, none⟩ (.string { data := #[] })) B g1 g2 g3 { d with lasts := d.lasts.set m b, waits := d.waits.set m none } ∧ Touch (RS B g1 g2 g3) w ((w.setCell ⟨g1, m, none⟩ (sv b)).setCell ⟨g2, m, none⟩ (.string { data := #[] })) := by
  have t1 : Touch (RS B g1 g2 g3) w (w.setCell ⟨g1, m, none⟩ (sv b)) := .set _ _ _ (Or.inr (Or.inl rfl))
  have t2 : Touch (RS B g1 g2 g3) (w.setCell ⟨g1, m, none⟩ (sv b)) ((w.setCell ⟨g1, m, none⟩ (sv b)).setCell ⟨g2, m, none⟩ (.string { data := #[] })) := .set _ _ _ (Or.inr (Or.inr (Or.inl rfl)))
  have u1 : Touch (fun i => i = g1) w (w.setCell ⟨g1, m, none⟩ (sv b)) := .set _ _ _ rfl
  have u2 : Touch (fun i => i = g2) (w.setCell ⟨g1, m, none⟩ (sv b)) ((w.setCell ⟨g1, m, none⟩ (sv b)).setCell ⟨g2, m, none⟩ (.string { data := #[] })) := .set _ _ _ rfl
  have a1 := blk_map (i := m) h.lasts b
  have a2 := blk_map (i := m) (u1.row h.waits (fun e => h.n12 e.symm)) none
  have hz : Dk.size { d with lasts := d.lasts.set m b, waits := d.waits.set m none } = Dk.size d := List.length_set ..
  refine ⟨⟨?_, ?_, ?_, ?_, h.b1, h.b2, h.b3, h.n12, h.n13, h.n23, ⟨?_, ?_, ?_, ?_⟩, h.arm, ?_, ?_⟩, t1.trans t2⟩
  · rw [hz]; exact u2.row (u1.row h.blk h.b1) h.b2
  · exact u2.row a1 h.n12
  · exact a2
  · exact u2.row (u1.row h.seen (fun e => h.n13 e.symm)) (fun e => h.n23 e.symm)
  · rw [hz]; show (d.waits.set m none).length = _; rw [List.length_set]; exact h.ok.w
  · rw [hz]; exact h.ok.s
  · intro c hc
    rcases List.mem_or_eq_of_mem_set hc with hc | rfl
    · exact h.ok.l1 c hc
    · exact hb
  · intro c hc
    rcases List.mem_or_eq_of_mem_set hc with hc | hc
    · exact h.ok.w1 c hc
    · cases hc
  · rw [hz]; exact h.most
  · rw [hz]; exact h.sz

theorem RDev.mixOk {d : Dk.Dev} {L : List (List Nat)} {k : Nat} (h : Dk.Ok d) (hL : ∀ b ∈ L, Dk.Sec b) : (∀ b ∈ (Dk.mix d L k).lasts, Dk.Sec b) := by
  intro b hb
  rcases List.mem_append.1 (show b ∈ L.take k ++ d.lasts.drop k from hb) with hb | hb
  · exact hL b (List.mem_of_mem_take hb)
  · exact h.l1 b (List.mem_of_mem_drop hb)

theorem sec_of_wait {d : Dk.Dev} (h : Dk.Ok d) {k : Nat} {b : List Nat} (hb : d.waits.getD k none = some b) : Dk.Sec b := by
  refine h.w1 b ?_
  rcases Nat.lt_or_ge k d.waits.length with hl | hl
  · rw [List.getD_eq_getElem?_getD, List.getElem?_eq_getElem hl, Option.getD_some] at hb
    rw [← hb]; exact List.getElem_mem _
  · rw [List.getD_eq_getElem?_getD, List.getElem?_eq_none hl] at hb; cases hb

set_option maxHeartbeats 800000 in
set_option maxRecDepth 20000 in
theorem refSync_any (B g1 g2 g3 : Nat) (d : Dk.Dev) (w : World) (hR : RDev w B g1 g2 g3 d) :
    Calls Try.prog 29 #[.pointer (some ⟨B, 0, none⟩)] w fun e w' => e = .returned (.int .i64 ((Dk.sync d).2 : Nat)) ∧ RDev w' B g1 g2 g3 (Dk.sync d).1 ∧ Touch (RS B g1 g2 g3) w w' := by
  have HR := Lib.hid hR
  have hb := hR.blk
  by_cases ho : d.off = true
  · have hg : Dk.sync d = (d, 6) := if_pos ho
    rw [hg]
    have c5 := blk_cell hb 5 (v := .bool true) (by rw [← ho]; rfl)
    clear hg hb ho hR
    go_enter Try.func29, Try.ntmps29
    go_wp2
    go_ret
    exact ⟨rfl, HR.out, .refl _ _⟩
  have hof : d.off = false := by cases h : d.off <;> simp_all
  have c5 := blk_cell hb 5 (v := .bool false) (by rw [← hof]; rfl)
  have hz := hR.sz
  cases ho2 : (Dk.goes d).off
  · have hg : Dk.sync d = (Dk.last (Dk.goes d), 0) := by unfold Dk.sync; rw [if_neg ho, if_neg (by rw [ho2]; decide)]
    rw [hg]
    have hlk : (Dk.last (Dk.goes d)).lasts.length = Dk.size (Dk.goes d) := Dk.last_size _ (Dk.ok_goes hR.ok).w
    have HLS := Lib.hid (Dk.ok_last (Dk.ok_goes hR.ok)).l1
    have HFU := Lib.hid (Dk.mix_full (Dk.goes d) _ hlk (Dk.ok_goes hR.ok).w)
    have HLG := Lib.hid fun k hk => Dk.last_getD (Dk.goes d) k hk (Dk.ok_goes hR.ok).w
    have HLD := Lib.hid (show Dk.last (Dk.goes d) = { Dk.goes d with lasts := (Dk.last (Dk.goes d)).lasts, waits := Dk.none_ (Dk.goes d) } from rfl)
    have HDO := Lib.hid (Dk.ok_goes hR.ok)
    have HLK := Lib.hid hlk
    have hsz : Dk.size (Dk.goes d) ≤ 65536 := by rw [Dk.goes_size]; exact hz
    obtain ⟨d1, hd1⟩ : ∃ d1, Dk.goes d = d1 := ⟨_, rfl⟩
    rw [hd1] at hlk HLS HFU HLG HLD HDO HLK hsz ho2 ⊢
    have HD1 := Lib.hid hd1
    clear hg hb ho hR hlk hz hd1
    go_enter Try.func29, Try.ntmps29
    go_wp2_with fail
    refine (refGoes_any B g1 g2 g3 d w HR.out).mono ?_
    rintro e w1 ⟨rfl, hR1, hg1⟩
    rw [HD1.out, ho2]
    rw [HD1.out] at hR1
    have HR1 := Lib.hid hR1
    have HT1 := Lib.hid (show Touch (RS B g1 g2 g3) w w1 from .of_grown hg1 (Or.inl rfl))
    clear hR1 hg1 c5 HR
    generalize hL : (Dk.last d1).lasts = L at *
    have HLL := Lib.hid hL
    clear hL ho2
    generalize hn : Dk.size d1 = n at *
    go_wp2_with fail
    go_loopw [3] (fun i wr => ∃ k : Nat, k ≤ n ∧ i = .int .i64 k ∧ RDev wr B g1 g2 g3 (Dk.mix d1 L k) ∧ Touch (RS B g1 g2 g3) w wr) (fun i _ => n - (intOf i).toNat)
    case atStart => exact ⟨0, Nat.zero_le _, rfl, HR1.out, HT1.out⟩
    case round =>
      obtain ⟨k, hk, rfl, hRk, hTk⟩ := hrel
      have HRk := Lib.hid hRk
      have HTk := Lib.hid hTk
      have hzk : Dk.size (Dk.mix d1 L k) = n := by rw [Dk.mix_size d1 L k (by omega) (by rw [HLK.out, hn]), hn]
      have c0 := blk_cell hRk.blk 0 (v := .slice (some ⟨g1, 0, none⟩) n n) (by rw [← hzk]; rfl)
      have c1 := blk_cell hRk.blk 1 (v := .slice (some ⟨g2, 0, none⟩) n n) (by rw [← hzk]; rfl)
      by_cases hlt : k < n
      · have hlt' : k < Dk.size d1 := by omega
        have e2' := blk_at HRk.out.waits none (show k < (Dk.mix d1 L k).waits.length by rw [HRk.out.ok.w, hzk]; exact hlt)
        rw [Dk.mix_waits] at e2'
        have hkl : k < (Dk.mix d1 L k).lasts.length := by
          have h0 : (Dk.mix d1 L k).lasts.length = n := hzk
          omega
        have HKL := Lib.hid hkl
        have HZK := Lib.hid hzk
        have hG := HLG.out k hlt
        cases hW : d1.waits.getD k none with
        | none =>
          have e2 : wr.cell? ⟨g2, k, none⟩ = some (.string { data := #[] }) := by rw [e2', hW]; rfl
          rw [hW, Option.getD_none] at hG
          have HNX := Lib.hid (Dk.mix_still d1 L k hlt' (by rw [HLK.out, hn]) HDO.out.w hW hG)
          clear e2' hG hW hRk hTk hlt' hkl hzk
          go_wp2_with fail
          go_roundw
          case rel => exact ⟨k + 1, by omega, by go_num, by rw [HNX.out]; exact HRk.out, HTk.out⟩
          case measure => simp [intOf]; omega
        | some b =>
          rw [hW, Option.getD_some] at hG
          have hsec := sec_of_wait HDO.out hW
          have HSC := Lib.hid hsec
          have hS := empty_str b (by have := hsec.1; omega)
          have e2 : wr.cell? ⟨g2, k, none⟩ = some (sv b) := by rw [e2', hW]; rfl
          have HNX := Lib.hid (Dk.mix_next d1 L k hlt' (by rw [HLK.out, hn]) HDO.out.w)
          rw [hG] at HNX
          have HWK := Lib.hid hW
          obtain ⟨S, hSe⟩ : ∃ S, strOfNums (b.map fun x : Nat => (x : Int)) = S := ⟨_, rfl⟩
          have HSV := Lib.hid (show sv b = .string S from congrArg Value.string hSe)
          rw [hSe] at hS
          rw [HSV.out] at e2
          clear e2' hG hW hRk hTk hlt' hkl hzk hSe hsec
          go_wp2_with fail
          go_still_tail 13, (by kernel_rfl)
          have HR2 := Lib.hid (HRk.out.below (new_drew wr))
          have HT2 := Lib.hid (HTk.out.drew)
          change wpList _ _ _ _ _ wr.drew
          clear c0 c1 e2
          generalize wr.drew = w2 at HR2 HT2 ⊢
          have e1 := blk_at HR2.out.lasts [] HKL.out
          have f1 := blk_free HR2.out.lasts k
          have hP := HR2.out.done k b HSC.out
          rw [HSV.out, ← HNX.out] at hP
          have HP := Lib.hid hP
          have hu : Touch (fun i => i = g1) w2 (w2.setCell ⟨g1, k, none⟩ (.string S)) := .set _ _ _ rfl
          have hb2 := hu.row HR2.out.blk HR2.out.b1
          have hw2 := hu.row HR2.out.waits (fun e => HR2.out.n12 e.symm)
          have c1 := blk_cell hb2 1 (v := .slice (some ⟨g2, 0, none⟩) n n) (by rw [← HZK.out]; rfl)
          have e2 := blk_at hw2 none (show k < (Dk.mix d1 L k).waits.length by rw [HRk.out.ok.w, HZK.out]; exact hlt)
          have f2 := blk_free hw2 k
          clear hP hu hb2 hw2
          go_wp2_with fail
          go_roundw
          case rel => exact ⟨k + 1, by omega, by go_num, HP.out.1, HT2.out.trans HP.out.2⟩
          case measure => simp [intOf]; omega
      · obtain rfl : k = n := by omega
        clear hRk hTk hzk
        rw [HFU.out, ← HLD.out] at HRk
        go_wp2_with fail
        go_ret
        exact ⟨rfl, HRk.out, HTk.out⟩
  · have hg : Dk.sync d = (Dk.goes d, 6) := by unfold Dk.sync; rw [if_neg ho, if_pos ho2]
    rw [hg]
    clear hg hb ho hR hz
    go_enter Try.func29, Try.ntmps29
    go_wp2_with fail
    refine (refGoes_any B g1 g2 g3 d w HR.out).mono ?_
    rintro e w1 ⟨rfl, hR1, hg1⟩
    rw [ho2]
    have HR1 := Lib.hid hR1
    have HT1 := Lib.hid (show Touch (RS B g1 g2 g3) w w1 from .of_grown hg1 (Or.inl rfl))
    clear hR1 hg1 c5 HR ho2
    go_wp2_with fail
    go_ret
    exact ⟨rfl, HR1.out, HT1.out⟩
end Go.Proofs.Ythjciddhghfcbaa
