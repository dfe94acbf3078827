/- What the document's device does at Crash. Conditions: the device's blocks; the picks lie in none of them. -/
import Derived.Test.YthjciddhghfcbaaDiskSync
namespace Go.Proofs.Ythjciddhghfcbaa
open Go.RowKit

theorem str_size (b : List Nat) : (strOfNums (b.map fun x : Nat => (x : Int))).size = b.length := by
  show (strOfNums (b.map fun x : Nat => (x : Int))).data.size = _
  simp [strOfNums]

theorem str_halves (a b : List Nat) (n : Nat) :
    (strOfNums (a.map fun x : Nat => (x : Int))).extract 0 n ++ (strOfNums (b.map fun x : Nat => (x : Int))).extract n b.length = strOfNums ((a.take n ++ b.drop n).map fun x : Nat => (x : Int)) := by
  apply ByteArray.ext
  rw [ByteArray.data_append, ByteArray.data_extract, ByteArray.data_extract]
  simp only [strOfNums, List.map_map, List.map_append, List.map_take, List.map_drop, List.extract_toArray, List.append_toArray]
  congr 1
  rw [List.extract_eq_take_drop, List.extract_eq_take_drop, List.drop_zero, Nat.sub_zero, List.take_of_length_le (l := List.drop n _) (by simp)]

namespace Dk
/-- How many of the first k sectors wait. -/
def cnt (d : Dev) (k : Nat) : Nat := (d.waits.take k).countP Option.isSome
theorem cnt_le (d : Dev) (k : Nat) : cnt d k ≤ k := Nat.le_trans List.countP_le_length (by rw [List.length_take]; omega)
theorem cnt_next (d : Dev) (k : Nat) (hk : k < d.waits.length) : cnt d (k + 1) = cnt d k + if (d.waits.getD k none).isSome then 1 else 0 := by
  unfold cnt
  rw [List.take_succ_eq_append_getElem hk, List.countP_append, List.getD_eq_getElem?_getD, List.getElem?_eq_getElem hk, Option.getD_some]
  cases d.waits[k] <;> simp
theorem crashL_getD : ∀ (ws : List (Option (List Nat))) (ls : List (List Nat)) (ps : List Nat) (k : Nat), ws.length = ls.length → k < ls.length →
    (crashL ws ls ps).getD k [] = match ws.getD k none with | none => ls.getD k [] | some b => pick (ps.getD ((ws.take k).countP Option.isSome) 0) (ls.getD k []) b
  | [], [], _, _, _, h => by simp at h
  | none :: ws, l :: ls, ps, 0, _, _ => rfl
  | some b :: ws, l :: ls, ps, 0, _, _ => by cases ps <;> rfl
  | none :: ws, l :: ls, ps, k + 1, h1, h2 => by
    have h := crashL_getD ws ls ps k (by simpa using h1) (by simpa using h2)
    simpa [crashL] using h
  | some b :: ws, l :: ls, ps, k + 1, h1, h2 => by
    have h := crashL_getD ws ls ps.tail k (by simpa using h1) (by simpa using h2)
    have e : ∀ j, ps.tail.getD j 0 = ps.getD (j + 1) 0 := fun j => by cases ps <;> simp
    rw [e] at h
    simpa [crashL] using h
  | [], _ :: _, _, _, h, _ => by simp at h
  | _ :: _, [], _, _, h, _ => by simp at h
end Dk

/-- A sector waits no more. -/
theorem RDev.drop {w : World} {B g1 g2 g3 : Nat} {d : Dk.Dev} (h : RDev w B g1 g2 g3 d) (m : Nat) :
    RDev (w.setCell ⟨g2, m, none⟩ (.string { data := #[] })) B g1 g2 g3 { d with waits := d.waits.set m none } ∧ Touch (RS B g1 g2 g3) w (w.setCell ⟨g2, m, none⟩ (.string { data := #[] })) := by
  have t2 : Touch (RS B g1 g2 g3) w (w.setCell ⟨g2, m, none⟩ (.string { data := #[] })) := .set _ _ _ (Or.inr (Or.inr (Or.inl rfl)))
  have u2 : Touch (fun i => i = g2) w (w.setCell ⟨g2, m, none⟩ (.string { data := #[] })) := .set _ _ _ rfl
  have a2 := blk_map (i := m) h.waits none
  have hz : Dk.size { d with waits := d.waits.set m none } = Dk.size d := rfl
  refine ⟨⟨?_, ?_, ?_, ?_, h.b1, h.b2, h.b3, h.n12, h.n13, h.n23, ⟨?_, ?_, ?_, ?_⟩, h.arm, ?_, ?_⟩, t2⟩
  · rw [hz]; exact u2.row h.blk h.b2
  · exact u2.row h.lasts h.n12
  · exact a2
  · exact u2.row h.seen (fun e => h.n23 e.symm)
  · rw [hz]; show (d.waits.set m none).length = _; rw [List.length_set]; exact h.ok.w
  · rw [hz]; exact h.ok.s
  · exact h.ok.l1
  · intro c hc
    rcases List.mem_or_eq_of_mem_set hc with hc | hc
    · exact h.ok.w1 c hc
    · cases hc
  · rw [hz]; exact h.most
  · rw [hz]; exact h.sz

set_option maxHeartbeats 4000000 in
set_option maxRecDepth 20000 in
theorem refCrash_any (B g1 g2 g3 : Nat) (d : Dk.Dev) (v : Value) (ps : List Nat) (w : World) (hR : RDev w B g1 g2 g3 d) (hB : Bts w v ps) (hv : 0 < ps.length → ∀ g, v.ownBlock = some g → ¬ RS B g1 g2 g3 g) :
    Calls Try.prog 31 #[.pointer (some ⟨B, 0, none⟩), v] w fun e w' => e = .returned (.tuple #[]) ∧ RDev w' B g1 g2 g3 (Dk.crash d ps) ∧ Touch (RS B g1 g2 g3) w w' := by
  have hps := hB.len
  have HB := Lib.hid hB
  have HV := Lib.hid hv
  obtain ⟨p, cap, rfl, hpc, -, -⟩ := hB.form
  obtain ⟨L, hL⟩ : ∃ L, Dk.crashL d.waits d.lasts ps = L := ⟨_, rfl⟩
  have hlk : L.length = Dk.size d := by rw [← hL]; exact Dk.crashL_length _ _ _ hR.ok.w
  have HLS := Lib.hid (show ∀ b ∈ L, Dk.Sec b by rw [← hL]; exact Dk.crashL_sec _ _ _ hR.ok.l1 hR.ok.w1)
  have HFU := Lib.hid (Dk.mix_full d L hlk hR.ok.w)
  have HLG := Lib.hid fun k (hk : k < Dk.size d) => Dk.crashL_getD d.waits d.lasts ps k hR.ok.w hk
  rw [hL] at HLG
  have HEND := Lib.hid (show ({ ({ d with lasts := L, waits := Dk.none_ d } : Dk.Dev) with armed := 0, off := false } : Dk.Dev) = Dk.crash d ps by rw [← hL]; rfl)
  have HDO := Lib.hid hR.ok
  have hsz := hR.sz
  have HR := Lib.hid hR
  obtain ⟨d', hd'⟩ : ∃ d', Dk.crash d ps = d' := ⟨_, rfl⟩
  rw [hd'] at HEND ⊢
  generalize hn : Dk.size d = n at *
  clear hL hR hB hd' hv
  go_enter Try.func31, Try.ntmps31
  go_wp2_with fail
  go_loopw [4, 5] (fun j i wr => ∃ k : Nat, k ≤ n ∧ i = .int .i64 k ∧ j = .int .i64 (Dk.cnt d k : Nat) ∧ RDev wr B g1 g2 g3 (Dk.mix d L k) ∧ Touch (RS B g1 g2 g3) w wr) (fun _ i _ => n - (intOf i).toNat)
  case atStart => exact ⟨0, Nat.zero_le _, rfl, rfl, HR.out, .refl _ _⟩
  case round =>
    obtain ⟨k, hk, rfl, rfl, hRk, hTk⟩ := hrel
    have HRk := Lib.hid hRk
    have HTk := Lib.hid hTk
    have hzk : Dk.size (Dk.mix d L k) = n := by rw [Dk.mix_size d L k (by omega) (by rw [hlk, hn]), hn]
    have HZK := Lib.hid hzk
    have HLK := Lib.hid hlk
    clear hlk
    have hcnt := Dk.cnt_le d k
    by_cases hlt : k < n
    · have c0 := blk_cell hRk.blk 0 (v := .slice (some ⟨g1, 0, none⟩) n n) (by rw [← hzk]; rfl)
      have c1 := blk_cell hRk.blk 1 (v := .slice (some ⟨g2, 0, none⟩) n n) (by rw [← hzk]; rfl)
      have hlt' : k < Dk.size d := by omega
      have e2' := blk_at HRk.out.waits none (show k < (Dk.mix d L k).waits.length by rw [HRk.out.ok.w, hzk]; exact hlt)
      rw [Dk.mix_waits] at e2'
      have hkl : k < (Dk.mix d L k).lasts.length := by
        have h0 : (Dk.mix d L k).lasts.length = n := hzk
        omega
      have HKL := Lib.hid hkl
      have e1 := blk_at HRk.out.lasts [] hkl
      have hml := Dk.mix_lasts d L k hlt' (by rw [HLK.out, hn])
      rw [hml] at e1
      have hG := HLG.out k hlt
      have hcn := Dk.cnt_next d k (by rw [HDO.out.w]; exact hlt')
      cases hW : d.waits.getD k none with
      | none =>
        have e2 : wr.cell? ⟨g2, k, none⟩ = some (.string { data := #[] }) := by rw [e2', hW]; rfl
        rw [hW] at hG hcn
        have HNX := Lib.hid (Dk.mix_still d L k hlt' (by rw [HLK.out, hn]) HDO.out.w hW hG)
        have HCN := Lib.hid (show Dk.cnt d (k + 1) = Dk.cnt d k from hcn)
        clear e2' hG hW hRk hTk hlt' hkl hzk e1 hml hcn
        generalize Dk.cnt d k = j at *
        go_wp2_with fail
        go_roundw
        case rel => exact ⟨k + 1, by omega, by go_num, by rw [HCN.out], by rw [HNX.out]; exact HRk.out, HTk.out⟩
        case measure => simp [intOf]; omega
      | some b =>
        rw [hW] at hG hcn
        have HCN := Lib.hid (show Dk.cnt d (k + 1) = Dk.cnt d k + 1 from hcn)
        have HSC := Lib.hid (sec_of_wait HDO.out hW)
        obtain ⟨l, hl⟩ : ∃ l, d.lasts.getD k [] = l := ⟨_, rfl⟩
        rw [hl] at e1 hG hml
        have HSL := Lib.hid (show Dk.Sec l from HDO.out.l1 _ (by rw [← hl, List.getD_eq_getElem?_getD, List.getElem?_eq_getElem hlt', Option.getD_some]; exact List.getElem_mem _))
        have hS := empty_str b (by have := HSC.out.1; omega)
        have e2 : wr.cell? ⟨g2, k, none⟩ = some (sv b) := by rw [e2', hW]; rfl
        have HNX := Lib.hid (Dk.mix_next d L k hlt' (by rw [HLK.out, hn]) HDO.out.w)
        have hG2 : L.getD k [] = Dk.pick (ps.getD (Dk.cnt d k) 0) l b := hG
        obtain ⟨S, hSe⟩ : ∃ S, strOfNums (b.map fun x : Nat => (x : Int)) = S := ⟨_, rfl⟩
        obtain ⟨T, hTe⟩ : ∃ T, strOfNums (l.map fun x : Nat => (x : Int)) = T := ⟨_, rfl⟩
        have hSz : S.size = 128 := by rw [← hSe, str_size]; exact HSC.out.1
        have hTz : T.size = 128 := by rw [← hTe, str_size]; exact HSL.out.1
        have hsv : sv b = .string S := congrArg Value.string hSe
        have htv : sv l = .string T := congrArg Value.string hTe
        have HM1 := Lib.hid (show S.extract 0 64 ++ T.extract 64 128 = strOfNums ((b.take 64 ++ l.drop 64).map fun x : Nat => (x : Int)) by
          rw [← hSe, ← hTe, ← str_halves, HSL.out.1])
        have HM2 := Lib.hid (show T.extract 0 64 ++ S.extract 64 128 = strOfNums ((l.take 64 ++ b.drop 64).map fun x : Nat => (x : Int)) by
          rw [← hSe, ← hTe, ← str_halves, HSC.out.1])
        rw [hSe] at hS
        rw [hsv] at e2
        rw [htv] at e1
        have HSV := Lib.hid hsv
        have HTV := Lib.hid htv
        have HML := Lib.hid hml
        have hBk := HTk.out.bts HB.out HV.out
        obtain ⟨p2, cap2, hpe, -, -, hcells⟩ := hBk.form
        simp only [Value.slice.injEq] at hpe
        obtain ⟨rfl, -, rfl⟩ := hpe
        clear e2' hG hW hRk hTk hlt' hkl hzk hSe hTe hcn hl hsv htv hml hBk
        generalize Dk.cnt d k = j at *
        obtain ⟨x, hx⟩ : ∃ x, ps.getD j 0 = x := ⟨_, rfl⟩
        rw [hx] at hG2
        have hx4 : x < 256 := by rw [← hx]; exact HB.out.getD j
        by_cases hj : j < ps.length
        · obtain ⟨gp, op, rfl, hcell⟩ := hcells (by omega)
          have cx := hcell j hj
          rw [hx] at cx
          clear hcell hcells
          have hjl : (j : Int) < (ps.length : Int) := by omega
          rcases (show x % 4 = 0 ∨ x % 4 = 1 ∨ x % 4 = 2 ∨ x % 4 = 3 by omega) with hr | hr | hr | hr
          · have hr2 : (x : Int).tmod 4 = 0 := by rw [Int.tmod_eq_emod_of_nonneg (by omega)]; omega
            have HPK := Lib.hid (show L.getD k [] = l by rw [hG2]; unfold Dk.pick; rw [if_pos (by omega)])
            have f2 := blk_free HRk.out.waits k
            have hP := HRk.out.drop k
            have hnx : Dk.mix d L (k + 1) = { Dk.mix d L k with waits := (Dk.mix d L k).waits.set k none } := by
              rw [HNX.out, HPK.out]
              rw [Dk.set_own (Dk.mix d L k).lasts k l (by rw [List.getElem?_eq_getElem HKL.out]; have h := HML.out; rw [List.getD_eq_getElem?_getD, List.getElem?_eq_getElem HKL.out, Option.getD_some] at h; rw [h])]
            rw [← hnx] at hP
            have HP := Lib.hid hP
            clear hP hnx hG2 hx
            go_wp2_with fail
            go_roundw
            case rel => exact ⟨k + 1, by omega, by go_num, by rw [HCN.out]; go_num, HP.out.1, HTk.out.trans HP.out.2⟩
            case measure => simp [intOf]; omega
          · have hr2 : (x : Int).tmod 4 = 1 := by rw [Int.tmod_eq_emod_of_nonneg (by omega)]; omega
            have HPK := Lib.hid (show L.getD k [] = b by rw [hG2]; unfold Dk.pick; rw [if_neg (by omega), if_pos (by omega)])
            clear hG2 hx
            have hsv2 : sv b = .string S := by exact HSV.out
            have HSV2 := Lib.hid hsv2
            clear hsv2
            go_wp2_with fail
            go_still_tail 13, (by kernel_rfl)
            have HR2 := Lib.hid (HRk.out.below (new_drew wr))
            have HT2 := Lib.hid (HTk.out.drew)
            change wpList _ _ _ _ _ wr.drew
            clear c0 c1 e1 e2
            generalize wr.drew = w2 at HR2 HT2 ⊢
            have e1 := blk_at HR2.out.lasts [] HKL.out
            have f1 := blk_free HR2.out.lasts k
            have hP := HR2.out.done k b HSC.out
            rw [← HPK.out, ← HNX.out, HPK.out, HSV2.out] at hP
            have HP := Lib.hid hP
            have hu : Touch (fun i => i = g1) w2 (w2.setCell ⟨g1, k, none⟩ (.string S)) := .set _ _ _ rfl
            have hb2 := hu.row HR2.out.blk HR2.out.b1
            have hw2 := hu.row HR2.out.waits (fun e => HR2.out.n12 e.symm)
            have c1 := blk_cell hb2 1 (v := .slice (some ⟨g2, 0, none⟩) n n) (by rw [← HZK.out]; rfl)
            have e2 := blk_at hw2 none (show k < (Dk.mix d L k).waits.length by rw [HRk.out.ok.w, HZK.out]; exact hlt)
            have f2 := blk_free hw2 k
            clear hP hu hb2 hw2
            go_wp2_with fail
            go_roundw
            case rel => exact ⟨k + 1, by omega, by go_num, by rw [HCN.out]; go_num, HP.out.1, HT2.out.trans HP.out.2⟩
            case measure => simp [intOf]; omega
          · have hr2 : (x : Int).tmod 4 = 2 := by rw [Int.tmod_eq_emod_of_nonneg (by omega)]; omega
            have HPK := Lib.hid (show L.getD k [] = (b.take 64 ++ l.drop 64) by rw [hG2]; unfold Dk.pick; rw [if_neg (by omega), if_neg (by omega), if_pos (by omega)])
            clear hG2 hx
            have hsv2 : sv (b.take 64 ++ l.drop 64) = .string (S.extract 0 64 ++ T.extract 64 128) := by exact congrArg Value.string HM1.out.symm
            have HSV2 := Lib.hid hsv2
            clear hsv2
            go_wp2_with fail
            go_still_tail 17, (by kernel_rfl)
            have HR2 := Lib.hid (HRk.out.below (new_drew wr))
            have HT2 := Lib.hid (HTk.out.drew)
            change wpList _ _ _ _ _ wr.drew
            clear c0 c1 e1 e2
            generalize wr.drew = w2 at HR2 HT2 ⊢
            have e1 := blk_at HR2.out.lasts [] HKL.out
            have f1 := blk_free HR2.out.lasts k
            have hP := HR2.out.done k (b.take 64 ++ l.drop 64) (by have h := Dk.sec_pick (p := 2) HSL.out HSC.out; exact h)
            rw [← HPK.out, ← HNX.out, HPK.out, HSV2.out] at hP
            have HP := Lib.hid hP
            have hu : Touch (fun i => i = g1) w2 (w2.setCell ⟨g1, k, none⟩ (.string (S.extract 0 64 ++ T.extract 64 128))) := .set _ _ _ rfl
            have hb2 := hu.row HR2.out.blk HR2.out.b1
            have hw2 := hu.row HR2.out.waits (fun e => HR2.out.n12 e.symm)
            have c1 := blk_cell hb2 1 (v := .slice (some ⟨g2, 0, none⟩) n n) (by rw [← HZK.out]; rfl)
            have e2 := blk_at hw2 none (show k < (Dk.mix d L k).waits.length by rw [HRk.out.ok.w, HZK.out]; exact hlt)
            have f2 := blk_free hw2 k
            clear hP hu hb2 hw2
            go_wp2_with fail
            go_roundw
            case rel => exact ⟨k + 1, by omega, by go_num, by rw [HCN.out]; go_num, HP.out.1, HT2.out.trans HP.out.2⟩
            case measure => simp [intOf]; omega
          · have hr2 : (x : Int).tmod 4 = 3 := by rw [Int.tmod_eq_emod_of_nonneg (by omega)]; omega
            have HPK := Lib.hid (show L.getD k [] = (l.take 64 ++ b.drop 64) by rw [hG2]; unfold Dk.pick; rw [if_neg (by omega), if_neg (by omega), if_neg (by omega)])
            clear hG2 hx
            have hsv2 : sv (l.take 64 ++ b.drop 64) = .string (T.extract 0 64 ++ S.extract 64 128) := by exact congrArg Value.string HM2.out.symm
            have HSV2 := Lib.hid hsv2
            clear hsv2
            go_wp2_with fail
            go_still_tail 17, (by kernel_rfl)
            have HR2 := Lib.hid (HRk.out.below (new_drew wr))
            have HT2 := Lib.hid (HTk.out.drew)
            change wpList _ _ _ _ _ wr.drew
            clear c0 c1 e1 e2
            generalize wr.drew = w2 at HR2 HT2 ⊢
            have e1 := blk_at HR2.out.lasts [] HKL.out
            have f1 := blk_free HR2.out.lasts k
            have hP := HR2.out.done k (l.take 64 ++ b.drop 64) (by have h := Dk.sec_pick (p := 3) HSL.out HSC.out; exact h)
            rw [← HPK.out, ← HNX.out, HPK.out, HSV2.out] at hP
            have HP := Lib.hid hP
            have hu : Touch (fun i => i = g1) w2 (w2.setCell ⟨g1, k, none⟩ (.string (T.extract 0 64 ++ S.extract 64 128))) := .set _ _ _ rfl
            have hb2 := hu.row HR2.out.blk HR2.out.b1
            have hw2 := hu.row HR2.out.waits (fun e => HR2.out.n12 e.symm)
            have c1 := blk_cell hb2 1 (v := .slice (some ⟨g2, 0, none⟩) n n) (by rw [← HZK.out]; rfl)
            have e2 := blk_at hw2 none (show k < (Dk.mix d L k).waits.length by rw [HRk.out.ok.w, HZK.out]; exact hlt)
            have f2 := blk_free hw2 k
            clear hP hu hb2 hw2
            go_wp2_with fail
            go_roundw
            case rel => exact ⟨k + 1, by omega, by go_num, by rw [HCN.out]; go_num, HP.out.1, HT2.out.trans HP.out.2⟩
            case measure => simp [intOf]; omega
        · have hx0 : x = 0 := by rw [← hx, List.getD_eq_getElem?_getD, List.getElem?_eq_none (by omega)]; rfl
          subst hx0
          have HPK := Lib.hid (show L.getD k [] = l by rw [hG2]; unfold Dk.pick; rw [if_pos (by omega)])
          have f2 := blk_free HRk.out.waits k
          have hP := HRk.out.drop k
          have hnx : Dk.mix d L (k + 1) = { Dk.mix d L k with waits := (Dk.mix d L k).waits.set k none } := by
            rw [HNX.out, HPK.out]
            rw [Dk.set_own (Dk.mix d L k).lasts k l (by rw [List.getElem?_eq_getElem HKL.out]; have h := HML.out; rw [List.getD_eq_getElem?_getD, List.getElem?_eq_getElem HKL.out, Option.getD_some] at h; rw [h])]
          rw [← hnx] at hP
          have HP := Lib.hid hP
          clear hP hnx hG2 hcells hx
          go_wp2_with fail
          go_roundw
          case rel => exact ⟨k + 1, by omega, by go_num, by rw [HCN.out]; go_num, HP.out.1, HTk.out.trans HP.out.2⟩
          case measure => simp [intOf]; omega
    · obtain rfl : k = n := by omega
      clear hRk hTk hzk
      rw [HFU.out] at HRk
      have hb := HRk.out.blk
      have f5 := blk_free hb 5
      have c5 := blk_cell hb 5 (v := .bool d.off) rfl
      have c1 := blk_cell hb 1 (v := .slice (some ⟨g2, 0, none⟩) k k) (by rw [← HLK.out]; rfl)
      have s1 := blk_set (i := 5) hb (.bool false)
      have f4 := blk_free s1 4
      have c4 := blk_cell s1 4 (v := .int .i64 (d.armed : Int)) rfl
      have s2 := blk_set (i := 4) s1 (.int .i64 0)
      have hg := grownBy_trans (grownBy_setCell wr B 5 (.bool false)) (grownBy_setCell _ B 4 (.int .i64 0))
      have HT := Lib.hid (HRk.out.turn hg 0 false (by omega) s2)
      rw [HEND.out] at HT
      have HG := Lib.hid (HTk.out.trans (.of_grown hg (Or.inl rfl)))
      clear hb s1 s2 hg
      go_wp2_with fail
      go_end0
      exact ⟨rfl, HT.out, HG.out⟩
end Go.Proofs.Ythjciddhghfcbaa
