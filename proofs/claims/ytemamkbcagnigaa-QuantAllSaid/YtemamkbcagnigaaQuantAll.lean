/- What the program's All and the document's answer, over lists of floats. Conditions: the slice's cells hold the numbers; at most a million. -/
import Derived.Test.YtemamkbcagnigaaQuantLent
import Derived.Test.YtemamkbcagnigaaI32
import Derived.Test.YtemamkbcagnigaaQuantTells
import Derived.Outline
import Derived.Laws.OwnMore
import Derived.OwnWalk
namespace Go.Proofs.Ytemamkbcagnigaa
open Go.RowKit

namespace Qf
/-- Number by number: marks, place, error, numbers. -/
def scan (n : Int) : List Int → Nat → Int → List Int → Int × Int × Int × List Int
  | [], _, m, acc => (m, 0, 0, acc)
  | x :: r, i, m, acc => if qe x.toNat n = 0 then scan n r (i + 1) (bits .or .i64 m (qm x.toNat n)) (acc ++ [qv x.toNat n]) else (0, (i : Int), qe x.toNat n, [])

/-- What the floats of a list become: marks, place, error, numbers. -/
def allF (l : List Int) (n : Int) : Int × Int × Int × List Int :=
  if okS n then (if l.length < 1 ∨ 4096 < l.length then (0, 0, 9, []) else scan n l 0 0 []) else (0, 0, 2, [])

theorem qv_ok (x : Nat) (n : Int) : I32.Okk (qv x n) := by
  have h : -2147483648 ≤ qv x n ∧ qv x n ≤ 2147483647 := by
    unfold qv
    split
    · unfold wv clip sg
      cases hs : sgn x with
      | true =>
        simp only [if_true]
        by_cases h : 2147483648 < big x n
        · simp [h]
        · simp [h]; omega
      | false =>
        simp only [Bool.false_eq_true, if_false]
        by_cases h : 2147483647 < big x n
        · simp [h]
        · simp [h]; omega
    · omega
  unfold I32.Okk
  have h1 : IntKind.i32.min = -2147483648 := rfl
  have h2 : IntKind.i32.max = 2147483647 := rfl
  simp only [Lit.wf, Bool.and_eq_true, decide_eq_true_eq]
  omega
end Qf

theorem okk_nat {x : Int} (h : U64.Okk x) : x.toNat < 18446744073709551616 ∧ ((x.toNat : Nat) : Int) = x := by
  unfold U64.Okk at h
  have h1 : IntKind.u64.min = 0 := rfl
  have h2 : IntKind.u64.max = 18446744073709551615 := rfl
  simp only [Lit.wf, Bool.and_eq_true, decide_eq_true_eq] at h
  omega

theorem quant_int (x : Int) (n : Int) (w : World) (h : U64.Okk x) :
    Calls Try.prog 9 #[.int .u64 x, .int .i64 n] w fun e w' => e = .returned (.tuple #[.int .i32 (Qf.qv x.toNat n), .int .i64 (Qf.qm x.toNat n), .int .i64 (Qf.qe x.toNat n)]) ∧ w = w' := by
  obtain ⟨h1, h2⟩ := okk_nat h
  have := quant_any x.toNat n w h1
  rw [h2] at this
  exact this

theorem refQuant_int (x : Int) (n : Int) (w : World) (h : U64.Okk x) :
    Calls Try.prog 10 #[.int .u64 x, .int .i64 n] w fun e w' => e = .returned (.tuple #[.int .i32 (Qf.qv x.toNat n), .int .i64 (Qf.qm x.toNat n), .int .i64 (Qf.qe x.toNat n)]) ∧ w = w' := by
  obtain ⟨h1, h2⟩ := okk_nat h
  have := refQuant_any x.toNat n w h1
  rw [h2] at this
  exact this

/-- One number written into a row of the call's own. -/
theorem I32.Own.stored {base g cap : Nat} {w : World} {l : List Int} (h : I32.Own base w (.slice (some ⟨g, 0, none⟩) l.length cap) l) (j : Nat) (z : Int) (hz : I32.Okk z) :
    I32.Own base (w.setCell ⟨g, j, none⟩ (.int .i32 z)) (.slice (some ⟨g, 0, none⟩) l.length cap) (l.set j z) ∧ w.grownBy (w.setCell ⟨g, j, none⟩ (.int .i32 z)) (some g) := by
  obtain ⟨h1, h2⟩ := h.own.stored j (.int .i32 z)
  refine ⟨⟨?_, ?_, by simpa using h.len⟩, h2⟩
  · have e : I32.bytesV (l.set j z) = (I32.bytesV l).set j (.int .i32 z) := by simp [I32.bytesV, List.map_set]
    rw [e, List.length_set]
    exact h1
  · intro x hx
    rcases List.mem_or_eq_of_mem_set hx with hx | rfl
    · exact h.small x hx
    · exact hz

theorem I32.Own.cellAt {base g cap : Nat} {w : World} {l : List Int} (h : I32.Own base w (.slice (some ⟨g, 0, none⟩) l.length cap) l) (j : Nat) (hj : j < l.length) : w.cell? ⟨g, j, none⟩ = some (.int .i32 (l.getD j 0)) ∧ w.frozen? ⟨g, j, none⟩ = false := by
  refine ⟨?_, h.own.frozenAt j⟩
  rw [h.own.cellAt j (by omega)]
  simp [I32.bytesV, List.getElem?_eq_getElem hj]

/-- A new slice of n noughts. -/
theorem I32.wpList_make_len {w : World} {ops : Array Oper} {rest : List Oper} {o : Oper} {a : Act} {Q : Exit → Act → World → Prop} (hgd : o.guard = none) (x c : Operand)
    (hop : o.op = Op.makeSlice 36 x c) (base : Nat) (kl kc : IntKind) (n : Nat) (hl : a.eval x = .int kl (n : Int)) (hc : a.eval c = .int kc (n : Int)) (hn : n ≤ 35184372088832) (hbase : base ≤ w.heap.size)
    (h : ∀ g w', I32.Own base w' (.slice (some ⟨g, 0, none⟩) n n) (List.replicate n 0) → base ≤ g → Below base w w' → wpList Try.prog ops Q rest (a.put o.dst (.slice (some ⟨g, 0, none⟩) n n)) w') : wpList Try.prog ops Q (o :: rest) a w := by
  obtain ⟨i0, hi, hz0, hz1, hz2⟩ := info_parts I32.info5
  refine wpList_make_full w hgd x c 36 hop base 21 i0 (.int .i32 0) 1 Try.underlying36 hi hz0 hz1 kl kc n n n hl hc rfl rfl (by rw [hz2]; omega) (by unfold maxLen; omega) hbase ?_
  intro w' hown hg
  have e : (madeCells (Value.int .i32 0).cells (n * 1)).toList = I32.bytesV (List.replicate n 0) := by
    have : (Value.int IntKind.i32 0).cells = #[Value.int IntKind.i32 0] := rfl
    rw [this, Nat.mul_one, toList_madeCells_one]
    simp [I32.bytesV]
  rw [e] at hown
  refine h _ w' ⟨by simpa using hown, ?_, by simpa using hn⟩ hbase ((Below.refl _ _).grown hg hbase (fun k hk => by cases hk))
  intro x hx
  rw [(List.mem_replicate.1 hx).2]
  exact I32.okk_nought

/-- The document's own step, at a place of the list. -/
theorem Qf.scan_step (n : Int) (l : List Int) (k : Nat) (m : Int) (acc : List Int) (hk : k < l.length) :
    Qf.scan n (l.drop k) k m acc = if Qf.qe (l.getD k 0).toNat n = 0 then Qf.scan n (l.drop (k + 1)) (k + 1) (bits .or .i64 m (Qf.qm (l.getD k 0).toNat n)) (acc ++ [Qf.qv (l.getD k 0).toNat n]) else (0, (k : Int), Qf.qe (l.getD k 0).toNat n, []) := by
  rw [List.drop_eq_getElem_cons hk]
  have : l.getD k 0 = l[k] := by simp [List.getElem?_eq_getElem hk]
  rw [this]
  rfl

theorem Qf.scan_done (n : Int) (l : List Int) (k : Nat) (m : Int) (acc : List Int) (hk : ¬ k < l.length) : Qf.scan n (l.drop k) k m acc = (m, 0, 0, acc) := by
  rw [List.drop_eq_nil_of_le (by omega)]
  rfl

theorem set_next (acc : List Int) (z : Int) (j : Nat) (h : 0 < j) : (acc ++ List.replicate j 0).set acc.length z = acc ++ [z] ++ List.replicate (j - 1) 0 := by
  obtain ⟨i, rfl⟩ : ∃ i, j = i + 1 := ⟨j - 1, by omega⟩
  rw [List.replicate_succ, List.set_append_right _ _ (Nat.le_refl _), Nat.sub_self]
  simp

/-- What both answer. -/
def AllAns (l : List Int) (n : Int) (w : World) (e : Ending) (w' : World) : Prop :=
  ∃ v, e = .returned (.tuple #[v, .int .i64 (Qf.allF l n).1, .int .i64 (Qf.allF l n).2.1, .int .i64 (Qf.allF l n).2.2.1]) ∧ I32.Own w.heap.size w' v (Qf.allF l n).2.2.2 ∧ Below w.heap.size w w'

set_option maxHeartbeats 1600000 in
set_option maxRecDepth 20000 in
theorem all_any (v : Value) (l : List Int) (n : Int) (w : World) (hB : U64.Bts w v l) (hl : l.length ≤ 1000000) :
    Calls Try.prog 17 #[v, .int .i64 n] w (AllAns l n w) := by
  have HB := Lib.hid hB
  obtain ⟨p, cap, rfl, hr, hn, hp⟩ := hB.form
  have HP := Lib.hid hp
  clear hp hB hr hn
  cases hs : Qf.okS n
  · have hf : Qf.allF l n = (0, 0, 2, []) := by unfold Qf.allF; rw [hs]; rfl
    have HF := Lib.hid hf
    have HS := Lib.hid hs
    clear hf hs
    go_enter Try.func17, Try.ntmps17
    go_wp2_with fail
    refine (mayScale_no _ _ HS.out).mono ?_
    rintro e w' ⟨rfl, rfl⟩
    go_wp2_with fail
    exact bodyPost_ret (v := .tuple #[.slice none 0 0, .int .i64 0, .int .i64 0, .int .i64 2]) (by simp [results, Try.results17, go_sem]) rfl ⟨_, by rw [HF.out], by rw [HF.out]; exact I32.own_nil _ _, Below.refl _ _⟩
  · have HS := Lib.hid hs
    by_cases hlen : l.length < 1 ∨ 4096 < l.length
    · have hf : Qf.allF l n = (0, 0, 9, []) := by unfold Qf.allF; rw [hs, if_pos rfl, if_pos hlen]
      have HF := Lib.hid hf
      clear hf hs
      rcases hlen with h1 | h1
      all_goals
        have h2 : l.length < 1 ∨ 1 ≤ l.length := by omega
        clear h2
        go_enter Try.func17, Try.ntmps17
        go_wp2_with fail
        refine (mayScale_yes _ _ HS.out).mono ?_
        rintro e w' ⟨rfl, rfl⟩
        go_wp2_with fail
        exact bodyPost_ret (v := .tuple #[.slice none 0 0, .int .i64 0, .int .i64 0, .int .i64 9]) (by simp [results, Try.results17, go_sem]) rfl ⟨_, by rw [HF.out], by rw [HF.out]; exact I32.own_nil _ _, Below.refl _ _⟩
    · have hf : Qf.allF l n = Qf.scan n l 0 0 [] := by unfold Qf.allF; rw [hs, if_pos rfl, if_neg hlen]
      have HF := Lib.hid hf
      have h1 : 1 ≤ l.length := by omega
      have h2 : l.length ≤ 4096 := by omega
      have d1 : decide ((l.length : Int) < 1) = false := by simp; omega
      have d2 : decide (4096 < (l.length : Int)) = false := by simp; omega
      clear hf hs hlen
      go_enter Try.func17, Try.ntmps17
      go_upto_region 5 with ((refine (mayScale_yes _ _ HS.out).mono ?_; rintro e w' ⟨rfl, rfl⟩))
      iterate 7 go_step
      refine I32.wpList_make_len rfl (.tmp 27) (.tmp 27) rfl w.heap.size .i64 .i64 l.length rfl rfl (by omega) (Nat.le_refl _) ?_
      intro g w1 hown1 hg1 hb1
      have HO1 := Lib.hid hown1
      have HB1 := Lib.hid (HB.out.below hb1)
      have HW1 := Lib.hid hb1
      clear hown1 hb1
      go_wp2
      go_loopw [9, 31] (fun s t wr => ∃ (k : Nat) (m : Int) (acc : List Int), k ≤ l.length ∧ t = .int .i64 k ∧ s = .int .i64 m ∧ acc.length = k ∧ I32.Own w.heap.size wr (.slice (some ⟨g, 0, none⟩) l.length l.length) (acc ++ List.replicate (l.length - k) 0) ∧ Qf.scan n (l.drop k) k m acc = Qf.scan n l 0 0 [] ∧ Below w.heap.size w wr) (fun _ t _ => l.length - (intOf t).toNat)
      case atStart => exact ⟨0, 0, [], by omega, rfl, rfl, rfl, by simpa using HO1.out, by simp, HW1.out⟩
      case round =>
        obtain ⟨k, m, acc, hk, rfl, rfl, hacc, hown, hsc, hbel⟩ := hrel
        have HO := Lib.hid hown
        have HC := Lib.hid hsc
        have HW := Lib.hid hbel
        have HA := Lib.hid hacc
        clear hown hsc hbel hacc
        by_cases hlt : k < l.length
        · have hst := Qf.scan_step n l k m acc hlt
          rw [HC.out] at hst
          have HST := Lib.hid hst
          clear hst
          have hBk := HB.out.below HW.out
          have hok := hBk.getD k
          obtain ⟨b, off, hpe, hc⟩ := HP.out (by omega)
          subst hpe
          have hck : ‹World›.cell? ⟨b, off + k, none⟩ = some (.int .u64 (l.getD k 0)) := by
            rw [HW.out.cell (p := ⟨b, off + k, none⟩) (block_lt_of_cell (hc k hlt))]
            exact hc k hlt
          clear hc hBk
          generalize l.getD k 0 = x at *
          have HOK := Lib.hid hok
          clear hok
          have hL : (acc ++ List.replicate (l.length - k) (0 : Int)).length = l.length := by
            rw [List.length_append, List.length_replicate, HA.out]; omega
          have hown := HO.out
          rw [show Value.slice (some ⟨g, 0, none⟩) l.length l.length = Value.slice (some ⟨g, 0, none⟩) (acc ++ List.replicate (l.length - k) (0 : Int)).length l.length by rw [hL]] at hown
          obtain ⟨hcg, hfg⟩ := hown.cellAt k (by omega)
          obtain ⟨hst1, hst2⟩ := hown.stored k (Qf.qv x.toNat n) (Qf.qv_ok _ _)
          rw [hL] at hst1
          have hset := set_next acc (Qf.qv x.toNat n) (l.length - k) (by omega)
          rw [HA.out] at hset
          rw [hset] at hst1
          have HS1 := Lib.hid hst1
          have HS2 := Lib.hid hst2
          clear hown hst1 hst2 hset hL
          by_cases he : Qf.qe x.toNat n = 0
          · have hst := HST.out
            rw [if_pos he] at hst
            have HN := Lib.hid hst.symm
            clear hst HST
            go_wp2_with fail
            refine (quant_int _ _ _ HOK.out).mono ?_
            rintro e w' ⟨rfl, rfl⟩
            rw [he]
            clear he
            go_wp2_with fail
            go_roundw
            case rel => exact ⟨k + 1, _, acc ++ [Qf.qv x.toNat n], by omega, by go_num, rfl, by rw [List.length_append, HA.out]; rfl, by rw [show l.length - (k + 1) = l.length - k - 1 by omega]; exact HS1.out, HN.out, U64.below_grown HW.out HS2.out HW.out.size hg1⟩
            case measure => simp [intOf]; omega
          · have hst := HST.out
            rw [if_neg he] at hst
            have HN := Lib.hid hst
            clear hst HST
            go_wp2_with fail
            refine (quant_int _ _ _ HOK.out).mono ?_
            rintro e w' ⟨rfl, rfl⟩
            go_wp2_with fail
            exact bodyPost_ret (v := .tuple #[.slice none 0 0, .int .i64 0, .int .i64 k, .int .i64 (Qf.qe x.toNat n)]) (by simp [results, Try.results17, go_sem]) rfl ⟨_, by rw [HF.out, HN.out], by rw [HF.out, HN.out]; exact I32.own_nil _ _, HW.out⟩
        · have hd := Qf.scan_done n l k m acc hlt
          rw [HC.out] at hd
          have HD := Lib.hid hd
          have hk2 : l.length - k = 0 := by omega
          have hown := HO.out
          rw [hk2, List.replicate_zero, List.append_nil] at hown
          have HO2 := Lib.hid hown
          clear hd hk2 hown
          go_wp2_with fail
          exact bodyPost_ret (v := .tuple #[.slice (some ⟨g, 0, none⟩) l.length l.length, .int .i64 m, .int .i64 0, .int .i64 0]) (by simp [results, Try.results17, go_sem]) rfl ⟨_, by rw [HF.out, HD.out], by rw [HF.out, HD.out]; exact HO2.out, HW.out⟩
end Go.Proofs.Ytemamkbcagnigaa
