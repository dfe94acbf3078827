/- What the law QuantOrder answers, for every list of floats and every three floats. Conditions: the slice's cells hold the numbers. -/
import Derived.Test.YtemamkbcagnigaaQuantOrd
import Derived.Laws.OwnMore
import Derived.WalkSmall
import Derived.IntWalk
namespace Go.Proofs.Ytemamkbcagnigaa
open Go.RowKit

/-- Nothing that stands behind stands ahead. -/
def Rises (ts : List Int) : Prop := ∀ i j, i < j → j < ts.length → Qf.tot (ts.getD i 0).toNat (ts.getD j 0).toNat ≤ 0

/-- What Sorted answers. -/
def SortedAns (l : List Int) (w : World) (e : Ending) (w' : World) : Prop := ∃ sv ts, e = .returned sv ∧ ts.Perm l ∧ Rises ts ∧ U64.Own w.heap.size w' sv ts ∧ Below w.heap.size w w'

theorem total_with (a b : Nat) (t : Int) (ha : a < 18446744073709551616) (hb : b < 18446744073709551616) (h : Qf.tot a b = t) (w : World) :
    Calls Try.prog 20 #[.int .u64 (a : Int), .int .u64 (b : Int)] w fun e w' => e = .returned (.int .i64 t) ∧ w = w' := by
  subst h; exact total_any a b w ha hb

theorem refTotal_with (a b : Nat) (t : Int) (ha : a < 18446744073709551616) (hb : b < 18446744073709551616) (h : Qf.tot a b = t) (w : World) :
    Calls Try.prog 21 #[.int .u64 (a : Int), .int .u64 (b : Int)] w fun e w' => e = .returned (.int .i64 t) ∧ w = w' := by
  subst h; exact refTotal_any a b w ha hb

theorem tot_trans {a b c : Nat} (h1 : Qf.tot a b ≤ 0) (h2 : Qf.tot b c ≤ 0) : Qf.tot a c ≤ 0 := by
  have g1 := @Qf.tot_gt a b
  have g2 := @Qf.tot_gt b c
  have g3 := @Qf.tot_gt a c
  rcases Int.lt_or_le 0 (Qf.tot a c) with h | h
  · have := g3.1 h
    have n1 : ¬ Qf.rk b < Qf.rk a := fun h => by have := g1.2 h; omega
    have n2 : ¬ Qf.rk c < Qf.rk b := fun h => by have := g2.2 h; omega
    omega
  · exact h

theorem quiet_l {f : FuncId} {args : Array Value} {w : World} {n : Nat} {v : Value} (h : Calls Try.prog f args (w.drewN n) fun e w' => e = .returned v ∧ w.drewN n = w') : Calls Try.prog f args (w.drewN n) fun e w'' => e = .returned v ∧ ∃ m, w'' = w.drewN m :=
  h.mono fun _ _ ⟨he, hm⟩ => ⟨he, n, hm.symm⟩

/-- One number written into a row of the call's own. -/
theorem U64.Own.stored {base g cap : Nat} {w : World} {l : List Int} (h : U64.Own base w (.slice (some ⟨g, 0, none⟩) l.length cap) l) (j : Nat) (z : Int) (hz : U64.Okk z) :
    U64.Own base (w.setCell ⟨g, j, none⟩ (.int .u64 z)) (.slice (some ⟨g, 0, none⟩) l.length cap) (l.set j z) ∧ w.grownBy (w.setCell ⟨g, j, none⟩ (.int .u64 z)) (some g) := by
  obtain ⟨h1, h2⟩ := h.own.stored j (.int .u64 z)
  refine ⟨⟨?_, ?_, by simpa using h.len⟩, h2⟩
  · have e : U64.bytesV (l.set j z) = (U64.bytesV l).set j (.int .u64 z) := by simp [U64.bytesV, List.map_set]
    rw [e, List.length_set]
    exact h1
  · intro x hx
    rcases List.mem_or_eq_of_mem_set hx with hx | rfl
    · exact h.small x hx
    · exact hz

theorem U64.Own.cellAt {base g cap : Nat} {w : World} {l : List Int} (h : U64.Own base w (.slice (some ⟨g, 0, none⟩) l.length cap) l) (j : Nat) (hj : j < l.length) : w.cell? ⟨g, j, none⟩ = some (.int .u64 (l.getD j 0)) ∧ w.frozen? ⟨g, j, none⟩ = false := by
  refine ⟨?_, h.own.frozenAt j⟩
  rw [h.own.cellAt j (by omega)]
  simp [U64.bytesV, List.getElem?_eq_getElem hj]

/-- What is so at the head of the law's loops: the sorted numbers, or what was written over them; the lent ones; those that came in. -/
structure Sorts (w w1 : World) (l A : List Int) (gx capx : Nat) (p ps : Option Addr) (cap cs : Nat) (wr : World) : Prop where
  len : A.length = l.length
  s : U64.Own w1.heap.size wr (.slice ps l.length cs) A
  x : LentAt w wr l gx capx
  l : U64.Bts wr (.slice p l.length cap) l
  below : Below w.heap.size w wr

theorem Sorts.later {w w1 : World} {l A : List Int} {gx capx : Nat} {p ps : Option Addr} {cap cs : Nat} {wr wr' : World} (h : Sorts w w1 l A gx capx p ps cap cs wr) (hb : Below wr.heap.size wr wr') : Sorts w w1 l A gx capx p ps cap cs wr' :=
  ⟨h.len, h.s.below hb, h.x.later hb, h.l.below hb, h.below.trans (hb.mono h.below.size)⟩

theorem Sorts.drew {w w1 : World} {l A : List Int} {gx capx : Nat} {p ps : Option Addr} {cap cs : Nat} {wr : World} (h : Sorts w w1 l A gx capx p ps cap cs wr) (n : Nat) : Sorts w w1 l A gx capx p ps cap cs (wr.drewN n) :=
  h.later (below_drewN (Below.refl _ _) n)

theorem Sorts.store {w w1 : World} {l A : List Int} {gx capx gs : Nat} {p : Option Addr} {cap cs : Nat} {wr : World} (h : Sorts w w1 l A gx capx p (some ⟨gs, 0, none⟩) cap cs wr)
    (h1 : w1.heap.size ≤ gs) (hw : w.heap.size ≤ w1.heap.size) (hx : gx < w1.heap.size) (hp : ∀ b, (Value.slice p l.length cap).ownBlock = some b → 0 < l.length → b < w.heap.size) (k : Nat) (z : Int) (hz : U64.Okk z) :
    Sorts w w1 l (A.set k z) gx capx p (some ⟨gs, 0, none⟩) cap cs (wr.setCell ⟨gs, k, none⟩ (.int .u64 z)) := by
  have ha := h.s
  rw [← h.len] at ha
  obtain ⟨s1, s2⟩ := ha.stored k z hz
  rw [h.len] at s1
  refine ⟨by simpa using h.len, s1, h.x.grown s2 (by omega) (by omega), ?_, U64.below_grown h.below s2 h.below.size (by omega)⟩
  refine h.l.grown s2 ?_
  intro h0 e
  have := hp gs e h0
  omega

set_option maxHeartbeats 6400000 in
set_option maxRecDepth 100000 in
theorem orderLaw_any (hS : ∀ (g cap : Nat) (l : List Int) (w : World), g < w.heap.size → U64.Bts w (.slice (some ⟨g, 0, none⟩) l.length cap) l → l.length ≤ 1000000 → Calls Try.prog 22 #[.slice (some ⟨g, 0, none⟩) l.length cap] w (SortedAns l w))
    (v : Value) (l : List Int) (a b c : Nat) (w : World) (hB : U64.Bts w v l) (ha : a < 18446744073709551616) (hb : b < 18446744073709551616) (hc : c < 18446744073709551616) :
    Calls Try.prog 6 #[v, .int .u64 (a : Int), .int .u64 (b : Int), .int .u64 (c : Int)] w fun e w' => e = .returned (.bool true) ∧ Below w.heap.size w w' := by
  have HB := Lib.hid hB
  obtain ⟨p, cap, rfl, hr, hn, hp⟩ := hB.form
  clear hp hB hr hn
  obtain ⟨t, ht⟩ : ∃ t, Qf.tot a b = t := ⟨_, rfl⟩
  obtain ⟨tb, htb⟩ : ∃ t, Qf.tot b c = t := ⟨_, rfl⟩
  obtain ⟨tc, htc⟩ : ∃ t, Qf.tot a c = t := ⟨_, rfl⟩
  have hba : Qf.tot b a = -t := by rw [Qf.tot_swap, ht]
  have Q1 := Lib.hid (total_with a b t ha hb ht)
  have Q2 := Lib.hid (total_with b a (-t) hb ha hba)
  have Q3 := Lib.hid (total_with b c tb hb hc htb)
  have Q4 := Lib.hid (total_with a c tc ha hc htc)
  have Q5 := Lib.hid (refTotal_with a b t ha hb ht)
  have hz := Qf.tot_zero ha hb
  rw [ht] at hz
  have hrng := Qf.tot_range a b
  rw [ht] at hrng
  obtain ⟨r1, r2⟩ := hrng
  have htr : t ≤ 0 → tb ≤ 0 → tc ≤ 0 := fun h1 h2 => by
    rw [← htc]; exact tot_trans (by rw [ht]; exact h1) (by rw [htb]; exact h2)
  clear ht htb htc hba
  have HS := Lib.hid hS
  clear hS
  obtain ⟨e0, E1, E2⟩ : ∃ e0 : Bool, (t == 0) = e0 ∧ ((a : Int) == (b : Int)) = e0 := by
    by_cases h : a = b
    · exact ⟨true, by simp [hz.2 h], by simp [h]⟩
    · refine ⟨false, ?_, ?_⟩
      · have : ¬ t = 0 := fun h2 => h (hz.1 h2)
        simp [this]
      · have : ¬ (a : Int) = (b : Int) := by omega
        simp [this]
  have hcase2 : (t ≤ 0 ∧ tb ≤ 0 ∧ tc ≤ 0) ∨ (t ≤ 0 ∧ 0 < tb) ∨ 0 < t := by
    rcases Int.lt_or_le 0 t with h | h
    · exact .inr (.inr h)
    · rcases Int.lt_or_le 0 tb with h2 | h2
      · exact .inr (.inl ⟨h, h2⟩)
      · exact .inl ⟨h, h2, htr h h2⟩
  clear hz htr
  by_cases hlen : 2000 < l.length
  · clear HS
    rcases hcase2 with ⟨y1, y2, y3⟩ | ⟨y1, y2⟩ | y1
    all_goals
      go_enter Try.func6, Try.ntmps6
      go_wp2_with fail
      refine (Q1.out _).mono ?_
      rintro e w' ⟨rfl, rfl⟩
      go_wp2_with fail
      refine (Q5.out _).mono ?_
      rintro e w' ⟨rfl, rfl⟩
      go_wp2_with fail
      refine (Q2.out _).mono ?_
      rintro e w' ⟨rfl, rfl⟩
      go_wp2_with fail
      try (refine (Q3.out _).mono ?_; rintro e w' ⟨rfl, rfl⟩; go_wp2_with fail)
      try (refine (Q4.out _).mono ?_; rintro e w' ⟨rfl, rfl⟩; go_wp2_with fail)
      refine (known_any _).mono ?_
      rintro e w' ⟨rfl, rfl⟩
      go_wp2_with fail
      go_ret
      exact ⟨rfl, Below.refl _ _⟩
  · go_enter Try.func6, Try.ntmps6
    go_wp2_with fail
    refine (Q1.out _).mono ?_
    rintro e w' ⟨rfl, rfl⟩
    go_upto_region 2 with fail
    go_cut [53] (fun s53 wx => s53 = .bool false ∧ w = wx)
    case first =>
      rcases hcase2 with ⟨y1, y2, y3⟩ | ⟨y1, y2⟩ | y1
      all_goals
        go_wp2_with fail
        refine (Q5.out _).mono ?_
        rintro e w' ⟨rfl, rfl⟩
        go_wp2_with fail
        refine (Q2.out _).mono ?_
        rintro e w' ⟨rfl, rfl⟩
        go_wp2_with fail
        try (refine (Q3.out _).mono ?_; rintro e w' ⟨rfl, rfl⟩; go_wp2_with fail)
        try (refine (Q4.out _).mono ?_; rintro e w' ⟨rfl, rfl⟩; go_wp2_with fail)
        go_meet
        first | exact ⟨rfl, rfl⟩ | exact ⟨congrArg Value.bool (by simp; omega), rfl⟩
    case rest =>
      obtain ⟨rfl, rfl⟩ := hcut
      clear Q1 Q2 Q3 Q4 Q5 E1 E2 r1 r2 hcase2
      go_wp2_with fail
      refine (lent_any _ _ _ HB.out (by omega)).mono ?_
      rintro e w1 ⟨gx, capx, rfl, hL1⟩
      have HX1 := Lib.hid hL1
      have HB1 := Lib.hid (HB.out.below hL1.below)
      have hgx : gx < w1.heap.size := block_lt_of_cell (hL1.cells 0 (by omega))
      have hw01 := hL1.below.size
      have hpb : Hid (∀ b, (Value.slice p l.length cap).ownBlock = some b → 0 < l.length → b < w.heap.size) := Lib.hid (by
        intro b hb h0
        obtain ⟨p', c', e1, -, -, hc⟩ := HB.out.form
        obtain ⟨b', off, e2, hcell⟩ := hc h0
        simp only [Value.slice.injEq] at e1
        obtain ⟨rfl, -, -⟩ := e1
        subst e2
        simp only [Value.ownBlock, Option.some.injEq] at hb
        subst hb
        exact block_lt_of_cell (hcell 0 h0))
      clear hL1
      go_wp2_with fail
      refine (HS.out gx capx l _ hgx (HX1.out.bts HB.out.small HB.out.len) (by omega)).mono ?_
      rintro e w2 ⟨sv, ts, rfl, hperm, hris, hos, hb2⟩
      have hlts : ts.length = l.length := hperm.length_eq
      obtain ⟨ps, cs, rfl, hcs1, -, -⟩ := hos.bts.form
      rw [hlts] at hos hcs1 ⊢
      have hss : Hid (0 < l.length → ∃ gs, ps = some ⟨gs, 0, none⟩ ∧ w1.heap.size ≤ gs) := Lib.hid (by
        intro h0
        rcases hos.form with ⟨h1, h2⟩ | ⟨g, c, e1, h1, h2, h3, h4⟩
        · rw [h2] at hlts; simp at hlts; omega
        · rw [hlts] at e1
          simp only [Value.slice.injEq] at e1
          obtain ⟨rfl, -, -⟩ := e1
          exact ⟨g, rfl, h1⟩)
      have HH := Lib.hid (show Sorts w w1 l ts gx capx p ps cap cs w2 from ⟨hlts, hos, HX1.out.later hb2, HB1.out.below hb2, HX1.out.below.trans (hb2.mono hw01)⟩)
      have HP := Lib.hid hperm
      have HR := Lib.hid hris
      have HLN := Lib.hid hlts
      clear HX1 HB1 hperm hris hos hb2 hlts HS HB
      go_wp2_with fail
      refine (kept_any _ l gx capx _ _ HH.out.x HH.out.l (by omega)).mono ?_
      rintro e w' ⟨rfl, n2, rfl⟩
      have HH2 := Lib.hid (HH.out.drew n2)
      clear HH
      generalize w2.drewN n2 = w3 at *
      go_wp2_with fail
      go_loopw [12] (fun i wr => ∃ k : Nat, k ≤ l.length ∧ i = .int .i64 k ∧ Sorts w w1 l ts gx capx p ps cap cs wr) (fun i _ => l.length - (intOf i).toNat)
      case atStart => exact ⟨0, by omega, rfl, HH2.out⟩
      case round =>
        clear HH2
        obtain ⟨k, hk, rfl, hh⟩ := hrel
        have HK := Lib.hid hh
        clear hh
        by_cases hlt : k < l.length
        · obtain ⟨gs, rfl, hgs⟩ := hss.out (by omega)
          have hc1 := HK.out.s
          rw [← HLN.out] at hc1
          obtain ⟨hcell, -⟩ := hc1.cellAt k (by rw [HLN.out]; exact hlt)
          have hokk := HK.out.s.bts.getD k
          obtain ⟨q, hq⟩ : ∃ q : Nat, l.count (ts.getD k 0) = q := ⟨_, rfl⟩
          have hq2 : ts.count (ts.getD k 0) = q := by rw [HP.out.count_eq]; exact hq
          have C1 := Lib.hid (show ∀ n, Calls Try.prog 23 #[.slice (some ⟨gs, 0, none⟩) l.length cs, .int .u64 (ts.getD k 0)] (wr.drewN n) fun e w' => e = .returned (.int .i64 (q : Nat)) ∧ wr.drewN n = w' from fun n => by
            rw [← hq2]; exact count_any _ ts _ _ (HK.out.drew n).s.bts (by rw [HLN.out]; omega))
          have C2 := Lib.hid (show ∀ n, Calls Try.prog 23 #[.slice p l.length cap, .int .u64 (ts.getD k 0)] (wr.drewN n) fun e w' => e = .returned (.int .i64 (q : Nat)) ∧ wr.drewN n = w' from fun n => by
            rw [← hq]; exact count_any _ l _ _ (HK.out.drew n).l (by omega))
          clear hc1 hq hq2
          rcases Nat.eq_zero_or_pos k with h0 | h0
          · subst h0
            generalize ts.getD 0 0 = y at *
            clear hk
            go_wp2
            go_quiet ((first | (go_at_call 23; with_reducible exact quiet_l (C1.out _)) | (go_at_call 23; with_reducible exact quiet_l (C2.out _))))
            go_wp2
            go_roundw
            case rel => exact ⟨1, by omega, rfl, HK.out.drew _⟩
            case measure => simp [intOf]; omega
          · obtain ⟨j, rfl⟩ : ∃ j, k = j + 1 := ⟨k - 1, by omega⟩
            clear h0
            have hc0 := HK.out.s
            rw [← HLN.out] at hc0
            obtain ⟨hcell0, -⟩ := hc0.cellAt j (by rw [HLN.out]; omega)
            have hok0 := HK.out.s.bts.getD j
            have hle := HR.out j (j + 1) (by omega) (by rw [HLN.out]; exact hlt)
            obtain ⟨tt, htt⟩ : ∃ tt, Qf.tot (ts.getD j 0).toNat (ts.getD (j + 1) 0).toNat = tt := ⟨_, rfl⟩
            have T1 := Lib.hid (show ∀ n, Calls Try.prog 21 #[.int .u64 (ts.getD j 0), .int .u64 (ts.getD (j + 1) 0)] (wr.drewN n) fun e w' => e = .returned (.int .i64 tt) ∧ wr.drewN n = w' from fun n => by
              rw [← htt]; exact refTotal_int _ _ _ hok0 hokk)
            rw [htt] at hle
            clear htt hc0
            generalize ts.getD j 0 = z at *
            generalize ts.getD (j + 1) 0 = y at *
            have w1a : IntKind.i64.wrap ((j : Int) + 1 - 1) = (j : Int) := by rw [Int.add_sub_cancel]; exact IntWalk.i64_in _ (by omega)
            have w1b : IntKind.i64.wrap (j : Int) = (j : Int) := IntWalk.i64_in _ (by omega)
            have w1c : ((j : Int) + 1).toNat = j + 1 := by omega
            have w1d : (0 : Int) ≤ (j : Int) + 1 := by omega
            have w1e : j < l.length := by omega
            have w1f : (j : Int) + 1 < (l.length : Int) := by omega
            go_wp2
            go_quiet ((first | (go_at_call 21; with_reducible exact quiet_l (T1.out _)) | (go_at_call 23; with_reducible exact quiet_l (C1.out _)) | (go_at_call 23; with_reducible exact quiet_l (C2.out _))))
            go_wp2
            go_roundw
            case rel => exact ⟨j + 1 + 1, by omega, by go_num, HK.out.drew _⟩
            case measure => simp [intOf]; omega
        · have hkl : k = l.length := by omega
          clear HR
          go_wp2_with fail
          go_loopw [13] (fun i wr => ∃ (k : Nat) (A : List Int), k ≤ l.length ∧ i = .int .i64 k ∧ Sorts w w1 l A gx capx p ps cap cs wr) (fun i _ => l.length - (intOf i).toNat)
          case atStart => exact ⟨0, ts, by omega, rfl, HK.out⟩
          case round =>
            clear HK
            obtain ⟨k2, A, hk2, rfl, hh⟩ := hrel
            have HK := Lib.hid hh
            clear hh
            by_cases hlt2 : k2 < l.length
            · obtain ⟨gs, rfl, hgs⟩ := hss.out (by omega)
              have hc1 := HK.out.s
              rw [← HK.out.len] at hc1
              obtain ⟨hcell, hfr⟩ := hc1.cellAt k2 (by rw [HK.out.len]; exact hlt2)
              have HST := Lib.hid (fun z hz => HK.out.store hgs hw01 hgx hpb.out k2 z hz)
              clear hc1
              generalize A.getD k2 0 = y at *
              go_wp2
              go_roundw
              case rel => exact ⟨k2 + 1, A.set k2 5, by omega, by go_num, HST.out 5 rfl⟩
              case measure => simp [intOf]; omega
            · go_wp2_with fail
              refine (kept_any _ l gx capx _ _ HK.out.x HK.out.l (by omega)).mono ?_
              rintro e w' ⟨rfl, n3, rfl⟩
              go_wp2_with fail
              refine (known_any _).mono ?_
              rintro e w' ⟨rfl, rfl⟩
              go_wp2_with fail
              go_ret
              exact ⟨rfl, below_drewN HK.out.below n3⟩
end Go.Proofs.Ytemamkbcagnigaa
