/- What the document's First answers over hits: the first of them, in order, in new memory. Conditions: the slice's cells hold the hits; at most half a million. -/
import Derived.Test.YtljichhmfbefaaaHitMerge
namespace Go.Proofs.Ytljichhmfbefaaa
open Go.RowKit Go.Sort

theorem HOwn.belowAt {base B : Nat} {w w' : World} {v : Value} {l : List Hit} (h : HOwn base w v l) (hb : Below B w w') (hB : ∀ g, v.ownBlock = some g → g < B) : HOwn base w' v l := by
  refine ⟨h.1, ?_⟩
  rcases h.2 with h2 | ⟨g, cap, cur, rfl, hg, hh, r⟩
  · exact Or.inl h2
  · refine Or.inr ⟨g, cap, cur, rfl, hg, ?_, r⟩
    rw [hb.block g (hB g rfl)]; exact hh

/-- One hit written into a row of the call's own. -/
theorem HOwn.stored {base g cap : Nat} {w : World} {l : List Hit} (h : HOwn base w (.slice (some ⟨g, 0, none⟩) l.length cap) l) (i : Nat) (hi : i < l.length) (x : Hit) :
    HOwn base ((w.setCell ⟨g, i * 2, none⟩ (.int .u64 (x.1.toNat : Int))).setCell ⟨g, i * 2 + 1, none⟩ (.int .i64 x.2.toInt)) (.slice (some ⟨g, 0, none⟩) l.length cap) (l.set i x) ∧
      w.grownBy ((w.setCell ⟨g, i * 2, none⟩ (.int .u64 (x.1.toNat : Int))).setCell ⟨g, i * 2 + 1, none⟩ (.int .i64 x.2.toInt)) (some g) := by
  obtain ⟨h1, h2⟩ := World.ownsRow.stored h (i * 2) (.int .u64 (x.1.toNat : Int))
  obtain ⟨h3, h4⟩ := World.ownsRow.stored h1 (i * 2 + 1) (.int .i64 x.2.toInt)
  rw [← cellsH_set l i x hi] at h3
  refine ⟨by unfold HOwn; rw [List.length_set]; exact h3, ⟨h4.os.trans h2.os, h4.tape.trans h2.tape, h4.output.trans h2.output, Nat.le_trans h2.size h4.size, fun k hk hr => (h4.block k (Nat.lt_of_lt_of_le hk h2.size) hr).trans (h2.block k hk hr)⟩⟩

theorem HOwn.free {base g cap : Nat} {w : World} {l : List Hit} (h : HOwn base w (.slice (some ⟨g, 0, none⟩) l.length cap) l) (j : Nat) : w.frozen? ⟨g, j, none⟩ = false := World.ownsRow.frozenAt h j

theorem HOwn.at {base g cap : Nat} {w : World} {l : List Hit} (h : HOwn base w (.slice (some ⟨g, 0, none⟩) l.length cap) l) (i : Nat) (hi : i < l.length) :
    w.cell? ⟨g, i * 2, none⟩ = some (.int .u64 ((l.getD i default).1.toNat : Int)) ∧ w.cell? ⟨g, i * 2 + 1, none⟩ = some (.int .i64 (l.getD i default).2.toInt) := by
  obtain ⟨h1, h2⟩ := h.bts.at i hi
  rw [Nat.zero_add] at h1 h2
  exact ⟨h1, h2⟩

theorem HOwn.mid {base g cap : Nat} {w : World} {l : List Hit} (h : HOwn base w (.slice (some ⟨g, 0, none⟩) l.length cap) l) (i : Nat) (hi : i < l.length) (u : Value) :
    (w.setCell ⟨g, i * 2, none⟩ u).cell? ⟨g, i * 2 + 1, none⟩ = some (.int .i64 (l.getD i default).2.toInt) ∧ (w.setCell ⟨g, i * 2, none⟩ u).frozen? ⟨g, i * 2 + 1, none⟩ = false := by
  obtain ⟨h1, h2⟩ := World.ownsRow.stored h (i * 2) u
  refine ⟨?_, World.ownsRow.frozenAt h1 _⟩
  rw [World.ownsRow.cellAt h1 (i * 2 + 1) (by omega), List.getElem?_set_ne (by omega), cellsH_dist l i hi]

/-- What is so at the head of the document's loop: what is left, and what was chosen. -/
structure RefInv (w w1 : World) (l : List Hit) (kk : Nat) (rest out : Value) (R O : List Hit) (wr : World) : Prop where
  own1 : HOwn w.heap.size wr rest R
  own2 : HOwn w1.heap.size wr out O
  perm : (O ++ R).Perm l
  up : Hp.Up O
  le : ∀ o ∈ O, ∀ r ∈ R, Hp.rk o ≤ Hp.rk r
  most : O.length ≤ kk
  blk : ∀ g, rest.ownBlock = some g → g < w1.heap.size
  below : Below w.heap.size w wr
  size : w1.heap.size ≤ wr.heap.size

theorem RefInv.later {w w1 : World} {l : List Hit} {kk : Nat} {rest out : Value} {R O : List Hit} {wr wr' : World} (h : RefInv w w1 l kk rest out R O wr) (hb : Below wr.heap.size wr wr') : RefInv w w1 l kk rest out R O wr' :=
  ⟨h.own1.below hb, h.own2.below hb, h.perm, h.up, h.le, h.most, h.blk, h.below.trans (hb.mono h.below.size), Nat.le_trans h.size hb.size⟩

def lenV : Value → Nat
  | .slice _ n _ => n
  | _ => 0

/-- What each operation of the inner loop's question leaves. -/
def AskF (g n cap i p : Nat) (ri rp : Value) (b : Bool) (k : Nat) (v : Value) (_ : World) : Prop :=
  match k with
  | 0 => v = .slice (some ⟨g, 0, none⟩) n cap
  | 1 => v = .int .i64 (i : Int)
  | 2 => v = .pointer (some ⟨g, i * 2, none⟩)
  | 3 => v = ri
  | 4 => v = .slice (some ⟨g, 0, none⟩) n cap
  | 5 => v = .int .i64 (p : Int)
  | 6 => v = .pointer (some ⟨g, p * 2, none⟩)
  | 7 => v = rp
  | _ => v = .bool b

theorem askF_went {g n cap i p : Nat} {ri rp : Value} {b : Bool} (k : Nat) (v : Value) (w w' : World) (_ : Went w w') (h : AskF g n cap i p ri rp b k v w) : AskF g n cap i p ri rp b k v w' := h

set_option maxHeartbeats 1000000 in
set_option maxRecDepth 20000 in
theorem refFirst_any (v : Value) (l : List Hit) (k : Int) (w : World) (hB : HBts w v l) (hl : l.length ≤ 1000000) :
    Calls Try.prog 21 #[v, .int .i64 k] w (HNew ((Hp.srt l).take k.toNat) w) := by
  have HB := Lib.hid hB
  obtain ⟨p0, cap0, rfl, -, -, -⟩ := hB.form
  have HO := Lib.hid (hown_empty w w.heap.size (Nat.le_refl _))
  have hb0 : Below w.heap.size w (w.alloc (.cells #[] 35)) := (Below.refl _ _).alloc (Nat.le_refl _) _
  have HW0 := Lib.hid hb0
  clear hb0 hB
  go_enter Try.func21, Try.ntmps21
  go_upto_region 1 with (fail)
  go_step
  go_step
  go_step
  go_step
  go_step
  go_step
  go_step
  refine wpList_append_HOwn rfl (.tmp 9) (.tmp 10) rfl w.heap.size _ [] rfl HO.out _ l rfl (HB.out.below HW0.out) (by simp; omega) HW0.out.size ?_
  intro v1 w1 hown1 hb1 _
  rw [List.nil_append] at hown1
  have HI := Lib.hid (show RefInv w w1 l k.toNat v1 (.slice none 0 0) l [] w1 from ⟨hown1, hown_nil _ _, by simp, List.Pairwise.nil, by simp, Nat.zero_le _, (fun g hg => by
    rcases hown1.form with ⟨rfl, _⟩ | ⟨g', c', rfl, _, h2, _⟩
    · simp [Value.ownBlock] at hg
    · simp only [Value.ownBlock, Option.some.injEq] at hg; omega), HW0.out.trans hb1, Nat.le_refl _⟩)
  clear hown1 hb1 HO HW0 HB
  go_wp2_with fail
  go_loopw [5, 6] (fun rest out wr => ∃ R O, RefInv w w1 l k.toNat rest out R O wr) (fun rest _ _ => lenV rest)
  case atStart => exact ⟨l, [], HI.out⟩
  case round =>
    obtain ⟨R, O, hh⟩ := hrel
    have HH := Lib.hid hh
    have hrl : R.length ≤ 1000000 := by have := hh.perm.length_eq; rw [List.length_append] at this; omega
    have hol : O.length ≤ 1000000 := by have := hh.perm.length_eq; rw [List.length_append] at this; omega
    obtain ⟨pr, cr, hv5, -, -, -⟩ := hh.own1.bts.form
    obtain ⟨po, co, hv6, -, -, -⟩ := hh.own2.bts.form
    subst hv5
    subst hv6
    clear hh
    by_cases hR : 0 < R.length
    · by_cases hO : (O.length : Int) < k
      · obtain ⟨g, rfl⟩ : ∃ g, pr = some ⟨g, 0, none⟩ := by
          rcases HH.out.own1.form with ⟨_, h2⟩ | ⟨g, c, h2, _⟩
          · rw [h2] at hR; simp at hR
          · simp only [Value.slice.injEq] at h2
            exact ⟨g, h2.1⟩
        have hR' : (0 : Int) < (R.length : Int) := by omega
        go_wp2_with fail
        go_loopw [7, 8] (fun a i wx => ∃ p j : Nat, a = .int .i64 (p : Int) ∧ i = .int .i64 (j : Int) ∧ 1 ≤ j ∧ j ≤ R.length ∧ p < j ∧ (∀ q, q < j → Hp.rk (R.getD p default) ≤ Hp.rk (R.getD q default)) ∧ Went wr wx) (fun _ i _ => R.length - (intOf i).toNat)
        case atStart =>
          refine ⟨0, 1, rfl, rfl, Nat.le_refl _, hR, by omega, fun q hq => ?_, Went.refl _⟩
          obtain rfl : q = 0 := by omega
          exact Int.le_refl _
        case round =>
          obtain ⟨p, j, rfl, rfl, hj1, hj2, hpj, hmin, hw⟩ := hrel
          have HM := Lib.hid hmin
          have HX := Lib.hid hw
          clear hmin hw
          by_cases hlt : j < R.length
          · have hown := HH.out.own1.below HX.out.below
            obtain ⟨hc1, hc2⟩ := hown.at j hlt
            obtain ⟨hc3, hc4⟩ := hown.at p (by omega)
            have HA := Lib.hid (fun W => ahead_any (R.getD j default) (R.getD p default) W)
            have HC1 := Lib.hid hc1
            have HC2 := Lib.hid hc2
            have HC3 := Lib.hid hc3
            have HC4 := Lib.hid hc4
            clear hown hc1 hc2 hc3 hc4
            have hpl : p < R.length := by omega
            obtain ⟨b, hb⟩ : ∃ b, decide (Hp.rk (R.getD j default) < Hp.rk (R.getD p default)) = b := ⟨_, rfl⟩
            rw [hb] at HA
            have HBD := Lib.hid hb
            clear hb
            generalize ((R.getD j default).1.toNat : Int) = xk at *
            generalize (R.getD j default).2.toInt = xd at *
            generalize ((R.getD p default).1.toNat : Int) = yk at *
            generalize (R.getD p default).2.toInt = yd at *
            go_upto_region 8 with (fail)
            refine Ord.walk (AskF g R.length cr j p (.agg #[.int .u64 xk, .int .i64 xd]) (.agg #[.int .u64 yk, .int .i64 yd]) b) (fun _ _ w' => Went wr w') Went
              (by kernel_rfl) (by kernel_rfl) ?fr ?hfr askF_went (fun xs => (Went.refl wr).drew) ?he ?hend
            case hfr =>
              intro xs
              simp only [Ord.fill, Act.put, List.setIfInBounds_toArray, List.set_cons_zero, List.set_cons_succ]
              rfl
            case he =>
              refine Ord.each_cons (fun D xs w2 hD hC hP hR hA K hK => ?_) ?_
              · -- 0
                go_simp
                exact hK _ _ ⟨_, rfl, Went.refl _, hR, rfl⟩
              refine Ord.each_cons (fun D xs w2 hD hC hP hR hA K hK => ?_) ?_
              · -- 1
                go_simp
                exact hK _ _ ⟨_, rfl, Went.refl _, hR, rfl⟩
              refine Ord.each_cons (fun D xs w2 hD hC hP hR hA K hK => ?_) ?_
              · -- 2
                simp only [List.filter_cons, List.filter_nil, Region.binds, if_true, Ord.ahead, AskF, and_true] at hA
                obtain ⟨q0, q1⟩ := hA
                simp only [q0, q1] at hK
                go_simp
                exact hK _ _ ⟨_, rfl, Went.refl _, hR, rfl⟩
              refine Ord.each_cons (fun D xs w2 hD hC hP hR hA K hK => ?_) ?_
              · -- 3
                simp only [List.filter_cons, List.filter_nil, Region.binds, if_true, Ord.ahead, AskF, and_true] at hA
                have q0 := hA
                simp only [q0] at hK
                have c0 := hR.cell HC1.out
                have c1 := hR.cell HC2.out
                go_simp
                exact hK _ _ ⟨_, rfl, Went.refl _, hR, rfl⟩
              refine Ord.each_cons (fun D xs w2 hD hC hP hR hA K hK => ?_) ?_
              · -- 4
                go_simp
                exact hK _ _ ⟨_, rfl, Went.refl _, hR, rfl⟩
              refine Ord.each_cons (fun D xs w2 hD hC hP hR hA K hK => ?_) ?_
              · -- 5
                go_simp
                exact hK _ _ ⟨_, rfl, Went.refl _, hR, rfl⟩
              refine Ord.each_cons (fun D xs w2 hD hC hP hR hA K hK => ?_) ?_
              · -- 6
                simp only [List.filter_cons, List.filter_nil, Region.binds, if_true, Ord.ahead, AskF, and_true] at hA
                obtain ⟨q0, q1⟩ := hA
                simp only [q0, q1] at hK
                go_simp
                exact hK _ _ ⟨_, rfl, Went.refl _, hR, rfl⟩
              refine Ord.each_cons (fun D xs w2 hD hC hP hR hA K hK => ?_) ?_
              · -- 7
                simp only [List.filter_cons, List.filter_nil, Region.binds, if_true, Ord.ahead, AskF, and_true] at hA
                have q0 := hA
                simp only [q0] at hK
                have c0 := hR.cell HC3.out
                have c1 := hR.cell HC4.out
                go_simp
                exact hK _ _ ⟨_, rfl, Went.refl _, hR, rfl⟩
              refine Ord.each_cons (fun D xs w2 hD hC hP hR hA K hK => ?_) ?_
              · -- 8
                simp only [List.filter_cons, List.filter_nil, Region.binds, if_true, Ord.ahead, AskF, and_true] at hA
                obtain ⟨q0, q1⟩ := hA
                simp only [q0, q1] at hK
                go_simp
                refine (HA.out _).mono ?_
                rintro e w' ⟨rfl, hw⟩
                exact hK _ _ ⟨_, rfl, hw, hR.trans hw, rfl⟩
              exact Ord.each_nil
            case hend =>
              intro D xs w2 hR2 hF
              have e8 := (hF 8 (by decide)).2
              simp only [AskF] at e8
              rw [e8]
              have HX2 := Lib.hid (HX.out.trans hR2)
              clear e8 hF hR2 HA HC1 HC2 HC3 HC4
              by_cases hb : Hp.rk (R.getD j default) < Hp.rk (R.getD p default)
              · obtain rfl : b = true := by rw [← HBD.out]; exact decide_eq_true hb
                have HM2 := Lib.hid (show ∀ q, q < j + 1 → Hp.rk (R.getD j default) ≤ Hp.rk (R.getD q default) from fun q hq => by
                  by_cases h : q < j
                  · have := HM.out q h; omega
                  · obtain rfl : q = j := by omega
                    exact Int.le_refl _)
                clear hb
                go_wp2_with fail
                go_roundw
                case rel => exact ⟨j, j + 1, rfl, by go_num, by omega, by omega, by omega, HM2.out, HX2.out⟩
                case measure => simp [intOf]; omega
              · obtain rfl : b = false := by rw [← HBD.out]; exact decide_eq_false hb
                have HM2 := Lib.hid (show ∀ q, q < j + 1 → Hp.rk (R.getD p default) ≤ Hp.rk (R.getD q default) from fun q hq => by
                  by_cases h : q < j
                  · exact HM.out q h
                  · obtain rfl : q = j := by omega
                    omega)
                clear hb
                go_wp2_with fail
                go_roundw
                case rel => exact ⟨p, j + 1, rfl, by go_num, by omega, by omega, by omega, HM2.out, HX2.out⟩
                case measure => simp [intOf]; omega
          · obtain rfl : j = R.length := by omega
            have hown := HH.out.own1.below HX.out.below
            obtain ⟨hc3, hc4⟩ := hown.at p hpj
            obtain ⟨y, hy⟩ : ∃ y, R.getD p default = y := ⟨_, rfl⟩
            rw [hy] at hc3 hc4 HM
            have HY := Lib.hid hy
            have hsum := HH.out.perm.length_eq
            rw [List.length_append] at hsum
            clear hy
            have hal : Below wr.heap.size wr (wr.alloc (.cells #[.int .u64 (y.1.toNat : Int), .int .i64 y.2.toInt] 35)) := (Below.refl _ _).alloc (Nat.le_refl _) _
            have HI2 := Lib.hid (HH.out.later HX.out.below)
            have HI3 := Lib.hid (HI2.out.later hal)
            have HON := Lib.hid (hbts_one wr y)
            clear hown hal
            go_upto_region 10 with (fail)
            go_step
            go_step
            go_step
            go_step
            go_step
            go_step
            go_step
            go_step
            go_step
            go_step
            go_step
            go_step
            go_step
            go_step
            go_step
            go_step
            go_step
            go_step
            go_step
            refine wpList_append_HOwn rfl (.tmp 37) (.tmp 42) rfl w1.heap.size _ O rfl HI3.out.own2 _ [y] rfl HON.out (by simp; omega) HI3.out.size ?_
            intro v5 w5 hown5 hb5 _
            have HR5 := Lib.hid (HI3.out.own1.belowAt hb5 HI3.out.blk)
            have HO5 := Lib.hid hown5
            have HB5 := Lib.hid (HI3.out.below.trans (hb5.mono HI.out.below.size))
            have HS5 := Lib.hid (Nat.le_trans HI3.out.size hb5.size)
            clear hown5 hb5 hc3 hc4
            obtain ⟨m, hm⟩ : ∃ m, R.length = m + 1 := ⟨R.length - 1, by omega⟩
            obtain ⟨hc5, hc6⟩ := HR5.out.at m (by omega)
            have hf1 := HR5.out.free (p * 2)
            obtain ⟨hc7, -⟩ := HR5.out.at p hpj
            obtain ⟨z, hz⟩ : ∃ z, R.getD m default = z := ⟨_, rfl⟩
            rw [hz] at hc5 hc6
            obtain ⟨hc8, hf2⟩ := HR5.out.mid p hpj (.int .u64 (z.1.toNat : Int))
            rw [HY.out] at hc7 hc8
            have HST := Lib.hid (HR5.out.stored p hpj z)
            have HZ := Lib.hid hz
            have hgw := HI3.out.blk g rfl
            have hw1 : IntKind.i64.wrap ((R.length : Int) - 1) = (m : Int) := by rw [IntWalk.i64_in _ (by omega)]; omega
            have hl1 : m < R.length := by omega
            have hcr : R.length ≤ cr := by
              rcases HR5.out.form with ⟨h, _⟩ | ⟨g', c', h, _, _, h2, _⟩
              · simp at h
              · simp only [Value.slice.injEq] at h
                obtain ⟨-, -, rfl⟩ := h
                exact h2
            have hmc : m ≤ cr := by omega
            have HMM := Lib.hid hm
            clear hz hm
            go_wp2_with fail
            obtain ⟨q1, q2, q3⟩ := Hp.choose HH.out.perm HH.out.up HH.out.le p hpj (fun j hj => by rw [HY.out]; exact HM.out j hj)
            have em : R.length - 1 = m := by have := HMM.out; omega
            rw [em, HY.out, HZ.out] at q1 q3
            rw [HY.out] at q2
            obtain ⟨s1, s2⟩ := HST.out
            rw [show R.length = (R.set p z).length by simp] at s1
            have s3 := s1.take m (by simp; omega)
            have hg0 : w.heap.size ≤ g := by
              rcases HR5.out.form with ⟨h, _⟩ | ⟨g', c', h, h2, _⟩
              · simp at h
              · simp only [Value.slice.injEq, Option.some.injEq, Addr.mk.injEq] at h
                obtain ⟨⟨rfl, -⟩, -⟩ := h
                exact h2
            refine ⟨⟨_, O ++ [y], s3, HO5.out.grown s2 ?_, q1, q2, q3, by simp; omega, fun g' hg' => ?_, HB5.out.grown s2 HB5.out.size (fun i hi => by cases hi; exact hg0), Nat.le_trans HS5.out s2.size⟩, by simp [lenV]; omega⟩
            · rcases HO5.out.form with ⟨rfl, _⟩ | ⟨g', c', rfl, h2, _⟩
              · exact .inl rfl
              · right
                intro e
                simp only [Value.ownBlock, Option.some.injEq] at e
                omega
            · simp only [Value.ownBlock, Option.some.injEq] at hg'
              omega
      · have HE := Lib.hid (Hp.chosen_all HH.out.perm HH.out.up HH.out.le HH.out.most (.inr (by omega)))
        have hR' : (0 : Int) < (R.length : Int) := by omega
        go_wp2_with fail
        go_ret
        exact ⟨_, rfl, by rw [← HE.out]; exact HH.out.own2.from HI.out.below.size, HH.out.below⟩
    · obtain rfl : R = [] := List.eq_nil_of_length_eq_zero (by omega)
      have HE := Lib.hid (Hp.chosen_all HH.out.perm HH.out.up HH.out.le HH.out.most (.inl rfl))
      go_wp2_with fail
      go_ret
      exact ⟨_, rfl, by rw [← HE.out]; exact HH.out.own2.from HI.out.below.size, HH.out.below⟩
end Go.Proofs.Ytljichhmfbefaaa
