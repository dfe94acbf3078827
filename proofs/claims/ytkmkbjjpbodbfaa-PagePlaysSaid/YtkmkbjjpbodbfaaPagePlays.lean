/- What the law PagePlays answers, for every device and list of puts. Conditions: the list's cells hold what they tell. -/
import Derived.Test.YtkmkbjjpbodbfaaPageApi
import Derived.Test.YtkmkbjjpbodbfaaPageIn
namespace Go.Proofs.Ytkmkbjjpbodbfaa
open Go.RowKit

section
variable {PD : (Nat → Prop) → World → Nat → Dk.Dev → Prop}

/-- Where a page is written: what the operations left. -/
def WrF (b o B : Nat) (x : PutV) (pv : Value) (base : Int) (k g : Nat) (E : Nat) (i : Nat) (v : Value) (_ : World) : Prop :=
  match i with
  | 0 => v = .pointer (some ⟨B, 0, none⟩)
  | 1 => v = .int .i64 base
  | 2 => v = pv
  | 3 => v = .int .i64 (k : Int)
  | 4 => v = .pointer (some ⟨b, o, none⟩)
  | 5 => v = .pointer (some ⟨b, o, none⟩)
  | 6 => v = .int .i64 x.n
  | 7 => v = .agg #[.int .u64 (x.lsn : Int), .slice (some ⟨g, 0, none⟩) 500 500]
  | _ => v = .int .i64 (E : Int)
/-- What stands at the head of the loop that writes. -/
structure PlR (w W : World) (B s : Nat) (base : Int) (v9 : Value) (d : Dk.Dev) (S P : Nat → Prop) (rows : List Pp) (now : List (Nat × List Nat)) (wr : World) : Prop where
  dev : True
  shown : Pg.Shown s base d now
  row : PRow W.heap.size P wr v9 rows now
  apart : ∀ i, S i → ¬ P i
  low : ∀ i, S i → w.heap.size ≤ i
  plow : ∀ i, P i → w.heap.size ≤ i ∧ i < wr.heap.size
  bel : Below w.heap.size w wr

set_option maxHeartbeats 3200000 in
set_option maxRecDepth 20000 in
theorem pagePlays_any (A : PgDev PD) (s base : Int) (v : Value) (l : List PutV) (w : World) (hs : I64 s) (hb : I64 base) (hL : PutsIn w v l) :
    Calls Try.prog 5 #[.int .i64 s, .int .i64 base, v] w fun e w' => e = .returned (.bool true) ∧ Below w.heap.size w w' := by
  have HA := Lib.hid A
  have HS := Lib.hid hs
  have HBA := Lib.hid hb
  obtain ⟨p, cap, rfl, -, -, hform⟩ := hL.form
  have HF := Lib.hid hform
  clear hform hL hs hb
  by_cases hbad : badNew s s
  · go_enter Try.func5, Try.ntmps5
    go_wp2_with fail
    refine (HA.out.new_bad s s w hbad).mono ?_
    rintro e w1 ⟨rfl, hb1⟩
    have HB1 := Lib.hid hb1
    clear hb1 hbad
    by_cases h60 : 60 < s
    · go_wp2_with fail
      refine (known_any HA.out.plain _).mono ?_
      rintro e w2 ⟨rfl, hb2⟩
      have HB2 := Lib.hid (HB1.out.trans (hb2.mono HB1.out.size))
      clear hb2
      go_wp2_with fail
      go_ret
      exact ⟨rfl, HB2.out⟩
    · go_wp2_with fail
      refine (known_any HA.out.plain _).mono ?_
      rintro e w2 ⟨rfl, hb2⟩
      have HB2 := Lib.hid (HB1.out.trans (hb2.mono HB1.out.size))
      clear hb2
      go_wp2_with fail
      go_ret
      exact ⟨rfl, HB2.out⟩
  · obtain ⟨n, rfl⟩ : ∃ n : Nat, s = (n : Int) := ⟨s.toNat, by unfold badNew at hbad; omega⟩
    have hn1 : 1 ≤ n ∧ n ≤ 65536 := by unfold badNew at hbad; omega
    go_enter Try.func5, Try.ntmps5
    go_wp2_with fail
    refine (HA.out.new_good n n w hn1.1 hn1.2 (Nat.le_refl _)).mono ?_
    rintro e w1 ⟨B, S, rfl, hD, hS, hb1⟩
    have HD := Lib.hid hD
    have HSL := Lib.hid hS
    have HB1 := Lib.hid hb1
    have HN1 := Lib.hid hn1
    clear hD hS hb1 hbad hn1
    by_cases h60 : 60 < (n : Int)
    · go_wp2_with fail
      refine (known_any HA.out.plain _).mono ?_
      rintro e w2 ⟨rfl, hb2⟩
      have HB2 := Lib.hid (HB1.out.trans (hb2.mono HB1.out.size))
      clear hb2
      go_wp2_with fail
      go_ret
      exact ⟨rfl, HB2.out⟩
    · by_cases hl60 : 60 < (l.length : Int)
      · go_wp2_with fail
        refine (known_any HA.out.plain _).mono ?_
        rintro e w2 ⟨rfl, hb2⟩
        have HB2 := Lib.hid (HB1.out.trans (hb2.mono HB1.out.size))
        clear hb2
        go_wp2_with fail
        go_ret
        exact ⟨rfl, HB2.out⟩
      · have H60 := Lib.hid (show n ≤ 60 by omega)
        go_wp2_with fail
        refine (blanks_any 15 (by decide) w1).mono ?_
        rintro e w2 ⟨v9, rows, rfl, hrow, hb2⟩
        have HROW := Lib.hid hrow
        have HB2 := Lib.hid hb2
        clear hrow hb2 h60 hl60
        go_wp2_with fail
        go_loopw [10] (fun i wr => ∃ (k : Nat) (d : Dk.Dev) (S' P : Nat → Prop) (rows : List Pp) (now : List (Nat × List Nat)), k ≤ l.length ∧ i = .int .i64 k ∧ PD S' wr B d ∧ PlR w w1 B n base v9 d S' P rows now wr) (fun i _ => l.length - (intOf i).toNat)
        case atStart =>
          refine ⟨0, _, S, _, rows, _, Nat.zero_le _, rfl, HA.out.below HD.out HB2.out, ⟨trivial, Pg.shown_fresh HN1.out.1 HN1.out.2, HROW.out, ?_, HSL.out, ?_, HB1.out.trans (HB2.out.mono HB1.out.size)⟩⟩
          · intro i hi hp
            have := HA.out.lt HD.out i hi
            omega
          · intro i hp
            have := HB1.out.size
            omega
        case round =>
          obtain ⟨k, d, S', P, rows, now, hk, rfl, hD', hR⟩ := hrel
          have HD' := Lib.hid hD'
          have HR := Lib.hid hR
          clear hD' hR
          by_cases hlt : k < l.length
          · obtain ⟨b, off, rfl, hput⟩ := HF.out (by omega)
            have hx := hput k hlt
            generalize hxx : l.getD k default = x at hx
            have HBW : Hid (b < w.heap.size) := block_lt_of_cell hx.c0
            have HX := Lib.hid (hx.below HR.out.bel HBW.out)
            have HBR : Hid (b < wr.heap.size) := Nat.lt_of_lt_of_le HBW.out HR.out.bel.size
            have HKL : Hid ((0 : Int) ≤ (k : Int) ∧ (k : Int) < (l.length : Int)) := by constructor <;> omega
            clear hx hxx hput
            go_upto_region 8 with (fail)
            refine Ord.walk (MkF b (off + k * 4) x (.slice (some ⟨b, off, none⟩) l.length cap) k) (MkR x wr) (fun _ _ => True)
              (by kernel_rfl) (by kernel_rfl) ?fr8 ?hfr8 (fun _ _ _ _ _ h => h) (fun xs => MkR.first x wr xs) ?he8 ?hend8
            case hfr8 =>
              intro xs
              simp only [Ord.fill, Act.put, List.setIfInBounds_toArray, List.set_cons_zero, List.set_cons_succ]
              rfl
            case he8 =>
              refine Ord.each_cons (fun D xs w2 hD hC hP hR hA K hK => ?_) ?_
              · -- 0
                clear hA
                have hD' : D 0 = false := hD
                go_simp
                exact hK _ _ ⟨_, rfl, trivial, hR.skip _ (by decide), rfl⟩
              refine Ord.each_cons (fun D xs w2 hD hC hP hR hA K hK => ?_) ?_
              · -- 1
                clear hA
                have hD' : D 1 = false := hD
                go_simp
                exact hK _ _ ⟨_, rfl, trivial, hR.skip _ (by decide), rfl⟩
              refine Ord.each_cons (fun D xs w2 hD hC hP hR hA K hK => ?_) ?_
              · -- 2
                have q0 := Ord.ahead_get _ hA 0 (by decide)
                simp only [MkF] at q0
                have q1 := Ord.ahead_get _ hA 1 (by decide)
                simp only [MkF] at q1
                simp only [q0, q1] at hK
                clear hA
                have hD' : D 2 = false := hD
                have hk1 := HKL.out.1
                have hk2 := HKL.out.2
                go_simp
                exact hK _ _ ⟨_, rfl, trivial, hR.skip _ (by decide), rfl⟩
              refine Ord.each_cons (fun D xs w2 hD hC hP hR hA K hK => ?_) ?_
              · -- 3
                have q2 := Ord.ahead_get _ hA 2 (by decide)
                simp only [MkF] at q2
                simp only [q2] at hK
                clear hA
                have hD' : D 3 = false := hD
                go_simp
                exact hK _ _ ⟨_, rfl, trivial, hR.skip _ (by decide), rfl⟩
              refine Ord.each_cons (fun D xs w2 hD hC hP hR hA K hK => ?_) ?_
              · -- 4
                have q3 := Ord.ahead_get _ hA 3 (by decide)
                simp only [MkF] at q3
                simp only [q3] at hK
                clear hA
                have hD' : D 4 = false := hD
                have c0 := hR.bel.cell (p := ⟨b, off + k * 4 + 2, none⟩) HBR.out
                rw [HX.out.c2] at c0
                go_simp
                exact hK _ _ ⟨_, rfl, trivial, hR.skip _ (by decide), rfl⟩
              refine Ord.each_cons (fun D xs w2 hD hC hP hR hA K hK => ?_) ?_
              · -- 5
                clear hA
                have hD' : D 5 = false := hD
                go_simp
                exact hK _ _ ⟨_, rfl, trivial, hR.skip _ (by decide), rfl⟩
              refine Ord.each_cons (fun D xs w2 hD hC hP hR hA K hK => ?_) ?_
              · -- 6
                clear hA
                have hD' : D 6 = false := hD
                go_simp
                exact hK _ _ ⟨_, rfl, trivial, hR.skip _ (by decide), rfl⟩
              refine Ord.each_cons (fun D xs w2 hD hC hP hR hA K hK => ?_) ?_
              · -- 7
                have q5 := Ord.ahead_get _ hA 5 (by decide)
                simp only [MkF] at q5
                have q6 := Ord.ahead_get _ hA 6 (by decide)
                simp only [MkF] at q6
                simp only [q5, q6] at hK
                clear hA
                have hD' : D 7 = false := hD
                have hk1 := HKL.out.1
                have hk2 := HKL.out.2
                go_simp
                exact hK _ _ ⟨_, rfl, trivial, hR.skip _ (by decide), rfl⟩
              refine Ord.each_cons (fun D xs w2 hD hC hP hR hA K hK => ?_) ?_
              · -- 8
                have q7 := Ord.ahead_get _ hA 7 (by decide)
                simp only [MkF] at q7
                simp only [q7] at hK
                clear hA
                have hD' : D 8 = false := hD
                go_simp
                exact hK _ _ ⟨_, rfl, trivial, hR.skip _ (by decide), rfl⟩
              refine Ord.each_cons (fun D xs w2 hD hC hP hR hA K hK => ?_) ?_
              · -- 9
                have q8 := Ord.ahead_get _ hA 8 (by decide)
                simp only [MkF] at q8
                simp only [q8] at hK
                clear hA
                have hD' : D 9 = false := hD
                have c0 := hR.bel.cell (p := ⟨b, off + k * 4 + 1, none⟩) HBR.out
                rw [HX.out.c1] at c0
                go_simp
                exact hK _ _ ⟨_, rfl, trivial, hR.skip _ (by decide), rfl⟩
              refine Ord.each_cons (fun D xs w2 hD hC hP hR hA K hK => ?_) ?_
              · -- 10
                have q9 := Ord.ahead_get _ hA 9 (by decide)
                simp only [MkF] at q9
                simp only [q9] at hK
                clear hA
                have hD' : D 10 = false := hD
                have h11 : D 11 = false := by
                  cases h : D 11
                  · rfl
                  · have := Ord.closed_at hC 11 10 (by kernel_rfl) h
                    rw [hD'] at this; cases this
                have h13 : D 13 = false := by
                  cases h : D 13
                  · rfl
                  · have := Ord.closed_at hC 13 10 (by kernel_rfl) h
                    rw [hD'] at this; cases this
                go_simp
                refine (body_any x.fill w2).mono ?_
                rintro e w' ⟨g5, rfl, -, hO5, hb5⟩
                exact hK _ _ ⟨_, rfl, trivial, hR.op10 h11 h13 hb5 rfl hO5, trivial⟩
              refine Ord.each_cons (fun D xs w2 hD hC hP hR hA K hK => ?_) ?_
              · -- 11
                have q4 := Ord.ahead_get _ hA 4 (by decide)
                simp only [MkF] at q4
                simp only [q4] at hK
                clear hA
                have hD' : D 11 = false := hD
                have h10 : D 10 = true := hP { on := 10, ground := .data } (by simp) rfl
                obtain ⟨g, e10, -⟩ := hR.a10 h10
                have he := e10
                simp only [e10] at hK
                go_simp
                exact hK _ _ ⟨_, rfl, trivial, hR.op11 (by rw [he]), trivial⟩
              refine Ord.each_cons (fun D xs w2 hD hC hP hR hA K hK => ?_) ?_
              · -- 12
                clear hA
                have hD' : D 12 = false := hD
                have h13 : D 13 = false := by
                  cases h : D 13
                  · rfl
                  · have := Ord.closed_at hC 13 12 (by kernel_rfl) h
                    rw [hD'] at this; cases this
                go_simp
                exact hK _ _ ⟨_, rfl, trivial, hR.op12 h13 rfl, trivial⟩
              refine Ord.each_cons (fun D xs w2 hD hC hP hR hA K hK => ?_) ?_
              · -- 13
                clear hA
                have hD' : D 13 = false := hD
                have h12 : D 12 = true := hP { on := 12, ground := .data } (by simp) rfl
                have h11 : D 11 = true := hP { on := 11, ground := .data } (by simp) rfl
                have h10 : D 10 = true := hP { on := 10, ground := .chain } (by simp) rfl
                obtain ⟨g, e10, -⟩ := hR.a10 h10
                have e11 := hR.a11 h11
                obtain ⟨X, e12, -, hz, -⟩ := hR.a12 h12
                have hzz := hz hD'
                have c0 := cell2_0 hzz
                have c1 := cell2_1 hzz
                have f0 := free2 hzz 0
                have f1 := free2 hzz 1
                have hst := hR.op13 (u := undef) e12 h12 hD'
                rw [e10] at e11
                rw [e10] at hst
                simp only [e10, e11, e12] at hK
                go_simp
                exact hK _ _ ⟨_, rfl, trivial, hst, trivial⟩
              exact Ord.each_nil
            case hend8 =>
              intro D xs w3 hM hF
              obtain ⟨g, e10, hO⟩ := hM.a10 (hF 10 (by decide)).1
              obtain ⟨X, e12, hX1, -, hX2⟩ := hM.a12 (hF 12 (by decide)).1
              have hX := hX2 (hF 13 (by decide)).1
              rw [e10] at hX hO
              rw [e10, e12]
              generalize xs 0 = x0
              generalize xs 1 = x1
              generalize xs 2 = x2
              generalize xs 3 = x3
              generalize xs 4 = x4
              generalize xs 5 = x5
              generalize xs 6 = x6
              generalize xs 7 = x7
              generalize xs 8 = x8
              generalize xs 9 = x9
              generalize xs 11 = x11
              have HO := Lib.hid hO
              have HXX := Lib.hid hX
              have HX1 := Lib.hid hX1
              have HB3 := Lib.hid hM.bel
              clear hF hM e10 e12 hX hO hX1 hX2
              have d0 := (HB3.out.cell (p := ⟨b, off + k * 4, none⟩) HBR.out).trans HX.out.c0
              have q0 := cell2_0 HXX.out
              have q1 := cell2_1 HXX.out
              have hk1 := HKL.out.1
              have hk2 := HKL.out.2
              go_upto_region 9 with (fail)
              go_still_tail 8, (by kernel_rfl)
              go_wp2_with fail
              have hb3 := HB3.out.go1
              have hsz3 : w3.drew.heap.size = w3.heap.size := rfl
              refine (HA.out.write base x.n x.lsn _ (Pg.bodyL x.fill) (HA.out.below HD'.out hb3) HBA.out (i64_of_okk HX.out.k0) HX.out.k2 (HO.out.bts.below (Below.refl _ w3).go1) (fun _ g' hg' hs' => ?_)).mono ?_
              · have h1 := (HO.out.own.lt g' hg').1
                have h2 := HA.out.lt HD'.out g' hs'
                omega
              rintro e w4 ⟨rfl, S4, hD4, hT4, hS4⟩
              have HT4 : Hid (Touch S' wr w4) := (Touch.of_new hb3).trans hT4
              have HT34 : Hid (Touch S' w3 w4) := ((Touch.refl S' w3).drew).trans hT4
              have HS4 : Hid (∀ i, S4 i → S' i ∨ w3.heap.size ≤ i) := hS4
              have HD4 := Lib.hid hD4
              have HNB : Hid (¬ S' b) := fun hb => by have := HR.out.low b hb; have := HBW.out; omega
              have d4 := HT4.out.cell HX.out.c0 HNB.out
              have HP4 := Lib.hid (HR.out.row.touch HT4.out (fun g hp hs' => HR.out.apart g hs' hp))
              have HSZ4 : Hid (w3.heap.size ≤ w4.heap.size) := HT34.out.size
              have HB4 : Hid (Below w.heap.size w w4) := HR.out.bel.trans (HT4.out.below HR.out.low HR.out.bel.size)
              have HLO : Hid (∀ i, S4 i → w.heap.size ≤ i) := fun i hi => by
                rcases hS4 i hi with h | h
                · exact HR.out.low i h
                · have := HR.out.bel.size; have := HB3.out.size; omega
              have HPL : Hid (∀ i, P i → w.heap.size ≤ i ∧ i < wr.heap.size) := HR.out.plow
              have HAP : Hid (∀ i, S4 i → ¬ P i) := fun i hi hp => by
                rcases hS4 i hi with h | h
                · exact HR.out.apart i h hp
                · have := (HR.out.plow i hp).2; have := HB3.out.size; omega
              have HW3 : Hid (wr.heap.size ≤ w3.heap.size) := HB3.out.size
              clear hD4 hT4 hS4 hb3 hsz3 d0 q0 q1
              by_cases hlie : Pg.lies (n : Int) base x.n = true
              · obtain ⟨hx0, hx15⟩ := Pg.lies_small H60.out hlie
                obtain ⟨m, hm⟩ : ∃ m : Nat, x.n = (m : Int) := ⟨x.n.toNat, by omega⟩
                rw [hm] at hlie hx15
                have hw := HR.out.shown.write (m := m) (by omega) hlie HX.out.k2 (Pg.bodyL_length x.fill) (Pg.bodyL_small x.fill)
                rw [hm] at HD4 ⊢
                rw [hw.1]
                have HW := Lib.hid hw.2
                have HM15 : Hid (m < 15) := by show m < 15; omega
                have hm0 : (0 : Int) ≤ (m : Int) := by omega
                have hm15 : (m : Int) < 15 := hx15
                rw [hm] at d4
                clear hw hx15 hx0 hm
                go_wp2_with fail
                refine (lies_any (n : Int) base (m : Int) w4 ⟨by omega, by have := HN1.out.2; omega⟩).mono ?_
                rintro e w' ⟨rfl, rfl⟩
                rw [hlie]
                obtain ⟨g9, c9, rfl, g9ge, g9lt, c91, c92⟩ : ∃ g c, v9 = .slice (some ⟨g, 0, none⟩) 15 c ∧ w1.heap.size ≤ g ∧ g < w4.heap.size ∧ 15 ≤ c ∧ c ≤ 9223372036854775807 := by
                  have h15 := HR.out.shown.len
                  have hl15 := HP4.out.len
                  rcases HP4.out.own.form with ⟨_, h0⟩ | ⟨g, c, h1, h2, h3, h4, h5⟩
                  · rw [h0, h15] at hl15; cases hl15
                  · rw [hl15, h15] at h1 h4; exact ⟨g, c, h1, h2, h3, h4, h5⟩
                have hx4 := HT34.out.row HXX.out (fun hs' => by have := HA.out.lt HD'.out X hs'; have := HX1.out; omega)
                have q0 := cell2_0 hx4
                have q1 := cell2_1 hx4
                have HX4 := Lib.hid hx4
                clear hx4
                go_upto_region 15 with (fail)
                go_still_tail 8, (by kernel_rfl)
                obtain ⟨w5, hw5⟩ : ∃ w5, w5 = w4.drew := ⟨_, rfl⟩
                have hw5' : ({ heap := w4.heap, tape := w4.tape, drawn := w4.drawn + 1, os := w4.os, output := w4.output } : World) = w5 := hw5.symm
                rw [hw5']
                have hb5 : Below w4.heap.size w4 w5 := by rw [hw5]; exact (Below.refl _ _).go1
                have hz5 : w5.heap.size = w4.heap.size := by rw [hw5]; rfl
                have hp5 := HP4.out.below hb5
                have hd5 := HA.out.below HD4.out hb5
                have hl15 : rows.length = 15 := by rw [hp5.len]; exact HR.out.shown.len
                have hn15 : now.length = 15 := HR.out.shown.len
                have hown := hp5.own
                rw [← hl15] at hown
                obtain ⟨c0, c1⟩ := hown.at m (by rw [hl15]; exact HM15.out)
                have f0 := hown.free (m * 2)
                obtain ⟨m0, m1⟩ := hown.mid m (by rw [hl15]; exact HM15.out) (.int .u64 (x.lsn : Int))
                have hbd : Own w1.heap.size w5 (.slice (some ⟨g, 0, none⟩) 500 500) (Pg.bodyL x.fill) := by
                  refine (((HO.out.touch HT34.out (fun g' hg' hs' => ?_)).below hb5).from (by have := (HPL.out g9 (HP4.out.row g9 rfl)).2; omega))
                  have h1 := (HO.out.own.lt g' hg').1
                  have h2 := HA.out.lt HD'.out g' hs'
                  omega
                have hp5' : PRow w1.heap.size P w5 (.slice (some ⟨g9, 0, none⟩) now.length c9) rows now := by rw [hn15]; exact hp5
                obtain ⟨Q, hq1, hq2, hq3⟩ := hp5'.stored (i := m) (k := x.lsn) (by rw [hn15]; exact HM15.out) hbd
                rw [hn15] at hq1
                have HQ1 := Lib.hid hq1
                have HQ2 := Lib.hid hq2
                have HQ3 := Lib.hid hq3
                have HD5 := Lib.hid hd5
                have HG9 : Hid (P g9) := HP4.out.row g9 rfl
                have HB5 : Hid (Below w.heap.size w w5) := HB4.out.trans (hb5.mono HB4.out.size)
                have HZ5 := Lib.hid hz5
                clear hw5 hw5' hb5 hp5 hd5 hl15 hown hbd hp5' hq1 hq2 hq3 d4 q0 q1 hz5
                go_wp2_with fail
                go_roundw
                case rel =>
                  refine ⟨k + 1, _, S4, Q, _, _, by omega, by go_num, HA.out.keep HD5.out (Touch.of_grown (S := fun i => i = g9) HQ3.out rfl) (fun i hi e => HAP.out i hi (by rw [e]; exact HG9.out)), ⟨trivial, HW.out, HQ1.out, ?_, HLO.out, ?_, below_grown HB5.out HQ3.out HB5.out.size (HPL.out g9 HG9.out).1⟩⟩
                  · intro i hi hq
                    rcases HQ2.out i hq with h | h
                    · exact HAP.out i hi h
                    · simp only [Value.ownBlock, Option.some.injEq] at h
                      subst h
                      have h1 := HO.out.own.lt g rfl
                      rcases HS4.out g hi with h2 | h2
                      · have := HA.out.lt HD'.out g h2; omega
                      · omega
                  · intro i hq
                    have h3 : w5.heap.size ≤ _ := HQ3.out.size
                    have h4 := HSZ4.out
                    have h5 := HZ5.out
                    rcases HQ2.out i hq with h | h
                    · obtain ⟨h1, h2⟩ := HPL.out i h
                      have := HW3.out
                      exact ⟨h1, by omega⟩
                    · simp only [Value.ownBlock, Option.some.injEq] at h
                      subst h
                      have h1 := HO.out.own.lt g rfl
                      have := HR.out.bel.size
                      exact ⟨by omega, by omega⟩
                case measure => simp [intOf]; omega
              · have hlf : Pg.lies (n : Int) base x.n = false := by cases h : Pg.lies (n : Int) base x.n <;> simp_all
                have hw := Pg.write_not (d := d) (k := x.lsn) (l := Pg.bodyL x.fill) (base := base) (m := x.n) (Or.inr (by rw [HR.out.shown.calm.sz]; exact hlf))
                rw [hw] at HD4 ⊢
                clear hw hlie
                go_wp2_with fail
                refine (lies_any (n : Int) base x.n w4 ⟨by omega, by have := HN1.out.2; omega⟩).mono ?_
                rintro e w' ⟨rfl, rfl⟩
                rw [hlf]
                clear d4
                go_wp2_with fail
                go_roundw
                case rel =>
                  exact ⟨k + 1, _, S4, P, _, _, by omega, by go_num, HD4.out, ⟨trivial, HR.out.shown, HP4.out, HAP.out, HLO.out, fun i hi => ⟨(HPL.out i hi).1, by have := (HPL.out i hi).2; have := HW3.out; have := HSZ4.out; omega⟩, HB4.out⟩⟩
                case measure => simp [intOf]; omega
          · obtain rfl : k = l.length := by omega
            obtain ⟨g9, c9, rfl, -, g9lt, c91, c92⟩ : ∃ g c, v9 = .slice (some ⟨g, 0, none⟩) 15 c ∧ w1.heap.size ≤ g ∧ g < wr.heap.size ∧ 15 ≤ c ∧ c ≤ 9223372036854775807 := by
              have h15 := HR.out.shown.len
              have hl15 := HR.out.row.len
              rcases HR.out.row.own.form with ⟨_, h0⟩ | ⟨g, c, h1, h2, h3, h4, h5⟩
              · rw [h0, h15] at hl15; cases hl15
              · rw [hl15, h15] at h1 h4; exact ⟨g, c, h1, h2, h3, h4, h5⟩
            go_wp2_with fail
            go_loopw [13] (fun i wq => ∃ j : Nat, j ≤ 18 ∧ i = .int .i64 ((j : Int) - 1) ∧ Below wr.heap.size wr wq) (fun i _ => (17 - intOf i).toNat)
            case atStart => exact ⟨0, by omega, rfl, Below.refl _ _⟩
            case round =>
              obtain ⟨j, hj, rfl, hq⟩ := hrel
              have HQ := Lib.hid hq
              clear hq
              by_cases hj17 : (j : Int) - 1 < 17
              · have hJ : I64 ((j : Int) - 1) := by unfold I64; omega
                go_wp2_with fail
                refine (HA.out.read base ((j : Int) - 1) (HA.out.below HD'.out HQ.out) HBA.out hJ).mono ?_
                rintro e w4 ⟨u, rfl, hO, hb4⟩
                obtain ⟨p4, c4, rfl⟩ := own_slv hO
                have HO := Lib.hid hO
                have HQ4 := Lib.hid (HQ.out.trans (hb4.mono HQ.out.size))
                clear hO hb4
                by_cases hlie : Pg.lies (n : Int) base ((j : Int) - 1) = true
                · obtain ⟨hx0, hx15⟩ := Pg.lies_small H60.out hlie
                  obtain ⟨m, hm⟩ : ∃ m : Nat, (j : Int) - 1 = (m : Int) := ⟨((j : Int) - 1).toNat, by omega⟩
                  rw [hm] at hlie hx15 HO ⊢
                  have hr := Pg.read_calm HR.out.shown.calm hlie
                  obtain ⟨hs1, hs2⟩ := HR.out.shown.shown m (by omega) hlie
                  have hr1 : (Pg.read d base (m : Int)).1 = now.getD m (0, []) := by rw [hr, hs2]
                  have hr2 : (Pg.read d base (m : Int)).2 = 0 := by rw [hr]; exact hs1
                  rw [hr1] at HO ⊢
                  rw [hr2]
                  have HM15 : Hid (m < 15) := by show m < 15; omega
                  have hm0 : (0 : Int) ≤ (m : Int) := by omega
                  have hm15 : (m : Int) < 15 := hx15
                  have hm17 : (m : Int) < 17 := by omega
                  have hmj := Lib.hid hm
                  have hrow := HR.out.row
                  have hlr : rows.length = 15 := by rw [hrow.len]; exact HR.out.shown.len
                  have hkey := hrow.key m (by rw [HR.out.shown.len]; exact HM15.out)
                  have hbody := hrow.body m (by rw [HR.out.shown.len]; exact HM15.out)
                  have hown := hrow.own
                  rw [← hlr] at hown
                  obtain ⟨c0, c1⟩ := hown.at m (by rw [hlr]; exact HM15.out)
                  rw [hkey] at c0
                  obtain ⟨p9, d9, hsl⟩ := own_slv hbody
                  rw [hsl] at c1 hbody
                  generalize now.getD m (0, []) = kl at *
                  obtain ⟨kk, ll⟩ := kl
                  dsimp only at HO c0 c1 hbody ⊢
                  have hal : Below w4.heap.size w4 (w4.alloc (.cells #[.int .u64 (kk : Int), .slice p4 ll.length c4] 25)) := (Below.refl _ _).alloc (Nat.le_refl _) _
                  obtain ⟨wB, hwB⟩ : ∃ wB, wB = w4.alloc (.cells #[.int .u64 (kk : Int), .slice p4 ll.length c4] 25) := ⟨_, rfl⟩
                  have hz : wB.heap[w4.heap.size]? = some (.cells #[.int .u64 (kk : Int), .slice p4 ll.length c4] 25 (0, 0)) := by rw [hwB]; exact heap_alloc_last _ _
                  rw [← hwB] at hal
                  have HQB := Lib.hid (HQ4.out.trans (hal.mono HQ4.out.size))
                  have C0 := Lib.hid ((HQB.out.cell (p := ⟨g9, m * 2, none⟩) (block_lt_of_cell c0)).trans c0)
                  have C1 := Lib.hid ((HQB.out.cell (p := ⟨g9, m * 2 + 1, none⟩) (block_lt_of_cell c1)).trans c1)
                  have HBO := Lib.hid (hbody.below HQB.out)
                  have HOB := Lib.hid (HO.out.below hal)
                  have HZ := Lib.hid hz
                  clear hr hs1 hs2 hr1 hr2 hx15 hx0 hm hJ hj17 hrow hlr hkey hbody hown c0 c1 hsl hal hz
                  go_upto_region 20 with (fail)
                  rw [← hwB]
                  obtain ⟨Z, hZ⟩ : ∃ Z, Z = w4.heap.size := ⟨_, rfl⟩
                  rw [← hZ] at HZ ⊢
                  clear hwB hZ
                  go_wp2_with fail
                  refine (lies_any (n : Int) base (m : Int) wB ⟨by omega, by have := HN1.out.2; omega⟩).mono ?_
                  rintro e w' ⟨rfl, rfl⟩
                  rw [hlie]
                  have c0 := C0.out
                  have c1 := C1.out
                  have z0 := cell2_0 HZ.out
                  have z1 := cell2_1 HZ.out
                  go_upto_region 23 with (fail)
                  go_still_tail 8, (by kernel_rfl)
                  go_wp2_with fail
                  refine (refSame_any kk kk _ _ ll ll _ (HOB.out.bts.below (Below.refl _ wB).go1) (HBO.out.bts.below (Below.refl _ wB).go1)).mono ?_
                  rintro e w6 ⟨rfl, hb6⟩
                  rw [Pg.same_self]
                  have HQ6 := Lib.hid (HQB.out.trans ((((Below.refl _ wB).go1).trans hb6).mono HQB.out.size))
                  clear hb6 c0 c1 z0 z1
                  go_wp2_with fail
                  go_roundw
                  case rel => exact ⟨j + 1, by have := hmj.out; omega, by show Value.int _ _ = _; congr 1; have := hmj.out; omega, HQ6.out⟩
                  case measure => have := hmj.out; simp [intOf]; omega
                · have hlf : Pg.lies (n : Int) base ((j : Int) - 1) = false := by cases h : Pg.lies (n : Int) base ((j : Int) - 1) <;> simp_all
                  have hr := Pg.read_not (d := d) (base := base) (m := (j : Int) - 1) (by rw [HR.out.shown.calm.sz]; exact hlf)
                  rw [hr] at HO ⊢
                  clear hr hlie
                  obtain ⟨wB, hwB⟩ : ∃ wB, wB = w4.alloc (.cells #[.int .u64 0, .slice p4 0 c4] 25) := ⟨_, rfl⟩
                  have hal : Below w4.heap.size w4 wB := by rw [hwB]; exact (Below.refl _ _).alloc (Nat.le_refl _) _
                  have hz : wB.heap[w4.heap.size]? = some (.cells #[.int .u64 0, .slice p4 0 c4] 25 (0, 0)) := by rw [hwB]; exact heap_alloc_last _ _
                  have HQB := Lib.hid (HQ4.out.trans (hal.mono HQ4.out.size))
                  have HZ := Lib.hid hz
                  clear hal hz
                  go_upto_region 20 with (fail)
                  rw [← hwB]
                  obtain ⟨Z, hZ⟩ : ∃ Z, Z = w4.heap.size := ⟨_, rfl⟩
                  rw [← hZ] at HZ ⊢
                  clear hwB hZ
                  go_wp2_with fail
                  refine (lies_any (n : Int) base ((j : Int) - 1) wB ⟨by omega, by have := HN1.out.2; omega⟩).mono ?_
                  rintro e w' ⟨rfl, rfl⟩
                  rw [hlf]
                  have z1 := cell2_1 HZ.out
                  go_wp2_with fail
                  go_roundw
                  case rel => exact ⟨j + 1, by omega, by show Value.int _ _ = _; congr 1; omega, HQB.out⟩
                  case measure => simp [intOf]; omega
              · obtain rfl : j = 18 := by omega
                have HW0 := Lib.hid (HR.out.bel.trans (HQ.out.mono HR.out.bel.size))
                have HDQ := Lib.hid (HA.out.below HD'.out HQ.out)
                go_wp2_with fail
                refine (body_any 1 _).mono ?_
                rintro e w5 ⟨g5, rfl, -, hO5, hb5⟩
                have HO5 := Lib.hid hO5
                have HB5 := Lib.hid hb5
                clear hO5 hb5
                go_wp2_with fail
                refine (HA.out.write_nil base 0 0 _ (Pg.bodyL 1) w5 HBA.out (by unfold I64; omega) (by decide) HO5.out.bts).mono ?_
                rintro e w6 ⟨rfl, hb6⟩
                rw [if_pos (Pg.bodyL_length 1)]
                have HB6 := Lib.hid (HB5.out.trans (hb6.mono HB5.out.size))
                have HD6 := Lib.hid (HA.out.below HDQ.out HB6.out)
                clear hb6
                go_wp2_with fail
                refine (HA.out.write 0 0 0 (.slice none 0 0) [] HD6.out (by unfold I64; omega) (by unfold I64; omega) (by decide) (bts_none _) (fun h => absurd h (by decide))).mono ?_
                rintro e w7 ⟨rfl, hD7⟩
                rw [Pg.write_not (Or.inl (by decide))]
                have HB7 : Hid (Below w.heap.size w w7) := by
                  obtain ⟨S7, -, hT7, -⟩ := hD7
                  have h6 := HW0.out.trans (HB6.out.mono HW0.out.size)
                  exact h6.trans (hT7.below HR.out.low h6.size)
                clear hD7
                go_wp2_with fail
                refine (known_any HA.out.plain w7).mono ?_
                rintro e w8 ⟨rfl, hb8⟩
                have HB8 := Lib.hid (HB7.out.trans (hb8.mono HB7.out.size))
                clear hb8
                go_wp2_with fail
                go_ret
                exact ⟨rfl, HB8.out⟩
end
end Go.Proofs.Ytkmkbjjpbodbfaa
